/- label.Text. -/
import Derived.Test.YtpfjmomdnegcpaaLabCanon
import Derived.Test.YtpfjmomdnegcpaaLabEsc
namespace Go.Proofs.Ytpfjmomdnegcpaa.kit
open Go.RowKit Go.ChangeShapes
/-- append of m elements (their cells in a new block) behind a slice of the call's own -/
theorem appA {P : Program} {w : World} {ops : Array Oper} {rest : List Oper} {o : Oper} {a : Act} {Q : Exit → Act → World → Prop} {cs : Array Value} {e' : TypeId}
    (s x : Operand) (t : TypeId) (hgd : o.guard = none)
    (ho : o.op = .call { callee := .builtin .append, args := #[s, x], argTypes := #[t, t] })
    (base : Nat) {e : TypeId} {z : Value} {size bytes : Nat} (ht : P.underlying t = some (.slice e)) (hi : (P.info? e).map (fun i => (i.zero, i.size, i.bytes)) = some (some z, size, bytes))
    (hzs : z.cells.size = size) (hsz : 0 < size) (hb1 : 0 < bytes) (m : Nat)
    {v : Value} {n : Nat} {xs : List Value} {c : Nat} (hown : w.ownsRow base e size v n xs) (hs : a.eval s = v) (hx : a.eval x = .slice (some ⟨w.heap.size, 0, none⟩) m c)
    (hcs : cs.size = m * size) (h1 : ∀ u ∈ cs.toList, u.oneCell' = true) (hbytes : (n + m) * bytes ≤ 140737488355328) (hbase : base ≤ w.heap.size)
    (h : ∀ v' w', w'.ownsRow base e size v' (n + m) (xs ++ cs.toList) → (w.alloc (.cells cs e')).grownBy w' v.ownBlock → wpList P ops Q rest (a.put o.dst v') w') :
    wpList P ops Q (o :: rest) a (w.alloc (.cells cs e')) := by
  obtain ⟨i, hi, hz, hsize, hby⟩ := info_parts hi
  have hle : n + m ≤ (n + m) * bytes := Nat.le_mul_of_pos_right _ hb1
  refine wpList_append_own _ hgd s x t ho base e i z size bytes ht hi hz hsize hby hzs hsz v n xs hs (hown.alloc _) ⟨w.heap.size, 0, none⟩ m c cs.toList hx (by simp [hcs]) ?_ h1
    (by unfold maxLen; omega) hbytes (by simp; omega) fun v' w' r1 r2 _ => h v' w' r1 r2
  intro j u hj
  rw [Array.getElem?_toList] at hj
  rw [Addr.add_lit, Nat.zero_add, World.cell?_alloc_at _ _ _ _ rfl]
  exact hj
/-- .. where the new block's number is spelled otherwise -/
theorem appB {P : Program} {w : World} {ops : Array Oper} {rest : List Oper} {o : Oper} {a : Act} {Q : Exit → Act → World → Prop} {cs : Array Value} {e' : TypeId}
    (s x : Operand) (t : TypeId) (hgd : o.guard = none)
    (ho : o.op = .call { callee := .builtin .append, args := #[s, x], argTypes := #[t, t] })
    (base : Nat) {e : TypeId} {z : Value} {size bytes : Nat} (ht : P.underlying t = some (.slice e)) (hi : (P.info? e).map (fun i => (i.zero, i.size, i.bytes)) = some (some z, size, bytes))
    (hzs : z.cells.size = size) (hsz : 0 < size) (hb1 : 0 < bytes) (m : Nat) {N : Nat} (hN : w.heap.size = N)
    {v : Value} {n : Nat} {xs : List Value} {c : Nat} (hown : w.ownsRow base e size v n xs) (hs : a.eval s = v) (hx : a.eval x = .slice (some ⟨N, 0, none⟩) m c)
    (hcs : cs.size = m * size) (h1 : ∀ u ∈ cs.toList, u.oneCell' = true) (hbytes : (n + m) * bytes ≤ 140737488355328) (hbase : base ≤ w.heap.size)
    (h : ∀ v' w', w'.ownsRow base e size v' (n + m) (xs ++ cs.toList) → (w.alloc (.cells cs e')).grownBy w' v.ownBlock → wpList P ops Q rest (a.put o.dst v') w') :
    wpList P ops Q (o :: rest) a (w.alloc (.cells cs e')) := by
  subst hN
  exact appA s x t hgd ho base ht hi hzs hsz hb1 m hown hs hx hcs h1 hbytes hbase h
/-- a box of another type stays where a row grows -/
theorem box_keep {w w' : World} {B k n g0 : Nat} {e t : TypeId} {v : Value} {xs : List Value} {cs : Array Value} {fr : Nat × Nat} (hb : w.heap[g0]? = some (.cells cs t fr)) (hown : w.ownsRow B e k v n xs) (hne : t ≠ e) (hg : w.grownBy w' v.ownBlock) : w'.heap[g0]? = some (.cells cs t fr) := by
  have hlt : g0 < w.heap.size := (Array.getElem?_eq_some_iff.1 hb).1
  rw [hg.block g0 hlt (fun e1 => ?_)]
  · exact hb
  · rcases hown.2 with ⟨rfl, _⟩ | ⟨g, cap, cur, rfl, _, hg', _⟩
    · cases e1
    · obtain rfl : g0 = g := Option.some.inj e1
      rw [hb] at hg'
      cases hg'
      exact hne rfl
theorem box_alloc {w : World} {g0 : Nat} {o o' : Obj} (hb : w.heap[g0]? = some o) : (w.alloc o').heap[g0]? = some o := by
  rw [Below.heap_alloc w o' g0 (Array.getElem?_eq_some_iff.1 hb).1]; exact hb
theorem box_new (w : World) (o : Obj) : (w.alloc o).heap[w.heap.size]? = some o := by
  show (w.heap.push o)[w.heap.size]? = _
  simp
theorem box_cell {w : World} {g0 k : Nat} {cs : Array Value} {t : TypeId} {fr : Nat × Nat} {u : Value} (hb : w.heap[g0]? = some (.cells cs t fr)) (hk : cs[k]? = some u) : w.cell? ⟨g0, k, none⟩ = some u := by
  simp [World.cell?, hb, hk]
end Go.Proofs.Ytpfjmomdnegcpaa.kit
namespace Go.Proofs.Ytpfjmomdnegcpaa
open Go.RowKit Go.ChangeShapes cl
/-- a text, and an error's number -/
def TextP (r : Int × ByteArray) (w : World) (e : Ending) (w' : World) : Prop := e = .returned (.tuple #[.string r.2, .int .i64 r.1]) ∧ Below w.heap.size w w'
theorem textP_bad {r : Int × ByteArray} {f : Int} {w W : World} (h : r = (f, .empty)) (hb : Below w.heap.size w W) : TextP r w (.returned (.tuple #[.string ⟨#[]⟩, .int .i64 f])) W := by
  rw [h]; exact ⟨rfl, hb⟩
namespace lm
theorem text_step {l : List Lab} {k : Nat} {x : Lab} (hk : k < l.length) (hx : x = l.getD k (.empty, .empty)) : (behind (l.take (k + 1))).drop 1 = (if 0 < k then (behind (l.take k)).drop 1 ++ [44] else []) ++ oneT x := by
  rw [take_snoc hk hx, behind_app, behind_one]
  cases k with
  | zero => simp [behind]
  | succ k =>
    rw [if_pos (Nat.succ_pos _), List.drop_append_of_le_length]
    · simp
    · cases l with
      | nil => simp at hk
      | cons y r => simp [behind]
end lm

set_option maxHeartbeats 3200000 in
set_option maxRecDepth 100000 in
theorem text_any (l : List Lab) (v : Value) (w : World) (h : Labs w w.heap.size v l) (hs : ∀ x ∈ l, x.1.size ≤ maxLen ∧ x.2.size ≤ maxLen) (hl6 : l.length ≤ 100000) :
    Calls Try.prog 17 #[v] w (TextP (lm.textF l) w) := by
  have HCA := Lib.hid (canon_any l v w h hs hl6)
  obtain ⟨R, hR⟩ : ∃ R, R = lm.textF l := ⟨_, rfl⟩
  have HR := Lib.hid hR
  obtain ⟨⟨f, c⟩, hfc⟩ : ∃ r, r = lm.canonF l := ⟨_, rfl⟩
  have HFC := Lib.hid hfc
  rw [← hR]
  rw [← hfc] at HCA
  have HC := Lib.hid h
  clear hR h hs hl6
  by_cases hf : f = 0
  rotate_left
  · have HRB : Hid (R = (f, .empty)) := by
      show _ = _
      rw [HR.out, lm.textF, ← HFC.out, if_neg hf]
    have hfb : (f != 0) = true := by simpa using hf
    have hfc2 : (f == 0) = false := by simpa using hf
    clear hfc
    go_enter Try.func17, Try.ntmps17
    go_wp2_with fail
    (with_reducible refine HCA.out.mono ?_)
    rintro e w1 ⟨vc, rfl, _, hb1⟩
    have HRET := Lib.hid (textP_bad HRB.out hb1)
    go_wp2
    exact bodyPost_ret (v := .tuple #[.string ⟨#[]⟩, .int .i64 f]) (by simp [results, Try.results17, go_sem]) rfl HRET.out
  subst hf
  by_cases hcl : c = l
  rotate_left
  · have HRB : Hid (R = (3, .empty)) := by
      show _ = _
      rw [HR.out, lm.textF, ← HFC.out, if_pos rfl, if_neg hcl]
    have HD : Hid (decide (c = l) = false) := decide_eq_false hcl
    clear hfc hcl
    go_enter Try.func17, Try.ntmps17
    go_wp2_with fail
    (with_reducible refine HCA.out.mono ?_)
    rintro e w1 ⟨vc, rfl, hlc, hb1⟩
    have HEQ := Lib.hid (equal_any c l vc v w1 hlc (Cells.next HC.out hb1))
    rw [HD.out] at HEQ
    have HB1 := Lib.hid hb1
    clear hlc hb1
    go_wp2_with fail
    (with_reducible refine HEQ.out.mono ?_)
    rintro e w2 ⟨rfl, hb2⟩
    have HRET := Lib.hid (textP_bad HRB.out (HB1.out.trans (hb2.mono HB1.out.size)))
    go_wp2
    exact bodyPost_ret (v := .tuple #[.string ⟨#[]⟩, .int .i64 3]) (by simp [results, Try.results17, go_sem]) rfl HRET.out
  have HGO : Hid (lm.Good l ∧ l.length ≤ 6) := by
    have h1 := lm.canon_form (l := l) (c := c) HFC.out.symm
    rw [hcl] at h1
    exact ⟨h1.2.2.2.1, by have := h1.2.2.2.1.2.2; rw [h1.2.2.1] at this; exact this⟩
  have HRT : Hid (R = (0, kit.str (lm.textB l))) := by show _ = _; rw [HR.out]; exact lm.text_iff.2 ⟨by rw [← HFC.out, hcl], rfl⟩
  rw [hcl] at HCA
  obtain ⟨n, hn⟩ : ∃ n, n = l.length := ⟨_, rfl⟩
  have HN := Lib.hid hn
  have hn6 : n ≤ 6 := by rw [hn]; exact HGO.out.2
  have HU := Lib.hid infoU8
  clear hfc hcl hn
  go_enter Try.func17, Try.ntmps17
  go_wp2_with fail
  (with_reducible refine HCA.out.mono ?_)
  rintro e w1 ⟨vc, rfl, hlc, hb1⟩
  have heq := equal_any l l vc v w1 hlc (Cells.next HC.out hb1)
  rw [decide_eq_true (rfl : l = l)] at heq
  have HEQ := Lib.hid heq
  clear heq
  have HB1 := Lib.hid hb1
  obtain ⟨ao, cap, rfl⟩ : ∃ ao cap, vc = .slice ao n cap := by
    obtain ⟨ao, cap, e, _⟩ := hlc.form
    exact ⟨ao, cap, by rw [HN.out]; exact e⟩
  have HLC := Lib.hid hlc
  clear hlc hb1
  go_wp2_with fail
  (with_reducible refine HEQ.out.mono ?_)
  rintro e w2 ⟨rfl, hb2⟩
  have HL2 := Lib.hid (Cells.next HLC.out hb2)
  have HB2 := Lib.hid (HB1.out.trans (hb2.mono HB1.out.size))
  clear hb2 HLC
  go_wp2
  go_loopw [6, 7, 8, 23] (fun o _ _ i wr => ∃ (k : Nat) (pre : List Nat), i = .int .i64 k ∧ k ≤ n ∧ pre.length ≤ 84 * k ∧ Hid (pre = (lm.behind (l.take k)).drop 1) ∧ Hid (wr.ownsRow w2.heap.size 5 1 o pre.length (kit.u8s pre)) ∧ Below w2.heap.size w2 wr) (fun _ _ _ i _ => n - (intOf i).toNat)
  case atStart => exact ⟨0, [], rfl, by omega, by simp, (by simp [lm.behind] : _ = _), ⟨rfl, Or.inl ⟨rfl, rfl⟩⟩, Below.refl _ _⟩
  case round =>
    obtain ⟨k, pre, rfl, hk, hpl, HPRE, HOW, hbl⟩ := hrel
    have hz := hbl.size
    by_cases hlt : k < n
    · obtain ⟨b, off, rfl, hB, p0, p1⟩ := Labs.get (l := l) HL2.out HN.out hlt
      have HKL : Hid (k < l.length) := by show k < l.length; rw [← HN.out]; exact hlt
      have hgd := HGO.out.1.1 (l.getD k (.empty, .empty)) (by have := HKL.out; simp [List.getD, this])
      obtain ⟨⟨xa, xb⟩, hx⟩ : ∃ x, x = l.getD k (.empty, .empty) := ⟨_, rfl⟩
      rw [← hx] at p0 p1 hgd
      obtain ⟨ha16, _, hb32⟩ := lm.good_len hgd
      have HX : Hid ((xa, xb) = l.getD k (.empty, .empty)) := hx
      have HST := Lib.hid (lm.text_step HKL.out HX.out)
      simp only at p0 p1 ha16 hb32
      obtain ⟨na, hna⟩ : ∃ na, na = kit.bytes xa := ⟨_, rfl⟩
      obtain ⟨nb, hnb⟩ : ∃ nb, nb = kit.bytes xb := ⟨_, rfl⟩
      have hxa : xa = kit.str na := by rw [hna, kit.str_bytes]
      have hxb : xb = kit.str nb := by rw [hnb, kit.str_bytes]
      have hla : na.length ≤ 16 := by rw [hna, kit.bytes_len]; exact ha16
      have hlb : nb.length ≤ 32 := by rw [hnb, kit.bytes_len]; exact hb32
      have HLA : Hid (∀ y ∈ na, y < 256) := by show ∀ y ∈ na, _; rw [hna]; exact kit.bytes_lt xa
      have HBB : Hid (kit.bytes (kit.str nb) = nb) := by show _ = _; rw [← hxb, hnb]
      have HSZ : Hid ((kit.str nb).size ≤ 32) := by show _ ≤ _; rw [kit.str_size]; exact hlb
      have HONE : Hid (lm.oneT (xa, xb) = na ++ [61] ++ ([34] ++ escN nb ++ [34])) := by show lm.oneT _ = _; unfold lm.oneT; rw [← hna, ← hnb]
      have hel : (escN nb).length ≤ 2 * nb.length := esc_len nb
      rw [hxa] at p0
      rw [hxb] at p1
      have e0 := (hbl.cell (p := ⟨b, off + k * 2, none⟩) hB).trans p0
      have e1 := (hbl.cell (p := ⟨b, off + k * 2 + 1, none⟩) hB).trans p1
      have hkI : (k : Int) < (n : Int) := by omega
      have HB0 : Hid ((wr.alloc (.cells #[.string (kit.str na), .string (kit.str nb)] 38)).heap[wr.heap.size]? = some (.cells #[.string (kit.str na), .string (kit.str nb)] 38 (0, 0))) := kit.box_new wr _
      have HO0 := Lib.hid (HOW.out.alloc (.cells #[.string (kit.str na), .string (kit.str nb)] 38))
      have hbl0 := hbl.alloc hz (.cells #[.string (kit.str na), .string (kit.str nb)] 38)
      obtain ⟨wo, hwo⟩ : ∃ x, x = wr := ⟨wr, rfl⟩
      subst hwo
      rw [HONE.out] at HST
      clear p0 p1 hx hna hnb hxa hxb ha16 hb32 hgd HONE HX
      by_cases h0 : k = 0
      · have HPZ : Hid (pre = []) := by show pre = []; exact List.eq_nil_of_length_eq_zero (by omega)
        have h0I : ¬ (0 : Int) < (k : Int) := by omega
        have h0n : ¬ 0 < k := by omega
        clear h0
        go_wp2_with (at_builtin; refine appS (.tmp 33) (.tmp 35) 47 9 rfl rfl w2.heap.size Try.underlying47 Try.underlying9 infoU8 HO0.out rfl rfl HLA.out (by omega) hbl0.size ?_)
        intro v2 w4 hown4 hgrow4
        have HB4 := Lib.hid (kit.box_keep HB0.out HO0.out (by decide) hgrow4)
        have hbl4 := hbl0.trans (grown_below HO0.out hbl0.size hgrow4)
        have HO4 := Lib.hid hown4
        have hl4 : (pre ++ na).length ≤ (84 * k) + 16 := by simp; omega
        clear hown4 hgrow4
        obtain ⟨pre4, hpre4⟩ : ∃ x, x = pre ++ na := ⟨_, rfl⟩
        have HP4 := Lib.hid hpre4
        have HL4 : Hid (pre4.length = (pre ++ na).length) := by show _ = _; rw [hpre4]
        rw [← hpre4] at HO4 hl4
        clear hpre4
        go_wp2_with (at_builtin; refine kit.appA (.tmp 37) (.tmp 38) 47 rfl rfl w2.heap.size Try.underlying47 infoU8 rfl (by decide) (by decide) 2 HO4.out rfl rfl rfl (by intro u hu; simp at hu; rcases hu with rfl | rfl <;> rfl) (by omega) hbl4.size ?_)
        intro v3 w5 hown5 hgrow5
        have HB5 := Lib.hid (kit.box_keep (kit.box_alloc HB4.out) (HO4.out.alloc _) (by decide) hgrow5)
        have hbl5 := hbl4.trans (((Below.refl _ _).alloc hbl4.size _).trans (grown_below (HO4.out.alloc _) (by rw [World.size_alloc]; have := hbl4.size; omega) hgrow5))
        have HO5 : Hid (w5.ownsRow w2.heap.size 5 1 v3 (pre4 ++ [61, 34]).length (kit.u8s (pre4 ++ [61, 34]))) := by
          show World.ownsRow _ _ _ _ _ _ _
          rw [List.length_append, kit.u8s_app]
          have hl9 := HL4.out
          rw [List.length_append] at hl9
          rw [hl9]
          exact hown5
        have hl5 : (pre4 ++ [61, 34]).length ≤ (84 * k) + 18 := by simp; omega
        have c5 := kit.box_cell (k := 1) (u := .string (kit.str nb)) HB5.out rfl
        clear hown5 hgrow5
        obtain ⟨pre5, hpre5⟩ : ∃ x, x = pre4 ++ [61, 34] := ⟨_, rfl⟩
        have HP5 := Lib.hid hpre5
        rw [← hpre5] at HO5 hl5
        clear hpre5
        have HES := Lib.hid (esc_any w2.heap.size pre5 v3 (kit.str nb) w5 HO5.out hbl5.size (by have := HSZ.out; omega))
        rw [HBB.out] at HES
        go_wp2_with fail
        (with_reducible refine HES.out.mono ?_)
        rintro e w6 ⟨v6, rfl, hown6, hb6⟩
        have HO6 := Lib.hid hown6
        have hbl6 := hbl5.trans hb6
        have hl6 : (pre5 ++ escN nb).length ≤ (84 * k) + 82 := by simp; omega
        clear hown6 hb6
        obtain ⟨pre6, hpre6⟩ : ∃ x, x = pre5 ++ escN nb := ⟨_, rfl⟩
        have HP6 := Lib.hid hpre6
        rw [← hpre6] at HO6 hl6
        clear hpre6
        go_wp2_with (at_builtin; refine kit.app1 (.tmp 44) (.tmp 45) 47 rfl rfl w2.heap.size Try.underlying47 infoU8 rfl (by decide) (by decide) HO6.out rfl rfl rfl (by intro u hu; simp at hu; subst hu; rfl) (by omega) hbl6.size ?_)
        intro v7 w7 hown7 hb7
        have HO7 : Hid (w7.ownsRow w2.heap.size 5 1 v7 (pre6 ++ [34]).length (kit.u8s (pre6 ++ [34]))) := by
          show World.ownsRow _ _ _ _ _ _ _
          simpa [kit.u8s] using hown7
        have hl7 : (pre6 ++ [34]).length ≤ (84 * k) + 83 := by simp; omega
        have hbl7 := hbl6.trans hb7
        clear hown7 hb7
        go_wp2
        go_roundw
        case rel => exact ⟨k + 1, pre6 ++ [34], by go_num, by omega, by omega, by show _ = _; rw [HST.out, if_neg (by omega), HP6.out, HP5.out, HP4.out, HPZ.out]; simp [List.append_assoc], HO7.out, hbl7⟩
        case measure => simp [intOf]; omega
      · have h0I : (0 : Int) < (k : Int) := by omega
        have h0n : 0 < k := by omega
        go_wp2_with (at_builtin; refine kit.appB (.tmp 30) (.tmp 31) 47 rfl rfl w2.heap.size Try.underlying47 infoU8 rfl (by decide) (by decide) 1 (World.size_alloc _ _) HO0.out rfl rfl rfl (by intro u hu; simp at hu; subst hu; rfl) (by omega) hbl0.size ?_)
        intro v1 w3 hown3 hgrow3
        have HB3 := Lib.hid (kit.box_keep (kit.box_alloc HB0.out) (HO0.out.alloc _) (by decide) hgrow3)
        have hbl3 := hbl0.trans (((Below.refl _ _).alloc hbl0.size _).trans (grown_below (HO0.out.alloc _) (by rw [World.size_alloc]; have := hbl0.size; omega) hgrow3))
        have HO3 : Hid (w3.ownsRow w2.heap.size 5 1 v1 (pre ++ [44]).length (kit.u8s (pre ++ [44]))) := by
          show World.ownsRow _ _ _ _ _ _ _
          simpa [kit.u8s] using hown3
        have hl3 : (pre ++ [44]).length ≤ 84 * k + 1 := by simp; omega
        have c3 := kit.box_cell (k := 0) (u := .string (kit.str na)) HB3.out rfl
        clear hown3 hgrow3
        obtain ⟨pre3, hpre3⟩ : ∃ x, x = pre ++ [44] := ⟨_, rfl⟩
        have HP3 := Lib.hid hpre3
        rw [← hpre3] at HO3 hl3
        clear hpre3
        go_wp2_with (at_builtin; refine appS (.tmp 33) (.tmp 35) 47 9 rfl rfl w2.heap.size Try.underlying47 Try.underlying9 infoU8 HO3.out rfl rfl HLA.out (by omega) hbl3.size ?_)
        intro v2 w4 hown4 hgrow4
        have HB4 := Lib.hid (kit.box_keep HB3.out HO3.out (by decide) hgrow4)
        have hbl4 := hbl3.trans (grown_below HO3.out hbl3.size hgrow4)
        have HO4 := Lib.hid hown4
        have hl4 : (pre3 ++ na).length ≤ (84 * k + 1) + 16 := by simp; omega
        clear hown4 hgrow4
        obtain ⟨pre4, hpre4⟩ : ∃ x, x = pre3 ++ na := ⟨_, rfl⟩
        have HP4 := Lib.hid hpre4
        have HL4 : Hid (pre4.length = (pre3 ++ na).length) := by show _ = _; rw [hpre4]
        rw [← hpre4] at HO4 hl4
        clear hpre4
        go_wp2_with (at_builtin; refine kit.appA (.tmp 37) (.tmp 38) 47 rfl rfl w2.heap.size Try.underlying47 infoU8 rfl (by decide) (by decide) 2 HO4.out rfl rfl rfl (by intro u hu; simp at hu; rcases hu with rfl | rfl <;> rfl) (by omega) hbl4.size ?_)
        intro v3 w5 hown5 hgrow5
        have HB5 := Lib.hid (kit.box_keep (kit.box_alloc HB4.out) (HO4.out.alloc _) (by decide) hgrow5)
        have hbl5 := hbl4.trans (((Below.refl _ _).alloc hbl4.size _).trans (grown_below (HO4.out.alloc _) (by rw [World.size_alloc]; have := hbl4.size; omega) hgrow5))
        have HO5 : Hid (w5.ownsRow w2.heap.size 5 1 v3 (pre4 ++ [61, 34]).length (kit.u8s (pre4 ++ [61, 34]))) := by
          show World.ownsRow _ _ _ _ _ _ _
          rw [List.length_append, kit.u8s_app]
          have hl9 := HL4.out
          rw [List.length_append] at hl9
          rw [hl9]
          exact hown5
        have hl5 : (pre4 ++ [61, 34]).length ≤ (84 * k + 1) + 18 := by simp; omega
        have c5 := kit.box_cell (k := 1) (u := .string (kit.str nb)) HB5.out rfl
        clear hown5 hgrow5
        obtain ⟨pre5, hpre5⟩ : ∃ x, x = pre4 ++ [61, 34] := ⟨_, rfl⟩
        have HP5 := Lib.hid hpre5
        rw [← hpre5] at HO5 hl5
        clear hpre5
        have HES := Lib.hid (esc_any w2.heap.size pre5 v3 (kit.str nb) w5 HO5.out hbl5.size (by have := HSZ.out; omega))
        rw [HBB.out] at HES
        go_wp2_with fail
        (with_reducible refine HES.out.mono ?_)
        rintro e w6 ⟨v6, rfl, hown6, hb6⟩
        have HO6 := Lib.hid hown6
        have hbl6 := hbl5.trans hb6
        have hl6 : (pre5 ++ escN nb).length ≤ (84 * k + 1) + 82 := by simp; omega
        clear hown6 hb6
        obtain ⟨pre6, hpre6⟩ : ∃ x, x = pre5 ++ escN nb := ⟨_, rfl⟩
        have HP6 := Lib.hid hpre6
        rw [← hpre6] at HO6 hl6
        clear hpre6
        go_wp2_with (at_builtin; refine kit.app1 (.tmp 44) (.tmp 45) 47 rfl rfl w2.heap.size Try.underlying47 infoU8 rfl (by decide) (by decide) HO6.out rfl rfl rfl (by intro u hu; simp at hu; subst hu; rfl) (by omega) hbl6.size ?_)
        intro v7 w7 hown7 hb7
        have HO7 : Hid (w7.ownsRow w2.heap.size 5 1 v7 (pre6 ++ [34]).length (kit.u8s (pre6 ++ [34]))) := by
          show World.ownsRow _ _ _ _ _ _ _
          simpa [kit.u8s] using hown7
        have hl7 : (pre6 ++ [34]).length ≤ (84 * k + 1) + 83 := by simp; omega
        have hbl7 := hbl6.trans hb7
        clear hown7 hb7
        go_wp2
        go_roundw
        case rel => exact ⟨k + 1, pre6 ++ [34], by go_num, by omega, by omega, by show _ = _; rw [HST.out, if_pos (by omega), HP6.out, HP5.out, HP4.out, HP3.out, HPRE.out]; simp [List.append_assoc], HO7.out, hbl7⟩
        case measure => simp [intOf]; omega
    · obtain rfl : k = n := by omega
      have HPE : Hid (pre = (lm.behind l).drop 1) := by
        show _ = _
        rw [HPRE.out, List.take_of_length_le (by rw [HN.out]; exact Nat.le_refl _)]
      obtain ⟨T, hT⟩ : ∃ T, T = kit.str pre := ⟨_, rfl⟩
      have hTS : T.size ≤ 504 := by rw [hT, kit.str_size]; omega
      have hrun := kit.run_string (P := Try.prog) (src := 47) (dst := 9) Try.underlying47 Try.underlying5 Try.underlying9 HOW.out
      rw [← hT] at hrun
      have HTB : Hid (R = (0, ⟨#[123]⟩ ++ T ++ ⟨#[125]⟩)) := by
        show _ = _
        rw [HRT.out, lm.textB, kit.str_app, kit.str_app, ← HPE.out, ← hT]; rfl
      have z1 : ¬ 9223372036854775807 < 1 + T.size := by omega
      have z2 : ¬ 9223372036854775807 < 1 + T.size + 1 := by omega
      have HRET : Hid (TextP R w (.returned (.tuple #[.string (⟨#[123]⟩ ++ T ++ ⟨#[125]⟩), .int .i64 0])) wr) := by
        show TextP _ _ _ _
        rw [HTB.out]
        exact ⟨rfl, HB2.out.trans (hbl.mono HB2.out.size)⟩
      clear hT
      go_wp2
      exact bodyPost_ret (v := .tuple #[.string (⟨#[123]⟩ ++ T ++ ⟨#[125]⟩), .int .i64 0]) (by simp [results, Try.results17, go_sem]) rfl HRET.out
end Go.Proofs.Ytpfjmomdnegcpaa
