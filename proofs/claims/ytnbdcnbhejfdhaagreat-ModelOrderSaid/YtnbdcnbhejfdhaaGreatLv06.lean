/- texts put together: LabText, LabRead, LabFirst. -/
import Derived.Test.YtnbdcnbhejfdhaaGreatLv00
import Derived.Test.YtnbdcnbhejfdhaaGreatLv03
import Derived.Test.YtnbdcnbhejfdhaaGreatLv05
import Derived.Lib.IndexMore
import Derived.Lib.Strings
namespace Go.Proofs.YtnbdcnbhejfdhaaGreat.kit
open Go.RowKit Go.ChangeShapes
theorem appA {P : Program} {w : World} {ops : Array Oper} {rest : List Oper} {o : Oper} {a : Act} {Q : Exit → Act → World → Prop} {cs : Array Value} {e' : TypeId}
  (s x : Operand) (t : TypeId) (hgd : o.guard = none)
  (ho : o.op = .call { callee := .builtin .append, args := #[s, x], argTypes := #[t, t] })
  (base : Nat) {e : TypeId} {z : Value} {size bytes : Nat} (ht : P.underlying t = some (.slice e)) (hi : (P.info? e).map (fun i => (i.zero, i.size, i.bytes)) = some (some z, size, bytes))
  (hzs : z.cells.size = size) (hsz : 0 < size) (hb1 : 0 < bytes) (m : Nat)
  {v : Value} {n : Nat} {xs : List Value} {c : Nat} (hown : w.ownsRow base e size v n xs) (hs : a.eval s = v) (hx : a.eval x = .slice (some ⟨w.heap.size, 0, none⟩) m c)
  (hcs : cs.size = m * size) (h1 : ∀ u ∈ cs.toList, u.oneCell' = true) (hbytes : (n + m) * bytes ≤ 140737488355328) (hbase : base ≤ w.heap.size)
  (h : ∀ v' w', w'.ownsRow base e size v' (n + m) (xs ++ cs.toList) → (w.alloc (.cells cs e')).grownBy w' v.ownBlock → wpList P ops Q rest (a.put o.dst v') w') :
  wpList P ops Q (o :: rest) a (w.alloc (.cells cs e')) := by
 obtain ⟨i, hi, hz, hsize, hby⟩ := info_parts hi
 have hle : n + m ≤ (n + m) * bytes := Nat.le_mul_of_pos_right _ hb1
 refine wpList_append_own _ hgd s x t ho base e i z size bytes ht hi hz hsize hby hzs hsz v n xs hs (hown.alloc _) ⟨w.heap.size, 0, none⟩ m c cs.toList hx (by simp [hcs]) ?_ h1
  (by unfold maxLen; omega) hbytes (by simp; omega) fun v' w' r1 r2 _ => h v' w' r1 r2
 intro j u hj
 rw [Array.getElem?_toList] at hj
 rw [Addr.add_lit, Nat.zero_add, World.cell?_alloc_at _ _ _ _ rfl]
 exact hj
theorem appB {P : Program} {w : World} {ops : Array Oper} {rest : List Oper} {o : Oper} {a : Act} {Q : Exit → Act → World → Prop} {cs : Array Value} {e' : TypeId}
  (s x : Operand) (t : TypeId) (hgd : o.guard = none)
  (ho : o.op = .call { callee := .builtin .append, args := #[s, x], argTypes := #[t, t] })
  (base : Nat) {e : TypeId} {z : Value} {size bytes : Nat} (ht : P.underlying t = some (.slice e)) (hi : (P.info? e).map (fun i => (i.zero, i.size, i.bytes)) = some (some z, size, bytes))
  (hzs : z.cells.size = size) (hsz : 0 < size) (hb1 : 0 < bytes) (m : Nat) {N : Nat} (hN : w.heap.size = N)
  {v : Value} {n : Nat} {xs : List Value} {c : Nat} (hown : w.ownsRow base e size v n xs) (hs : a.eval s = v) (hx : a.eval x = .slice (some ⟨N, 0, none⟩) m c)
  (hcs : cs.size = m * size) (h1 : ∀ u ∈ cs.toList, u.oneCell' = true) (hbytes : (n + m) * bytes ≤ 140737488355328) (hbase : base ≤ w.heap.size)
  (h : ∀ v' w', w'.ownsRow base e size v' (n + m) (xs ++ cs.toList) → (w.alloc (.cells cs e')).grownBy w' v.ownBlock → wpList P ops Q rest (a.put o.dst v') w') :
  wpList P ops Q (o :: rest) a (w.alloc (.cells cs e')) := by
 subst hN
 exact appA s x t hgd ho base ht hi hzs hsz hb1 m hown hs hx hcs h1 hbytes hbase h
theorem box_keep {w w' : World} {B k n g0 : Nat} {e t : TypeId} {v : Value} {xs : List Value} {cs : Array Value} {fr : Nat × Nat} (hb : w.heap[g0]? = some (.cells cs t fr)) (hown : w.ownsRow B e k v n xs) (hne : t ≠ e) (hg : w.grownBy w' v.ownBlock) : w'.heap[g0]? = some (.cells cs t fr) := by
 have hlt : g0 < w.heap.size := (Array.getElem?_eq_some_iff.1 hb).1
 rw [hg.block g0 hlt (fun e1 => ?_)]
 ·
  exact hb
 ·
  rcases hown.2 with ⟨rfl, _⟩ | ⟨g, cap, cur, rfl, _, hg', _⟩
  ·
   cases e1
  ·
   obtain rfl : g0 = g := Option.some.inj e1
   rw [hb] at hg'
   cases hg'
   exact hne rfl
theorem box_alloc {w : World} {g0 : Nat} {o o' : Obj} (hb : w.heap[g0]? = some o) : (w.alloc o').heap[g0]? = some o := by
 rw [Below.heap_alloc w o' g0 (Array.getElem?_eq_some_iff.1 hb).1]; exact hb
theorem box_new (w : World) (o : Obj) : (w.alloc o).heap[w.heap.size]? = some o := by
 show (w.heap.push o)[w.heap.size]? = _
 simp
theorem box_cell {w : World} {g0 k : Nat} {cs : Array Value} {t : TypeId} {fr : Nat × Nat} {u : Value} (hb : w.heap[g0]? = some (.cells cs t fr)) (hk : cs[k]? = some u) : w.cell? ⟨g0, k, none⟩ = some u := by
 simp [World.cell?, hb, hk]
end Go.Proofs.YtnbdcnbhejfdhaaGreat.kit
namespace Go.Proofs.YtnbdcnbhejfdhaaGreat
open Go.RowKit Go.ChangeShapes cl
def TextP (r : Int × ByteArray) (w : World) (e : Ending) (w' : World) : Prop := e = .returned (.tuple #[.string r.2, .int .i64 r.1]) ∧ Below w.heap.size w w'
theorem textP_bad {r : Int × ByteArray} {f : Int} {w W : World} (h : r = (f, .empty)) (hb : Below w.heap.size w W) : TextP r w (.returned (.tuple #[.string ⟨#[]⟩, .int .i64 f])) W := by
 rw [h]; exact ⟨rfl, hb⟩
namespace lm
theorem text_step {l : List Lab} {k : Nat} {x : Lab} (hk : k < l.length) (hx : x = l.getD k (.empty, .empty)) : (behind (l.take (k + 1))).drop 1 = (if 0 < k then (behind (l.take k)).drop 1 ++ [44] else []) ++ oneT x := by
 rw [take_snoc hk hx, behind_app, behind_one]
 cases k with
 | zero => simp [behind]
 | succ k =>
  rw [if_pos (Nat.succ_pos _), List.drop_append_of_le_length]
  ·
   simp
  ·
   cases l with
   | nil => simp at hk
   | cons y r => simp [behind]
end lm
set_option maxHeartbeats 3200000 in
set_option maxRecDepth 100000 in
theorem text_any (l : List Lab) (v : Value) (w : World) (h : Labs w w.heap.size v l) (hs : ∀ x ∈ l, x.1.size ≤ maxLen ∧ x.2.size ≤ maxLen) (hl6 : l.length ≤ 100000) :
  Calls Tryz.prog 43 #[v] w (TextP (lm.textF l) w) := by
 have HCA := Lib.hid (canon_any l v w h hs hl6)
 obtain ⟨R, hR⟩ : ∃ R, R = lm.textF l := ⟨_, rfl⟩
 have HR := Lib.hid hR
 obtain ⟨⟨f, c⟩, hfc⟩ : ∃ r, r = lm.canonF l := ⟨_, rfl⟩
 have HFC := Lib.hid hfc
 rw [← hR]
 rw [← hfc] at HCA
 have HC := Lib.hid h
 clear hR h hs hl6
 by_cases hf : f = 0
 rotate_left
 ·
  have HRB : Hid (R = (f, .empty)) := by
   show _ = _
   rw [HR.out, lm.textF, ← HFC.out, if_neg hf]
  have hfb : (f != 0) = true := by simpa using hf
  have hfc2 : (f == 0) = false := by simpa using hf
  clear hfc
  go_enter Tryz.func43, Tryz.ntmps43
  go_wp2_with fail
  (with_reducible refine HCA.out.mono ?_)
  rintro e w1 ⟨vc, rfl, _, hb1⟩
  have HRET := Lib.hid (textP_bad HRB.out hb1)
  go_wp2
  exact bodyPost_ret (v := .tuple #[.string ⟨#[]⟩, .int .i64 f]) (by simp [results, Tryz.results43, go_sem]) rfl HRET.out
 subst hf
 by_cases hcl : c = l
 rotate_left
 ·
  have HRB : Hid (R = (3, .empty)) := by
   show _ = _
   rw [HR.out, lm.textF, ← HFC.out, if_pos rfl, if_neg hcl]
  have HD : Hid (decide (c = l) = false) := decide_eq_false hcl
  clear hfc hcl
  go_enter Tryz.func43, Tryz.ntmps43
  go_wp2_with fail
  (with_reducible refine HCA.out.mono ?_)
  rintro e w1 ⟨vc, rfl, hlc, hb1⟩
  have HEQ := Lib.hid (equal_any c l vc v w1 hlc (Cells.next HC.out hb1))
  rw [HD.out] at HEQ
  have HB1 := Lib.hid hb1
  clear hlc hb1
  go_wp2_with fail
  (with_reducible refine HEQ.out.mono ?_)
  rintro e w2 ⟨rfl, hb2⟩
  have HRET := Lib.hid (textP_bad HRB.out (HB1.out.trans (hb2.mono HB1.out.size)))
  go_wp2
  exact bodyPost_ret (v := .tuple #[.string ⟨#[]⟩, .int .i64 3]) (by simp [results, Tryz.results43, go_sem]) rfl HRET.out
 have HGO : Hid (lm.Good l ∧ l.length ≤ 6) := by
  have h1 := lm.canon_form (l := l) (c := c) HFC.out.symm
  rw [hcl] at h1
  exact ⟨h1.2.2.2.1, by have := h1.2.2.2.1.2.2; rw [h1.2.2.1] at this; exact this⟩
 have HRT : Hid (R = (0, kit.str (lm.textB l))) := by show _ = _; rw [HR.out]; exact lm.text_iff.2 ⟨by rw [← HFC.out, hcl], rfl⟩
 rw [hcl] at HCA
 obtain ⟨n, hn⟩ : ∃ n, n = l.length := ⟨_, rfl⟩
 have HN := Lib.hid hn
 have hn6 : n ≤ 6 := by rw [hn]; exact HGO.out.2
 have HU := Lib.hid infoU8
 clear hfc hcl hn
 go_enter Tryz.func43, Tryz.ntmps43
 go_wp2_with fail
 (with_reducible refine HCA.out.mono ?_)
 rintro e w1 ⟨vc, rfl, hlc, hb1⟩
 have heq := equal_any l l vc v w1 hlc (Cells.next HC.out hb1)
 rw [decide_eq_true (rfl : l = l)] at heq
 have HEQ := Lib.hid heq
 clear heq
 have HB1 := Lib.hid hb1
 obtain ⟨ao, cap, rfl⟩ : ∃ ao cap, vc = .slice ao n cap := by
  obtain ⟨ao, cap, e, _⟩ := hlc.form
  exact ⟨ao, cap, by rw [HN.out]; exact e⟩
 have HLC := Lib.hid hlc
 clear hlc hb1
 go_wp2_with fail
 (with_reducible refine HEQ.out.mono ?_)
 rintro e w2 ⟨rfl, hb2⟩
 have HL2 := Lib.hid (Cells.next HLC.out hb2)
 have HB2 := Lib.hid (HB1.out.trans (hb2.mono HB1.out.size))
 clear hb2 HLC
 go_wp2
 go_loopw [6, 7, 8, 23] (fun o _ _ i wr => ∃ (k : Nat) (pre : List Nat), i = .int .i64 k ∧ k ≤ n ∧ pre.length ≤ 84 * k ∧ Hid (pre = (lm.behind (l.take k)).drop 1) ∧ Hid (wr.ownsRow w2.heap.size 5 1 o pre.length (kit.u8s pre)) ∧ Below w2.heap.size w2 wr) (fun _ _ _ i _ => n - (intOf i).toNat)
 case atStart => exact ⟨0, [], rfl, by omega, by simp, (by simp [lm.behind] : _ = _), ⟨rfl, Or.inl ⟨rfl, rfl⟩⟩, Below.refl _ _⟩
 case round =>
  obtain ⟨k, pre, rfl, hk, hpl, HPRE, HOW, hbl⟩ := hrel
  have hz := hbl.size
  by_cases hlt : k < n
  ·
   obtain ⟨b, off, rfl, hB, p0, p1⟩ := Labs.get (l := l) HL2.out HN.out hlt
   have HKL : Hid (k < l.length) := by show k < l.length; rw [← HN.out]; exact hlt
   have hgd := HGO.out.1.1 (l.getD k (.empty, .empty)) (by have := HKL.out; simp [List.getD, this])
   obtain ⟨⟨xa, xb⟩, hx⟩ : ∃ x, x = l.getD k (.empty, .empty) := ⟨_, rfl⟩
   rw [← hx] at p0 p1 hgd
   obtain ⟨ha16, _, hb32⟩ := lm.good_len hgd
   have HX : Hid ((xa, xb) = l.getD k (.empty, .empty)) := hx
   have HST := Lib.hid (lm.text_step HKL.out HX.out)
   simp only at p0 p1 ha16 hb32
   obtain ⟨na, hna⟩ : ∃ na, na = kit.bytes xa := ⟨_, rfl⟩
   obtain ⟨nb, hnb⟩ : ∃ nb, nb = kit.bytes xb := ⟨_, rfl⟩
   have hxa : xa = kit.str na := by rw [hna, kit.str_bytes]
   have hxb : xb = kit.str nb := by rw [hnb, kit.str_bytes]
   have hla : na.length ≤ 16 := by rw [hna, kit.bytes_len]; exact ha16
   have hlb : nb.length ≤ 32 := by rw [hnb, kit.bytes_len]; exact hb32
   have HLA : Hid (∀ y ∈ na, y < 256) := by show ∀ y ∈ na, _; rw [hna]; exact kit.bytes_lt xa
   have HBB : Hid (kit.bytes (kit.str nb) = nb) := by show _ = _; rw [← hxb, hnb]
   have HSZ : Hid ((kit.str nb).size ≤ 32) := by show _ ≤ _; rw [kit.str_size]; exact hlb
   have HONE : Hid (lm.oneT (xa, xb) = na ++ [61] ++ ([34] ++ escN nb ++ [34])) := by show lm.oneT _ = _; unfold lm.oneT; rw [← hna, ← hnb]
   have hel : (escN nb).length ≤ 2 * nb.length := esc_len nb
   rw [hxa] at p0
   rw [hxb] at p1
   have e0 := (hbl.cell (p := ⟨b, off + k * 2, none⟩) hB).trans p0
   have e1 := (hbl.cell (p := ⟨b, off + k * 2 + 1, none⟩) hB).trans p1
   have hkI : (k : Int) < (n : Int) := by omega
   have HB0 : Hid ((wr.alloc (.cells #[.string (kit.str na), .string (kit.str nb)] 82)).heap[wr.heap.size]? = some (.cells #[.string (kit.str na), .string (kit.str nb)] 82 (0, 0))) := kit.box_new wr _
   have HO0 := Lib.hid (HOW.out.alloc (.cells #[.string (kit.str na), .string (kit.str nb)] 82))
   have hbl0 := hbl.alloc hz (.cells #[.string (kit.str na), .string (kit.str nb)] 82)
   obtain ⟨wo, hwo⟩ : ∃ x, x = wr := ⟨wr, rfl⟩
   subst hwo
   rw [HONE.out] at HST
   clear p0 p1 hx hna hnb hxa hxb ha16 hb32 hgd HONE HX
   by_cases h0 : k = 0
   ·
    have HPZ : Hid (pre = []) := by show pre = []; exact List.eq_nil_of_length_eq_zero (by omega)
    have h0I : ¬ (0 : Int) < (k : Int) := by omega
    have h0n : ¬ 0 < k := by omega
    clear h0
    go_wp2_with (at_builtin; refine appS (.tmp 33) (.tmp 35) 107 9 rfl rfl w2.heap.size Tryz.underlying107 Tryz.underlying9 infoU8 HO0.out rfl rfl HLA.out (by omega) hbl0.size ?_)
    intro v2 w4 hown4 hgrow4
    have HB4 := Lib.hid (kit.box_keep HB0.out HO0.out (by decide) hgrow4)
    have hbl4 := hbl0.trans (grown_below HO0.out hbl0.size hgrow4)
    have HO4 := Lib.hid hown4
    have hl4 : (pre ++ na).length ≤ (84 * k) + 16 := by simp; omega
    clear hown4 hgrow4
    obtain ⟨pre4, hpre4⟩ : ∃ x, x = pre ++ na := ⟨_, rfl⟩
    have HP4 := Lib.hid hpre4
    have HL4 : Hid (pre4.length = (pre ++ na).length) := by show _ = _; rw [hpre4]
    rw [← hpre4] at HO4 hl4
    clear hpre4
    go_wp2_with (at_builtin; refine kit.appA (.tmp 37) (.tmp 38) 107 rfl rfl w2.heap.size Tryz.underlying107 infoU8 rfl (by decide) (by decide) 2 HO4.out rfl rfl rfl (by intro u hu; simp at hu; rcases hu with rfl | rfl <;> rfl) (by omega) hbl4.size ?_)
    intro v3 w5 hown5 hgrow5
    have HB5 := Lib.hid (kit.box_keep (kit.box_alloc HB4.out) (HO4.out.alloc _) (by decide) hgrow5)
    have hbl5 := hbl4.trans (((Below.refl _ _).alloc hbl4.size _).trans (grown_below (HO4.out.alloc _) (by rw [World.size_alloc]; have := hbl4.size; omega) hgrow5))
    have HO5 : Hid (w5.ownsRow w2.heap.size 5 1 v3 (pre4 ++ [61, 34]).length (kit.u8s (pre4 ++ [61, 34]))) := by
     show World.ownsRow _ _ _ _ _ _ _
     rw [List.length_append, kit.u8s_app]
     have hl9 := HL4.out
     rw [List.length_append] at hl9
     rw [hl9]
     exact hown5
    have hl5 : (pre4 ++ [61, 34]).length ≤ (84 * k) + 18 := by simp; omega
    have c5 := kit.box_cell (k := 1) (u := .string (kit.str nb)) HB5.out rfl
    clear hown5 hgrow5
    obtain ⟨pre5, hpre5⟩ : ∃ x, x = pre4 ++ [61, 34] := ⟨_, rfl⟩
    have HP5 := Lib.hid hpre5
    rw [← hpre5] at HO5 hl5
    clear hpre5
    have HES := Lib.hid (esc_any w2.heap.size pre5 v3 (kit.str nb) w5 HO5.out hbl5.size (by have := HSZ.out; omega))
    rw [HBB.out] at HES
    go_wp2_with fail
    (with_reducible refine HES.out.mono ?_)
    rintro e w6 ⟨v6, rfl, hown6, hb6⟩
    have HO6 := Lib.hid hown6
    have hbl6 := hbl5.trans hb6
    have hl6 : (pre5 ++ escN nb).length ≤ (84 * k) + 82 := by simp; omega
    clear hown6 hb6
    obtain ⟨pre6, hpre6⟩ : ∃ x, x = pre5 ++ escN nb := ⟨_, rfl⟩
    have HP6 := Lib.hid hpre6
    rw [← hpre6] at HO6 hl6
    clear hpre6
    go_wp2_with (at_builtin; refine kit.app1 (.tmp 44) (.tmp 45) 107 rfl rfl w2.heap.size Tryz.underlying107 infoU8 rfl (by decide) (by decide) HO6.out rfl rfl rfl (by intro u hu; simp at hu; subst hu; rfl) (by omega) hbl6.size ?_)
    intro v7 w7 hown7 hb7
    have HO7 : Hid (w7.ownsRow w2.heap.size 5 1 v7 (pre6 ++ [34]).length (kit.u8s (pre6 ++ [34]))) := by
     show World.ownsRow _ _ _ _ _ _ _
     simpa [kit.u8s] using hown7
    have hl7 : (pre6 ++ [34]).length ≤ (84 * k) + 83 := by simp; omega
    have hbl7 := hbl6.trans hb7
    clear hown7 hb7
    go_wp2
    go_roundw
    case rel => exact ⟨k + 1, pre6 ++ [34], by go_num, by omega, by omega, by show _ = _; rw [HST.out, if_neg (by omega), HP6.out, HP5.out, HP4.out, HPZ.out]; simp [List.append_assoc], HO7.out, hbl7⟩
    case measure => simp [intOf]; omega
   ·
    have h0I : (0 : Int) < (k : Int) := by omega
    have h0n : 0 < k := by omega
    go_wp2_with (at_builtin; refine kit.appB (.tmp 30) (.tmp 31) 107 rfl rfl w2.heap.size Tryz.underlying107 infoU8 rfl (by decide) (by decide) 1 (World.size_alloc _ _) HO0.out rfl rfl rfl (by intro u hu; simp at hu; subst hu; rfl) (by omega) hbl0.size ?_)
    intro v1 w3 hown3 hgrow3
    have HB3 := Lib.hid (kit.box_keep (kit.box_alloc HB0.out) (HO0.out.alloc _) (by decide) hgrow3)
    have hbl3 := hbl0.trans (((Below.refl _ _).alloc hbl0.size _).trans (grown_below (HO0.out.alloc _) (by rw [World.size_alloc]; have := hbl0.size; omega) hgrow3))
    have HO3 : Hid (w3.ownsRow w2.heap.size 5 1 v1 (pre ++ [44]).length (kit.u8s (pre ++ [44]))) := by
     show World.ownsRow _ _ _ _ _ _ _
     simpa [kit.u8s] using hown3
    have hl3 : (pre ++ [44]).length ≤ 84 * k + 1 := by simp; omega
    have c3 := kit.box_cell (k := 0) (u := .string (kit.str na)) HB3.out rfl
    clear hown3 hgrow3
    obtain ⟨pre3, hpre3⟩ : ∃ x, x = pre ++ [44] := ⟨_, rfl⟩
    have HP3 := Lib.hid hpre3
    rw [← hpre3] at HO3 hl3
    clear hpre3
    go_wp2_with (at_builtin; refine appS (.tmp 33) (.tmp 35) 107 9 rfl rfl w2.heap.size Tryz.underlying107 Tryz.underlying9 infoU8 HO3.out rfl rfl HLA.out (by omega) hbl3.size ?_)
    intro v2 w4 hown4 hgrow4
    have HB4 := Lib.hid (kit.box_keep HB3.out HO3.out (by decide) hgrow4)
    have hbl4 := hbl3.trans (grown_below HO3.out hbl3.size hgrow4)
    have HO4 := Lib.hid hown4
    have hl4 : (pre3 ++ na).length ≤ (84 * k + 1) + 16 := by simp; omega
    clear hown4 hgrow4
    obtain ⟨pre4, hpre4⟩ : ∃ x, x = pre3 ++ na := ⟨_, rfl⟩
    have HP4 := Lib.hid hpre4
    have HL4 : Hid (pre4.length = (pre3 ++ na).length) := by show _ = _; rw [hpre4]
    rw [← hpre4] at HO4 hl4
    clear hpre4
    go_wp2_with (at_builtin; refine kit.appA (.tmp 37) (.tmp 38) 107 rfl rfl w2.heap.size Tryz.underlying107 infoU8 rfl (by decide) (by decide) 2 HO4.out rfl rfl rfl (by intro u hu; simp at hu; rcases hu with rfl | rfl <;> rfl) (by omega) hbl4.size ?_)
    intro v3 w5 hown5 hgrow5
    have HB5 := Lib.hid (kit.box_keep (kit.box_alloc HB4.out) (HO4.out.alloc _) (by decide) hgrow5)
    have hbl5 := hbl4.trans (((Below.refl _ _).alloc hbl4.size _).trans (grown_below (HO4.out.alloc _) (by rw [World.size_alloc]; have := hbl4.size; omega) hgrow5))
    have HO5 : Hid (w5.ownsRow w2.heap.size 5 1 v3 (pre4 ++ [61, 34]).length (kit.u8s (pre4 ++ [61, 34]))) := by
     show World.ownsRow _ _ _ _ _ _ _
     rw [List.length_append, kit.u8s_app]
     have hl9 := HL4.out
     rw [List.length_append] at hl9
     rw [hl9]
     exact hown5
    have hl5 : (pre4 ++ [61, 34]).length ≤ (84 * k + 1) + 18 := by simp; omega
    have c5 := kit.box_cell (k := 1) (u := .string (kit.str nb)) HB5.out rfl
    clear hown5 hgrow5
    obtain ⟨pre5, hpre5⟩ : ∃ x, x = pre4 ++ [61, 34] := ⟨_, rfl⟩
    have HP5 := Lib.hid hpre5
    rw [← hpre5] at HO5 hl5
    clear hpre5
    have HES := Lib.hid (esc_any w2.heap.size pre5 v3 (kit.str nb) w5 HO5.out hbl5.size (by have := HSZ.out; omega))
    rw [HBB.out] at HES
    go_wp2_with fail
    (with_reducible refine HES.out.mono ?_)
    rintro e w6 ⟨v6, rfl, hown6, hb6⟩
    have HO6 := Lib.hid hown6
    have hbl6 := hbl5.trans hb6
    have hl6 : (pre5 ++ escN nb).length ≤ (84 * k + 1) + 82 := by simp; omega
    clear hown6 hb6
    obtain ⟨pre6, hpre6⟩ : ∃ x, x = pre5 ++ escN nb := ⟨_, rfl⟩
    have HP6 := Lib.hid hpre6
    rw [← hpre6] at HO6 hl6
    clear hpre6
    go_wp2_with (at_builtin; refine kit.app1 (.tmp 44) (.tmp 45) 107 rfl rfl w2.heap.size Tryz.underlying107 infoU8 rfl (by decide) (by decide) HO6.out rfl rfl rfl (by intro u hu; simp at hu; subst hu; rfl) (by omega) hbl6.size ?_)
    intro v7 w7 hown7 hb7
    have HO7 : Hid (w7.ownsRow w2.heap.size 5 1 v7 (pre6 ++ [34]).length (kit.u8s (pre6 ++ [34]))) := by
     show World.ownsRow _ _ _ _ _ _ _
     simpa [kit.u8s] using hown7
    have hl7 : (pre6 ++ [34]).length ≤ (84 * k + 1) + 83 := by simp; omega
    have hbl7 := hbl6.trans hb7
    clear hown7 hb7
    go_wp2
    go_roundw
    case rel => exact ⟨k + 1, pre6 ++ [34], by go_num, by omega, by omega, by show _ = _; rw [HST.out, if_pos (by omega), HP6.out, HP5.out, HP4.out, HP3.out, HPRE.out]; simp [List.append_assoc], HO7.out, hbl7⟩
    case measure => simp [intOf]; omega
  ·
   obtain rfl : k = n := by omega
   have HPE : Hid (pre = (lm.behind l).drop 1) := by
    show _ = _
    rw [HPRE.out, List.take_of_length_le (by rw [HN.out]; exact Nat.le_refl _)]
   obtain ⟨T, hT⟩ : ∃ T, T = kit.str pre := ⟨_, rfl⟩
   have hTS : T.size ≤ 504 := by rw [hT, kit.str_size]; omega
   have hrun := kit.run_string (P := Tryz.prog) (src := 107) (dst := 9) Tryz.underlying107 Tryz.underlying5 Tryz.underlying9 HOW.out
   rw [← hT] at hrun
   have HTB : Hid (R = (0, ⟨#[123]⟩ ++ T ++ ⟨#[125]⟩)) := by
    show _ = _
    rw [HRT.out, lm.textB, kit.str_app, kit.str_app, ← HPE.out, ← hT]; rfl
   have z1 : ¬ 9223372036854775807 < 1 + T.size := by omega
   have z2 : ¬ 9223372036854775807 < 1 + T.size + 1 := by omega
   have HRET : Hid (TextP R w (.returned (.tuple #[.string (⟨#[123]⟩ ++ T ++ ⟨#[125]⟩), .int .i64 0])) wr) := by
    show TextP _ _ _ _
    rw [HTB.out]
    exact ⟨rfl, HB2.out.trans (hbl.mono HB2.out.size)⟩
   clear hT
   go_wp2
   exact bodyPost_ret (v := .tuple #[.string (⟨#[123]⟩ ++ T ++ ⟨#[125]⟩), .int .i64 0]) (by simp [results, Tryz.results43, go_sem]) rfl HRET.out
end Go.Proofs.YtnbdcnbhejfdhaaGreat
namespace Go.Proofs.YtnbdcnbhejfdhaaGreat.lm
open Go.RowKit
theorem bytes_map (s : ByteArray) : kit.bytes s = s.data.toList.map UInt8.toNat := rfl
theorem text_bytes {l : List Lab} {s : ByteArray} (h : textF l = (0, s)) : kit.bytes s = [123] ++ (behind l).drop 1 ++ [125] ∧ (∀ x ∈ l, good x = true) ∧ l ≠ [] := by
 obtain ⟨hc, he⟩ := text_iff.1 h
 obtain ⟨_, _, _, hg, hne⟩ := canon_form hc
 refine ⟨?_, hg.1, hne⟩
 rw [he, kit.bytes_str _ (textB_lt l)]; rfl
theorem index_name : ∀ (a : List UInt8) (r : List UInt8), (61 : UInt8) ∉ a → Lib.index (a ++ 61 :: 34 :: r) [61, 34] = a.length := by
 intro a
 induction a with
 | nil =>
  intro r _
  show Lib.index (61 :: 34 :: r) [61, 34] = _
  unfold Lib.index
  rw [if_pos (by simp [List.isPrefixOf])]
  rfl
 | cons b a ih =>
  intro r h
  have hb : b ≠ 61 := fun e => h (by rw [e]; exact List.mem_cons_self)
  have h2 := ih r (fun e => h (List.mem_cons_of_mem _ e))
  show Lib.index (b :: (a ++ 61 :: 34 :: r)) [61, 34] = _
  unfold Lib.index
  rw [if_neg (by simp [List.isPrefixOf]; exact fun e => absurd e.symm hb), h2]
  rw [if_neg (by simp <;> omega)]
  simp
theorem cut_tells (s : ByteArray) (N A : ByteArray) (B : Bool) (hN : N = ⟨(Lib.cut s.data.toList [61, 34]).1.toArray⟩) (hA : A = ⟨(Lib.cut s.data.toList [61, 34]).2.1.toArray⟩) (hB : B = (Lib.cut s.data.toList [61, 34]).2.2) :
    N.size ≤ s.size ∧ (B = true → A.size + 2 ≤ s.size) ∧ ∀ (x0 : Lab) (t : List Nat), good x0 = true → kit.bytes s = oneT x0 ++ t → B = true ∧ N = x0.1 ∧ kit.bytes A = escN (kit.bytes x0.2) ++ 34 :: t := by
  have hss : s.size = s.data.toList.length := by rw [Array.length_toList]; rfl
  unfold Lib.cut at hN hA hB
  refine ⟨?_, ?_, ?_⟩
  · rw [hN]
    split
    · show (List.take _ _).toArray.size ≤ _
      rw [List.size_toArray, List.length_take]; omega
    · show (s.data.toList).toArray.size ≤ _
      rw [List.size_toArray]; omega
  · intro hb
    rw [hB] at hb
    split at hb
    · rename_i h0
      have := Lib.index_room s.data.toList [61, 34] h0
      rw [hA, if_pos h0]
      show (List.drop _ _).toArray.size + 2 ≤ _
      rw [List.size_toArray, List.length_drop]
      simp only [List.length_cons, List.length_nil] at this ⊢
      omega
    · cases hb
  · intro x0 t hg hs
    have hsp : s.data.toList = x0.1.data.toList ++ 61 :: 34 :: ((escN (kit.bytes x0.2) ++ 34 :: t).map UInt8.ofNat) := by
      have h1 : (kit.bytes s).map UInt8.ofNat = s.data.toList := by rw [bytes_map, List.map_map]; conv => rhs; rw [← List.map_id s.data.toList]
                                                                    exact List.map_congr_left fun x _ => by simp
      have h2 : (kit.bytes x0.1).map UInt8.ofNat = x0.1.data.toList := by rw [bytes_map, List.map_map]; conv => rhs; rw [← List.map_id x0.1.data.toList]
                                                                          exact List.map_congr_left fun x _ => by simp
      rw [← h1, hs, ← h2]
      unfold oneT
      simp
    have h61 : (61 : UInt8) ∉ x0.1.data.toList := fun hm => good_no61 hg (List.mem_map.2 ⟨61, hm, rfl⟩)
    have hi := index_name x0.1.data.toList ((escN (kit.bytes x0.2) ++ 34 :: t).map UInt8.ofNat) h61
    rw [← hsp] at hi
    have h0 : 0 ≤ Lib.index s.data.toList [61, 34] := by rw [hi]; omega
    rw [if_pos h0] at hN hA hB
    rw [hi, Int.toNat_natCast] at hN hA
    refine ⟨hB, ?_, ?_⟩
    · rw [hN]
      refine ByteArray.ext ?_
      show (List.take _ _).toArray = _
      rw [hsp]
      exact congrArg List.toArray (List.take_left' rfl)
    · have hlt : ∀ x ∈ escN (kit.bytes x0.2) ++ 34 :: t, x < 256 := fun x hx => kit.bytes_lt s x (by
        rw [hs]
        unfold oneT
        rcases List.mem_append.1 hx with h | h
        · simp [h]
        · rcases List.mem_cons.1 h with rfl | h
          · simp
          · simp [h])
      rw [hA]
      show (List.drop _ _).toArray.toList.map UInt8.toNat = _
      rw [hsp, List.drop_append]
      have e1 : x0.1.data.toList.drop (x0.1.data.toList.length + ([61, 34] : List UInt8).length) = ([] : List UInt8) := List.drop_eq_nil_of_le (by simp)
      have e2 : x0.1.data.toList.length + ([61, 34] : List UInt8).length - x0.1.data.toList.length = 2 := by simp
      rw [e1, e2]
      show List.map UInt8.toNat (List.map UInt8.ofNat _) = _
      rw [List.map_map]
      conv => rhs; rw [← List.map_id (escN (kit.bytes x0.2) ++ 34 :: t)]
      exact List.map_congr_left fun x hx => by simpa using Nat.mod_eq_of_lt (hlt x hx)
def noComma (t : List Nat) : List Nat := if t.head? = some 44 then t.drop 1 else t
theorem trim_tells (A : ByteArray) : kit.bytes ⟨(Lib.trimPrefix A.data.toList [44]).toArray⟩ = noComma (kit.bytes A) ∧ (⟨(Lib.trimPrefix A.data.toList [44]).toArray⟩ : ByteArray).size ≤ A.size := by
 have hss : A.size = A.data.toList.length := by rw [Array.length_toList]; rfl
 have hsz : ∀ l : List UInt8, (⟨l.toArray⟩ : ByteArray).size = l.length := fun l => List.size_toArray
 rw [hsz, hss]
 show List.map UInt8.toNat _ = noComma (List.map UInt8.toNat A.data.toList) ∧ _
 unfold Lib.trimPrefix Lib.hasPrefix noComma
 cases A.data.toList with
 | nil => exact ⟨rfl, Nat.le_refl _⟩
 | cons x r =>
  by_cases hx : x = 44
  ·
   subst hx
   exact ⟨rfl, Nat.le_succ _⟩
  ·
   have h1 : ([44] : List UInt8).isPrefixOf (x :: r) = false := by
    simp [List.isPrefixOf]; exact fun e => hx e.symm
   have h2 : ¬ x.toNat = 44 := fun e => hx (UInt8.toNat_inj.1 e)
   rw [h1]
   refine ⟨?_, Nat.le_refl _⟩
   show List.map UInt8.toNat (x :: r) = _
   show List.map UInt8.toNat (x :: r) = _
   have h3 : ¬ (List.map UInt8.toNat (x :: r)).head? = some 44 := fun e => h2 (by simpa using e)
   rw [if_neg h3]
theorem bytes_tail (A : ByteArray) (i : Nat) : kit.bytes (A.extract i A.size) = (kit.bytes A).drop i := by
 show List.map UInt8.toNat (A.extract i A.size).data.toList = (List.map UInt8.toNat A.data.toList).drop i
 rw [ByteArray.data_extract, Array.toList_extract, List.extract_eq_take_drop, List.map_take, List.map_drop, List.take_of_length_le]
 rw [List.length_drop, List.length_map, Array.length_toList]
 exact Nat.le_refl _
theorem esc_nil : escN [] = [] := rfl
theorem esc_cons (x : Nat) (r : List Nat) : escN (x :: r) = esc1 x ++ escN r := rfl
theorem esc_at {v t : List Nat} {c : Nat} {r : List Nat} (h : escN v ++ 34 :: t = c :: r) :
  (c = 34 → v = [] ∧ r = t) ∧ (c ≠ 34 → c ≠ 92 → ∃ v', v = c :: v' ∧ r = escN v' ++ 34 :: t) ∧ (c = 92 → ∃ y v' r', r = y :: r' ∧ v = y :: v' ∧ r' = escN v' ++ 34 :: t ∧ (y = 34 ∨ y = 92)) := by
 cases v with
 | nil =>
  rw [esc_nil, List.nil_append, List.cons.injEq] at h
  obtain ⟨rfl, rfl⟩ := h
  exact ⟨fun _ => ⟨rfl, rfl⟩, fun e => absurd rfl e, fun e => absurd e (by decide)⟩
 | cons y v' =>
  rw [esc_cons] at h
  unfold esc1 at h
  split at h
  ·
   rename_i hy
   simp only [List.cons_append, List.nil_append, List.cons.injEq] at h
   obtain ⟨rfl, rfl⟩ := h
   exact ⟨fun e => absurd e (by decide), fun _ e => absurd rfl e, fun _ => ⟨y, v', _, rfl, rfl, rfl, hy⟩⟩
  ·
   rename_i hy
   simp only [List.cons_append, List.nil_append, List.cons.injEq] at h
   obtain ⟨rfl, rfl⟩ := h
   exact ⟨fun e => absurd (Or.inl e) hy, fun _ _ => ⟨v', rfl, rfl⟩, fun e => absurd (Or.inr e) hy⟩
end Go.Proofs.YtnbdcnbhejfdhaaGreat.lm
namespace Go.Proofs.YtnbdcnbhejfdhaaGreat
open Go.RowKit Go.ChangeShapes cl
def MX (w : World) : Prop := ∃ m : Int, w.cell? ⟨0, 0, none⟩ = some (.int .i64 m)
theorem MX.next {w w' : World} (h : MX w) (hb : Below w.heap.size w w') : MX w' := by
 obtain ⟨m, hm⟩ := h
 exact ⟨m, (hb.cell (p := ⟨0, 0, none⟩) (World.block_lt_of_cell? _ _ hm)).trans hm⟩
def FirstP (s : ByteArray) (w : World) (e : Ending) (w' : World) : Prop := ∃ (x : Lab) (left : ByteArray) (ok : Bool), e = .returned (.tuple #[.agg #[.string x.1, .string x.2], .string left, .bool ok]) ∧ Below w.heap.size w w' ∧
 (ok = true → left.size < s.size ∧ x.1.size ≤ s.size ∧ x.2.size ≤ s.size) ∧ ∀ x0 t, lm.good x0 = true → kit.bytes s = lm.oneT x0 ++ t → ok = true ∧ x = x0 ∧ kit.bytes left = lm.noComma t
theorem first_bad {s : ByteArray} {w W : World} (h : ∀ x0 t, lm.good x0 = true → kit.bytes s = lm.oneT x0 ++ t → False) (hb : Below w.heap.size w W) : FirstP s w (.returned (.tuple #[.agg #[.string ⟨#[]⟩, .string ⟨#[]⟩], .string ⟨#[]⟩, .bool false])) W :=
 ⟨(⟨#[]⟩, ⟨#[]⟩), ⟨#[]⟩, false, rfl, hb, fun e => absurd e (by decide), fun x0 t hg hs => (h x0 t hg hs).elim⟩
set_option maxHeartbeats 3200000 in
set_option maxRecDepth 100000 in
theorem first_any (s : ByteArray) (w : World) (hs : s.size ≤ 600) (hm : MX w) :
  Calls Tryz.prog 42 #[.string s] w (FirstP s w) := by
 obtain ⟨m, hmc⟩ := hm
 have hz0 : 0 < w.heap.size := World.block_lt_of_cell? _ _ hmc
 obtain ⟨N, hN⟩ : ∃ N : ByteArray, N = ⟨(Lib.cut s.data.toList [61, 34]).1.toArray⟩ := ⟨_, rfl⟩
 obtain ⟨A, hA⟩ : ∃ A : ByteArray, A = ⟨(Lib.cut s.data.toList [61, 34]).2.1.toArray⟩ := ⟨_, rfl⟩
 obtain ⟨B, hB⟩ : ∃ B : Bool, B = (Lib.cut s.data.toList [61, 34]).2.2 := ⟨_, rfl⟩
 have htell := lm.cut_tells s N A B hN hA hB
 have hcut : ∀ W : World, W.cell? ⟨0, 0, none⟩ = some (.int .i64 m) → Calls Tryz.prog 63 #[.string s, .string ⟨#[61, 34]⟩] W fun e w' => e = .returned (.tuple #[.string N, .string A, .bool B]) ∧ ∃ n, w' = W.drewN n := fun W hW => by
  have := Tryz.strings_Cut s ⟨#[61, 34]⟩ m W (by omega) hW
  rw [hN, hA, hB]; exact this
 have hA0 : Below w.heap.size w (w.alloc (.cells #[.string ⟨#[]⟩, .string ⟨#[]⟩] 82)) := (Below.refl _ _).alloc (Nat.le_refl _) _
 have HC := Lib.hid (hcut (w.alloc (.cells #[.string ⟨#[]⟩, .string ⟨#[]⟩] 82)) ((hA0.cell (p := ⟨0, 0, none⟩) hz0).trans hmc))
 obtain ⟨t1, t2, t3⟩ := htell
 have HT := Lib.hid t3
 clear hN hA hB hcut t3 hmc
 by_cases hb : B = true
 rotate_left
 ·
  have hbf : B = false := by simpa using hb
  rw [hbf] at HC
  have HNO : Hid (∀ x0 t, lm.good x0 = true → kit.bytes s = lm.oneT x0 ++ t → False) := fun x0 t hg he => hb (HT.out x0 t hg he).1
  clear hb hbf
  go_enter Tryz.func42, Tryz.ntmps42
  go_wp2_with fail
  (with_reducible refine HC.out.mono ?_)
  rintro e w1 ⟨rfl, nq, rfl⟩
  have hb1 : Below (w.alloc (.cells #[.string ⟨#[]⟩, .string ⟨#[]⟩] 82)).heap.size (w.alloc (.cells #[.string ⟨#[]⟩, .string ⟨#[]⟩] 82)) ((w.alloc (.cells #[.string ⟨#[]⟩, .string ⟨#[]⟩] 82)).drewN nq) := below_drewN (Below.refl _ _) nq
  obtain ⟨c0, c1, f0, f1, hz1⟩ := two hb1
  have hbA := hA0.trans (hb1.mono (by simp))
  have HRET := Lib.hid (fun W (hb : Below w.heap.size w W) => first_bad HNO.out hb)
  have hset := (hbA.setCell (p := ⟨w.heap.size, 0, none⟩) (Nat.le_refl _) (.string ⟨#[]⟩)).setCell (p := ⟨w.heap.size, 1, none⟩) (Nat.le_refl _) (.string ⟨#[]⟩)
  have HR2 := Lib.hid (HRET.out _ hset)
  go_wp2
  refine bodyPost_ret (v := .tuple #[.agg #[.string ⟨#[]⟩, .string ⟨#[]⟩], .string ⟨#[]⟩, .bool false]) (by simp [results, Tryz.results42, go_sem]) rfl HR2.out
 rw [hb] at HC
 have hAs := t2 hb
 have HTT : Hid (∀ x0 t, lm.good x0 = true → kit.bytes s = lm.oneT x0 ++ t → N = x0.1 ∧ kit.bytes A = escN (kit.bytes x0.2) ++ 34 :: t) := fun x0 t hg he => (HT.out x0 t hg he).2
 have HNs := Lib.hid t1
 clear hb t1 t2
 go_enter Tryz.func42, Tryz.ntmps42
 go_wp2_with fail
 (with_reducible refine HC.out.mono ?_)
 rintro e w1 ⟨rfl, nq, rfl⟩
 have hb1 : Below (w.alloc (.cells #[.string ⟨#[]⟩, .string ⟨#[]⟩] 82)).heap.size (w.alloc (.cells #[.string ⟨#[]⟩, .string ⟨#[]⟩] 82)) ((w.alloc (.cells #[.string ⟨#[]⟩, .string ⟨#[]⟩] 82)).drewN nq) := below_drewN (Below.refl _ _) nq
 generalize hw1 : (w.alloc (.cells #[.string ⟨#[]⟩, .string ⟨#[]⟩] 82)).drewN nq = w1 at hb1 ⊢
 obtain ⟨c0, c1, f0, f1, hz1⟩ := two hb1
 have hbA := hA0.trans (hb1.mono (by simp))
 have hA6 : A.size ≤ 600 := by omega
 have HU := Lib.hid infoU8
 clear hw1 hb1
 go_wp2
 go_loopw [7, 8, 24, 38] (fun o i _ _ wr => ∃ (k : Nat) (val : List Nat), i = .int .i64 k ∧ k ≤ A.size ∧ val.length ≤ k ∧ Hid (wr.ownsRow w1.heap.size 5 1 o val.length (kit.u8s val)) ∧ Below w1.heap.size w1 wr ∧ Hid (∀ v0 t, kit.bytes A = escN v0 ++ 34 :: t → ∃ j, j ≤ v0.length ∧ val = v0.take j ∧ (kit.bytes A).drop k = escN (v0.drop j) ++ 34 :: t)) (fun _ i _ _ _ => A.size - (intOf i).toNat)
 case atStart => exact ⟨0, [], rfl, Nat.zero_le _, Nat.zero_le _, ⟨rfl, Or.inl ⟨rfl, rfl⟩⟩, Below.refl _ _, fun v0 t h => ⟨0, Nat.zero_le _, rfl, by simpa using h⟩⟩
 case round =>
  obtain ⟨k, val, rfl, hk, hvl, HO, hbl, HI⟩ := hrel
  have g0 := (hbl.cell (p := ⟨w.heap.size, 0, none⟩) hz1).trans c0
  have g1 := (hbl.cell (p := ⟨w.heap.size, 1, none⟩) hz1).trans c1
  have e0 := (hbl.frozen (p := ⟨w.heap.size, 0, none⟩) hz1).trans f0
  have e1 := (hbl.frozen (p := ⟨w.heap.size, 1, none⟩) hz1).trans f1
  have hz := hbl.size
  have hbw := hbA.trans (hbl.mono (by omega))
  by_cases hlt : k < A.size
  ·
   have hkI : (k : Int) < (A.size : Int) := by omega
   have HDR := Lib.hid (kit.bytes_drop A k hlt)
   by_cases h34 : (A[k]'hlt).toNat = 34
   ·
    have HB : Hid ((A[k]'hlt).toNat = 34) := h34
    have g34b : (((A[k]'hlt).toNat : Int) == 34) = true := by rw [h34]; rfl
    have hstr := fun q => kit.run_string (P := Tryz.prog) (src := 107) (dst := 9) Tryz.underlying107 Tryz.underlying5 Tryz.underlying9 (own_stay HO.out (below_drewN (Below.refl _ _) q))
    obtain ⟨LF, hLF⟩ : ∃ L : ByteArray, L = ⟨(Lib.trimPrefix (A.extract (k + 1) A.size).data.toList [44]).toArray⟩ := ⟨_, rfl⟩
    have htr := lm.trim_tells (A.extract (k + 1) A.size)
    rw [← hLF, lm.bytes_tail] at htr
    have hex : (A.extract (k + 1) A.size).size = A.size - (k + 1) := by rw [ByteArray.size_extract]; omega
    have HTP : Hid (∀ W : World, Calls Tryz.prog 64 #[.string (A.extract (k + 1) A.size), .string ⟨#[44]⟩] W fun e w' => e = .returned (.string LF) ∧ w' = W) := fun W => by
     have := Tryz.strings_TrimPrefix (A.extract (k + 1) A.size) ⟨#[44]⟩ W
     rw [hLF]; exact this
    obtain ⟨V, hV⟩ : ∃ V, V = kit.str val := ⟨_, rfl⟩
    rw [← hV] at hstr
    have hstr1 := kit.run_string (P := Tryz.prog) (w := wr.drew) (src := 107) (dst := 9) Tryz.underlying107 Tryz.underlying5 Tryz.underlying9 HO.out
    rw [← hV] at hstr1
    have HRET : Hid (∀ W, Below w.heap.size w W → FirstP s w (.returned (.tuple #[.agg #[.string N, .string V], .string LF, .bool true])) W) := fun W hW => by
     refine ⟨(N, V), LF, true, rfl, hW, fun _ => ⟨by have := htr.2; omega, HNs.out, by show V.size ≤ _; rw [hV, kit.str_size]; omega⟩, fun x0 t hg he => ?_⟩
     obtain ⟨a1, a2⟩ := HTT.out x0 t hg he
     obtain ⟨j, hj, hv, hd⟩ := HI.out _ _ a2
     rw [HDR.out, HB.out] at hd
     obtain ⟨b1, b2⟩ := (lm.esc_at hd.symm).1 rfl
     have hjl : (kit.bytes x0.2).length ≤ j := by
      have := congrArg List.length b1
      rw [List.length_drop, List.length_nil] at this; omega
     refine ⟨rfl, ?_, by rw [htr.1, b2]⟩
     rw [hV, a1, hv, List.take_of_length_le hjl, kit.str_bytes]
    have wa : IntKind.i64.wrap ((k : Int) + 1) = (k : Int) + 1 := IntWalk.i64_in _ (by omega)
    have wb : ((k : Int) + 1).toNat = k + 1 := by omega
    have wc : (k : Int) + 1 ≤ (A.size : Int) := by omega
    have wz : (0 : Int) ≤ (k : Int) + 1 := by omega
    have wn : k + 1 ≤ A.size := hlt
    clear hLF htr hex hV h34
    go_wp2
    go_region_with (go_at_call 64; (with_reducible refine (HTP.out _).mono ?_); rintro e w' ⟨rfl, rfl⟩)
    all_goals
     go_wp2
     refine bodyPost_ret (v := .tuple #[.agg #[.string N, .string V], .string LF, .bool true]) (by simp [results, Tryz.results42, go_sem, g0, g1]) rfl (HRET.out _ ?_)
     exact (hbw.drew.setCell (p := ⟨w.heap.size, 0, none⟩) (Nat.le_refl _) (.string N)).setCell (p := ⟨w.heap.size, 1, none⟩) (Nat.le_refl _) (.string V)
   ·
    have g34 : ¬ ((A[k]'hlt).toNat : Int) = 34 := by omega
    have g34b : (((A[k]'hlt).toNat : Int) == 34) = false := by simpa using g34
    by_cases h92 : (A[k]'hlt).toNat = 92
    ·
     have g92 : (((A[k]'hlt).toNat : Int) == 92) = true := by rw [h92]; rfl
     by_cases hk1 : k + 1 < A.size
     ·
      have hk1I : (k : Int) + 1 < (A.size : Int) := by omega
      have HDR1 := Lib.hid (kit.bytes_drop A (k + 1) hk1)
      have HI2 : Hid (∀ v0 t, kit.bytes A = escN v0 ++ 34 :: t → ∃ j, j ≤ v0.length ∧ val ++ [(A[k + 1]'hk1).toNat] = v0.take j ∧ (kit.bytes A).drop (k + 2) = escN (v0.drop j) ++ 34 :: t) := fun v0 t h => by
       obtain ⟨j, hj, hv, hd⟩ := HI.out v0 t h
       rw [HDR.out, HDR1.out] at hd
       obtain ⟨y, v', r', e1, e2, e3, _⟩ := (lm.esc_at hd.symm).2.2 h92
       simp only [List.cons.injEq] at e1
       obtain ⟨rfl, rfl⟩ := e1
       have hjl : j < v0.length := by
        have := congrArg List.length e2
        rw [List.length_drop, List.length_cons] at this; omega
       rw [List.drop_eq_getElem_cons hjl] at e2
       simp only [List.cons.injEq] at e2
       exact ⟨j + 1, hjl, by rw [List.take_succ_eq_append_getElem hjl, hv, e2.1], by rw [e2.2]; exact e3⟩
      go_wp2_with (at_builtin; refine kit.app1 (.tmp 52) (.tmp 56) 107 rfl rfl w1.heap.size Tryz.underlying107 infoU8 rfl (by decide) (by decide) HO.out rfl rfl rfl (by intro u hu; simp at hu; subst hu; rfl) (by omega) hz ?_)
      intro v2 w2 hown2 hb2
      have HO2 : Hid (w2.ownsRow w1.heap.size 5 1 v2 (val ++ [(A[k + 1]'hk1).toNat]).length (kit.u8s (val ++ [(A[k + 1]'hk1).toNat]))) := by
       show World.ownsRow _ _ _ _ _ _ _
       rw [kit.u8s_app]; simpa [kit.u8s] using hown2
      have hl2 : (val ++ [(A[k + 1]'hk1).toNat]).length ≤ k + 1 := by simp; omega
      have hbl2 := hbl.trans hb2
      clear hown2 hb2
      go_wp2
      go_roundw
      case rel => exact ⟨k + 2, val ++ [(A[k + 1]'hk1).toNat], by go_num, by omega, by omega, HO2.out, hbl2, HI2.out⟩
      case measure => simp [intOf]; omega
     ·
      have hkl : k + 1 = A.size := by omega
      have hk1I : ¬ (k : Int) + 1 < (A.size : Int) := by omega
      have HI2 : Hid (∀ v0 t, kit.bytes A = escN v0 ++ 34 :: t → ∃ j, j ≤ v0.length ∧ val ++ [92] = v0.take j ∧ (kit.bytes A).drop (k + 1) = escN (v0.drop j) ++ 34 :: t) := fun v0 t h => by
       obtain ⟨j, hj, hv, hd⟩ := HI.out v0 t h
       rw [HDR.out] at hd
       obtain ⟨y, v', r', e1, _⟩ := (lm.esc_at hd.symm).2.2 h92
       rw [List.drop_eq_nil_of_le (by rw [kit.bytes_len]; omega)] at e1
       cases e1
      go_wp2_with (at_builtin; refine kit.app1 (.tmp 52) (.tmp 56) 107 rfl rfl w1.heap.size Tryz.underlying107 infoU8 rfl (by decide) (by decide) HO.out rfl rfl rfl (by intro u hu; simp at hu; subst hu; rfl) (by omega) hz ?_)
      intro v2 w2 hown2 hb2
      have HO2 : Hid (w2.ownsRow w1.heap.size 5 1 v2 (val ++ [92]).length (kit.u8s (val ++ [92]))) := by
       show World.ownsRow _ _ _ _ _ _ _
       rw [kit.u8s_app]; simpa [kit.u8s] using hown2
      have hl2 : (val ++ [92]).length ≤ k + 1 := by simp; omega
      have hbl2 := hbl.trans hb2
      clear hown2 hb2
      go_wp2
      go_roundw
      case rel => exact ⟨k + 1, val ++ [92], by go_num, by omega, by omega, HO2.out, hbl2, HI2.out⟩
      case measure => simp [intOf]; omega
    ·
     have g92 : ¬ ((A[k]'hlt).toNat : Int) = 92 := by omega
     have g92b : (((A[k]'hlt).toNat : Int) == 92) = false := by simpa using g92
     have HI2 : Hid (∀ v0 t, kit.bytes A = escN v0 ++ 34 :: t → ∃ j, j ≤ v0.length ∧ val ++ [(A[k]'hlt).toNat] = v0.take j ∧ (kit.bytes A).drop (k + 1) = escN (v0.drop j) ++ 34 :: t) := fun v0 t h => by
      obtain ⟨j, hj, hv, hd⟩ := HI.out v0 t h
      rw [HDR.out] at hd
      obtain ⟨v', e1, e2⟩ := (lm.esc_at hd.symm).2.1 h34 h92
      have hjl : j < v0.length := by
       have := congrArg List.length e1
       rw [List.length_drop, List.length_cons] at this; omega
      rw [List.drop_eq_getElem_cons hjl] at e1
      simp only [List.cons.injEq] at e1
      exact ⟨j + 1, hjl, by rw [List.take_succ_eq_append_getElem hjl, hv, e1.1], by rw [e1.2]; exact e2⟩
     go_wp2_with (at_builtin; refine kit.app1 (.tmp 52) (.tmp 56) 107 rfl rfl w1.heap.size Tryz.underlying107 infoU8 rfl (by decide) (by decide) HO.out rfl rfl rfl (by intro u hu; simp at hu; subst hu; rfl) (by omega) hz ?_)
     intro v2 w2 hown2 hb2
     have HO2 : Hid (w2.ownsRow w1.heap.size 5 1 v2 (val ++ [(A[k]'hlt).toNat]).length (kit.u8s (val ++ [(A[k]'hlt).toNat]))) := by
      show World.ownsRow _ _ _ _ _ _ _
      rw [kit.u8s_app]; simpa [kit.u8s] using hown2
     have hl2 : (val ++ [(A[k]'hlt).toNat]).length ≤ k + 1 := by simp; omega
     have hbl2 := hbl.trans hb2
     clear hown2 hb2
     go_wp2
     go_roundw
     case rel => exact ⟨k + 1, val ++ [(A[k]'hlt).toNat], by go_num, by omega, by omega, HO2.out, hbl2, HI2.out⟩
     case measure => simp [intOf]; omega
  ·
   obtain rfl : k = A.size := by omega
   have HNO : Hid (∀ x0 t, lm.good x0 = true → kit.bytes s = lm.oneT x0 ++ t → False) := fun x0 t hg he => by
    obtain ⟨j, hj, hv, hd⟩ := HI.out _ _ (HTT.out x0 t hg he).2
    rw [List.drop_eq_nil_of_le (by rw [kit.bytes_len]; exact Nat.le_refl _)] at hd
    have := congrArg List.length hd
    simp at this
   have hset := (hbw.setCell (p := ⟨w.heap.size, 0, none⟩) (Nat.le_refl _) (.string ⟨#[]⟩)).setCell (p := ⟨w.heap.size, 1, none⟩) (Nat.le_refl _) (.string ⟨#[]⟩)
   have HR2 := Lib.hid (first_bad HNO.out hset)
   go_wp2
   refine bodyPost_ret (v := .tuple #[.agg #[.string ⟨#[]⟩, .string ⟨#[]⟩], .string ⟨#[]⟩, .bool false]) (by simp [results, Tryz.results42, go_sem, g0, g1]) rfl HR2.out
end Go.Proofs.YtnbdcnbhejfdhaaGreat
