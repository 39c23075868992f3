/- All, and the document's. -/
import Derived.Test.YtilnmfbimfmacaaRefCut2
namespace Go.Proofs.Ytilnmfbimfmacaa
open Go.RowKit Go.ChangeShapes Go.Joins cl pg

theorem infoPage : (Try.prog.info? 26).map (fun i => (i.zero, i.size, i.bytes)) = some (some (.agg #[.slice none 0 0, .string .empty, .bool false]), 3, 48) := by kernel_rfl
/-- pages as they lie: each with the slice of its list -/
def pcells (ps : List (Value × Pg)) : List Value := ps.flatMap fun p => [p.1, .string p.2.after, .bool p.2.more]
theorem pcells_app (a b : List (Value × Pg)) : pcells (a ++ b) = pcells a ++ pcells b := by simp [pcells]
/-- each page's list is the call's own, from block B on -/
def PgsOk (w : World) (B : Nat) (ps : List (Value × Pg)) : Prop := ∀ p ∈ ps, w.ownsRow B 9 1 p.1 p.2.list.length (strs p.2.list)
theorem own_stay {B : Nat} {e : TypeId} {k : Nat} {v : Value} {n : Nat} {xs : List Value} {w w' : World} (h : w.ownsRow B e k v n xs) (hb : Below w.heap.size w w') : w'.ownsRow B e k v n xs :=
  h.kept (row := none) ⟨hb.os, hb.tape, hb.output, hb.size, fun i hi _ => hb.block i hi⟩ (by cases v.ownBlock <;> simp)
theorem PgsOk.next {w w' : World} {B : Nat} {ps : List (Value × Pg)} (h : PgsOk w B ps) (hb : Below w.heap.size w w') : PgsOk w' B ps := fun p hp => own_stay (h p hp) hb
theorem PgsOk.alloc {w : World} {B : Nat} {ps : List (Value × Pg)} (h : PgsOk w B ps) (o : Obj) : PgsOk (w.alloc o) B ps := fun p hp => (h p hp).alloc o
/-- slices of elements of unlike types lie in unlike blocks -/
theorem own_apart {w : World} {B B' k k' n n' : Nat} {e e' : TypeId} {v v' : Value} {xs ys : List Value} (h : w.ownsRow B e k v n xs) (h' : w.ownsRow B' e' k' v' n' ys) (hne : e ≠ e') : v.ownBlock = none ∨ v.ownBlock ≠ v'.ownBlock := by
  rcases h.2 with ⟨rfl, _⟩ | ⟨g, cap, cur, rfl, _, hg, _⟩
  · exact Or.inl rfl
  · rcases h'.2 with ⟨rfl, _⟩ | ⟨g', cap', cur', rfl, _, hg', _⟩
    · exact Or.inr (fun e => by cases e)
    · refine Or.inr fun e => hne ?_
      have : g = g' := Option.some.inj e
      subst this
      rw [hg] at hg'
      cases hg'
      rfl
theorem PgsOk.grown {w w' : World} {B B' k n : Nat} {e : TypeId} {v : Value} {xs : List Value} {ps : List (Value × Pg)} (h : PgsOk w B ps) (ho : w.ownsRow B' e k v n xs) (hne : 9 ≠ e) (hg : w.grownBy w' v.ownBlock) : PgsOk w' B ps := fun p hp =>
  (h p hp).kept hg (own_apart (h p hp) ho hne)
theorem PgsOk.snoc {w : World} {B : Nat} {ps : List (Value × Pg)} {p : Value × Pg} (h : PgsOk w B ps) (hp : w.ownsRow B 9 1 p.1 p.2.list.length (strs p.2.list)) : PgsOk w B (ps ++ [p]) := by
  intro q hq
  rcases List.mem_append.1 hq with hq | hq
  · exact h q hq
  · obtain rfl : q = p := by simpa using hq
    exact hp
/-- append of one element behind a slice of the call's own; which block may have been written -/
theorem app1g {P : Program} {w : World} {ops : Array Oper} {rest : List Oper} {o : Oper} {a : Act} {Q : Exit → Act → World → Prop} {cs : Array Value} {e' : TypeId}
    (s x : Operand) (t : TypeId) (hgd : o.guard = none)
    (ho : o.op = .call { callee := .builtin .append, args := #[s, x], argTypes := #[t, t] })
    (base : Nat) {e : TypeId} {z : Value} {size bytes : Nat} (ht : P.underlying t = some (.slice e)) (hi : (P.info? e).map (fun i => (i.zero, i.size, i.bytes)) = some (some z, size, bytes))
    (hzs : z.cells.size = size) (hsz : 0 < size) (hb1 : 0 < bytes)
    {v : Value} {n : Nat} {xs : List Value} {c : Nat} (hown : w.ownsRow base e size v n xs) (hs : a.eval s = v) (hx : a.eval x = .slice (some ⟨w.heap.size, 0, none⟩) 1 c)
    (hcs : cs.size = size) (h1 : ∀ u ∈ cs.toList, u.oneCell' = true) (hbytes : (n + 1) * bytes ≤ 140737488355328) (hbase : base ≤ w.heap.size)
    (h : ∀ v' w', w'.ownsRow base e size v' (n + 1) (xs ++ cs.toList) → (w.alloc (.cells cs e')).grownBy w' v.ownBlock → wpList P ops Q rest (a.put o.dst v') w') :
    wpList P ops Q (o :: rest) a (w.alloc (.cells cs e')) := by
  obtain ⟨i, hi, hz, hsize, hby⟩ := info_parts hi
  have hle : n + 1 ≤ (n + 1) * bytes := Nat.le_mul_of_pos_right _ hb1
  refine wpList_append_own _ hgd s x t ho base e i z size bytes ht hi hz hsize hby hzs hsz v n xs hs (hown.alloc _) ⟨w.heap.size, 0, none⟩ 1 c cs.toList hx (by simp [hcs]) ?_ h1
    (by unfold maxLen; omega) hbytes (by simp; omega) fun v' w' r1 r2 _ => h v' w' r1 r2
  intro j u hj
  rw [Array.getElem?_toList] at hj
  rw [Addr.add_lit, Nat.zero_add, World.cell?_alloc_at _ _ _ _ rfl]
  exact hj
def RetPages (l : List Pg) (w : World) (e : Ending) (w' : World) : Prop := ∃ (v : Value) (ps : List (Value × Pg)), e = .returned v ∧ ps.map (·.2) = l ∧ w'.ownsRow w.heap.size 26 3 v ps.length (pcells ps) ∧ PgsOk w' w.heap.size ps ∧ Below w.heap.size w w'

/-- a cell of the page's own block, behind the append -/
theorem p_cell {w w5 : World} {B k n i : Nat} {e t : TypeId} {v u : Value} {xs : List Value} {cs : Array Value} {o : Obj} (ho : w.ownsRow B e k v n xs) (hg : ((w.alloc (.cells cs t)).alloc o).grownBy w5 v.ownBlock) (hi : cs[i]? = some u) : w5.cell? ⟨w.heap.size, i, none⟩ = some u := by
  refine (World.cell?_of_block (hg.block w.heap.size (by simp; omega) (fun e => ?_))).trans ?_
  · have := (ho.lt _ e.symm).2; omega
  · rw [World.cell?_alloc_past _ _ _ (by simp), World.cell?_alloc_at _ _ _ _ rfl]; exact hi
theorem beh_elem {l : List ByteArray} (h : Ris l) {t : Nat} (h0 : 0 < t) (ht : t ≤ l.length) : beh l (l.getD (t - 1) .empty) = t := by
  refine beh_of h ⟨ht, fun j hj => ?_, fun j hj hl => ris_get h (by omega) hl⟩
  by_cases e : j = t - 1
  · rw [e]; exact lt_irrefl _
  · exact lt_asymm (ris_get h (show j < t - 1 by omega) (by omega))
theorem beh_empty {l : List ByteArray} (h : okL l) : beh l .empty = 0 := beh_of h.1 ⟨Nat.zero_le _, fun _ hj => absurd hj (Nat.not_lt_zero _), fun _ _ hl => empty_lt (h.2.1 _ (mem_get hl))⟩
theorem cut_at {l : List ByteArray} {a : ByteArray} {most : Int} {m k : Nat} (he : most = (m : Int)) (hm : 0 < m) (hk : k * m < l.length) (hb : beh l a = k * m) : cut l a most = page l m k := by
  have hs : (k + 1) * m = k * m + m := by rw [Nat.add_mul, Nat.one_mul]
  unfold cut cutTo page
  rw [hb, clamp_pos he hm, hs, if_neg (by omega)]
  congr 1
  · rw [← List.length_drop, ← List.take_eq_take_min]
  · congr 1; omega
  · congr 1
    by_cases hb : m ≤ l.length - k * m
    · rw [Nat.min_eq_left hb]
    · rw [Nat.min_eq_right (by omega)]
      have e1 : ¬ (k * m + (l.length - k * m) < l.length) := by omega
      have e2 : ¬ (k * m + m < l.length) := by omega
      simp only [e1, e2]
theorem page_len {l : List ByteArray} {m k : Nat} (hm : 0 < m) (hk : k * m < l.length) : 0 < (page l m k).list.length ∧ (page l m k).list.length ≤ l.length := by
  unfold page
  simp only [List.length_take, List.length_drop]
  omega
theorem page_beh {l : List ByteArray} (h : Ris l) {m k : Nat} (hm : 0 < m) (hk : k * m < l.length) : beh l (page l m k).after = min ((k + 1) * m) l.length := by
  have hs : (k + 1) * m = k * m + m := by rw [Nat.add_mul, Nat.one_mul]
  unfold page
  exact beh_elem h (by omega) (by omega)
theorem page_above {l : List ByteArray} (h : Ris l) {a : ByteArray} {m k : Nat} (hm : 0 < m) (hk : k * m < l.length) (hb : beh l a = k * m) : lt a (page l m k).after = true := by
  have hs : (k + 1) * m = k * m + m := by rw [Nat.add_mul, Nat.one_mul]
  have := split_beh h a
  rw [hb] at this
  unfold page
  exact this.2.2 _ (by omega) (by omega)
theorem all_pages {l : List ByteArray} {most : Int} {m : Nat} (he : most = (m : Int)) (hm : 0 < m) {k : Nat} (h1 : l.length ≤ k * m) (h2 : k = 0 ∨ (k - 1) * m < l.length) : (List.range k).map (page l m) = all l most := by
  have hk : k = count l.length m := by
    rcases Nat.lt_trichotomy k (count l.length m) with e | e | e
    · have := (count_lt hm).1 e; omega
    · exact e
    · rcases h2 with h2 | h2
      · omega
      · have : k - 1 < count l.length m := (count_lt hm).2 h2
        omega
  subst he
  unfold all
  rw [if_neg (by omega), Int.toNat_natCast, ← hk]
theorem range_snoc (f : Nat → Pg) (k : Nat) : (List.range (k + 1)).map f = (List.range k).map f ++ [f k] := by rw [List.range_succ, List.map_append]; rfl
theorem all_low {l : List ByteArray} {most : Int} (h : most < 1) : all l most = [] := by unfold all; rw [if_pos h]

set_option maxHeartbeats 3200000 in
set_option maxRecDepth 100000 in
theorem all_any (l : List ByteArray) (v : Value) (most : Int) (w : World) (h : Strs w w.heap.size v l) (hok : okL l) :
    Calls Try.prog 12 #[v, .int .i64 most] w (RetPages (all l most) w) := by
  by_cases hlow : most < 1
  · have HR : Hid (all l most = []) := all_low hlow
    rw [HR.out]
    go_enter Try.func12, Try.ntmps12
    go_wp2
    go_step3
    go_wp2
    try rw [Exit.noGoto_ret]
    go_ret
    exact ⟨_, [], rfl, rfl, World.ownsRow_nil _ _ _ _, fun p hp => (by cases hp), Below.refl _ _⟩
  · obtain ⟨m, hm⟩ : ∃ m : Nat, most = (m : Int) := ⟨most.toNat, by omega⟩
    have hmp : 0 < m := by omega
    have HM := Lib.hid hm
    have HOK := Lib.hid hok
    have hl2 := hok.2.2.1
    have HC : Hid (∀ (W : World) (a : ByteArray), Below w.heap.size w W → Calls Try.prog 10 #[v, .string a, .int .i64 most] W (RetPage (cut l a most) W)) := fun W a hb =>
      cut_any l v a most W ((h.below hb).mono hb.size) hok.1 hok.2.2.1
    have HB0 := Lib.hid (beh_empty hok)
    obtain ⟨n, hn⟩ : ∃ n, n = l.length := ⟨_, rfl⟩
    rw [← hn] at hl2
    have HN := Lib.hid hn
    clear hok h hm hn
    go_enter Try.func12, Try.ntmps12
    go_wp2
    go_step3
    go_wp2
    go_step3
    go_wp2
    go_loopg [5, 6, 7] (n + 1) (fun g vo va _ wr => ∃ (k : Nat) (a : ByteArray) (ps : List (Value × Pg)), va = .string a ∧ n + 1 - k ≤ g ∧ k ≤ n ∧ Hid (beh l a = min (k * m) n) ∧ Hid (k = 0 ∨ (k - 1) * m < n) ∧ Hid (ps.map (·.2) = (List.range k).map (page l m)) ∧ Hid (wr.ownsRow w.heap.size 26 3 vo ps.length (pcells ps)) ∧ PgsOk wr w.heap.size ps ∧ Below w.heap.size w wr)
    case atStart => exact ⟨0, .empty, [], rfl, by omega, Nat.zero_le _, by rw [Nat.zero_mul, Nat.zero_min]; exact HB0.out, Or.inl rfl, rfl, World.ownsRow_nil _ _ _ _, fun p hp => (by cases hp), Below.refl _ _⟩
    case round =>
      obtain ⟨k, a, ps, rfl, hg, hkn, HB, HP, HR, HO, hpok, hbl⟩ := hrel
      have hpl : ps.length = k := by have := congrArg List.length HR.out; simpa using this
      have HPL := Lib.hid hpl
      have HPO := Lib.hid hpok
      clear hpl hpok
      by_cases hlt : k * m < n
      · have hb : beh l a = k * m := by rw [HB.out]; omega
        have hlt' : k * m < l.length := by rw [← HN.out]; exact hlt
        have HCP := Lib.hid (cut_at HM.out hmp hlt' hb)
        have hab := page_above HOK.out.1 hmp hlt' hb
        have HB' : Hid (beh l (page l m k).after = min ((k + 1) * m) n) := by rw [HN.out]; exact page_beh HOK.out.1 hmp hlt'
        have hlen := page_len hmp hlt'
        have hH := HC.out wr a hbl
        rw [HCP.out] at hH
        have hkm : k < n := by
          have : k ≤ k * m := Nat.le_mul_of_pos_right _ hmp
          omega
        obtain ⟨pg, hpg⟩ : ∃ pg, pg = page l m k := ⟨_, rfl⟩
        have HPG := Lib.hid hpg
        rw [← hpg] at hab HB' hlen hH
        have n1 : Op.bytesLess pg.after.toList a.toList = false := lt_asymm hab
        have n2 : (pg.after.toList == a.toList) = false := beq_eq_false_iff_ne.2 fun e => by rw [toList_inj e, lt_irrefl] at hab; cases hab
        obtain ⟨pl, pa, pm⟩ := pg
        obtain ⟨q, hq⟩ : ∃ q, q = pl.length := ⟨_, rfl⟩
        have HQ := Lib.hid hq
        simp only at hlen n1 n2 HB'
        rw [← hq, ← HN.out] at hlen
        obtain ⟨hl1, hl3⟩ := hlen
        have HLT := Lib.hid hlt
        clear hb hlt hlt' hab hpg hq
        go_wp2_with fail
        refine hH.mono ?_
        rintro e w2 ⟨v2, rfl, ho2, hb2⟩
        rw [← HQ.out] at ho2
        obtain ⟨a2, c2, rfl, hc2⟩ := (own_next (w := wr) ho2 HQ.out).form' HQ.out
        have hbl2 := hbl.trans (hb2.mono hbl.size)
        have HPO2 : Hid (PgsOk w2 w.heap.size (ps ++ [(.slice a2 q c2, ⟨pl, pa, pm⟩)])) := (HPO.out.next hb2).snoc (by
          have := ownsRow_le ho2 hbl.size
          rw [HQ.out] at this ⊢; exact this)
        have HO2 : Hid (w2.ownsRow w.heap.size 26 3 u5 ps.length (pcells ps)) := own_stay HO.out hb2
        have hsz2 := hbl2.size
        clear ho2 hH hb2
        go_wp2_with (at_builtin; refine app1g (.tmp 24) (.tmp 26) 28 rfl rfl w.heap.size Try.underlying28 infoPage rfl (by decide) (by decide) (HO2.out.alloc _) rfl (by rw [World.size_alloc]; rfl) rfl (by intro u hu; simp at hu; rcases hu with rfl | rfl | rfl <;> rfl) (by rw [HPL.out]; omega) (by rw [World.size_alloc]; omega) ?_)
        intro v' w5 hown' hg5
        have HO5 : Hid (w5.ownsRow w.heap.size 26 3 v' (ps ++ [(Value.slice a2 q c2, (⟨pl, pa, pm⟩ : Pg))]).length (pcells (ps ++ [(Value.slice a2 q c2, (⟨pl, pa, pm⟩ : Pg))]))) := by
          show World.ownsRow _ _ _ _ _ _ _
          rw [List.length_append, pcells_app]; exact hown'
        have HPO5 : Hid (PgsOk w5 w.heap.size (ps ++ [(Value.slice a2 q c2, (⟨pl, pa, pm⟩ : Pg))])) := ((HPO2.out.alloc _).alloc _).grown ((HO2.out.alloc _).alloc _) (by decide) hg5
        have hbl5 : Below w.heap.size w w5 := ((hbl2.alloc hsz2 _).alloc (by rw [World.size_alloc]; omega) _).grown hg5 (by simp; omega) (fun g hg => (HO2.out.lt g hg).1)
        have HR5 : Hid ((ps ++ [(Value.slice a2 q c2, (⟨pl, pa, pm⟩ : Pg))]).map (·.2) = (List.range (k + 1)).map (page l m)) := by
          show _ = _
          rw [range_snoc, List.map_append, HR.out, ← HPG.out]; rfl
        have p5 : w5.cell? ⟨w2.heap.size, 1, none⟩ = some (.string pa) := p_cell HO2.out hg5 rfl
        clear hown' hg5
        go_wp2
        go_roundg (n + 1 - (k + 1))
        case measure => omega
        case rel => exact ⟨k + 1, pa, _, rfl, Nat.le_refl _, hkm, HB', Or.inr (by simpa using HLT.out), HR5, HO5, HPO5, hbl5⟩
      · have hb : beh l a = l.length := by rw [HB.out, ← HN.out]; omega
        have HA : Hid ((List.range k).map (page l m) = all l most) := all_pages HM.out hmp (by rw [← HN.out]; omega) (by rw [← HN.out]; exact HP.out)
        obtain ⟨e1, e2, e3⟩ := cut_end (most := most) hb
        have hH := HC.out wr a hbl
        have HEE := Lib.hid (show cut l a most = ⟨[], a, false⟩ by
          cases hc : cut l a most with
          | mk x y z => rw [hc] at e1 e2 e3; simp only at e1 e2 e3; rw [e1, e2, e3])
        rw [HEE.out] at hH
        clear hb e1 e2 e3
        go_wp2_with fail
        refine hH.mono ?_
        rintro e w2 ⟨v2, rfl, ho2, hb2⟩
        obtain ⟨a2, c2, rfl, hc2⟩ := (own_next (w := wr) (l := []) ho2 rfl).form' (n := 0) rfl
        have hbl2 := hbl.trans (hb2.mono hbl.size)
        have HPO2 := Lib.hid (HPO.out.next hb2)
        have HO2 : Hid (w2.ownsRow w.heap.size 26 3 u5 ps.length (pcells ps)) := own_stay HO.out hb2
        have hsz2 := hbl2.size
        clear ho2 hH hb2
        go_wp2
        try rw [Exit.noGoto_ret]
        go_ret
        exact ⟨_, ps, rfl, by rw [HR.out, HA.out], HO2.out.alloc _, HPO2.out.alloc _, hbl2.alloc hsz2 _⟩
end Go.Proofs.Ytilnmfbimfmacaa
