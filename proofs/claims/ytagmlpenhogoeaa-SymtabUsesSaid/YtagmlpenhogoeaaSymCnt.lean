/- How often a text is used: plain facts; a map that keeps it. -/
import Derived.Test.YtagmlpenhogoeaaSymComp
import Derived.Maps.OwnOps
namespace Go.Proofs.Ytagmlpenhogoeaa.tb
def cnt (L : List Sym) (s : ByteArray) : Int := if find L s < L.length then (at_ L (find L s)).2 else 0
theorem cnt_is {c : Int} {L : List Sym} {s : ByteArray} {i : Nat} (hr : Right c L) (hi : i < L.length) (h : 0 < (at_ L i).2 ∧ (at_ L i).1 = s) : cnt L s = (at_ L i).2 := by
  unfold cnt
  rw [find_right hr hi h, if_pos hi]
theorem cnt_no {L : List Sym} {s : ByteArray} (h : ∀ i, i < L.length → ¬ (0 < (at_ L i).2 ∧ (at_ L i).1 = s)) : cnt L s = 0 := by
  unfold cnt
  rw [find_none h, if_neg (Nat.lt_irrefl _)]
theorem cnt_bd {c : Int} {L : List Sym} {s : ByteArray} (hr : Right c L) : 0 ≤ cnt L s ∧ cnt L s ≤ 1099511627776 := by
  unfold cnt
  split
  · rename_i h; have := hr.2.2.2.1 _ h; omega
  · omega
theorem cnt_pos {L : List Sym} {s : ByteArray} : decide (find L s < L.length) = decide (0 < cnt L s) := by
  unfold cnt
  by_cases h : find L s < L.length
  · rw [if_pos h, decide_eq_true h, decide_eq_true (find_yes h).1]
  · rw [if_neg h, decide_eq_false h]; rfl
theorem cnt_set_other {c : Int} {L : List Sym} {k : Nat} {x : Sym} {s : ByteArray} (hr : Right c L) (hr' : Right c (L.set k x)) (hk : k < L.length) (h1 : ¬ (0 < (at_ L k).2 ∧ (at_ L k).1 = s)) (h2 : ¬ (0 < x.2 ∧ x.1 = s)) : cnt (L.set k x) s = cnt L s := by
  by_cases he : ∃ i, i < L.length ∧ 0 < (at_ L i).2 ∧ (at_ L i).1 = s
  · obtain ⟨i, hi, h⟩ := he
    have hne : ¬ k = i := fun e => h1 (by rw [e]; exact h)
    have e : at_ (L.set k x) i = at_ L i := by rw [at_set hk, if_neg hne]
    rw [cnt_is hr hi h, cnt_is hr' (by rw [List.length_set]; exact hi) (by rw [e]; exact h), e]
  · rw [cnt_no (fun i hi h => he ⟨i, hi, h⟩), cnt_no]
    intro i hi h
    rw [List.length_set] at hi
    rw [at_set hk] at h
    by_cases e : k = i
    · rw [if_pos e] at h; exact h2 h
    · rw [if_neg e] at h; exact he ⟨i, hi, h⟩
theorem cnt_snoc_other {c : Int} {L : List Sym} {x : Sym} {s : ByteArray} (hr : Right c L) (hr' : Right c (L ++ [x])) (h2 : ¬ (0 < x.2 ∧ x.1 = s)) : cnt (L ++ [x]) s = cnt L s := by
  have hl : (L ++ [x]).length = L.length + 1 := by rw [List.length_append]; rfl
  by_cases he : ∃ i, i < L.length ∧ 0 < (at_ L i).2 ∧ (at_ L i).1 = s
  · obtain ⟨i, hi, h⟩ := he
    have e : at_ (L ++ [x]) i = at_ L i := by rw [at_snoc, if_pos hi]
    rw [cnt_is hr hi h, cnt_is hr' (i := i) (by omega) (by rw [e]; exact h), e]
  · rw [cnt_no (fun i hi h => he ⟨i, hi, h⟩), cnt_no]
    intro i hi h
    rw [at_snoc] at h
    by_cases e : i < L.length
    · rw [if_pos e] at h; exact he ⟨i, e, h⟩
    · rw [if_neg e, if_pos (by omega)] at h; exact h2 h
theorem cnt_put {c : Int} {L : List Sym} {s s' : ByteArray} (hr : Right c L) (h0 : (put c L s).2.2 = 0) : cnt (put c L s).1 s' = cnt L s' + if s' = s then 1 else 0 := by
  have hr' := right_put (s := s) hr
  unfold put at h0 hr' ⊢
  by_cases h6 : 600 < s.size
  · rw [if_pos h6] at h0; cases h0
  rw [if_neg h6] at h0 hr' ⊢
  by_cases hf : find L s < L.length
  · rw [if_pos hf] at h0 hr' ⊢
    obtain ⟨g1, g2⟩ := find_yes hf
    by_cases hm : (at_ L (find L s)).2 = 1099511627776
    · rw [if_pos hm] at h0; cases h0
    rw [if_neg hm] at h0 hr' ⊢
    by_cases hs : s' = s
    · subst hs
      have e : at_ (L.set (find L s') (s', (at_ L (find L s')).2 + 1)) (find L s') = (s', (at_ L (find L s')).2 + 1) := by rw [at_set hf, if_pos rfl]
      rw [if_pos rfl, cnt_is hr hf ⟨g1, g2⟩, cnt_is hr' (by rw [List.length_set]; exact hf) (by rw [e]; exact ⟨by show 0 < _ + 1; omega, rfl⟩), e]
    · rw [if_neg hs, cnt_set_other hr hr' hf (fun h => hs (by rw [← h.2, g2])) (fun h => hs h.2.symm)]; omega
  rw [if_neg hf] at h0 hr' ⊢
  have hno : ∀ j, j < L.length → ¬ (0 < (at_ L j).2 ∧ (at_ L j).1 = s) := fun j hj => find_no (by have := find_le L s; omega)
  by_cases hc : (free L : Int) = c
  · rw [if_pos hc] at h0; cases h0
  rw [if_neg hc] at h0 hr' ⊢
  by_cases hfr : free L < L.length
  · rw [if_pos hfr] at h0 hr' ⊢
    have hz := free_yes hfr
    by_cases hs : s' = s
    · subst hs
      have e : at_ (L.set (free L) (s', 1)) (free L) = (s', 1) := by rw [at_set hfr, if_pos rfl]
      rw [if_pos rfl, cnt_no hno, cnt_is hr' (by rw [List.length_set]; exact hfr) (by rw [e]; exact ⟨by show (0 : Int) < 1; omega, rfl⟩), e]; rfl
    · rw [if_neg hs, cnt_set_other hr hr' hfr (fun h => by have := h.1; omega) (fun h => hs h.2.symm)]; omega
  · rw [if_neg hfr] at h0 hr' ⊢
    by_cases hs : s' = s
    · subst hs
      have e : at_ (L ++ [(s', 1)]) L.length = (s', 1) := by rw [at_snoc, if_neg (Nat.lt_irrefl _), if_pos rfl]
      rw [if_pos rfl, cnt_no hno, cnt_is hr' (i := L.length) (by rw [List.length_append]; exact Nat.lt_succ_self _) (by rw [e]; exact ⟨by show (0 : Int) < 1; omega, rfl⟩), e]; rfl
    · rw [if_neg hs, cnt_snoc_other hr hr' (fun h => hs h.2.symm)]; omega
theorem cnt_drop {c : Int} {L : List Sym} {id : Int} {s' : ByteArray} (hr : Right c L) (hu : used L id = true) : cnt (drop L id).1 s' = cnt L s' - if s' = (at_ L id.toNat).1 then 1 else 0 := by
  have hr' := right_drop (id := id) hr
  unfold drop at hr' ⊢
  rw [if_pos hu] at hr' ⊢
  unfold used at hu
  obtain ⟨h0, h1, h2⟩ := of_decide_eq_true hu
  have hk : id.toNat < L.length := by omega
  by_cases hs : s' = (at_ L id.toNat).1
  · rw [if_pos hs, cnt_is hr hk ⟨h2, hs.symm⟩]
    by_cases h1r : (at_ L id.toNat).2 = 1
    · rw [cnt_no, h1r]; rfl
      intro i hi h
      rw [List.length_set] at hi
      rw [at_set hk] at h
      by_cases e : id.toNat = i
      · rw [if_pos e] at h
        have := h.1
        simp only at this; omega
      · rw [if_neg e] at h
        rcases Nat.lt_or_ge i id.toNat with hlt | hge
        · exact hr.2.2.2.2 i _ hlt hk h.1 h2 (by rw [h.2, hs])
        · exact hr.2.2.2.2 _ i (by omega) hi h2 h.1 (by rw [h.2, hs])
    · have e : at_ (L.set id.toNat (if (at_ L id.toNat).2 = 1 then ByteArray.empty else (at_ L id.toNat).1, (at_ L id.toNat).2 - 1)) id.toNat = ((at_ L id.toNat).1, (at_ L id.toNat).2 - 1) := by rw [at_set hk, if_pos rfl, if_neg h1r]
      rw [cnt_is hr' (i := id.toNat) (by rw [List.length_set]; exact hk) (by rw [e]; exact ⟨by show 0 < _ - 1; omega, hs.symm⟩), e]
  · rw [if_neg hs, cnt_set_other hr hr' hk (fun h => hs h.2.symm)]; omega
    intro h
    have hx := h.2
    by_cases h1r : (at_ L id.toNat).2 = 1
    · have := h.1
      simp only at this; omega
    · simp only at hx
      rw [if_neg h1r] at hx
      exact hs hx.symm
theorem cnt_keep {c : Int} {L : List Sym} {s : ByteArray} (hr : Right c L) : cnt (keep L L.length) s = cnt L s := by
  have hr' := right_keep hr
  by_cases he : ∃ i, i < L.length ∧ 0 < (at_ L i).2 ∧ (at_ L i).1 = s
  · obtain ⟨i, hi, h⟩ := he
    obtain ⟨k1, k2⟩ := keep_to L hi (by omega)
    rw [cnt_is hr hi h, cnt_is hr' k1 (by rw [k2]; exact h), k2]
  · rw [cnt_no (fun i hi h => he ⟨i, hi, h⟩), cnt_no]
    intro i hi h
    obtain ⟨j, h1, _, _, h4⟩ := keep_from L _ i hi
    rw [h4] at h
    exact he ⟨j, h1, h⟩
end Go.Proofs.Ytagmlpenhogoeaa.tb
namespace Go.Proofs.Ytagmlpenhogoeaa
open Go.RowKit Go.ChangeShapes Go.Maps Go.WideMaps cl at_

theorem zeroI (w : World) : (zeroValue 3).run Try.prog w = .ok (.int .i64 0) w := by kernel_rfl
def CNT (D : DataW Unit) (L : List tb.Sym) : Prop := ∀ s : ByteArray, D.atKey (.string s.data.toList) (.lit (.int .i64 0)) = .lit (.int .i64 (tb.cnt L s))
theorem cnt_nil : CNT (.map []) [] := fun _ => rfl
theorem key_ne {s t : ByteArray} (h : ¬ s = t) : (Lit.string s.data.toList) ≠ .string t.data.toList := fun e => h (ByteArray.ext (Array.ext' (by simpa using e)))
theorem CNT.put {D : DataW Unit} {L L' : List tb.Sym} {s : ByteArray} {x : Int} (h : CNT D L) (ht : Tidy D) (hx : tb.cnt L' s = x) (ho : ∀ s', s' ≠ s → tb.cnt L' s' = tb.cnt L s') : CNT (D.put (.string s.data.toList) (.lit (.int .i64 x))) L' := by
  intro s'
  by_cases e : s' = s
  · subst e
    obtain ⟨es, hes, _⟩ := ht
    rw [atKey_put_same ⟨es, hes⟩ (by trivial), hx]
  · rw [atKey_put_other (key_ne e), h s', ho s' e]
theorem CNT.same {D : DataW Unit} {L L' : List tb.Sym} (h : CNT D L) (ho : ∀ s', tb.cnt L' s' = tb.cnt L s') : CNT D L' := fun s' => by rw [h s', ho s']
theorem CNT.get {D : DataW Unit} {L : List tb.Sym} {s : ByteArray} {x : Int} (h : CNT D L) (hx : D.atKey (.string s.data.toList) (.lit (.int .i64 0)) = .lit (.int .i64 x)) : x = tb.cnt L s := by
  rw [h s] at hx
  simp only [DataW.lit.injEq, Lit.int.injEq, true_and] at hx
  exact hx.symm
theorem grown_of {W W' : World} (hb : Below W.heap.size W W') : W.grownBy W' none := ⟨hb.os, hb.tape, hb.output, hb.size, fun i hi _ => hb.block i hi⟩
theorem grown_set (W : World) (B o : Nat) (u : Value) : W.grownBy (W.setCell ⟨B, o, none⟩ u) (some B) := by
  refine ⟨rfl, rfl, rfl, by rw [World.size_setCell]; exact Nat.le_refl _, fun k _ hk => ?_⟩
  have hne : ¬ B = k := fun e => hk (by rw [e])
  simp only [World.setCell, Array.getElem?_modify]
  simp [hne]
theorem omap_step {W W' : World} {k b n : Nat} {R : Value → Option (DataW Unit × List MemPlace)} {D : DataW Unit} {P : Program} (h : W.ownsMap P k R b n D) (hb : Below W.heap.size W W') : W'.ownsMap P k R b n D := h.kept (grown_of hb) (fun e => by cases e)
theorem omap_set {W : World} {k b n B o : Nat} {u : Value} {R : Value → Option (DataW Unit × List MemPlace)} {D : DataW Unit} {P : Program} (h : W.ownsMap P k R b n D) (hne : ¬ b = B) : (W.setCell ⟨B, o, none⟩ u).ownsMap P k R b n D := h.kept (grown_set W B o u) (fun e => hne (Option.some.inj e))
/-- a table where a map has been written -/
theorem St.turn {w W W' : World} {B1 n cap mb : Nat} {c : Int} {L : List tb.Sym} {ao : Option Addr} {es : Array MapEntry} {cl : Nat} (h : St w B1 c L ao n cap W) (hg : W.grownBy W' (some mb)) (hm : W.heap[mb]? = some (.map es cl)) (hmw : w.heap.size ≤ mb) (hne : ¬ mb = B1) : St w B1 c L ao n cap W' := by
  obtain ⟨h0, h1, h2, h3, h4, h5, h6, h7, h8⟩ := h
  have hz := hg.size
  have hB : W'.heap[B1]? = W.heap[B1]? := hg.block B1 h8 (fun e => hne (Option.some.inj e).symm)
  refine ⟨?_, h1, by rw [World.cell?_of_block (a := ⟨B1, 0, none⟩) hB]; exact h2, by rw [World.cell?_of_block (a := ⟨B1, 1, none⟩) hB]; exact h3, by rw [World.frozen?_of_block (a := ⟨B1, 0, none⟩) hB]; exact h4, by rw [World.frozen?_of_block (a := ⟨B1, 1, none⟩) hB]; exact h5, h6.grown hg h6.size (fun j hj => by cases hj; exact hmw), h7, by omega⟩
  obtain ⟨g0, ao2, cap2, e, g1, g2, g3⟩ := h0
  refine ⟨g0, ao2, cap2, e, g1, g2, fun hp => ?_⟩
  obtain ⟨b, off, e2, hb, hc⟩ := g3 hp
  have hbm : ¬ b = mb := fun ebm => by
    have h0 : 0 < (tcells L).length := by rw [tcells_len]; omega
    have hx := hc 0 _ (List.getElem?_eq_getElem h0)
    rw [ebm] at hx
    simp [World.cell?, hm] at hx
  refine ⟨b, off, e2, by omega, fun j u hj => ?_⟩
  rw [World.cell?_of_block (a := ⟨b, off + j, none⟩) (hg.block b hb (fun e => hbm (Option.some.inj e)))]
  exact hc j u hj
theorem Tabs.far {W : World} {B n cap R : Nat} {ao : Option Addr} {L : List tb.Sym} {u v : Value} (h : Tabs W B (.slice ao n cap) L) (hne : ∀ b off, ao = some ⟨b, off, none⟩ → b ≠ R) : Tabs ((W.setCell ⟨R, 0, none⟩ u).setCell ⟨R, 1, none⟩ v) B (.slice ao n cap) L := by
  obtain ⟨g0, ao2, cap2, e, g1, g2, g3⟩ := h
  refine ⟨g0, ao2, cap2, e, g1, g2, fun hp => ?_⟩
  obtain ⟨b, off, e2, hB, hc⟩ := g3 hp
  simp only [Value.slice.injEq] at e
  have hb := hne b off (by rw [e.1, e2])
  refine ⟨b, off, e2, hB, fun j u hj => ?_⟩
  rw [World.cell?_setCell_far _ _ _ _ (show R ≠ b from fun e => hb e.symm), World.cell?_setCell_far _ _ _ _ (show R ≠ b from fun e => hb e.symm)]
  exact hc j u hj
theorem omap_heap {W : World} {P : Program} {k b n : Nat} {R : Value → Option (DataW Unit × List MemPlace)} {D : DataW Unit} (h : W.ownsMap P k R b n D) : ∃ es cl, W.heap[b]? = some (.map es cl) := by
  obtain ⟨es, clock, hb, _⟩ := h
  exact ⟨es, clock, hb⟩
end Go.Proofs.Ytagmlpenhogoeaa
