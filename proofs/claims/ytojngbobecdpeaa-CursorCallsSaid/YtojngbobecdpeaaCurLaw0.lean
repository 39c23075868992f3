/- the cursors' laws: what their cursors have, as plain lists. -/
import Derived.Test.YtojngbobecdpeaaCurAwk
namespace Go.Proofs.Ytojngbobecdpeaa
open Go Go.RowKit Go.ChangeShapes at_ pm cl
namespace Cur
theorem mkL_right {l : List Int} (h : l.length ≤ 200 ∧ rightOf l = true) (d : Nat) : right (d + 1) (mkL l) = true := by
  show right (d + 1) (mk 1 l 0 []) = true
  rw [right_eq]
  simp [h.2]; omega
theorem kids_right {k : Int} {ks : List Cur} {d : Nat} (hk : k = 2 ∨ k = 3 ∨ (k = 4 ∧ ks ≠ [])) (hl : ks.length ≤ 20) (h : ∀ c ∈ ks, right d c = true) : right (d + 1) (mk k [] 0 ks) = true := by
  rw [right_eq, if_neg (by omega), if_neg (by
    rintro ⟨h4, h0⟩
    rcases hk with e | e | ⟨_, e⟩
    · omega
    · omega
    · exact e (List.eq_nil_of_length_eq_zero h0)), if_pos (by rcases hk with e | e | ⟨e, _⟩ <;> simp [e])]
  simp only [List.length_nil, decide_true, Bool.true_and, Bool.and_eq_true, decide_eq_true_eq, List.all_eq_true]
  exact ⟨hl, h⟩
theorem right_up : ∀ (d : Nat) (c : Cur), right d c = true → right (d + 1) c = true
  | 0, c, h => by cases c; simp [right] at h
  | d + 1, mk k l a ks, h => by
    rw [right_eq] at h ⊢
    split at h
    · rename_i h1
      rw [if_pos h1]; exact h
    · rename_i h1
      rw [if_neg h1]
      split at h
      · cases h
      · rename_i h2
        rw [if_neg h2]
        split at h
        · rename_i h3
          rw [if_pos h3]
          simp only [Bool.and_eq_true, List.all_eq_true] at h ⊢
          exact ⟨h.1, fun c hc => right_up d c (h.2 c hc)⟩
        · cases h
theorem right_le {d e : Nat} (hde : d ≤ e) {c : Cur} (h : right d c = true) : right e c = true := by
  induction hde with
  | refl => exact h
  | step _ ih => exact right_up _ _ ih
theorem allN_right {d : Nat} {x : Cur} (h : right d x = true) (hd : d ≤ 8) : allN x = nums x := by
  unfold allN; rw [if_pos (right_le hd h)]
theorem fwd_kids {d : Nat} {ks : List Cur} (h : ∀ c ∈ ks, right d c = true) : ks.map (fwd (-9223372036854775808)) = ks := by
  conv => rhs; rw [← List.map_id ks]
  exact List.map_congr_left (fun c hc => fwd_same d _ c (h c hc) (by decide))
theorem nums_mkL (l : List Int) : nums (mkL l) = l := by
  show nums (mk 1 l 0 []) = l
  rw [nums_list]; rfl
theorem map_mkL (ls : List (List Int)) : (ls.map mkL).map nums = ls := by
  rw [List.map_map]
  conv => rhs; rw [← List.map_id ls]
  exact List.map_congr_left (fun l _ => nums_mkL l)
end Cur
/-- such lists -/
structure Ls (ls : List (List Int)) : Prop where
  el : ∀ l ∈ ls, l.length ≤ 200 ∧ rightOf l = true
  len : ls.length ≤ 8
theorem Ls.of {ls : List (List Int)} (h : rows7 ls = true) : Ls ls := ⟨fun l hl => rows7_get h hl, by unfold rows7 at h; rw [Bool.and_eq_true] at h; simpa using h.2⟩
section
variable {la lb lc : List (List Int)}
theorem Ls.good (h : Ls la) : ∀ l ∈ la, Good 2000 l := fun l hl => ⟨right_inc (h.el l hl).2, by have := (h.el l hl).1; omega⟩
theorem Ls.inc (h : Ls la) : ∀ l ∈ la, Inc l := fun l hl => right_inc (h.el l hl).2
theorem Ls.kids (h : Ls la) (d : Nat) : ∀ c ∈ la.map mkL, Cur.right (d + 1) c = true := by
  intro c hc
  obtain ⟨l, hl, rfl⟩ := List.mem_map.1 hc
  exact Cur.mkL_right (h.el l hl) d
theorem Ls.sm (h : Ls la) : ∀ c ∈ la.map mkL, c.sm := fun c hc => Cur.right_sm 1 c (h.kids 0 c hc)
theorem Ls.mlen (h : Ls la) : (la.map mkL).length ≤ 8 := by rw [List.length_map]; exact h.len
def cBoth (la : List (List Int)) : Cur := .mk 2 [] 0 (la.map mkL)
def cAny (la : List (List Int)) : Cur := .mk 3 [] 0 (la.map mkL)
theorem cBoth_right (h : Ls la) : (cBoth la).right 2 = true := Cur.kids_right (Or.inl rfl) (by have := h.mlen; omega) (h.kids 0)
theorem cAny_right (h : Ls la) : (cAny la).right 2 = true := Cur.kids_right (Or.inr (Or.inl rfl)) (by have := h.mlen; omega) (h.kids 0)
theorem cBoth_nums : (cBoth la).nums = allOf la := by unfold cBoth; rw [Cur.nums_both, Cur.map_mkL]
theorem cAny_nums : (cAny la).nums = mergeOf la := by unfold cAny; rw [Cur.nums_any, Cur.map_mkL]
theorem cBoth_fwd (h : Ls la) : Cur.mk 2 [] 0 ((la.map mkL).map (Cur.fwd (-9223372036854775808))) = cBoth la := by rw [Cur.fwd_kids (h.kids 0)]; rfl
theorem cAny_fwd (h : Ls la) : Cur.mk 3 [] 0 ((la.map mkL).map (Cur.fwd (-9223372036854775808))) = cAny la := by rw [Cur.fwd_kids (h.kids 0)]; rfl
/-- the third cursor of CursorLists -/
def cSub (la lb lc : List (List Int)) : Cur := .mk 4 [] 0 (cAny lb :: (lc.map mkL ++ [cBoth la]))
theorem cSub_kids (ha : Ls la) (hb : Ls lb) (hc : Ls lc) : ∀ c ∈ cAny lb :: (lc.map mkL ++ [cBoth la]), Cur.right 2 c = true := by
  intro c h
  rcases List.mem_cons.1 h with rfl | h
  · exact cAny_right hb
  · rcases List.mem_append.1 h with h | h
    · exact hc.kids 1 c h
    · rw [List.mem_singleton.1 h]; exact cBoth_right ha
theorem cSub_right (ha : Ls la) (hb : Ls lb) (hc : Ls lc) : (cSub la lb lc).right 3 = true :=
  Cur.kids_right (Or.inr (Or.inr ⟨rfl, by simp⟩)) (by have := hc.mlen; rw [List.length_cons, List.length_append, List.length_singleton]; omega) (cSub_kids ha hb hc)
theorem cSub_fwd (ha : Ls la) (hb : Ls lb) (hc : Ls lc) : Cur.mk 4 [] 0 ((cAny lb :: (lc.map mkL ++ [cBoth la])).map (Cur.fwd (-9223372036854775808))) = cSub la lb lc := by rw [Cur.fwd_kids (cSub_kids ha hb hc)]; rfl
theorem merge_inc (h : ∀ l ∈ la, Inc l) : Inc (mergeOf la) := fold_inc la [] inc_nil h
theorem cSub_nums (_ha : Ls la) (hb : Ls lb) (_hc : Ls lc) : (cSub la lb lc).nums = minus (minus (mergeOf lb) (mergeOf lc)) (allOf la) := by
  unfold cSub
  rw [Cur.nums_sub, List.map_cons, List.map_append, Cur.map_mkL, List.map_singleton, cAny_nums, cBoth_nums]
  show minus (mergeOf lb) (mergeOf (lc ++ [allOf la])) = _
  have h1 := merge_inc hb.inc
  refine ext (inc_minus h1) (inc_minus (inc_minus h1)) (fun x => ?_)
  simp only [mem_minus, mergeOf_mem]
  constructor
  · rintro ⟨h, h2⟩
    exact ⟨⟨h, fun ⟨l, hl, hx⟩ => h2 ⟨l, by simp [hl], hx⟩⟩, fun hx => h2 ⟨_, by simp, hx⟩⟩
  · rintro ⟨⟨h, h2⟩, h3⟩
    refine ⟨h, fun ⟨l, hl, hx⟩ => ?_⟩
    rcases List.mem_append.1 hl with hl | hl
    · exact h2 ⟨l, hl, hx⟩
    · rw [List.mem_singleton.1 hl] at hx; exact h3 hx
/-- both of the second and the third -/
def cFour (la lb lc : List (List Int)) : Cur := .mk 2 [] 0 [cAny lb, cSub la lb lc]
theorem cFour_kids (ha : Ls la) (hb : Ls lb) (hc : Ls lc) : ∀ c ∈ [cAny lb, cSub la lb lc], Cur.right 3 c = true := by
  intro c h
  rcases List.mem_cons.1 h with rfl | h
  · exact Cur.right_up _ _ (cAny_right hb)
  · rw [List.mem_singleton.1 h]; exact cSub_right ha hb hc
theorem cFour_right (ha : Ls la) (hb : Ls lb) (hc : Ls lc) : (cFour la lb lc).right 4 = true := Cur.kids_right (Or.inl rfl) (by simp) (cFour_kids ha hb hc)
theorem cFour_fwd (ha : Ls la) (hb : Ls lb) (hc : Ls lc) : Cur.mk 2 [] 0 ([cAny lb, cSub la lb lc].map (Cur.fwd (-9223372036854775808))) = cFour la lb lc := by rw [Cur.fwd_kids (cFour_kids ha hb hc)]; rfl
theorem cFour_nums (ha : Ls la) (hb : Ls lb) (hc : Ls lc) : (cFour la lb lc).nums = (cSub la lb lc).nums := by
  unfold cFour
  rw [Cur.nums_both]
  show both (cAny lb).nums (cSub la lb lc).nums = _
  have h1 := merge_inc hb.inc
  rw [cAny_nums]
  have h2 : Inc (cSub la lb lc).nums := by rw [cSub_nums ha hb hc]; exact inc_minus (inc_minus h1)
  refine ext (inc_both h1) h2 (fun x => ?_)
  rw [mem_both]
  refine ⟨fun h => h.2, fun h => ⟨?_, h⟩⟩
  rw [cSub_nums ha hb hc, mem_minus, mem_minus] at h
  exact h.1.1
-- CursorTurns
theorem Ls.two (ha : Ls la) (hb : Ls lb) (d : Nat) : ∀ c ∈ la.map mkL ++ lb.map mkL, Cur.right (d + 1) c = true := by
  intro c h
  rcases List.mem_append.1 h with h | h
  · exact ha.kids d c h
  · exact hb.kids d c h
def tAny (la lb : List (List Int)) : Cur := .mk 3 [] 0 (la.map mkL ++ lb.map mkL)
theorem tAny_right (ha : Ls la) (hb : Ls lb) : (tAny la lb).right 2 = true := Cur.kids_right (Or.inr (Or.inl rfl)) (by have := ha.mlen; have := hb.mlen; rw [List.length_append]; omega) (ha.two hb 0)
theorem tAny_fwd (ha : Ls la) (hb : Ls lb) : Cur.mk 3 [] 0 ((la.map mkL ++ lb.map mkL).map (Cur.fwd (-9223372036854775808))) = tAny la lb := by rw [Cur.fwd_kids (ha.two hb 0)]; rfl
theorem tAny_nums : (tAny la lb).nums = mergeOf (la ++ lb) := by unfold tAny; rw [Cur.nums_any, List.map_append, Cur.map_mkL, Cur.map_mkL]
theorem two_inc (ha : Ls la) (hb : Ls lb) : ∀ l ∈ la ++ lb, Inc l := fun l h => (List.mem_append.1 h).elim (ha.inc l) (hb.inc l)
theorem tAny_turn (ha : Ls la) (hb : Ls lb) : (tAny la lb).nums = (tAny lb la).nums := by
  rw [tAny_nums, tAny_nums]; exact mergeOf_perm List.perm_append_comm (two_inc ha hb)
/-- taken away at once -/
def tSub (la lb lc : List (List Int)) : Cur := .mk 4 [] 0 (cAny lc :: (la.map mkL ++ lb.map mkL))
theorem tSub_kids (ha : Ls la) (hb : Ls lb) (hc : Ls lc) : ∀ c ∈ cAny lc :: (la.map mkL ++ lb.map mkL), Cur.right 2 c = true := by
  intro c h
  rcases List.mem_cons.1 h with rfl | h
  · exact cAny_right hc
  · exact ha.two hb 1 c h
theorem tSub_right (ha : Ls la) (hb : Ls lb) (hc : Ls lc) : (tSub la lb lc).right 3 = true :=
  Cur.kids_right (Or.inr (Or.inr ⟨rfl, by simp⟩)) (by have := ha.mlen; have := hb.mlen; rw [List.length_cons, List.length_append]; omega) (tSub_kids ha hb hc)
theorem tSub_fwd (ha : Ls la) (hb : Ls lb) (hc : Ls lc) : Cur.mk 4 [] 0 ((cAny lc :: (la.map mkL ++ lb.map mkL)).map (Cur.fwd (-9223372036854775808))) = tSub la lb lc := by rw [Cur.fwd_kids (tSub_kids ha hb hc)]; rfl
theorem tSub_nums : (tSub la lb lc).nums = minus (mergeOf lc) (mergeOf (la ++ lb)) := by
  unfold tSub
  rw [Cur.nums_sub, List.map_cons, List.map_append, Cur.map_mkL, Cur.map_mkL, cAny_nums]; rfl
/-- taken away one behind the other -/
def tOne (lb lc : List (List Int)) : Cur := .mk 4 [] 0 (cAny lc :: lb.map mkL)
theorem tOne_kids (hb : Ls lb) (hc : Ls lc) : ∀ c ∈ cAny lc :: lb.map mkL, Cur.right 2 c = true := by
  intro c h
  rcases List.mem_cons.1 h with rfl | h
  · exact cAny_right hc
  · exact hb.kids 1 c h
theorem tOne_right (hb : Ls lb) (hc : Ls lc) : (tOne lb lc).right 3 = true :=
  Cur.kids_right (Or.inr (Or.inr ⟨rfl, by simp⟩)) (by have := hb.mlen; rw [List.length_cons]; omega) (tOne_kids hb hc)
theorem tOne_fwd (hb : Ls lb) (hc : Ls lc) : Cur.mk 4 [] 0 ((cAny lc :: lb.map mkL).map (Cur.fwd (-9223372036854775808))) = tOne lb lc := by rw [Cur.fwd_kids (tOne_kids hb hc)]; rfl
theorem tOne_nums : (tOne lb lc).nums = minus (mergeOf lc) (mergeOf lb) := by
  unfold tOne
  rw [Cur.nums_sub, List.map_cons, Cur.map_mkL, cAny_nums]; rfl
def tTwo (la lb lc : List (List Int)) : Cur := .mk 4 [] 0 (tOne lb lc :: la.map mkL)
theorem tTwo_kids (ha : Ls la) (hb : Ls lb) (hc : Ls lc) : ∀ c ∈ tOne lb lc :: la.map mkL, Cur.right 3 c = true := by
  intro c h
  rcases List.mem_cons.1 h with rfl | h
  · exact tOne_right hb hc
  · exact ha.kids 2 c h
theorem tTwo_right (ha : Ls la) (hb : Ls lb) (hc : Ls lc) : (tTwo la lb lc).right 4 = true :=
  Cur.kids_right (Or.inr (Or.inr ⟨rfl, by simp⟩)) (by have := ha.mlen; rw [List.length_cons]; omega) (tTwo_kids ha hb hc)
theorem tTwo_fwd (ha : Ls la) (hb : Ls lb) (hc : Ls lc) : Cur.mk 4 [] 0 ((tOne lb lc :: la.map mkL).map (Cur.fwd (-9223372036854775808))) = tTwo la lb lc := by rw [Cur.fwd_kids (tTwo_kids ha hb hc)]; rfl
theorem tSub_turn (hc : Ls lc) : (tSub la lb lc).nums = (tTwo la lb lc).nums := by
  rw [tSub_nums]
  unfold tTwo
  rw [Cur.nums_sub, List.map_cons, Cur.map_mkL, tOne_nums]
  show _ = minus (minus (mergeOf lc) (mergeOf lb)) (mergeOf la)
  have h1 := merge_inc hc.inc
  refine ext (inc_minus h1) (inc_minus (inc_minus h1)) (fun x => ?_)
  simp only [mem_minus, mergeOf_mem]
  constructor
  · rintro ⟨h, h2⟩
    exact ⟨⟨h, fun ⟨l, hl, hx⟩ => h2 ⟨l, by simp [hl], hx⟩⟩, fun ⟨l, hl, hx⟩ => h2 ⟨l, by simp [hl], hx⟩⟩
  · rintro ⟨⟨h, h2⟩, h3⟩
    refine ⟨h, fun ⟨l, hl, hx⟩ => ?_⟩
    rcases List.mem_append.1 hl with hl | hl
    · exact h3 ⟨l, hl, hx⟩
    · exact h2 ⟨l, hl, hx⟩
def tBothA (la lb lc : List (List Int)) : Cur := .mk 2 [] 0 ([cAny lc] ++ la.map mkL ++ lb.map mkL)
def tBothB (la lb lc : List (List Int)) : Cur := .mk 2 [] 0 (lb.map mkL ++ la.map mkL ++ [cAny lc])
theorem tBothA_kids (ha : Ls la) (hb : Ls lb) (hc : Ls lc) : ∀ c ∈ [cAny lc] ++ la.map mkL ++ lb.map mkL, Cur.right 2 c = true := by
  intro c h
  rcases List.mem_append.1 h with h | h
  · rcases List.mem_append.1 h with h | h
    · rw [List.mem_singleton.1 h]; exact cAny_right hc
    · exact ha.kids 1 c h
  · exact hb.kids 1 c h
theorem tBothB_kids (ha : Ls la) (hb : Ls lb) (hc : Ls lc) : ∀ c ∈ lb.map mkL ++ la.map mkL ++ [cAny lc], Cur.right 2 c = true := by
  intro c h
  rcases List.mem_append.1 h with h | h
  · rcases List.mem_append.1 h with h | h
    · exact hb.kids 1 c h
    · exact ha.kids 1 c h
  · rw [List.mem_singleton.1 h]; exact cAny_right hc
theorem tBothA_len (ha : Ls la) (hb : Ls lb) : ([cAny lc] ++ la.map mkL ++ lb.map mkL).length ≤ 17 := by have := ha.mlen; have := hb.mlen; rw [List.length_append, List.length_append, List.length_singleton]; omega
theorem tBothB_len (ha : Ls la) (hb : Ls lb) : (lb.map mkL ++ la.map mkL ++ [cAny lc]).length ≤ 17 := by have := ha.mlen; have := hb.mlen; rw [List.length_append, List.length_append, List.length_singleton]; omega
theorem tBothA_right (ha : Ls la) (hb : Ls lb) (hc : Ls lc) : (tBothA la lb lc).right 3 = true := Cur.kids_right (Or.inl rfl) (Nat.le_trans (tBothA_len ha hb) (by decide)) (tBothA_kids ha hb hc)
theorem tBothB_right (ha : Ls la) (hb : Ls lb) (hc : Ls lc) : (tBothB la lb lc).right 3 = true := Cur.kids_right (Or.inl rfl) (Nat.le_trans (tBothB_len ha hb) (by decide)) (tBothB_kids ha hb hc)
theorem tBothA_fwd (ha : Ls la) (hb : Ls lb) (hc : Ls lc) : Cur.mk 2 [] 0 (([cAny lc] ++ la.map mkL ++ lb.map mkL).map (Cur.fwd (-9223372036854775808))) = tBothA la lb lc := by rw [Cur.fwd_kids (tBothA_kids ha hb hc)]; rfl
theorem tBothB_fwd (ha : Ls la) (hb : Ls lb) (hc : Ls lc) : Cur.mk 2 [] 0 ((lb.map mkL ++ la.map mkL ++ [cAny lc]).map (Cur.fwd (-9223372036854775808))) = tBothB la lb lc := by rw [Cur.fwd_kids (tBothB_kids ha hb hc)]; rfl
theorem tBoth_turn (ha : Ls la) (hb : Ls lb) (hc : Ls lc) : (tBothA la lb lc).nums = (tBothB la lb lc).nums := by
  unfold tBothA tBothB
  rw [Cur.nums_both, Cur.nums_both]
  simp only [List.map_append, Cur.map_mkL, List.map_singleton, cAny_nums]
  refine allOf_perm ?_ ?_
  · have p1 : ([mergeOf lc] ++ la ++ lb).Perm (lb ++ ([mergeOf lc] ++ la)) := List.perm_append_comm
    have p2 : (lb ++ ([mergeOf lc] ++ la)).Perm (lb ++ (la ++ [mergeOf lc])) := List.Perm.append_left _ List.perm_append_comm
    rw [List.append_assoc lb la]; exact p1.trans p2
  · intro l h
    rcases List.mem_append.1 h with h | h
    · rcases List.mem_append.1 h with h | h
      · rw [List.mem_singleton.1 h]; exact merge_inc hc.inc
      · exact ha.inc l h
    · exact hb.inc l h
end
theorem ints_same (L : List Int) (va vb : Value) (w : World) (ha : At w w.heap.size va L) (hb : At w w.heap.size vb L) : Calls Try.prog 19 #[va, vb] w (Said true w) := by
  have h := ints_any L L va vb w ha hb
  rwa [decide_eq_true rfl] at h
theorem CsO.low {B B' d : Nat} {L : List Cur} {v : Value} {W : World} (h : CsO B d L v W) (hB : B' ≤ B) : CsO B' d L v W := by
  obtain ⟨cs, h0, h1, h2⟩ := h
  exact ⟨cs, h0, fun j c x hc hx => (h1 j c x hc hx).low hB, at_.base_le h2 hB⟩
theorem CsO.up {B d : Nat} {L : List Cur} {v : Value} {W : World} (h : CsO B d L v W) : CsO B (d + 1) L v W := by
  obtain ⟨cs, h0, h1, h2⟩ := h
  exact ⟨cs, h0, fun j c x hc hx => (h1 j c x hc hx).imp (fun w hw => ⟨hw.1, curR_up _ _ _ _ _ hw.2⟩), h2⟩
theorem rows_up {d : Nat} {w : World} {B : Nat} {v : Value} {l : List Cur} (h : RowsAt 4 (curR d) w B v l) : RowsAt 4 (curR (d + 1)) w B v l := rows_imp h (fun c x hc => curR_up d _ _ c x hc)
end Go.Proofs.Ytojngbobecdpeaa
