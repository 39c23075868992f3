/- cursors as plain data, and the numbers that they have. -/
import Derived.Test.YtojngbobecdpeaaFoldMath
namespace Go.Proofs.Ytojngbobecdpeaa
open Go Go.RowKit at_ pm
inductive Cur where
  | mk (k : Int) (l : List Int) (a : Int) (ks : List Cur)
instance : Inhabited Cur := ⟨.mk 0 [] 0 []⟩
namespace Cur
def k : Cur → Int | mk k _ _ _ => k
def l : Cur → List Int | mk _ l _ _ => l
def a : Cur → Int | mk _ _ a _ => a
def ks : Cur → List Cur | mk _ _ _ ks => ks
def subOf : List (List Int) → List Int
  | [] => []
  | x :: r => minus x (mergeOf r)
mutual
/-- the numbers that a cursor has -/
def nums : Cur → List Int
  | mk k l a ks => if k = 1 then l.drop a.toNat else if k = 2 then allOf (numss ks) else if k = 3 then mergeOf (numss ks) else subOf (numss ks)
def numss : List Cur → List (List Int)
  | [] => []
  | c :: r => nums c :: numss r
end
theorem numss_map : ∀ ks : List Cur, numss ks = ks.map nums
  | [] => by simp [numss]
  | c :: r => by simp [numss, numss_map r]
theorem nums_list {l : List Int} {a : Int} {ks : List Cur} : nums (mk 1 l a ks) = l.drop a.toNat := by simp [nums]
theorem nums_both {l : List Int} {a : Int} {ks : List Cur} : nums (mk 2 l a ks) = allOf (ks.map nums) := by simp [nums, numss_map]
theorem nums_any {l : List Int} {a : Int} {ks : List Cur} : nums (mk 3 l a ks) = mergeOf (ks.map nums) := by simp [nums, numss_map]
theorem nums_sub {l : List Int} {a : Int} {ks : List Cur} : nums (mk 4 l a ks) = subOf (ks.map nums) := by simp [nums, numss_map]
/-- is a cursor right, with at most so many within one another? -/
def right : Nat → Cur → Bool
  | 0, _ => false
  | d + 1, mk k l a ks => if k = 1 then decide (ks.length = 0) && decide (0 ≤ a) && decide (a ≤ (l.length : Int)) && decide (l.length ≤ 4000) && rightOf l
      else if k = 4 ∧ ks.length = 0 then false
      else if k = 2 ∨ k = 3 ∨ k = 4 then decide (l.length = 0) && decide (a = 0) && decide (ks.length ≤ 20) && ks.all (right d)
      else false
theorem right_list {d : Nat} {l : List Int} {a : Int} {ks : List Cur} (h : right (d + 1) (mk 1 l a ks) = true) : ks = [] ∧ 0 ≤ a ∧ a ≤ (l.length : Int) ∧ l.length ≤ 4000 ∧ rightOf l = true := by
  simp only [right, if_true, Bool.and_eq_true, decide_eq_true_eq] at h
  exact ⟨List.eq_nil_of_length_eq_zero h.1.1.1.1, h.1.1.1.2, h.1.1.2, h.1.2, h.2⟩
theorem right_kids {d : Nat} {k : Int} {l : List Int} {a : Int} {ks : List Cur} (hk : k ≠ 1) (h : right (d + 1) (mk k l a ks) = true) : (k = 2 ∨ k = 3 ∨ k = 4) ∧ (k = 4 → ks ≠ []) ∧ l = [] ∧ a = 0 ∧ ks.length ≤ 20 ∧ ∀ c ∈ ks, right d c = true := by
  simp only [right, if_neg hk] at h
  split at h
  · cases h
  · rename_i h4
    split at h
    · rename_i h3
      simp only [Bool.and_eq_true, decide_eq_true_eq, List.all_eq_true] at h
      refine ⟨h3, fun e en => h4 ⟨e, by rw [en]; rfl⟩, List.eq_nil_of_length_eq_zero h.1.1.1, h.1.1.2, h.1.2, h.2⟩
    · cases h
/-- what a list of numbers is here -/
def Gd (l : List Int) : Prop := Inc l ∧ ∀ x ∈ l, 0 ≤ x ∧ x ≤ 1099511627776
theorem gd_drop {l : List Int} (h : Gd l) (n : Nat) : Gd (l.drop n) := ⟨List.Pairwise.sublist (List.drop_sublist _ _) h.1, fun x hx => h.2 x (List.mem_of_mem_drop hx)⟩
theorem gd_all {ls : List (List Int)} (h : ∀ l ∈ ls, Gd l) : Gd (allOf ls) := by
  refine ⟨allOf_inc (fun l hl => (h l hl).1), fun x hx => ?_⟩
  cases ls with
  | nil => simp [allOf] at hx
  | cons l r => exact (h l (by simp)).2 x (((allOf_mem (by simp)).1 hx) l (by simp))
theorem gd_merge {ls : List (List Int)} (h : ∀ l ∈ ls, Gd l) : Gd (mergeOf ls) := by
  refine ⟨fold_inc ls [] inc_nil (fun l hl => (h l hl).1), fun x hx => ?_⟩
  obtain ⟨l, hl, hxl⟩ := mergeOf_mem.1 hx
  exact (h l hl).2 x hxl
theorem gd_sub {ls : List (List Int)} (h : ∀ l ∈ ls, Gd l) : Gd (subOf ls) := by
  cases ls with
  | nil => exact ⟨inc_nil, fun x hx => by simp [subOf] at hx⟩
  | cons l r => exact ⟨inc_minus (h l (by simp)).1, fun x hx => (h l (by simp)).2 x (mem_minus.1 hx).1⟩
theorem right_gd : ∀ (d : Nat) (c : Cur), right d c = true → Gd (nums c)
  | 0, c, h => by cases c; simp [right] at h
  | d + 1, mk k l a ks, h => by
    by_cases h1 : k = 1
    · subst h1
      obtain ⟨_, _, _, _, hr⟩ := right_list h
      rw [nums_list]
      exact gd_drop ⟨right_inc hr, right_mem hr⟩ _
    · obtain ⟨hk, _, _, _, _, hks⟩ := right_kids h1 h
      have hg : ∀ l ∈ ks.map nums, Gd l := by
        intro l hl
        obtain ⟨c, hc, rfl⟩ := List.mem_map.1 hl
        exact right_gd d c (hks c hc)
      rcases hk with rfl | rfl | rfl
      · rw [nums_both]; exact gd_all hg
      · rw [nums_any]; exact gd_merge hg
      · rw [nums_sub]; exact gd_sub hg
/-- how many numbers there can be -/
theorem inc_len : ∀ (n : Nat) (l : List Int) (lo : Int), Inc l → (∀ x ∈ l, lo ≤ x ∧ x < lo + n) → l.length ≤ n
  | 0, l, lo, _, h => by
    cases l with
    | nil => simp
    | cons x r => have := h x (by simp); omega
  | n + 1, [], lo, _, _ => by simp
  | n + 1, x :: r, lo, hi, h => by
    have hx := h x (by simp)
    have := inc_len n r (lo + 1) (inc_tail hi) (fun y hy => by
      have h1 := inc_head hi y hy
      have h2 := h y (by simp [hy])
      omega)
    rw [List.length_cons]; omega
theorem gd_len {l : List Int} (h : Gd l) : l.length ≤ 1099511627777 := inc_len 1099511627777 l 0 h.1 (fun x hx => by have := h.2 x hx; omega)
/-- the first number from n on -/
def lst (l : List Int) (n : Int) : Option Int := l.find? (fun x => decide (n ≤ x))
theorem lst_no {l : List Int} {n : Int} (h : ∀ y ∈ l, y < n) : lst l n = none := by
  unfold lst
  rw [List.find?_eq_none]
  intro x hx
  have := h x hx
  simp; omega
theorem lst_yes : ∀ {l : List Int} {n x : Int}, Inc l → x ∈ l → n ≤ x → (∀ y ∈ l, n ≤ y → x ≤ y) → lst l n = some x
  | [], _, _, _, h, _, _ => by simp at h
  | y :: r, n, x, hi, hx, hn, hl => by
    unfold lst
    rw [List.find?_cons]
    by_cases hy : n ≤ y
    · rw [decide_eq_true hy]
      have h1 := hl y (by simp) hy
      rcases List.mem_cons.1 hx with rfl | hx
      · rfl
      · have := inc_head hi x hx; omega
    · rw [decide_eq_false hy]
      rcases List.mem_cons.1 hx with rfl | hx
      · omega
      · exact lst_yes (inc_tail hi) hx hn (fun z hz => hl z (by simp [hz]))
theorem lst_some {l : List Int} {n x : Int} (hi : Inc l) (h : lst l n = some x) : x ∈ l ∧ n ≤ x ∧ ∀ y ∈ l, n ≤ y → x ≤ y := by
  unfold lst at h
  have h1 := List.find?_some h
  have h2 := List.mem_of_find?_eq_some h
  refine ⟨h2, by simpa using h1, ?_⟩
  induction l with
  | nil => simp at h2
  | cons y r ih =>
    rw [List.find?_cons] at h
    by_cases hy : n ≤ y
    · rw [decide_eq_true hy] at h
      cases h
      intro z hz _
      rcases List.mem_cons.1 hz with rfl | hz
      · exact Int.le_refl _
      · have := inc_head hi z hz; omega
    · rw [decide_eq_false hy] at h
      intro z hz hn
      rcases List.mem_cons.1 hz with rfl | hz
      · omega
      · exact ih (inc_tail hi) h (List.mem_of_find?_eq_some h) z hz hn
theorem lst_none {l : List Int} {n : Int} (h : lst l n = none) : ∀ y ∈ l, y < n := by
  unfold lst at h
  rw [List.find?_eq_none] at h
  intro y hy
  have := h y hy
  simp at this; omega
mutual
/-- gone on with to the numbers from n on -/
def fwd (n : Int) : Cur → Cur
  | mk k l a ks => mk k l (if 0 ≤ a then a + ((l.drop a.toNat).takeWhile (fun x => decide (x < n))).length else a) (fwds n ks)
def fwds (n : Int) : List Cur → List Cur
  | [] => []
  | c :: r => fwd n c :: fwds n r
end
theorem fwds_map (n : Int) : ∀ ks : List Cur, fwds n ks = ks.map (fwd n)
  | [] => by simp [fwds]
  | c :: r => by simp [fwds, fwds_map n r]
theorem fwd_eq {n : Int} {k a : Int} {l : List Int} {ks : List Cur} : fwd n (mk k l a ks) = mk k l (if 0 ≤ a then a + ((l.drop a.toNat).takeWhile (fun x => decide (x < n))).length else a) (ks.map (fwd n)) := by rw [fwd, fwds_map]
/-- a right cursor that is gone on with to where all its numbers are is as before -/
theorem fwd_same : ∀ (d : Nat) (n : Int) (c : Cur), right d c = true → n ≤ 0 → fwd n c = c
  | 0, _, c, h, _ => by cases c; simp [right] at h
  | d + 1, n, mk k l a ks, h, hn => by
    rw [fwd_eq]
    by_cases h1 : k = 1
    · subst h1
      obtain ⟨rfl, h0, ha, _, hr⟩ := right_list h
      have : (l.drop a.toNat).takeWhile (fun x => decide (x < n)) = [] := by
        cases hd : l.drop a.toNat with
        | nil => rfl
        | cons x r =>
          have hx : x ∈ l := List.mem_of_mem_drop (by rw [hd]; simp)
          have := (right_mem hr x hx).1
          rw [List.takeWhile_cons, decide_eq_false (by omega)]
          rfl
      rw [if_pos h0, this]
      simp
    · obtain ⟨_, _, rfl, rfl, _, hks⟩ := right_kids h1 h
      have : ks.map (fwd n) = ks := by
        conv => rhs; rw [← List.map_id ks]
        exact List.map_congr_left (fun c hc => fwd_same d n c (hks c hc) hn)
      rw [this]
      simp
end Cur
end Go.Proofs.Ytojngbobecdpeaa
