/- Numbers sorted and without doubles: plainly; nothing of the program. -/
import Derived.Test.YthhkocbfeiccdaaPostMath
import Derived.Lib.SlicesCompact
namespace Go.Proofs.Ythhkocbfeiccdaa.pm
open Go.Lib

def Srt (d : Array Int) : Prop := ∀ i j, i ≤ j → j < d.size → d[i]! ≤ d[j]!
theorem compact_good {d : Array Int} (hs : Srt d) : ∀ m, m ≤ d.size → Inc (compactUpTo d m) ∧ (∀ x, x ∈ compactUpTo d m ↔ ∃ j, j < m ∧ d[j]! = x) := by
  intro m
  induction m with
  | zero => intro _; exact ⟨inc_nil, fun x => by simp [compactUpTo]⟩
  | succ m ih =>
    intro hm
    obtain ⟨h1, h2⟩ := ih (by omega)
    rw [compactUpTo_succ]
    cases hk : keeps d m with
    | true =>
      rw [if_pos rfl]
      have h3 : ∀ x ∈ compactUpTo d m, x < d[m]! := by
        intro x hx
        obtain ⟨j, hj, rfl⟩ := (h2 x).1 hx
        have h4 : d[m]! ≠ d[m - 1]! := by
          have := of_decide_eq_true hk
          rcases this with h | h
          · omega
          · exact h
        have h5 := hs j (m - 1) (by omega) (by omega)
        have h6 := hs (m - 1) m (by omega) (by omega)
        omega
      refine ⟨List.pairwise_append.2 ⟨h1, by simp, fun a ha b hb => ?_⟩, fun x => ?_⟩
      · obtain rfl : b = d[m]! := by simpa using hb
        exact h3 a ha
      · rw [List.mem_append, h2]
        constructor
        · rintro (⟨j, hj, e⟩ | h)
          · exact ⟨j, by omega, e⟩
          · obtain rfl : x = d[m]! := by simpa using h
            exact ⟨m, by omega, rfl⟩
        · rintro ⟨j, hj, e⟩
          by_cases hjm : j = m
          · subst hjm; exact Or.inr (by simp [e])
          · exact Or.inl ⟨j, by omega, e⟩
    | false =>
      rw [if_neg (by decide), List.append_nil]
      refine ⟨h1, fun x => ?_⟩
      rw [h2]
      have h4 : m ≠ 0 ∧ d[m]! = d[m - 1]! := by
        have := of_decide_eq_false hk
        constructor
        · intro e; exact this (Or.inl e)
        · by_cases e : d[m]! = d[m - 1]!
          · exact e
          · exact absurd (Or.inr e) this
      constructor
      · rintro ⟨j, hj, e⟩; exact ⟨j, by omega, e⟩
      · rintro ⟨j, hj, e⟩
        by_cases hjm : j = m
        · subst hjm; exact ⟨j - 1, by omega, by rw [← e, h4.2]⟩
        · exact ⟨j, by omega, e⟩
theorem srt_of {l : List Int} (h : l.Pairwise (· ≤ ·)) : Srt l.toArray := by
  intro i j hij hj
  have hj' : j < l.length := by simpa using hj
  have e : ∀ k, k < l.length → l.toArray[k]! = l[k]! := fun k hk => by simp [hk]
  rw [e i (by omega), e j hj']
  by_cases h0 : i = j
  · subst h0; exact Int.le_refl _
  · have := (List.pairwise_iff_getElem.1 h) i j (by omega) hj' (by omega)
    simpa [hj', show i < l.length by omega] using this
/-- sorted, without doubles -/
def set (l : List Int) : List Int := compact (l.mergeSort fun x y => decide (x ≤ y))
theorem sorted_of (l : List Int) : (l.mergeSort fun x y => decide (x ≤ y)).Pairwise (· ≤ ·) := by
  have := List.pairwise_mergeSort (le := fun x y : Int => decide (x ≤ y)) (fun a b c h1 h2 => by simp only [decide_eq_true_eq] at h1 h2 ⊢; omega) (fun a b => by simp only [Bool.or_eq_true, decide_eq_true_eq]; omega) l
  exact this.imp fun h => by simpa using h
theorem set_inc (l : List Int) : Inc (set l) := (compact_good (srt_of (sorted_of l)) _ (by simp)).1
theorem set_mem {l : List Int} {x : Int} : x ∈ set l ↔ x ∈ l := by
  unfold set compact
  rw [(compact_good (srt_of (sorted_of l)) _ (by simp)).2]
  rw [← List.mem_mergeSort (le := fun x y : Int => decide (x ≤ y)) (l := l)]
  generalize (l.mergeSort fun x y : Int => decide (x ≤ y)) = s
  constructor
  · rintro ⟨j, hj, e⟩
    have : s.toArray[j]! = s[j] := by simp [hj]
    rw [← e, this]; exact List.getElem_mem hj
  · intro h
    obtain ⟨j, hj, e⟩ := List.getElem_of_mem h
    exact ⟨j, hj, by simp [hj, e]⟩
theorem set_len (l : List Int) : (set l).length ≤ l.length := by
  unfold set compact compactUpTo
  rw [List.length_map]
  refine Nat.le_trans (List.length_filter_le _ _) ?_
  simp
theorem ins_inc {a : List Int} (h : Inc a) {k : Nat} {g : Int} (hk : k ≤ a.length) (h1 : ∀ j, j < k → a.getD j 0 < g) (h2 : ∀ j, k ≤ j → j < a.length → g < a.getD j 0) : Inc (a.take k ++ g :: a.drop k) := by
  refine List.pairwise_append.2 ⟨List.Pairwise.sublist (List.take_sublist _ _) h, List.pairwise_cons.2 ⟨fun y hy => ?_, List.Pairwise.sublist (List.drop_sublist _ _) h⟩, fun x hx y hy => ?_⟩
  · obtain ⟨i, hi, e⟩ := List.getElem_of_mem hy
    rw [List.length_drop] at hi
    rw [List.getElem_drop] at e
    have := h2 (k + i) (by omega) (by omega)
    simp only [List.getD, List.getElem?_eq_getElem (show k + i < a.length by omega), Option.getD_some] at this
    rw [e] at this; exact this
  · have hxg : x < g := by
      obtain ⟨i, hi, e⟩ := List.getElem_of_mem hx
      rw [List.length_take] at hi
      rw [List.getElem_take] at e
      have := h1 i (by omega)
      simp only [List.getD, List.getElem?_eq_getElem (show i < a.length by omega), Option.getD_some] at this
      rw [e] at this; exact this
    rcases List.mem_cons.1 hy with rfl | hy
    · exact hxg
    · obtain ⟨i, hi, e⟩ := List.getElem_of_mem hy
      rw [List.length_drop] at hi
      rw [List.getElem_drop] at e
      have := h2 (k + i) (by omega) (by omega)
      simp only [List.getD, List.getElem?_eq_getElem (show k + i < a.length by omega), Option.getD_some] at this
      rw [e] at this; omega
theorem ins_mem {a : List Int} {k : Nat} {g x : Int} : x ∈ a.take k ++ g :: a.drop k ↔ x = g ∨ x ∈ a := by
  conv => rhs; rw [← List.take_append_drop k a]
  simp only [List.mem_append, List.mem_cons]
  constructor
  · rintro (h | h | h)
    · exact Or.inr (Or.inl h)
    · exact Or.inl h
    · exact Or.inr (Or.inr h)
  · rintro (h | h | h)
    · exact Or.inr (Or.inl h)
    · exact Or.inl h
    · exact Or.inr (Or.inr h)
end Go.Proofs.Ythhkocbfeiccdaa.pm
