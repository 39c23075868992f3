/- Rising lists put together: plainly; nothing of the program. -/
import Derived.Test.YtojngbobecdpeaaKit
namespace Go.Proofs.Ytojngbobecdpeaa.pm

def Inc (l : List Int) : Prop := l.Pairwise (· < ·)
theorem inc_nil : Inc [] := List.Pairwise.nil
theorem inc_tail {x : Int} {l : List Int} (h : Inc (x :: l)) : Inc l := (List.pairwise_cons.1 h).2
theorem inc_head {x : Int} {l : List Int} (h : Inc (x :: l)) : ∀ y ∈ l, x < y := (List.pairwise_cons.1 h).1
theorem inc_filter {l : List Int} (p : Int → Bool) (h : Inc l) : Inc (l.filter p) := List.Pairwise.filter p h
theorem inc_get {l : List Int} (h : Inc l) {i j : Nat} (hij : i < j) (hj : j < l.length) : l.getD i 0 < l.getD j 0 := by
  have := (List.pairwise_iff_getElem.1 h) i j (by omega) hj hij
  simpa [List.getD, hj, show i < l.length by omega] using this
theorem mem_get {l : List Int} {j : Nat} (hj : j < l.length) : l.getD j 0 ∈ l := by
  simp only [List.getD, List.getElem?_eq_getElem hj, Option.getD_some]
  exact List.getElem_mem hj
theorem get_mem {l : List Int} {x : Int} (h : x ∈ l) : ∃ j, j < l.length ∧ l.getD j 0 = x := by
  obtain ⟨j, hj, e⟩ := List.getElem_of_mem h
  exact ⟨j, hj, by simp [List.getD, hj, e]⟩

/-- rising lists with the same numbers are the same -/
theorem ext : ∀ {a b : List Int}, Inc a → Inc b → (∀ x, x ∈ a ↔ x ∈ b) → a = b := by
  intro a
  induction a with
  | nil =>
    intro b _ _ h
    cases b with
    | nil => rfl
    | cons y b => exact absurd ((h y).2 (List.mem_cons_self ..)) (by simp)
  | cons x a ih =>
    intro b ha hb h
    cases b with
    | nil => exact absurd ((h x).1 (List.mem_cons_self ..)) (by simp)
    | cons y b =>
      have h1 := inc_head ha
      have h2 := inc_head hb
      have hxy : x = y := by
        rcases List.mem_cons.1 ((h x).1 (List.mem_cons_self ..)) with e | e
        · exact e
        · rcases List.mem_cons.1 ((h y).2 (List.mem_cons_self ..)) with e2 | e2
          · exact e2.symm
          · have := h2 x e
            have := h1 y e2
            omega
      subst hxy
      congr 1
      refine ih (inc_tail ha) (inc_tail hb) fun z => ?_
      constructor
      · intro hz
        rcases List.mem_cons.1 ((h z).1 (List.mem_cons_of_mem _ hz)) with e | e
        · have := h1 z hz; omega
        · exact e
      · intro hz
        rcases List.mem_cons.1 ((h z).2 (List.mem_cons_of_mem _ hz)) with e | e
        · have := h2 z hz; omega
        · exact e

def has (l : List Int) (x : Int) : Bool := l.contains x
theorem has_iff {l : List Int} {x : Int} : has l x = true ↔ x ∈ l := by unfold has; exact List.contains_iff_mem
theorem has_not {l : List Int} {x : Int} : has l x = false ↔ x ∉ l := by
  cases h : has l x with
  | true => simp [has_iff.1 h]
  | false => simp; intro hx; rw [has_iff.2 hx] at h; cases h
def both (a b : List Int) : List Int := a.filter fun x => has b x
def minus (a b : List Int) : List Int := a.filter fun x => !has b x
def any : List Int → List Int → List Int
  | [], b => b
  | x :: a, [] => x :: a
  | x :: a, y :: b => if x < y then x :: any a (y :: b) else if y < x then y :: any (x :: a) b else x :: any a b
theorem any_nil_left (b : List Int) : any [] b = b := by unfold any; rfl
theorem any_nil_right (a : List Int) : any a [] = a := by cases a <;> (unfold any; rfl)
theorem any_lt {x y : Int} {a b : List Int} (h : x < y) : any (x :: a) (y :: b) = x :: any a (y :: b) := by rw [any, if_pos h]
theorem any_gt {x y : Int} {a b : List Int} (h : y < x) : any (x :: a) (y :: b) = y :: any (x :: a) b := by rw [any, if_neg (by omega), if_pos h]
theorem any_eq {x : Int} {a b : List Int} : any (x :: a) (x :: b) = x :: any a b := by rw [any, if_neg (by omega), if_neg (by omega)]

theorem mem_both {a b : List Int} {x : Int} : x ∈ both a b ↔ x ∈ a ∧ x ∈ b := by simp [both, List.mem_filter, has_iff]
theorem mem_minus {a b : List Int} {x : Int} : x ∈ minus a b ↔ x ∈ a ∧ x ∉ b := by
  unfold minus
  rw [List.mem_filter]
  constructor
  · rintro ⟨h1, h2⟩; exact ⟨h1, has_not.1 (by simpa using h2)⟩
  · rintro ⟨h1, h2⟩; exact ⟨h1, by simpa using has_not.2 h2⟩
theorem mem_any {x : Int} : ∀ (n : Nat) (a b : List Int), a.length + b.length ≤ n → (x ∈ any a b ↔ x ∈ a ∨ x ∈ b) := by
  intro n
  induction n with
  | zero =>
    intro a b h
    obtain rfl : a = [] := List.eq_nil_of_length_eq_zero (by omega)
    rw [any_nil_left]; simp
  | succ n ih =>
    intro a b h
    cases a with
    | nil => rw [any_nil_left]; simp
    | cons y a =>
      cases b with
      | nil => rw [any_nil_right]; simp
      | cons z b =>
        simp only [List.length_cons] at h
        rcases Int.lt_trichotomy y z with h1 | h1 | h1
        · rw [any_lt h1, List.mem_cons, ih a (z :: b) (by simp only [List.length_cons]; omega)]; simp only [List.mem_cons]
          constructor
          · rintro (e | e | e | e)
            · exact Or.inl (Or.inl e)
            · exact Or.inl (Or.inr e)
            · exact Or.inr (Or.inl e)
            · exact Or.inr (Or.inr e)
          · rintro ((e | e) | e | e)
            · exact Or.inl e
            · exact Or.inr (Or.inl e)
            · exact Or.inr (Or.inr (Or.inl e))
            · exact Or.inr (Or.inr (Or.inr e))
        · subst h1
          rw [any_eq, List.mem_cons, ih a b (by omega)]; simp only [List.mem_cons]
          constructor
          · rintro (e | e | e)
            · exact Or.inl (Or.inl e)
            · exact Or.inl (Or.inr e)
            · exact Or.inr (Or.inr e)
          · rintro ((e | e) | e | e)
            · exact Or.inl e
            · exact Or.inr (Or.inl e)
            · exact Or.inl e
            · exact Or.inr (Or.inr e)
        · rw [any_gt h1, List.mem_cons, ih (y :: a) b (by simp only [List.length_cons]; omega)]; simp only [List.mem_cons]
          constructor
          · rintro (e | (e | e) | e)
            · exact Or.inr (Or.inl e)
            · exact Or.inl (Or.inl e)
            · exact Or.inl (Or.inr e)
            · exact Or.inr (Or.inr e)
          · rintro ((e | e) | e | e)
            · exact Or.inr (Or.inl (Or.inl e))
            · exact Or.inr (Or.inl (Or.inr e))
            · exact Or.inl e
            · exact Or.inr (Or.inr e)
theorem mem_any' {a b : List Int} {x : Int} : x ∈ any a b ↔ x ∈ a ∨ x ∈ b := mem_any _ a b (Nat.le_refl _)
theorem inc_both {a b : List Int} (h : Inc a) : Inc (both a b) := inc_filter _ h
theorem inc_minus {a b : List Int} (h : Inc a) : Inc (minus a b) := inc_filter _ h
theorem inc_any : ∀ (n : Nat) (a b : List Int), a.length + b.length ≤ n → Inc a → Inc b → Inc (any a b) := by
  intro n
  induction n with
  | zero =>
    intro a b h _ hb
    obtain rfl : a = [] := List.eq_nil_of_length_eq_zero (by omega)
    rw [any_nil_left]; exact hb
  | succ n ih =>
    intro a b h ha hb
    cases a with
    | nil => rw [any_nil_left]; exact hb
    | cons y a =>
      cases b with
      | nil => rw [any_nil_right]; exact ha
      | cons z b =>
        simp only [List.length_cons] at h
        have h1 := inc_head ha
        have h2 := inc_head hb
        rcases Int.lt_trichotomy y z with hl | hl | hl
        · rw [any_lt hl]
          refine List.pairwise_cons.2 ⟨fun x hx => ?_, ih a (z :: b) (by simp only [List.length_cons]; omega) (inc_tail ha) hb⟩
          rcases mem_any'.1 hx with e | e
          · exact h1 x e
          · rcases List.mem_cons.1 e with e | e
            · omega
            · have := h2 x e; omega
        · subst hl
          rw [any_eq]
          refine List.pairwise_cons.2 ⟨fun x hx => ?_, ih a b (by omega) (inc_tail ha) (inc_tail hb)⟩
          rcases mem_any'.1 hx with e | e
          · exact h1 x e
          · exact h2 x e
        · rw [any_gt hl]
          refine List.pairwise_cons.2 ⟨fun x hx => ?_, ih (y :: a) b (by simp only [List.length_cons]; omega) ha (inc_tail hb)⟩
          rcases mem_any'.1 hx with e | e
          · rcases List.mem_cons.1 e with e | e
            · omega
            · have := h1 x e; omega
          · exact h2 x e
theorem inc_any' {a b : List Int} (ha : Inc a) (hb : Inc b) : Inc (any a b) := inc_any _ a b (Nat.le_refl _) ha hb
theorem both_le (a b : List Int) : (both a b).length ≤ a.length := List.length_filter_le _ _
theorem minus_le (a b : List Int) : (minus a b).length ≤ a.length := List.length_filter_le _ _
theorem any_le : ∀ (n : Nat) (a b : List Int), a.length + b.length ≤ n → (any a b).length ≤ a.length + b.length := by
  intro n
  induction n with
  | zero =>
    intro a b h
    obtain rfl : a = [] := List.eq_nil_of_length_eq_zero (by omega)
    rw [any_nil_left]; simp
  | succ n ih =>
    intro a b h
    cases a with
    | nil => rw [any_nil_left]; simp
    | cons y a =>
      cases b with
      | nil => rw [any_nil_right]; simp
      | cons z b =>
        simp only [List.length_cons] at h
        rcases Int.lt_trichotomy y z with hl | hl | hl
        · rw [any_lt hl]; have := ih a (z :: b) (by simp only [List.length_cons]; omega); simp only [List.length_cons] at this ⊢; omega
        · subst hl; rw [any_eq]; have := ih a b (by omega); simp only [List.length_cons] at this ⊢; omega
        · rw [any_gt hl]; have := ih (y :: a) b (by simp only [List.length_cons]; omega); simp only [List.length_cons] at this ⊢; omega
theorem any_le' (a b : List Int) : (any a b).length ≤ a.length + b.length := any_le _ a b (Nat.le_refl _)
theorem take_snoc {a : List Int} {k : Nat} (hk : k < a.length) : a.take (k + 1) = a.take k ++ [a.getD k 0] := by
  rw [List.take_succ_eq_append_getElem hk]; simp [List.getD, hk]
theorem both_hit {a b : List Int} {k q : Nat} (hk : k < a.length) (hq : q < b.length) (h : b.getD q 0 = a.getD k 0) : both (a.take (k + 1)) b = both (a.take k) b ++ [a.getD k 0] := by
  have hx : has b (a.getD k 0) = true := has_iff.2 (h ▸ mem_get hq)
  have e : List.filter (fun x => has b x) [a.getD k 0] = [a.getD k 0] := List.filter_cons_of_pos hx
  rw [take_snoc hk]; unfold both; rw [List.filter_append, e]
/-- x is not in b, if all ahead of place q are below it, and that at q is above, or there is none -/
theorem not_in {b : List Int} {q : Nat} {x : Int} (hb : Inc b) (h1 : ∀ j, j < q → b.getD j 0 < x) (h2 : q < b.length → x < b.getD q 0) : x ∉ b := by
  intro hx
  obtain ⟨j, hj, e⟩ := get_mem hx
  by_cases hjq : j < q
  · have := h1 j hjq; omega
  · have h3 := h2 (by omega)
    by_cases hjq2 : j = q
    · subst hjq2; omega
    · have := inc_get hb (show q < j by omega) hj
      omega
theorem both_miss {a b : List Int} {k : Nat} (hk : k < a.length) (h : a.getD k 0 ∉ b) : both (a.take (k + 1)) b = both (a.take k) b := by
  have hx : has b (a.getD k 0) = false := has_not.2 h
  have e : List.filter (fun x => has b x) [a.getD k 0] = [] := List.filter_cons_of_neg (by rw [hx]; decide)
  rw [take_snoc hk]; unfold both; rw [List.filter_append, e, List.append_nil]
theorem both_stop {a b : List Int} {k : Nat} (ha : Inc a) (hb : Inc b) (hk : k < a.length) (h : ∀ j, j < b.length → b.getD j 0 < a.getD k 0) : both a b = both (a.take k) b := by
  conv => lhs; rw [← List.take_append_drop k a]
  unfold both
  rw [List.filter_append]
  suffices hd : (a.drop k).filter (fun x => has b x) = [] by rw [hd, List.append_nil]
  apply List.filter_eq_nil_iff.2
  intro x hx
  rw [Bool.not_eq_true]
  apply has_not.2
  obtain ⟨i, hi, e⟩ := List.getElem_of_mem hx
  simp only [List.length_drop] at hi
  have hax : a.getD (k + i) 0 = x := by
    rw [List.getElem_drop] at e
    simp only [List.getD, List.getElem?_eq_getElem (show k + i < a.length by omega), Option.getD_some]; exact e
  refine not_in (q := b.length) hb (fun j hj => ?_) (fun h => absurd h (Nat.lt_irrefl _))
  have h1 := h j hj
  rw [← hax]
  by_cases h0 : i = 0
  · subst h0; exact h1
  · have := inc_get ha (show k < k + i by omega) (by omega)
    omega
theorem minus_hit {a b : List Int} {k : Nat} (hk : k < a.length) (h : a.getD k 0 ∉ b) : minus (a.take (k + 1)) b = minus (a.take k) b ++ [a.getD k 0] := by
  have hx : has b (a.getD k 0) = false := has_not.2 h
  have e : List.filter (fun x => !has b x) [a.getD k 0] = [a.getD k 0] := List.filter_cons_of_pos (by rw [hx]; decide)
  rw [take_snoc hk]; unfold minus; rw [List.filter_append, e]
theorem minus_miss {a b : List Int} {k q : Nat} (hk : k < a.length) (hq : q < b.length) (h : b.getD q 0 = a.getD k 0) : minus (a.take (k + 1)) b = minus (a.take k) b := by
  have hx : has b (a.getD k 0) = true := has_iff.2 (h ▸ mem_get hq)
  have e : List.filter (fun x => !has b x) [a.getD k 0] = [] := List.filter_cons_of_neg (by rw [hx]; decide)
  rw [take_snoc hk]; unfold minus; rw [List.filter_append, e, List.append_nil]
theorem minus_stop {a b : List Int} {k : Nat} (ha : Inc a) (hb : Inc b) (hk : k < a.length) (h : ∀ j, j < b.length → b.getD j 0 < a.getD k 0) : minus a b = minus (a.take k) b ++ a.drop k := by
  conv => lhs; rw [← List.take_append_drop k a]
  unfold minus
  rw [List.filter_append]
  congr 1
  apply List.filter_eq_self.2
  intro x hx
  obtain ⟨i, hi, e⟩ := List.getElem_of_mem hx
  simp only [List.length_drop] at hi
  have hax : a.getD (k + i) 0 = x := by
    rw [List.getElem_drop] at e
    simp only [List.getD, List.getElem?_eq_getElem (show k + i < a.length by omega), Option.getD_some]; exact e
  have : x ∉ b := by
    refine not_in (q := b.length) hb (fun j hj => ?_) (fun h => absurd h (Nat.lt_irrefl _))
    have h1 := h j hj
    rw [← hax]
    by_cases h0 : i = 0
    · subst h0; exact h1
    · have := inc_get ha (show k < k + i by omega) (by omega)
      omega
  rw [has_not.2 this]; rfl
theorem minus_all {a b : List Int} {k : Nat} (hk : a.length ≤ k) : minus (a.take k) b = minus a b := by rw [List.take_of_length_le hk]
theorem minus_take_le (a b : List Int) (k : Nat) : (minus (a.take k) b).length ≤ a.length := Nat.le_trans (minus_le _ _) (by simp; omega)
theorem both_all {a b : List Int} {k : Nat} (hk : a.length ≤ k) : both (a.take k) b = both a b := by rw [List.take_of_length_le hk]
theorem both_take_le (a b : List Int) (k : Nat) : (both (a.take k) b).length ≤ a.length := Nat.le_trans (both_le _ _) (by simp; omega)
end Go.Proofs.Ytojngbobecdpeaa.pm
