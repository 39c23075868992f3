/- lless is an order: of two unlike lots of labels just one is less; handed on. -/
import Derived.Test.YtpfjmomdnegcpaaLabLess
import Derived.Sort.Walk0
namespace Go.Proofs.Ytpfjmomdnegcpaa

theorem tless_iff (s t : ByteArray) : tless s t = true ↔ s.toList < t.toList := by
  unfold tless; rw [bytesLess_eq]; exact decide_eq_true_iff
theorem toList_inj {s t : ByteArray} (h : s.toList = t.toList) : s = t := by
  by_cases e : s = t
  · exact e
  · exact absurd h (str_ne e)
theorem tless_irrefl (s : ByteArray) : tless s s = false := by
  cases h : tless s s
  · rfl
  · exact absurd ((tless_iff s s).1 h) (List.lt_irrefl _)
theorem tless_trans {s t u : ByteArray} (h1 : tless s t = true) (h2 : tless t u = true) : tless s u = true :=
  (tless_iff s u).2 (List.lt_trans ((tless_iff s t).1 h1) ((tless_iff t u).1 h2))
theorem tless_asymm {s t : ByteArray} (h1 : tless s t = true) (h2 : tless t s = true) : False := by
  have := tless_trans h1 h2
  rw [tless_irrefl] at this
  cases this
theorem tless_total {s t : ByteArray} (h : s ≠ t) : tless s t = true ∨ tless t s = true := by
  rw [tless_iff, tless_iff]
  by_cases h1 : s.toList < t.toList
  · exact Or.inl h1
  · refine Or.inr ?_
    by_cases h2 : t.toList < s.toList
    · exact h2
    · exact absurd (toList_inj (List.le_antisymm (List.not_lt.1 h2) (List.not_lt.1 h1))) h

/-- one label ahead of another -/
def labless (x y : Lab) : Bool := if x.1 = y.1 then tless x.2 y.2 else tless x.1 y.1
theorem labless_irrefl (x : Lab) : labless x x = false := by unfold labless; rw [if_pos rfl, tless_irrefl]
theorem labless_total {x y : Lab} (h : x ≠ y) : labless x y = true ∨ labless y x = true := by
  unfold labless
  by_cases e : x.1 = y.1
  · rw [if_pos e, if_pos e.symm]
    exact tless_total fun e2 => h (Prod.ext e e2)
  · rw [if_neg e, if_neg (fun e2 => e e2.symm)]
    exact tless_total e
theorem labless_trans {x y z : Lab} (h1 : labless x y = true) (h2 : labless y z = true) : labless x z = true := by
  unfold labless at *
  by_cases e1 : x.1 = y.1
  · by_cases e2 : y.1 = z.1
    · rw [if_pos e1] at h1; rw [if_pos e2] at h2; rw [if_pos (e1.trans e2)]; exact tless_trans h1 h2
    · rw [if_neg e2] at h2; rw [if_neg (by rw [e1]; exact e2), e1]; exact h2
  · by_cases e2 : y.1 = z.1
    · rw [if_neg e1] at h1; rw [if_neg (by rw [← e2]; exact e1), ← e2]; exact h1
    · rw [if_neg e1] at h1; rw [if_neg e2] at h2
      have h3 := tless_trans h1 h2
      by_cases e3 : x.1 = z.1
      · rw [e3] at h1; exact absurd (tless_asymm h1 h2) id
      · rw [if_neg e3]; exact h3
theorem lless_cons (x y : Lab) (a b : List Lab) : lless (x :: a) (y :: b) = if x = y then lless a b else labless x y := rfl
theorem lless_nil (b : List Lab) : lless [] b = decide (0 < b.length) := by cases b <;> rfl
theorem lless_cons_nil (x : Lab) (a : List Lab) : lless (x :: a) [] = false := rfl
theorem lless_irrefl : ∀ a : List Lab, lless a a = false := by
  intro a
  induction a with
  | nil => rfl
  | cons x a ih => rw [lless_cons, if_pos rfl]; exact ih
theorem lless_total : ∀ {a b : List Lab}, a ≠ b → lless a b = true ∨ lless b a = true := by
  intro a
  induction a with
  | nil => intro b h; cases b with
    | nil => exact absurd rfl h
    | cons y b => exact Or.inl rfl
  | cons x a ih => intro b h; cases b with
    | nil => exact Or.inr rfl
    | cons y b =>
      rw [lless_cons, lless_cons]
      by_cases e : x = y
      · subst e
        rw [if_pos rfl, if_pos rfl]
        exact ih fun e => h (by rw [e])
      · rw [if_neg e, if_neg (fun e2 => e e2.symm)]
        exact labless_total e
theorem lless_trans : ∀ {a b c : List Lab}, lless a b = true → lless b c = true → lless a c = true := by
  intro a
  induction a with
  | nil => intro b c h1 h2; cases c with
    | nil => cases b with
      | nil => exact h2
      | cons y b => cases h2
    | cons z c => rfl
  | cons x a ih => intro b c h1 h2; cases b with
    | nil => cases h1
    | cons y b => cases c with
      | nil => cases h2
      | cons z c =>
        rw [lless_cons] at h1 h2 ⊢
        by_cases e1 : x = y
        · subst e1
          rw [if_pos rfl] at h1
          by_cases e2 : x = z
          · rw [if_pos e2] at h2 ⊢; exact ih h1 h2
          · rw [if_neg e2] at h2 ⊢; exact h2
        · rw [if_neg e1] at h1
          by_cases e2 : y = z
          · subst e2; rw [if_neg e1]; exact h1
          · rw [if_neg e2] at h2
            have h3 := labless_trans h1 h2
            by_cases e3 : x = z
            · subst e3; rw [labless_irrefl] at h3; cases h3
            · rw [if_neg e3]; exact h3
theorem lless_asymm {a b : List Lab} (h1 : lless a b = true) (h2 : lless b a = true) : False := by
  have := lless_trans h1 h2
  rw [lless_irrefl] at this
  cases this
end Go.Proofs.Ytpfjmomdnegcpaa
