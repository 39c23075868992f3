/- how the reader goes on: plain facts. -/
import Derived.Test.YtbccejlemhgioaaRxMath
namespace Go.Proofs.Ytbccejlemhgioaa.rx
section
variable {s : List Nat} {sp : Nat → Bool} {t : St}
theorem once_p (h : t.p < s.length) : (onceS s sp t).2.p = t.p + 1 := by
  unfold onceS
  rw [List.getElem?_eq_getElem h]
  simp only
  split
  · rfl
  · unfold St.fail St.fwd
    split <;> rfl
theorem once_k : (onceS s sp t).1.k = 0 ∨ (onceS s sp t).1.k = 2 := by
  unfold onceS
  split
  · exact Or.inl rfl
  · split
    · exact Or.inr rfl
    · exact Or.inl rfl
theorem nxt_len {c : Nat} (h : nxt s t = some c) : t.p < s.length := by
  unfold nxt at h
  split at h
  · exact (List.getElem?_eq_some_iff.1 h).1
  · cases h
theorem often_p : (often s t).2.p = t.p ∨ ((often s t).2.p = t.p + 1 ∧ t.p < s.length) := by
  unfold often
  split
  · rename_i h; exact Or.inr ⟨rfl, nxt_len h⟩
  · split
    · rename_i h; exact Or.inr ⟨rfl, nxt_len h⟩
    · split
      · rename_i h; exact Or.inr ⟨rfl, nxt_len h⟩
      · exact Or.inl rfl
theorem part_p (h : t.p < s.length) : t.p < (part s (onceS s sp) t).2.p ∧ (part s (onceS s sp) t).2.p ≤ s.length := by
  unfold part
  have h1 := once_p (sp := sp) h
  have h2 := often_p (s := s) (t := (onceS s sp t).2)
  simp only
  omega
theorem part_k : (part s (onceS s sp) t).1.k = 0 ∨ (part s (onceS s sp) t).1.k = 2 ∨ (part s (onceS s sp) t).1.k = 5 := by
  unfold part many
  simp only
  have := once_k (s := s) (sp := sp) (t := t)
  split
  · omega
  · split
    · omega
    · exact Or.inr (Or.inr rfl)
/-- kinds that parts have -/
def PK (l : List Pat) : Prop := ∀ x ∈ l, x.k = 0 ∨ x.k = 2 ∨ x.k = 5
theorem parts_p : ∀ (f : Nat) (t : St) (l : List Pat), t.p ≤ s.length → PK l → t.p ≤ (parts s (onceS s sp) f t l).2.p ∧ (parts s (onceS s sp) f t l).2.p ≤ s.length ∧ PK (parts s (onceS s sp) f t l).1
  | 0, t, l, h, hl => ⟨Nat.le_refl _, h, hl⟩
  | f + 1, t, l, h, hl => by
    unfold parts
    split
    · exact ⟨Nat.le_refl _, h, hl⟩
    · rename_i c hc
      split
      · exact ⟨Nat.le_refl _, h, hl⟩
      · have h1 := part_p (sp := sp) (nxt_len hc)
        have hk := part_k (s := s) (sp := sp) (t := t)
        have hl2 : PK (if (part s (onceS s sp) t).1.k ≠ 1 then l ++ [(part s (onceS s sp) t).1] else l) := by
          split
          · intro x hx
            rcases List.mem_append.1 hx with hx | hx
            · exact hl x hx
            · rw [List.mem_singleton.1 hx]; exact hk
          · exact hl
        have h2 := parts_p f (part s (onceS s sp) t).2 _ h1.2 hl2
        simp only
        exact ⟨by omega, h2.2.1, h2.2.2⟩
theorem flat_id {kind : Int} {l : List Pat} (h : ∀ x ∈ l, x.k ≠ kind) : Pat.flat kind l = l := by
  induction l with
  | nil => rfl
  | cons x r ih =>
    show (if x.k = kind then x.ks else [x]) ++ Pat.flat kind r = x :: r
    rw [if_neg (h x (by simp)), ih (fun y hy => h y (by simp [hy]))]; rfl
theorem row_p (h : t.p ≤ s.length) : t.p ≤ (row s (onceS s sp) t).2.p ∧ (row s (onceS s sp) t).2.p ≤ s.length ∧ (row s (onceS s sp) t).1.k ≠ 4 := by
  unfold row
  have h1 := parts_p (sp := sp) (s.length + 1) t [] h (fun x hx => by simp at hx)
  simp only
  refine ⟨h1.1, h1.2.1, ?_⟩
  have h3 : ∀ x ∈ (parts s (onceS s sp) (s.length + 1) t []).1, x.k ≠ 3 := fun x hx => by have := h1.2.2 x hx; omega
  unfold Pat.gather
  rw [flat_id h3]
  split
  · show (1 : Int) ≠ 4; decide
  · rename_i x e
    have := h1.2.2 x (by rw [e]; simp)
    omega
  · show (3 : Int) ≠ 4; decide
/-- one round of parts -/
theorem parts_step {f c : Nat} {l : List Pat} (hc : nxt s t = some c) (h1 : c ≠ 124) (h2 : c ≠ 41) (hf : s.length < t.p + f) : ∃ f', parts s (onceS s sp) f t l = parts s (onceS s sp) f' (part s (onceS s sp) t).2 (l ++ [(part s (onceS s sp) t).1]) ∧ s.length < (part s (onceS s sp) t).2.p + f' := by
  have hp := nxt_len hc
  have h3 := part_p (sp := sp) hp
  have hk := part_k (s := s) (sp := sp) (t := t)
  match f, hf with
  | f' + 1, hf =>
    refine ⟨f', ?_, by omega⟩
    conv => lhs; unfold parts
    rw [hc]
    simp only
    rw [if_neg (by omega), if_pos (by omega)]
  | 0, hf => omega
theorem parts_end {f : Nat} {l : List Pat} (h : nxt s t = none ∨ nxt s t = some 124 ∨ nxt s t = some 41) : parts s (onceS s sp) f t l = (l, t) := by
  cases f with
  | zero => rfl
  | succ f =>
    unfold parts
    rcases h with h | h | h
    · rw [h]
    · rw [h]; simp
    · rw [h]; simp
theorem rows_step {f : Nat} {l : List Pat} (hc : nxt s t = some 124) (hf : s.length < t.p + f) : ∃ f', rowsL s (onceS s sp) f t l = rowsL s (onceS s sp) f' (row s (onceS s sp) t.fwd).2 (l ++ [(row s (onceS s sp) t.fwd).1]) ∧ s.length < (row s (onceS s sp) t.fwd).2.p + f' := by
  have hp := nxt_len hc
  have h3 := row_p (sp := sp) (s := s) (t := t.fwd) (by show t.p + 1 ≤ _; omega)
  have h4 : t.fwd.p = t.p + 1 := rfl
  match f, hf with
  | f' + 1, hf =>
    refine ⟨f', ?_, by omega⟩
    conv => lhs; unfold rowsL
    have hm : meets s 124 t = (true, t.fwd) := by unfold meets; rw [if_pos hc]
    simp only [hm, if_true]
  | 0, hf => omega
theorem rows_end {f : Nat} {l : List Pat} (h : nxt s t ≠ some 124) : rowsL s (onceS s sp) f t l = (l, t) := by
  cases f with
  | zero => rfl
  | succ f =>
    unfold rowsL
    have hm : meets s 124 t = (false, t) := by unfold meets; rw [if_neg h]
    simp only [hm, Bool.false_eq_true, if_false]
end
end Go.Proofs.Ytbccejlemhgioaa.rx
