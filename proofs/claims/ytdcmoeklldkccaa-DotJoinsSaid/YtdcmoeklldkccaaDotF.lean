/- dot: how long what is laid is; the laying of the vector round by round; the first of a node. No walk. -/
import Derived.Test.YtdcmoeklldkccaaDotLaw
namespace Go.Proofs.Ytdcmoeklldkccaa.dm

theorem step_prev (s : St) (d : Dot) : (step s d).prev = some d := by
  unfold step
  split
  · rfl
  · split <;> rfl
theorem run_prev (K : Int → Int) (l : List Dot) : (run K l).prev = l.getLast? := by
  rcases List.eq_nil_or_concat l with rfl | ⟨p, d, rfl⟩
  · rfl
  · rw [List.concat_eq_append, run_snoc, step_prev]; simp
theorem step_len (s : St) (d : Dot) : (step s d).cloud.length ≤ s.cloud.length + 1 := by
  unfold step
  split
  · exact Nat.le_succ _
  · split
    · exact Nat.le_succ _
    · simp
theorem fold_len : ∀ (l : List Dot) (s : St), (l.foldl step s).cloud.length ≤ s.cloud.length + l.length := by
  intro l
  induction l with
  | nil => intro s; simp
  | cons d r ih =>
    intro s
    have h1 := ih (step s d)
    have h2 := step_len s d
    rw [List.foldl_cons, List.length_cons]
    omega
theorem run_len (K : Int → Int) (l : List Dot) : (run K l).cloud.length ≤ l.length := by
  have := fold_len l ⟨K, [], none⟩
  simpa [run] using this
def layVn (K : Int → Int) (n : Nat) : List Dot := (List.range n).filterMap fun i : Nat => if 0 < K i then some ((i : Int), K i) else none
theorem layVn_zero (K : Int → Int) : layVn K 0 = [] := rfl
theorem layVn_pos {K : Int → Int} {n : Nat} (h : 0 < K n) : layVn K (n + 1) = layVn K n ++ [((n : Int), K n)] := by
  unfold layVn
  rw [List.range_succ, List.filterMap_append]
  simp [h]
theorem layVn_neg {K : Int → Int} {n : Nat} (h : ¬ 0 < K n) : layVn K (n + 1) = layVn K n := by
  unfold layVn
  rw [List.range_succ, List.filterMap_append]
  simp [h]
theorem layVn_len (K : Int → Int) (n : Nat) : (layVn K n).length ≤ n := by
  have := List.length_filterMap_le (fun i : Nat => if 0 < K i then some ((i : Int), K i) else none) (List.range n)
  simpa [layVn] using this
theorem layV_n (K : Int → Int) : layV K = layVn K 16 := rfl
theorem layF_len1 (K : Int → Int) (l : List Dot) : (layF K l).1.length ≤ 16 := layVn_len _ 16
theorem layF_len2 (K : Int → Int) (l : List Dot) : (layF K l).2.length ≤ l.length := run_len K l

/-- a context of the one form, which knows just what S says -/
structure Is (c : Ctx) (S : Dot → Prop) (m : Nat) : Prop where
  right : Right c
  know : ∀ d, Knows c d ↔ S d
  len1 : c.1.length ≤ 16
  len2 : c.2.length ≤ m
theorem Is.eq {a b : Ctx} {S T : Dot → Prop} {m n : Nat} (ha : Is a S m) (hb : Is b T n) (h : ∀ d, S d ↔ T d) : a = b :=
  ext ha.right hb.right fun d => by rw [ha.know, hb.know]; exact h d
theorem Is.iff {a b : Ctx} {S T : Dot → Prop} {m n : Nat} (ha : Is a S m) (hb : Is b T n) : a = b ↔ ∀ d, S d ↔ T d :=
  ⟨fun e d => by rw [← ha.know, ← hb.know, e], ha.eq hb⟩
theorem Is.iff_S {a : Ctx} {S T : Dot → Prop} {m : Nat} (ha : Is a S m) (h : ∀ d, S d ↔ T d) : Is a T m := ⟨ha.right, fun d => (ha.know d).trans (h d), ha.len1, ha.len2⟩

/-- the first of a node -/
theorem kn_first : ∀ (l : List Dot) (i : Nat) (n : Int) (h : i < l.length), l[i].1 = n → (∀ j (hj : j < i), (l[j]'(by omega)).1 ≠ n) → kn l n = l[i].2 := by
  intro l
  induction l with
  | nil => intro i n h; simp at h
  | cons e r ih =>
    intro i n h he hno
    cases i with
    | zero =>
      simp only [List.getElem_cons_zero] at he ⊢
      rw [kn_cons, if_pos he]
    | succ i =>
      have h0 := hno 0 (by omega)
      simp only [List.getElem_cons_zero] at h0
      simp only [List.getElem_cons_succ] at he ⊢
      rw [kn_cons, if_neg h0]
      refine ih i n (by simpa using h) he fun j hj => ?_
      have := hno (j + 1) (by omega)
      simpa using this
theorem kn_none {l : List Dot} {n : Int} (h : ∀ d ∈ l, d.1 ≠ n) : kn l n = 0 := by
  rcases kn_cases l n with ⟨e, _⟩ | hm
  · exact e
  · exact absurd rfl (h _ hm)
theorem first_or (l : List Dot) (n : Int) : (∀ j (hj : j < l.length), l[j].1 ≠ n) ∨ ∃ i, ∃ h : i < l.length, l[i].1 = n ∧ ∀ j (hj : j < i), (l[j]'(by omega)).1 ≠ n := by
  have : ∀ k, k ≤ l.length → (∀ j (_ : j < k) (hj : j < l.length), l[j].1 ≠ n) ∨ ∃ i, ∃ h : i < l.length, l[i].1 = n ∧ ∀ j (hj : j < i), (l[j]'(by omega)).1 ≠ n := by
    intro k
    induction k with
    | zero => intro _; exact Or.inl fun j hj => absurd hj (by omega)
    | succ k ih =>
      intro hk
      rcases ih (by omega) with h | h
      · by_cases he : (l[k]'(by omega)).1 = n
        · exact Or.inr ⟨k, by omega, he, fun j hj => h j hj _⟩
        · refine Or.inl fun j hj hj2 => ?_
          by_cases e : j = k
          · subst e; exact he
          · exact h j (by omega) hj2
      · exact Or.inr h
  rcases this l.length (Nat.le_refl _) with h | h
  · exact Or.inl fun j hj => h j hj hj
  · exact Or.inr h
end Go.Proofs.Ytdcmoeklldkccaa.dm
