/- how the program reads any pattern: how far it gets, and how big what it reads is. Nothing of the program. -/
import Derived.Test.YtbccejlemhgioaaRfMath
namespace Go.Proofs.Ytbccejlemhgioaa.rf
open rx
section
variable {s : List Nat} {t t' : T}
@[simp] theorem fail_p (a b : Int) : (t.fail a b).p = t.p := by unfold T.fail; split <;> rfl
theorem nxt_some {c : Nat} (h : nxt s t = some c) : t.co = 0 ∧ s[t.p]? = some c ∧ t.p < s.length := by
  unfold nxt at h
  split at h
  · exact ⟨by assumption, h, (List.getElem?_eq_some_iff.1 h).1⟩
  · cases h
/-- further on, and within the text -/
def Pr (s : List Nat) (t t' : T) : Prop := t.p ≤ t'.p ∧ (t.p ≤ s.length → t'.p ≤ s.length)
theorem Pr.refl : Pr s t t := ⟨Nat.le_refl _, id⟩
theorem Pr.trans {t1 t2 : T} (h : Pr s t t1) (k : Pr s t1 t2) : Pr s t t2 := ⟨Nat.le_trans h.1 k.1, fun e => k.2 (h.2 e)⟩
theorem Pr.fail (h : Pr s t t') (a b : Int) : Pr s t (t'.fail a b) := by unfold Pr; rw [fail_p]; exact h
theorem Pr.fwd (h : t.p < s.length) : Pr s t t.fwd := ⟨Nat.le_succ _, fun _ => h⟩
theorem meets_pr (c : Nat) : Pr s t (meets s c t).2 := by
  unfold meets
  split
  · rename_i h; exact Pr.fwd (nxt_some h).2.2
  · exact Pr.refl
theorem hex_len {c v : Nat} (h : hex s c t = some v) : t.p + 1 < s.length := by
  unfold hex at h
  split at h
  · split at h
    · rename_i h2; exact (List.getElem?_eq_some_iff.1 h2).1
    · cases h
  · cases h
theorem escape_pr (a : Nat) : Pr s t (escape s a t).2 := by
  unfold escape
  split
  · exact Pr.refl.fail _ _
  · rename_i c hc
    have hl := (nxt_some hc).2.2
    split
    · exact Pr.fwd hl
    · split
      · exact Pr.fwd hl
      · split
        · exact Pr.fwd hl
        · split
          · rename_i h
            have := hex_len h
            simp only [T.fwd] at this
            refine ⟨by simp only [T.fwd]; omega, fun _ => by simp only [T.fwd]; omega⟩
          · exact (Pr.fwd hl).fail _ _
theorem single_pr : Pr s t (single s t).2 := by
  unfold single
  split
  · exact Pr.refl
  · rename_i c hc
    have hl := (List.getElem?_eq_some_iff.1 hc).1
    split
    · exact (Pr.fwd hl).trans (escape_pr _)
    · split
      · exact (Pr.fwd hl).fail _ _
      · exact Pr.fwd hl
theorem single_lt (h : t.p < s.length) : t.p < (single s t).2.p := by
  unfold single
  rw [List.getElem?_eq_getElem h]
  simp only
  split
  · exact Nat.lt_of_lt_of_le (Nat.lt_succ_self _) (escape_pr (t := t.fwd) _).1
  · split
    · rw [fail_p]; exact Nat.lt_succ_self _
    · exact Nat.lt_succ_self _
theorem member_pr : Pr s t (member s t).2 ∧ (single s t).2.p ≤ (member s t).2.p := by
  have h0 : Pr s t (single s t).2 := single_pr
  have h1 := h0.trans (meets_pr (s := s) 45)
  have g1 := (meets_pr (s := s) (t := (single s t).2) 45).1
  unfold member
  simp only
  split
  · exact ⟨h0, Nat.le_refl _⟩
  · split
    · exact ⟨h1, g1⟩
    · split
      · exact ⟨h1.fail _ _, by rw [fail_p]; exact g1⟩
      · split
        · exact ⟨h1.fail _ _, by rw [fail_p]; exact g1⟩
        · have h2 := single_pr (s := s) (t := (meets s 45 (single s t).2).2)
          split
          · exact ⟨(h1.trans h2).fail _ _, by rw [fail_p]; exact Nat.le_trans g1 h2.1⟩
          · exact ⟨h1.trans h2, Nat.le_trans g1 h2.1⟩
theorem member_lt (h : t.p < s.length) : t.p < (member s t).2.p := Nat.lt_of_lt_of_le (single_lt h) member_pr.2
theorem mems_pr (a : Nat) : ∀ (f : Nat) (x : Cls) (t : T), Pr s t (mems s a f x t).2.1
  | 0, _, _ => Pr.refl
  | f + 1, x, t => by
    unfold mems
    simp only
    split
    · exact meets_pr _
    · split
      · exact Pr.refl.fail _ _
      · exact member_pr.1.trans (mems_pr a f _ _)
theorem members_pr (a : Nat) : Pr s t (members s a t).2 := by
  have h : Pr s t (mems s a (s.length + 1) .zero (meets s 94 t).2).2.1 := (meets_pr _).trans (mems_pr a _ _ _)
  unfold members
  simp only
  split
  · exact h
  · split <;> split
    · exact h.fail _ _
    · exact h
    · exact h.fail _ _
    · exact h
theorem numF_pr (a : Nat) : ∀ (f n : Nat) (t : T), Pr s t (numF s a f n t).2
  | 0, _, _ => Pr.refl
  | f + 1, n, t => by
    unfold numF
    split
    · exact Pr.refl
    · rename_i c hc
      split
      · exact (Pr.fwd (nxt_some hc).2.2).trans (numF_pr a f _ _)
      · exact Pr.refl
theorem number_pr : Pr s t (number s t).2 := numF_pr _ _ _ _
theorem bounds_pr : Pr s t (bounds s t).2 := by
  have h1 : Pr s t (number s t).2 := number_pr
  unfold bounds
  simp only
  split
  · exact h1
  · split
    · exact h1.trans (meets_pr _)
    · split
      · exact h1
      · have h2 := h1.trans (meets_pr (s := s) 44)
        split
        · exact h2.trans (meets_pr _)
        · have h3 := h2.trans number_pr
          split
          · exact h3
          · split <;> exact h3.trans (meets_pr _)
theorem often_pr : Pr s t (often s t).2 := by
  unfold often
  split
  · rename_i h; exact Pr.fwd (nxt_some h).2.2
  · split
    · rename_i h; exact Pr.fwd (nxt_some h).2.2
    · split
      · rename_i h; exact Pr.fwd (nxt_some h).2.2
      · split
        · rename_i h
          have h1 := (Pr.fwd (nxt_some h).2.2).trans (bounds_pr (s := s) (t := t.fwd))
          simp only
          split
          · exact h1.fail _ _
          · split
            · exact h1.fail _ _
            · exact h1
        · exact Pr.refl
end
mutual
/-- how many patterns stand within one, it too -/
def sz : Pat → Nat | .mk _ _ ks _ _ => 1 + szs ks
def szs : List Pat → Nat | [] => 0 | x :: l => sz x + szs l
end
theorem sz_pos : ∀ x : Pat, 1 ≤ sz x | .mk _ _ _ _ _ => by unfold sz; omega
theorem szs_app : ∀ l m : List Pat, szs (l ++ m) = szs l + szs m
  | [], m => by simp [szs]
  | x :: l, m => by simp only [List.cons_append, szs, szs_app l m]; omega
theorem szs_len : ∀ l : List Pat, l.length ≤ szs l
  | [] => by simp [szs]
  | x :: l => by have := szs_len l; have := sz_pos x; simp only [List.length_cons, szs]; omega
theorem ks_sz : ∀ x : Pat, szs x.ks + 1 = sz x | .mk _ _ _ _ _ => by simp only [Pat.ks, sz]; omega
theorem szs_flat (kind : Int) : ∀ l : List Pat, szs (Pat.flat kind l) ≤ szs l
  | [] => Nat.le_refl _
  | x :: l => by
    have h := szs_flat kind l
    unfold Pat.flat at h ⊢
    rw [List.flatMap_cons, szs_app]
    simp only [szs]
    have := ks_sz x
    split
    · omega
    · simp only [szs]; omega
theorem sz_gather (kind : Int) (l : List Pat) : sz (Pat.gather kind l) ≤ 1 + szs l := by
  have h := szs_flat kind l
  unfold Pat.gather
  split
  · simp only [sz, szs]; omega
  · rename_i x e; rw [e] at h; simp only [szs] at h; omega
  · simp only [sz]; omega
/-- a part: further on by a byte at least, and not too big -/
def Good (s : List Nat) (a : Nat) (O : T → Pat × T) : Prop := ∀ t : T, t.p < s.length → t.p < (O t).2.p ∧ (O t).2.p ≤ s.length ∧ sz (O t).1 ≤ a * ((O t).2.p - t.p)
section
variable {s : List Nat} {a : Nat} {O : T → Pat × T}
theorem sz_many (x : Pat) (o : Int × Int × Bool) : sz (many x o) ≤ sz x + 1 := by
  unfold many
  split
  · omega
  · split
    · omega
    · simp only [sz, szs]; omega
theorem part_good (h : Good s a O) (t : T) (ht : t.p < s.length) : t.p < (part s O t).2.p ∧ (part s O t).2.p ≤ s.length ∧ sz (part s O t).1 ≤ a * ((part s O t).2.p - t.p) + 1 := by
  obtain ⟨h1, h2, h3⟩ := h t ht
  have h4 := often_pr (s := s) (t := (O t).2)
  unfold part
  simp only
  refine ⟨Nat.lt_of_lt_of_le h1 h4.1, h4.2 h2, Nat.le_trans (sz_many _ _) ?_⟩
  have : a * ((O t).2.p - t.p) ≤ a * ((often s (O t).2).2.p - t.p) := Nat.mul_le_mul_left _ (by have := h4.1; omega)
  omega
theorem parts_good (h : Good s a O) : ∀ (f : Nat) (t : T) (l : List Pat), t.p ≤ s.length → t.p ≤ (parts s O f t l).2.p ∧ (parts s O f t l).2.p ≤ s.length ∧ szs (parts s O f t l).1 ≤ szs l + (a + 1) * ((parts s O f t l).2.p - t.p)
  | 0, t, l, ht => ⟨Nat.le_refl _, ht, Nat.le_add_right _ _⟩
  | f + 1, t, l, ht => by
    unfold parts
    split
    · exact ⟨Nat.le_refl _, ht, Nat.le_add_right _ _⟩
    · rename_i c hc
      split
      · exact ⟨Nat.le_refl _, ht, Nat.le_add_right _ _⟩
      · obtain ⟨g1, g2, g3⟩ := part_good h t (nxt_some hc).2.2
        simp only
        obtain ⟨k1, k2, k3⟩ := parts_good h f (part s O t).2 (if (part s O t).1.k ≠ 1 then l ++ [(part s O t).1] else l) g2
        refine ⟨by omega, k2, ?_⟩
        generalize (parts s O f (part s O t).2 (if (part s O t).1.k ≠ 1 then l ++ [(part s O t).1] else l)) = r at k1 k2 k3 ⊢
        have e1 : szs (if (part s O t).1.k ≠ 1 then l ++ [(part s O t).1] else l) ≤ szs l + sz (part s O t).1 := by
          split
          · rw [szs_app]; simp only [szs]; omega
          · omega
        have e2 : (a + 1) * (r.2.p - t.p) = (a + 1) * (r.2.p - (part s O t).2.p) + (a + 1) * ((part s O t).2.p - t.p) := by rw [← Nat.mul_add]; congr 1; omega
        have e3 : a * ((part s O t).2.p - t.p) + 1 ≤ (a + 1) * ((part s O t).2.p - t.p) := by rw [Nat.succ_mul]; omega
        omega
theorem row_good (h : Good s a O) (t : T) (ht : t.p ≤ s.length) : t.p ≤ (row s O t).2.p ∧ (row s O t).2.p ≤ s.length ∧ sz (row s O t).1 ≤ (a + 1) * ((row s O t).2.p - t.p) + 1 := by
  obtain ⟨h1, h2, h3⟩ := parts_good h (s.length + 1) t [] ht
  unfold row
  simp only
  refine ⟨h1, h2, Nat.le_trans (sz_gather _ _) ?_⟩
  simp only [szs] at h3
  omega
theorem rowsL_good (h : Good s a O) : ∀ (f : Nat) (t : T) (l : List Pat), t.p ≤ s.length → t.p ≤ (rowsL s O f t l).2.p ∧ (rowsL s O f t l).2.p ≤ s.length ∧ szs (rowsL s O f t l).1 ≤ szs l + (a + 1) * ((rowsL s O f t l).2.p - t.p)
  | 0, t, l, ht => ⟨Nat.le_refl _, ht, Nat.le_add_right _ _⟩
  | f + 1, t, l, ht => by
    unfold rowsL
    simp only
    split
    · rename_i hm
      have hn : nxt s t = some 124 := by
        unfold meets at hm
        split at hm
        · assumption
        · cases hm
      have hm2 : (meets s 124 t).2 = t.fwd := by unfold meets; rw [if_pos hn]
      rw [hm2]
      obtain ⟨g1, g2, g3⟩ := row_good h t.fwd (nxt_some hn).2.2
      obtain ⟨k1, k2, k3⟩ := rowsL_good h f (row s O t.fwd).2 (l ++ [(row s O t.fwd).1]) g2
      have g0 : t.fwd.p = t.p + 1 := rfl
      refine ⟨by omega, k2, ?_⟩
      generalize (rowsL s O f (row s O t.fwd).2 (l ++ [(row s O t.fwd).1])) = r at k1 k2 k3 ⊢
      rw [szs_app] at k3
      simp only [szs] at k3
      have e2 : (a + 1) * (r.2.p - t.p) = (a + 1) * (r.2.p - (row s O t.fwd).2.p) + (a + 1) * ((row s O t.fwd).2.p - t.fwd.p) + (a + 1) := by
        rw [← Nat.mul_add, ← Nat.mul_succ]; congr 1; omega
      omega
    · exact ⟨Nat.le_refl _, ht, Nat.le_add_right _ _⟩
theorem rows_good (h : Good s a O) (t : T) (ht : t.p ≤ s.length) : t.p ≤ (rows s O t).2.p ∧ (rows s O t).2.p ≤ s.length ∧ sz (rows s O t).1 ≤ (a + 1) * ((rows s O t).2.p - t.p) + 2 := by
  obtain ⟨h1, h2, h3⟩ := row_good h t ht
  obtain ⟨k1, k2, k3⟩ := rowsL_good h (s.length + 1) (row s O t).2 [(row s O t).1] h2
  unfold rows
  simp only
  refine ⟨Nat.le_trans h1 k1, k2, Nat.le_trans (sz_gather _ _) ?_⟩
  simp only [szs] at k3
  have e2 : (a + 1) * ((rowsL s O (s.length + 1) (row s O t).2 [(row s O t).1]).2.p - t.p) = (a + 1) * ((rowsL s O (s.length + 1) (row s O t).2 [(row s O t).1]).2.p - (row s O t).2.p) + (a + 1) * ((row s O t).2.p - t.p) := by rw [← Nat.mul_add]; congr 1; omega
  omega
end
theorem base_good {s : List Nat} {a : Nat} (ha : 1 ≤ a) (G : Nat → T → Pat × T) (hG : ∀ t : T, t.p < s.length → t.p + 1 ≤ (G t.p t.fwd).2.p ∧ (G t.p t.fwd).2.p ≤ s.length ∧ sz (G t.p t.fwd).1 ≤ a * ((G t.p t.fwd).2.p - t.p)) : Good s a (onceB s G) := by
  intro t ht
  have hz : ∀ (k : Cls) (p : Nat), t.p + 1 ≤ p → sz (Pat.ofCls k) ≤ a * (p - t.p) := fun k p h => by
    have : sz (Pat.ofCls k) = 1 := rfl
    have : 1 * 1 ≤ a * (p - t.p) := Nat.mul_le_mul ha (by omega)
    omega
  have hz0 : ∀ (p : Nat), t.p + 1 ≤ p → sz Pat.zero ≤ a * (p - t.p) := fun p h => by
    have : sz Pat.zero = 1 := rfl
    have : 1 * 1 ≤ a * (p - t.p) := Nat.mul_le_mul ha (by omega)
    omega
  unfold onceB
  rw [List.getElem?_eq_getElem ht]
  simp only
  have hf := Pr.fwd ht
  have e : t.fwd.p = t.p + 1 := rfl
  split
  · obtain ⟨h1, h2, h3⟩ := hG t ht
    exact ⟨by omega, h2, h3⟩
  · split
    · have h1 := members_pr (s := s) (t := t.fwd) t.p
      have h2 := h1.1
      exact ⟨by show t.p < (members s t.p t.fwd).2.p; omega, h1.2 ht, hz _ _ (by rw [← e]; exact h2)⟩
    · split
      · have h1 := escape_pr (s := s) (t := t.fwd) t.p
        have h2 := h1.1
        exact ⟨by show t.p < (escape s t.p t.fwd).2.p; omega, h1.2 ht, hz _ _ (by rw [← e]; exact h2)⟩
      · split
        · exact ⟨by show t.p < t.p + 1; omega, ht, hz _ _ (Nat.le_refl _)⟩
        · split
          · exact ⟨by show t.p < t.p + 1; omega, ht, hz _ _ (Nat.le_refl _)⟩
          · refine ⟨by show t.p < (t.fwd.fail t.p 9).p; rw [fail_p]; omega, by show (t.fwd.fail t.p 9).p ≤ _; rw [fail_p]; exact ht, hz0 _ (by rw [fail_p]; exact Nat.le_refl _)⟩
theorem once_good {s : List Nat} : ∀ n, Good s (2 * n + 1) (once s n)
  | 0 => by
    refine base_good (by omega) _ fun t ht => ?_
    simp only [fail_p]
    refine ⟨Nat.le_refl _, ht, ?_⟩
    have : sz Pat.zero = 1 := rfl
    show sz Pat.zero ≤ 1 * (t.p + 1 - t.p)
    omega
  | n + 1 => by
    refine base_good (by omega) _ fun t ht => ?_
    obtain ⟨h1, h2, h3⟩ := rows_good (once_good (s := s) n) t.fwd ht
    have h4 := meets_pr (s := s) (t := (rows s (once s n) t.fwd).2) 41
    have e : t.fwd.p = t.p + 1 := rfl
    simp only
    have key : ∀ q : Nat, (rows s (once s n) t.fwd).2.p ≤ q → q ≤ s.length → t.p + 1 ≤ q ∧ q ≤ s.length ∧ sz (rows s (once s n) t.fwd).1 ≤ (2 * (n + 1) + 1) * (q - t.p) := by
      intro q hq hl
      refine ⟨by omega, hl, Nat.le_trans h3 ?_⟩
      have e1 : (2 * (n + 1) + 1) * (q - t.p) = (2 * n + 1 + 1) * (q - t.p) + (q - t.p) := by rw [show 2 * (n + 1) + 1 = (2 * n + 1 + 1) + 1 by omega, Nat.succ_mul]
      have e2 : (2 * n + 1 + 1) * (q - t.p) = (2 * n + 1 + 1) * (q - t.fwd.p) + (2 * n + 1 + 1) := by rw [← Nat.mul_succ]; congr 1; omega
      have e3 : (2 * n + 1 + 1) * ((rows s (once s n) t.fwd).2.p - t.fwd.p) ≤ (2 * n + 1 + 1) * (q - t.fwd.p) := Nat.mul_le_mul_left _ (by omega)
      omega
    split
    · exact key _ h4.1 (h4.2 h2)
    · rw [fail_p]; exact key _ h4.1 (h4.2 h2)
end Go.Proofs.Ytbccejlemhgioaa.rf
