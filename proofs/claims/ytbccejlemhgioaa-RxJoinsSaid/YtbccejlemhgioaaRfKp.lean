/- how the program reads any pattern: faults stay, and without one nothing is kept of any. Nothing of the program. -/
import Derived.Test.YtbccejlemhgioaaRfLem
namespace Go.Proofs.Ytbccejlemhgioaa.rf
open rx
section
variable {s : List Nat} {t t' : T}
/-- where no fault is, none was -/
def Kp (t t' : T) : Prop := t'.co = 0 → t.co = 0 ∧ t'.wr = t.wr
theorem Kp.refl : Kp t t := fun h => ⟨h, rfl⟩
theorem Kp.trans {t1 t2 : T} (h : Kp t t1) (k : Kp t1 t2) : Kp t t2 := fun e => ⟨(h (k e).1).1, (k e).2.trans (h (k e).1).2⟩
theorem fail_co {a c : Int} (hc : c ≠ 0) : (t.fail a c).co ≠ 0 := by
  unfold T.fail
  split
  · exact hc
  · assumption
theorem Kp.fail {a c : Int} (hc : c ≠ 0) : Kp t' (t.fail a c) := fun h => absurd h (fail_co hc)
theorem Kp.fwd : Kp t t.fwd := fun h => ⟨h, rfl⟩
theorem meets_kp (c : Nat) : Kp t (meets s c t).2 := by
  unfold meets
  split
  · exact Kp.fwd
  · exact Kp.refl
theorem meets_co (c : Nat) : (meets s c t).2.co = t.co := by
  unfold meets
  split <;> rfl
theorem escape_kp (a : Nat) : Kp t (escape s a t).2 := by
  unfold escape
  split
  · exact Kp.fail (by decide)
  · split
    · exact Kp.fwd
    · split
      · exact Kp.fwd
      · split
        · exact Kp.fwd
        · split
          · exact fun h => ⟨h, rfl⟩
          · exact Kp.fail (by decide)
theorem single_kp : Kp t (single s t).2 := by
  unfold single
  split
  · exact Kp.refl
  · split
    · exact Kp.fwd.trans (escape_kp _)
    · split
      · exact Kp.fail (by decide)
      · exact Kp.fwd
theorem member_kp : Kp t (member s t).2 := by
  have h0 : Kp t (single s t).2 := single_kp
  have h1 := h0.trans (meets_kp (s := s) 45)
  unfold member
  simp only
  split
  · exact h0
  · split
    · exact h1
    · split
      · exact Kp.fail (by decide)
      · split
        · exact Kp.fail (by decide)
        · split
          · exact Kp.fail (by decide)
          · exact h1.trans single_kp
theorem mems_kp (a : Nat) : ∀ (f : Nat) (x : Cls) (t : T), Kp t (mems s a f x t).2.1
  | 0, _, _ => Kp.refl
  | f + 1, x, t => by
    unfold mems
    simp only
    split
    · exact meets_kp _
    · split
      · exact Kp.fail (by decide)
      · exact member_kp.trans (mems_kp a f _ _)
theorem members_kp (a : Nat) : Kp t (members s a t).2 := by
  have h : Kp t (mems s a (s.length + 1) .zero (meets s 94 t).2).2.1 := (meets_kp _).trans (mems_kp a _ _ _)
  unfold members
  simp only
  split
  · exact h
  · split <;> split
    · exact Kp.fail (by decide)
    · exact h
    · exact Kp.fail (by decide)
    · exact h
theorem numF_kp (a : Nat) : ∀ (f n : Nat) (t : T), Kp t (numF s a f n t).2
  | 0, _, _ => Kp.refl
  | f + 1, n, t => by
    unfold numF
    split
    · exact Kp.refl
    · split
      · exact Kp.fwd.trans (numF_kp a f _ _)
      · exact Kp.refl
theorem bounds_kp : Kp t (bounds s t).2 := by
  have h1 : Kp t (number s t).2 := numF_kp _ _ _ _
  unfold bounds
  simp only
  split
  · exact h1
  · split
    · exact h1.trans (meets_kp _)
    · split
      · exact h1
      · have h2 := h1.trans (meets_kp (s := s) 44)
        split
        · exact h2.trans (meets_kp _)
        · have h3 : Kp t (number s (meets s 44 (number s t).2).2).2 := h2.trans (numF_kp _ _ _ _)
          split
          · exact h3
          · split <;> exact h3.trans (meets_kp _)
theorem often_kp : Kp t (often s t).2 := by
  unfold often
  split
  · exact Kp.fwd
  · split
    · exact Kp.fwd
    · split
      · exact Kp.fwd
      · split
        · have h1 : Kp t (bounds s t.fwd).2 := Kp.fwd.trans bounds_kp
          simp only
          split
          · exact Kp.fail (by decide)
          · split
            · exact Kp.fail (by decide)
            · exact h1
        · exact Kp.refl
end
section
variable {s : List Nat} {O : T → Pat × T} (hO : ∀ t : T, Kp t (O t).2)
include hO
theorem part_kp (t : T) : Kp t (part s O t).2 := (hO t).trans often_kp
theorem parts_kp : ∀ (f : Nat) (t : T) (l : List Pat), Kp t (parts s O f t l).2
  | 0, _, _ => Kp.refl
  | f + 1, t, l => by
    unfold parts
    split
    · exact Kp.refl
    · split
      · exact Kp.refl
      · exact (part_kp hO t).trans (parts_kp f _ _)
theorem row_kp (t : T) : Kp t (row s O t).2 := parts_kp hO _ _ _
theorem rowsL_kp : ∀ (f : Nat) (t : T) (l : List Pat), Kp t (rowsL s O f t l).2
  | 0, _, _ => Kp.refl
  | f + 1, t, l => by
    unfold rowsL
    simp only
    split
    · exact ((meets_kp (s := s) 124).trans (row_kp hO _)).trans (rowsL_kp f _ _)
    · exact Kp.refl
theorem rows_kp (t : T) : Kp t (rows s O t).2 := (row_kp hO t).trans (rowsL_kp hO _ _ _)
end
theorem base_kp {s : List Nat} {G : Nat → T → Pat × T} (hG : ∀ (a : Nat) (t : T), Kp t (G a t).2) (t : T) : Kp t (onceB s G t).2 := by
  unfold onceB
  split
  · exact Kp.refl
  · split
    · exact Kp.fwd.trans (hG _ _)
    · split
      · exact Kp.fwd.trans (members_kp _)
      · split
        · exact Kp.fwd.trans (escape_kp _)
        · split
          · exact Kp.fwd
          · split
            · exact Kp.fwd
            · exact Kp.fail (by decide)
theorem once_kp {s : List Nat} : ∀ (n : Nat) (t : T), Kp t (once s n t).2
  | 0, t => base_kp (fun _ _ => Kp.fail (by decide)) t
  | n + 1, t => base_kp (fun a t => by
      simp only
      split
      · exact (rows_kp (once_kp n) t).trans (meets_kp _)
      · exact Kp.fail (by decide)) t
/-- what leaves do not say: too deep -/
def N11 (t t' : T) : Prop := t.co ≠ 11 → t'.co ≠ 11
section
variable {s : List Nat} {t t' : T}
theorem N11.refl : N11 t t := fun h => h
theorem N11.trans {t1 t2 : T} (h : N11 t t1) (k : N11 t1 t2) : N11 t t2 := fun e => k (h e)
theorem N11.fail {a c : Int} (h : N11 t t') (hc : c ≠ 11) : N11 t (t'.fail a c) := fun e => by
  unfold T.fail
  split
  · exact hc
  · exact h e
theorem N11.fwd : N11 t t.fwd := fun h => h
theorem meets_11 (c : Nat) : N11 t (meets s c t).2 := fun h => by rw [meets_co]; exact h
theorem escape_11 (a : Nat) : N11 t (escape s a t).2 := by
  unfold escape
  split
  · exact N11.refl.fail (by decide)
  · split
    · exact N11.fwd
    · split
      · exact N11.fwd
      · split
        · exact N11.fwd
        · split
          · exact fun h => h
          · exact N11.fwd.fail (by decide)
theorem single_11 : N11 t (single s t).2 := by
  unfold single
  split
  · exact N11.refl
  · split
    · exact N11.fwd.trans (escape_11 _)
    · split
      · exact N11.fwd.fail (by decide)
      · exact N11.fwd
theorem member_11 : N11 t (member s t).2 := by
  have h0 : N11 t (single s t).2 := single_11
  have h1 := h0.trans (meets_11 (s := s) 45)
  unfold member
  simp only
  split
  · exact h0
  · split
    · exact h1
    · split
      · exact h1.fail (by decide)
      · split
        · exact h1.fail (by decide)
        · split
          · exact (h1.trans single_11).fail (by decide)
          · exact h1.trans single_11
theorem mems_11 (a : Nat) : ∀ (f : Nat) (x : Cls) (t : T), N11 t (mems s a f x t).2.1
  | 0, _, _ => N11.refl
  | f + 1, x, t => by
    unfold mems
    simp only
    split
    · exact meets_11 _
    · split
      · exact N11.refl.fail (by decide)
      · exact member_11.trans (mems_11 a f _ _)
theorem members_11 (a : Nat) : N11 t (members s a t).2 := by
  have h : N11 t (mems s a (s.length + 1) .zero (meets s 94 t).2).2.1 := (meets_11 _).trans (mems_11 a _ _ _)
  unfold members
  simp only
  split
  · exact h
  · split <;> split
    · exact h.fail (by decide)
    · exact h
    · exact h.fail (by decide)
    · exact h
theorem numF_11 (a : Nat) : ∀ (f n : Nat) (t : T), N11 t (numF s a f n t).2
  | 0, _, _ => N11.refl
  | f + 1, n, t => by
    unfold numF
    split
    · exact N11.refl
    · split
      · exact N11.fwd.trans (numF_11 a f _ _)
      · exact N11.refl
theorem bounds_11 : N11 t (bounds s t).2 := by
  have h1 : N11 t (number s t).2 := numF_11 _ _ _ _
  unfold bounds
  simp only
  split
  · exact h1
  · split
    · exact h1.trans (meets_11 _)
    · split
      · exact h1
      · have h2 := h1.trans (meets_11 (s := s) 44)
        split
        · exact h2.trans (meets_11 _)
        · have h3 : N11 t (number s (meets s 44 (number s t).2).2).2 := h2.trans (numF_11 _ _ _ _)
          split
          · exact h3
          · split <;> exact h3.trans (meets_11 _)
theorem often_11 : N11 t (often s t).2 := by
  unfold often
  split
  · exact N11.fwd
  · split
    · exact N11.fwd
    · split
      · exact N11.fwd
      · split
        · have h1 : N11 t (bounds s t.fwd).2 := N11.fwd.trans bounds_11
          simp only
          split
          · exact h1.fail (by decide)
          · split
            · exact h1.fail (by decide)
            · exact h1
        · exact N11.refl
/-- behind a fault a sign is none -/
theorem often_off (h : t.co ≠ 0) : often s t = ((0, 0, false), t) := by
  have hn : nxt s t = none := by unfold nxt; rw [if_neg h]
  simp [often, hn]
theorem nxt_off (h : t.co ≠ 0) : nxt s t = none := by unfold nxt; rw [if_neg h]
theorem meets_off {c : Nat} (h : t.co ≠ 0) : meets s c t = (false, t) := by unfold meets; rw [nxt_off h]; rfl
end
section
variable {s : List Nat} {O : T → Pat × T}
theorem parts_off {t : T} (h : t.co ≠ 0) : ∀ (f : Nat) (l : List Pat), parts s O f t l = (l, t)
  | 0, _ => rfl
  | f + 1, l => by rw [parts, nxt_off h]
theorem row_off {t : T} (h : t.co ≠ 0) : (row s O t).2 = t := by unfold row; rw [parts_off h]
theorem rowsL_off {t : T} (h : t.co ≠ 0) : ∀ (f : Nat) (l : List Pat), rowsL s O f t l = (l, t)
  | 0, _ => rfl
  | f + 1, l => by
    rw [rowsL]
    simp [meets_off h]
theorem rows_off {t : T} (h : t.co ≠ 0) : (rows s O t).2 = t := by
  unfold rows
  simp only
  rw [row_off h, rowsL_off h]
end
end Go.Proofs.Ytbccejlemhgioaa.rf
