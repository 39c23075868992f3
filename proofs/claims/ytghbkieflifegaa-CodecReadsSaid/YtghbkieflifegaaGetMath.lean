/- Plain facts on reading a number out of bytes; nothing of the program. -/
import Derived.Test.YtghbkieflifegaaPutMath
namespace Go.Proofs.Ytghbkieflifegaa.vm

/-- what is read of bytes l behind i bytes whose number is n so far: the number, how many bytes, the error -/
def getL (l : List Nat) (i n : Nat) : Nat × Nat × Nat :=
  if 6 ≤ i then (0, 0, 3) else
  match l with
  | [] => (0, 0, 2)
  | b :: r =>
    if b < 128 then
      if b = 0 ∧ 0 < i then (0, 0, 3)
      else if 1099511627776 < n + b * 2 ^ (7 * i) then (0, 0, 4)
      else (n + b * 2 ^ (7 * i), i + 1, 0)
    else getL r (i + 1) (n + (b - 128) * 2 ^ (7 * i))

theorem getL_six (l : List Nat) (i n : Nat) (h : 6 ≤ i) : getL l i n = (0, 0, 3) := by unfold getL; rw [if_pos h]
theorem getL_nil (i n : Nat) (h : i < 6) : getL [] i n = (0, 0, 2) := by unfold getL; rw [if_neg (by omega)]
theorem getL_zero (r : List Nat) (i n : Nat) (h : i < 6) (h0 : 0 < i) : getL (0 :: r) i n = (0, 0, 3) := by
  unfold getL; rw [if_neg (by omega)]; simp [h0]
theorem getL_long (b : Nat) (r : List Nat) (i n q : Nat) (hq : q = b * 2 ^ (7 * i)) (h : i < 6) (hb : b < 128) (h0 : ¬ (b = 0 ∧ 0 < i)) (hn : 1099511627776 < n + q) : getL (b :: r) i n = (0, 0, 4) := by
  subst hq; unfold getL; rw [if_neg (by omega)]; simp only; rw [if_pos hb, if_neg h0, if_pos hn]
theorem getL_ok (b : Nat) (r : List Nat) (i n q : Nat) (hq : q = b * 2 ^ (7 * i)) (h : i < 6) (hb : b < 128) (h0 : ¬ (b = 0 ∧ 0 < i)) (hn : n + q ≤ 1099511627776) : getL (b :: r) i n = (n + q, i + 1, 0) := by
  subst hq; unfold getL; rw [if_neg (by omega)]; simp only; rw [if_pos hb, if_neg h0, if_neg (by omega)]
theorem getL_more (b : Nat) (r : List Nat) (i n : Nat) (h : i < 6) (hb : ¬ b < 128) : getL (b :: r) i n = getL r (i + 1) (n + (b - 128) * 2 ^ (7 * i)) := by
  rw [getL, if_neg (by omega)]; exact if_neg hb

/-- the whole call: the number, the place behind it, the error -/
def place (at_ : Nat) (r : Nat × Nat × Nat) : Nat × Nat × Nat := if r.2.2 = 0 then (r.1, at_ + r.2.1, 0) else (0, 0, r.2.2)
def get (l : List Nat) (a : Int) : Nat × Nat × Nat :=
  if a < 0 ∨ (l.length : Int) < a then (0, 0, 1) else place a.toNat (getL (l.drop a.toNat) 0 0)
theorem get_bad {l : List Nat} {a : Int} (h : a < 0 ∨ (l.length : Int) < a) : get l a = (0, 0, 1) := by unfold get; rw [if_pos h]
theorem get_in {l : List Nat} {a : Nat} (h : a ≤ l.length) : get l (a : Int) = place a (getL (l.drop a) 0 0) := by
  unfold get; rw [if_neg (by omega)]; simp

theorem shl_lt {b i : Nat} (hb : b < 128) (hi : i < 6) : b * 2 ^ (7 * i) < 2 ^ 42 := by
  have h1 : b * 2 ^ (7 * i) < 2 ^ 7 * 2 ^ (7 * i) := Nat.mul_lt_mul_of_pos_right (by omega) (Nat.two_pow_pos _)
  have h2 : 2 ^ 7 * 2 ^ (7 * i) ≤ 2 ^ 42 := by rw [← Nat.pow_add]; exact Nat.pow_le_pow_right (by omega) (by omega)
  omega
theorem shl_q {b i : Nat} (hb : b < 128) (hi : i < 6) : ∃ q : Nat, q = b * 2 ^ (7 * i) ∧ (b : Int) * 2 ^ (7 * i) = (q : Int) ∧ q < 4398046511104 := by
  refine ⟨_, rfl, ?_, ?_⟩
  · rw [Int.natCast_mul, Int.natCast_pow]; rfl
  · have h := shl_lt hb hi
    exact h
theorem acc_lt {n b i : Nat} (hn : n < 2 ^ (7 * i)) (hb : b < 128) : n + b * 2 ^ (7 * i) < 2 ^ (7 * (i + 1)) := by
  have h1 : (b + 1) * 2 ^ (7 * i) ≤ 2 ^ 7 * 2 ^ (7 * i) := Nat.mul_le_mul_right _ (by omega)
  rw [Nat.succ_mul] at h1
  have h2 : 2 ^ 7 * 2 ^ (7 * i) = 2 ^ (7 * (i + 1)) := by rw [← Nat.pow_add]; congr 1; omega
  omega
end Go.Proofs.Ytghbkieflifegaa.vm
