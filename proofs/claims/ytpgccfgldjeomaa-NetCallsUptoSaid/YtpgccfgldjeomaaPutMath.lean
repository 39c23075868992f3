/- Plain facts on numbers as bytes, their lowest seven bits first; nothing of the program. -/
import Derived.WalkKit
namespace Go.Proofs.Ytpgccfgldjeomaa.vm

/-- the bytes of a number -/
def enc (n : Nat) : List Nat := if n < 128 then [n] else (n % 128 + 128) :: enc (n / 128)
termination_by n
decreasing_by omega

theorem enc_lt {n : Nat} (h : n < 128) : enc n = [n] := by rw [enc, if_pos h]
theorem enc_ge {n : Nat} (h : ¬ n < 128) : enc n = (n % 128 + 128) :: enc (n / 128) := by rw [enc, if_neg h]

theorem enc_pos (n : Nat) : 1 ≤ (enc n).length := by
  rw [enc]; split <;> simp

theorem enc_byte (n : Nat) : ∀ x ∈ enc n, x < 256 := by
  induction n using Nat.strongRecOn with
  | ind n ih =>
    intro x hx
    by_cases h : n < 128
    · rw [enc_lt h] at hx; simp at hx; omega
    · rw [enc_ge h] at hx
      rcases List.mem_cons.1 hx with e | e
      · omega
      · exact ih (n / 128) (by omega) x e

theorem enc_len (k : Nat) : ∀ n, n < 128 ^ k → 1 ≤ k → (enc n).length ≤ k := by
  induction k with
  | zero => intro n _ h; omega
  | succ k ih =>
    intro n h _
    by_cases h1 : n < 128
    · rw [enc_lt h1]; simp
    · rw [enc_ge h1]
      have hk : 1 ≤ k := by
        cases k with
        | zero => simp at h; omega
        | succ k => omega
      have : n / 128 < 128 ^ k := by
        rw [Nat.pow_succ] at h
        exact Nat.div_lt_of_lt_mul (by omega)
      have := ih (n / 128) this hk
      simp; omega
theorem enc_six {n : Nat} (h : n ≤ 1099511627776) : (enc n).length ≤ 6 := enc_len 6 n (by omega) (by omega)

end Go.Proofs.Ytpgccfgldjeomaa.vm
