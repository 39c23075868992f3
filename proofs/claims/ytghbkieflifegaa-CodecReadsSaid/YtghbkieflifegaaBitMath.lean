/- and, or of numbers that are not negative, as remainders and sums; nothing of the program. -/
import Derived.Test.YtghbkieflifegaaKit
namespace Go.Proofs.Ytghbkieflifegaa.bm

theorem i64_and_nat (a b : Nat) (ha : a < 9223372036854775808) (hb : b < 9223372036854775808) : bits .and .i64 (a : Int) (b : Int) = ((a &&& b : Nat) : Int) := by
  have hx : a &&& b < 2 ^ 63 := Nat.and_lt_two_pow _ (by omega)
  show IntKind.i64.wrap ((BitVec.ofInt 64 (a : Int) &&& BitVec.ofInt 64 (b : Int)).toNat : Int) = _
  rw [BitVec.toNat_and, ofInt_u64 a (by omega), ofInt_u64 b (by omega)]
  exact IntWalk.i64_in _ ⟨by omega, by omega⟩
theorem i64_or_nat (a b : Nat) (ha : a < 9223372036854775808) (hb : b < 9223372036854775808) : bits .or .i64 (a : Int) (b : Int) = ((a ||| b : Nat) : Int) := by
  have hx : a ||| b < 2 ^ 63 := Nat.or_lt_two_pow (by omega) (by omega)
  show IntKind.i64.wrap ((BitVec.ofInt 64 (a : Int) ||| BitVec.ofInt 64 (b : Int)).toNat : Int) = _
  rw [BitVec.toNat_or, ofInt_u64 a (by omega), ofInt_u64 b (by omega)]
  exact IntWalk.i64_in _ ⟨by omega, by omega⟩
theorem and127 (m : Nat) : m &&& 127 = m % 128 := Nat.and_two_pow_sub_one_eq_mod m 7
theorem or_shift {n b k : Nat} (h : n < 2 ^ k) : n ||| (b * 2 ^ k) = n + b * 2 ^ k := by
  have := Nat.two_pow_add_eq_or_of_lt h b
  rw [Nat.mul_comm, Nat.or_comm, ← this]; omega
/-- m & 127 -/
theorem low7 (m : Nat) (h : m < 9223372036854775808) : bits .and .i64 (m : Int) 127 = ((m % 128 : Nat) : Int) := by
  rw [← and127]; exact i64_and_nat m 127 h (by omega)
/-- m & 127 | 128 -/
theorem high7 (m : Nat) (h : m < 9223372036854775808) : bits .or .i64 (bits .and .i64 (m : Int) 127) 128 = (m : Int) % 128 + 128 := by
  rw [low7 m h]
  have h1 := i64_or_nat (m % 128) 128 (by omega) (by omega)
  have h2 : (m % 128) ||| 128 = m % 128 + 128 := by
    have := or_shift (n := m % 128) (b := 1) (k := 7) (by omega)
    simpa using this
  rw [h2] at h1
  have h3 : ((128 : Nat) : Int) = 128 := rfl
  rw [h3] at h1
  rw [h1]; omega
end Go.Proofs.Ytghbkieflifegaa.bm
