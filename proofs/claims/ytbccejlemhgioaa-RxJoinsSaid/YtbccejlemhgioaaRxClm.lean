/- which bytes are in which classes, as plain data. Nothing of the program. -/
import Derived.Test.YtbccejlemhgioaaRxCls
namespace Go.Proofs.Ytbccejlemhgioaa
open Go cl rx
theorem has_or (x y : Cls) (d : Nat) : (x.or y).has d = (x.has d || y.has d) := by
  unfold Cls.has Cls.wd Cls.or
  split
  · exact Nat.testBit_or ..
  · split
    · exact Nat.testBit_or ..
    · split
      · exact Nat.testBit_or ..
      · exact Nat.testBit_or ..
theorem has_one (c d : Nat) (hc : c < 256) (hd : d < 256) : (Cls.one c).has d = decide (d = c) := by
  unfold Cls.has Cls.wd Cls.one
  by_cases h1 : c < 64
  · rw [if_pos h1]
    by_cases g1 : d < 64
    · simp only [if_pos g1, Nat.testBit_two_pow]
      exact decide_eq_decide.2 ⟨fun h => by omega, fun h => by omega⟩
    · rw [if_neg g1]
      simp only [ite_self]
      rw [Nat.zero_testBit]
      exact (decide_eq_false (by omega)).symm
  · rw [if_neg h1]
    by_cases h2 : c < 128
    · rw [if_pos h2]
      by_cases g1 : d < 64
      · rw [if_pos g1, Nat.zero_testBit]; exact (decide_eq_false (by omega)).symm
      · rw [if_neg g1]
        by_cases g2 : d < 128
        · rw [if_pos g2]
          simp only [Nat.testBit_two_pow]
          exact decide_eq_decide.2 ⟨fun h => by omega, fun h => by omega⟩
        · rw [if_neg g2]
          simp only [ite_self]
          rw [Nat.zero_testBit]
          exact (decide_eq_false (by omega)).symm
    · rw [if_neg h2]
      by_cases h3 : c < 192
      · rw [if_pos h3]
        by_cases g1 : d < 64
        · rw [if_pos g1, Nat.zero_testBit]; exact (decide_eq_false (by omega)).symm
        · rw [if_neg g1]
          by_cases g2 : d < 128
          · rw [if_pos g2, Nat.zero_testBit]; exact (decide_eq_false (by omega)).symm
          · rw [if_neg g2]
            by_cases g3 : d < 192
            · rw [if_pos g3]
              simp only [Nat.testBit_two_pow]
              exact decide_eq_decide.2 ⟨fun h => by omega, fun h => by omega⟩
            · rw [if_neg g3, Nat.zero_testBit]; exact (decide_eq_false (by omega)).symm
      · rw [if_neg h3]
        by_cases g1 : d < 64
        · rw [if_pos g1, Nat.zero_testBit]; exact (decide_eq_false (by omega)).symm
        · rw [if_neg g1]
          by_cases g2 : d < 128
          · rw [if_pos g2, Nat.zero_testBit]; exact (decide_eq_false (by omega)).symm
          · rw [if_neg g2]
            by_cases g3 : d < 192
            · rw [if_pos g3, Nat.zero_testBit]; exact (decide_eq_false (by omega)).symm
            · rw [if_neg g3]
              simp only [Nat.testBit_two_pow]
              exact decide_eq_decide.2 ⟨fun h => by omega, fun h => by omega⟩
theorem one_ok (c : Nat) (hc : c < 256) : (Cls.one c).ok := by
  have hp : ∀ k : Nat, k < 64 → 2 ^ k < 18446744073709551616 := fun k hk => Nat.pow_lt_pow_right (a := 2) (m := k) (n := 64) (by decide) hk
  have h0 : (0 : Nat) < 18446744073709551616 := by decide
  unfold Cls.one Cls.ok
  split
  · exact ⟨hp _ (by omega), h0, h0, h0⟩
  · split
    · exact ⟨h0, hp _ (by omega), h0, h0⟩
    · split
      · exact ⟨h0, h0, hp _ (by omega), h0⟩
      · exact ⟨h0, h0, h0, hp _ (by omega)⟩
theorem or_ok {x y : Cls} (hx : x.ok) (hy : y.ok) : (x.or y).ok :=
  ⟨Nat.or_lt_two_pow (n := 64) hx.1 hy.1, Nat.or_lt_two_pow (n := 64) hx.2.1 hy.2.1, Nat.or_lt_two_pow (n := 64) hx.2.2.1 hy.2.2.1, Nat.or_lt_two_pow (n := 64) hx.2.2.2 hy.2.2.2⟩
end Go.Proofs.Ytbccejlemhgioaa
