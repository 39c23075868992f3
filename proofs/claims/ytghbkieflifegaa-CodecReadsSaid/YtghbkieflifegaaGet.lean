/- varint.Get by its contract. -/
import Derived.Test.YtghbkieflifegaaRows
import Derived.Test.YtghbkieflifegaaGetMath
import Derived.Test.YtghbkieflifegaaKit
namespace Go.Proofs.Ytghbkieflifegaa
open Go.RowKit Go.ChangeShapes

/-- three numbers as a result -/
def Trip (r : Nat × Nat × Nat) (w : World) (e : Ending) (w' : World) : Prop := e = .returned (.tuple #[.int .i64 r.1, .int .i64 r.2.1, .int .i64 r.2.2]) ∧ w = w'

set_option maxHeartbeats 800000 in
set_option maxRecDepth 100000 in
theorem last_any (n b i at_ : Nat) (w : World) (hn : n < 2 ^ (7 * i)) (hb : b < 128) (hi : i < 6) (ha : at_ ≤ 1099511627776) (r : List Nat) :
    Calls Try.prog 65 #[.int .i64 n, .int .i64 b, .int .i64 i, .int .i64 at_] w (Trip (vm.place at_ (vm.getL (b :: r) i n)) w) := by
  have hi5 : (i : Int) ≤ 5 := by omega
  have hn2 : n < 4398046511104 := Nat.lt_of_lt_of_le hn (by have := Nat.pow_le_pow_right (n := 2) (by omega) (show 7 * i ≤ 42 by omega); omega)
  have HN : Hid (n < 2 ^ (7 * i)) := hn
  clear hn
  obtain ⟨q, hq, hqI, hqm⟩ := vm.shl_q hb hi
  by_cases h0 : b = 0 ∧ 0 < i
  · have HR : Hid (vm.getL (b :: r) i n = (0, 0, 3)) := by obtain ⟨rfl, h⟩ := h0; exact vm.getL_zero r i n hi h
    obtain ⟨rfl, h0⟩ := h0
    clear hqI hqm hq
    go_enter Try.func65, Try.ntmps65
    go_wp2
    go_ret3
    rw [HR.out]; exact ⟨rfl, rfl⟩
  · by_cases hl : 1099511627776 < n + q
    · have HR : Hid (vm.getL (b :: r) i n = (0, 0, 4)) := vm.getL_long b r i n q hq hi hb h0 hl
      by_cases hbz : b = 0
      · have hiz : i = 0 := by omega
        subst hbz; subst hiz
        have h1 : n < 1 := HN.out
        simp at hq; omega
      · clear hq
        go_enter Try.func65, Try.ntmps65
        go_wp2
        go_ret3
        rw [HR.out]; exact ⟨rfl, rfl⟩
    · have HR : Hid (vm.getL (b :: r) i n = (n + q, i + 1, 0)) := vm.getL_ok b r i n q hq hi hb h0 (by omega)
      by_cases hbz : b = 0
      · have hiz : i = 0 := by omega
        subst hbz; subst hiz
        have hq0 : q = 0 := by simpa using hq
        subst hq0
        clear hqI hq
        go_enter Try.func65, Try.ntmps65
        go_wp2
        go_ret3
        rw [HR.out]; exact ⟨by simp [vm.place], rfl⟩
      · clear hq
        have hl2 : (n : Int) + q ≤ 1099511627776 := by omega
        clear hl
        go_enter Try.func65, Try.ntmps65
        go_wp2
        go_ret3
        rw [HR.out]; exact ⟨by simp [vm.place]; omega, rfl⟩
set_option maxHeartbeats 800000 in
set_option maxRecDepth 100000 in
theorem get_in (s : ByteArray) (at_ : Nat) (w : World) (hs : s.size ≤ 1099511627776) (ha : at_ ≤ s.size) :
    Calls Try.prog 53 #[.string s, .int .i64 at_] w (Trip (vm.place at_ (vm.getL ((kit.bytes s).drop at_) 0 0)) w) := by
  have wb := kit.wrap_byte
  have d1 : decide (s.size < at_) = false := decide_eq_false (by omega)
  have d2 : decide ((at_ : Int) < 0) = false := decide_eq_false (by omega)
  go_enter Try.func53, Try.ntmps53
  go_wp2
  go_loop [7, 18] (fun n i => ∃ (i' n' : Nat), i = .int .i64 i' ∧ n = .int .i64 n' ∧ i' ≤ 6 ∧ Hid (n' < 2 ^ (7 * i')) ∧ at_ + i' ≤ s.size ∧ Hid (vm.getL ((kit.bytes s).drop (at_ + i')) i' n' = vm.getL ((kit.bytes s).drop at_) 0 0)) (fun _ i => 6 - (intOf i).toNat)
  case atStart => exact ⟨0, 0, rfl, rfl, by omega, (by show 0 < 2 ^ 0; omega), by omega, rfl⟩
  case round =>
    obtain ⟨i, n, rfl, rfl, hi, HN, hai, HE⟩ := hrel
    by_cases h6 : i < 6
    · have hn2 : n < 4398046511104 := Nat.lt_of_lt_of_le HN.out (by have := Nat.pow_le_pow_right (n := 2) (by omega) (show 7 * i ≤ 42 by omega); omega)
      by_cases h : at_ + i < s.size
      · have hd := kit.bytes_drop s (at_ + i) h
        have h256 : s[at_ + i].toNat < 256 := s[at_ + i].toNat_lt
        by_cases hb : s[at_ + i].toNat < 128
        · have HD : Hid (vm.getL (s[at_ + i].toNat :: (kit.bytes s).drop (at_ + i + 1)) i n = vm.getL ((kit.bytes s).drop at_) 0 0) := by have := HE.out; rw [hd] at this; exact this
          clear hd HE
          go_wp2_with (go_at_call 65; refine (last_any n _ i at_ _ HN.out hb h6 (by omega) ((kit.bytes s).drop (at_ + i + 1))).mono ?_; rintro e w' ⟨rfl, rfl⟩)
          go_ret3
          rw [HD.out]; exact ⟨rfl, rfl⟩
        · obtain ⟨q, hq, hqI, hqm⟩ := vm.shl_q (b := s[at_ + i].toNat - 128) (i := i) (by omega) h6
          have HR : Hid (vm.getL ((kit.bytes s).drop (at_ + (i + 1))) (i + 1) (n + q) = vm.getL ((kit.bytes s).drop at_) 0 0) := by
            have := HE.out
            rw [hd, vm.getL_more _ _ _ _ h6 hb, ← hq] at this
            exact this
          have HN2 : Hid (n + q < 2 ^ (7 * (i + 1))) := by have := vm.acc_lt (b := s[at_ + i].toNat - 128) HN.out (by omega); rw [← hq] at this; exact this
          have hqI2 : ((s[at_ + i].toNat : Int) - 128) * 2 ^ (7 * i) = (q : Int) := by rw [← hqI]; congr 1; omega
          clear hd HE hq hqI
          go_wp2
          go_round
          case rel => exact ⟨i + 1, n + q, by go_num, by go_num, by omega, HN2, by omega, HR⟩
          case measure => simp [intOf]; omega
      · have HR : Hid (vm.getL ((kit.bytes s).drop at_) 0 0 = (0, 0, 2)) := by
          have := HE.out
          rw [List.drop_of_length_le (by rw [kit.bytes_len]; omega), vm.getL_nil _ _ h6] at this
          exact this.symm
        go_wp2
        go_ret3
        rw [HR.out]; exact ⟨rfl, rfl⟩
    · have HR : Hid (vm.getL ((kit.bytes s).drop at_) 0 0 = (0, 0, 3)) := by
        have := HE.out
        rw [vm.getL_six _ _ _ (by omega)] at this
        exact this.symm
      go_wp2
      go_ret3
      rw [HR.out]; exact ⟨rfl, rfl⟩

set_option maxRecDepth 100000 in
theorem get_out (s : ByteArray) (a : Int) (w : World) (hs : s.size ≤ 1099511627776) (ha : a < 0 ∨ (s.size : Int) < a) :
    Calls Try.prog 53 #[.string s, .int .i64 a] w (Trip (0, 0, 1) w) := by
  rcases ha with h | h
  · go_enter Try.func53, Try.ntmps53
    go_wp2
    go_ret3
    exact ⟨rfl, rfl⟩
  · have h0 : 0 ≤ a := by omega
    go_enter Try.func53, Try.ntmps53
    go_wp2
    go_ret3
    exact ⟨rfl, rfl⟩

theorem get_any (s : ByteArray) (a : Int) (w : World) (hs : s.size ≤ 1099511627776) :
    Calls Try.prog 53 #[.string s, .int .i64 a] w (Trip (vm.get (kit.bytes s) a) w) := by
  by_cases h : a < 0 ∨ (s.size : Int) < a
  · rw [vm.get_bad (by rw [kit.bytes_len]; exact h)]
    exact get_out s a w hs h
  · obtain ⟨k, rfl⟩ : ∃ k : Nat, a = (k : Int) := ⟨a.toNat, by omega⟩
    rw [vm.get_in (by rw [kit.bytes_len]; omega)]
    exact get_in s k w hs (by omega)
end Go.Proofs.Ytghbkieflifegaa
