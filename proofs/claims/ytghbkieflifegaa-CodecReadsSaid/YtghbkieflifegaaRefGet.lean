/- gleanerref01.Get by its contract: as the program's. -/
import Derived.Test.YtghbkieflifegaaGet
import Derived.Test.YtghbkieflifegaaBitMath
namespace Go.Proofs.Ytghbkieflifegaa
open Go.RowKit Go.ChangeShapes

set_option maxHeartbeats 800000 in
set_option maxRecDepth 100000 in
theorem rget_in (s : ByteArray) (at_ : Nat) (w : World) (hs : s.size ≤ 100000) (ha : at_ ≤ s.size) :
    Calls Try.prog 59 #[.string s, .int .i64 at_] w (Trip (vm.place at_ (vm.getL ((kit.bytes s).drop at_) 0 0)) w) := by
  have wb := kit.wrap_byte
  have d1 : decide (s.size < at_) = false := decide_eq_false (by omega)
  have d2 : decide ((at_ : Int) < 0) = false := decide_eq_false (by omega)
  go_enter Try.func59, Try.ntmps59
  go_wp2
  go_loop [7, 18] (fun n i => ∃ (i' n' : Nat), i = .int .i64 i' ∧ n = .int .i64 n' ∧ i' ≤ 6 ∧ Hid (n' < 2 ^ (7 * i')) ∧ at_ + i' ≤ s.size ∧ Hid (vm.getL ((kit.bytes s).drop (at_ + i')) i' n' = vm.getL ((kit.bytes s).drop at_) 0 0)) (fun _ i => 6 - (intOf i).toNat)
  case atStart => exact ⟨0, 0, rfl, rfl, by omega, (by show 0 < 2 ^ 0; omega), by omega, rfl⟩
  case round =>
    obtain ⟨i, n, rfl, rfl, hi, HN, hai, HE⟩ := hrel
    by_cases h6 : i < 6
    · have hn2 : n < 4398046511104 := Nat.lt_of_lt_of_le HN.out (by have := Nat.pow_le_pow_right (n := 2) (by omega) (show 7 * i ≤ 42 by omega); omega)
      by_cases h : at_ + i < s.size
      · have hd := kit.bytes_drop s (at_ + i) h
        have h256 : s[at_ + i].toNat < 256 := s[at_ + i].toNat_lt
        obtain ⟨c, hc⟩ : ∃ c, c = s[at_ + i].toNat % 128 := ⟨_, rfl⟩
        have hc128 : c < 128 := by omega
        have hand : bits .and .i64 (s[at_ + i].toNat : Int) 127 = (c : Int) := by rw [hc]; exact bm.low7 _ (by omega)
        obtain ⟨q, hq, hqI, hqm⟩ := vm.shl_q (b := c) (i := i) hc128 h6
        obtain ⟨m, hm⟩ : ∃ m, m = n + q := ⟨_, rfl⟩
        have hor : bits .or .i64 (n : Int) (q : Int) = (m : Int) := by
          rw [hm, hq, bm.i64_or_nat n _ (by omega) (by omega), bm.or_shift HN.out]
        have hm4 : m < 8796093022208 := by omega
        by_cases hb : s[at_ + i].toNat < 128
        · have hcb : c = s[at_ + i].toNat := by omega
          have HD : Hid (vm.getL ((kit.bytes s).drop at_) 0 0 = vm.getL (c :: (kit.bytes s).drop (at_ + i + 1)) i n) := by have := HE.out; rw [hd, ← hcb] at this; exact this.symm
          by_cases h0 : c = 0 ∧ 0 < i
          · obtain ⟨h00, hi0⟩ := h0
            have HR : Hid (vm.getL ((kit.bytes s).drop at_) 0 0 = (0, 0, 3)) := by have := HD.out; rw [h00, vm.getL_zero _ i n h6 hi0] at this; exact this
            have hz : (s[at_ + i].toNat : Int) = 0 := by omega
            clear hd HE HD hq hc hm hcb h00 hc128 hb h256
            go_wp2
            go_ret3
            rw [HR.out]; exact ⟨rfl, rfl⟩
          · have hzz : s[at_ + i].toNat = 0 → i = 0 := fun h => by
              have : ¬ 0 < i := fun h2 => h0 ⟨by omega, h2⟩
              omega
            have hcase : ¬ (s[at_ + i].toNat : Int) = 0 ∨ ((s[at_ + i].toNat : Int) = 0 ∧ i = 0) := by
              by_cases hz : s[at_ + i].toNat = 0
              · exact Or.inr ⟨by omega, hzz hz⟩
              · exact Or.inl (by omega)
            by_cases hl : 1099511627776 < m
            · have HR : Hid (vm.getL ((kit.bytes s).drop at_) 0 0 = (0, 0, 4)) := by have := HD.out; rw [vm.getL_long c _ i n q hq h6 hc128 h0 (by omega)] at this; exact this
              rcases hcase with hz | ⟨hz, hiz⟩
              · clear hd HE HD hq hc hcb hzz h0 hc128 hm
                go_wp2
                go_ret3
                rw [HR.out]; exact ⟨rfl, rfl⟩
              · exfalso
                subst hiz
                have h1 : n < 1 := HN.out
                have h2 : q = c := by rw [hq]; simp
                omega
            · have HR : Hid (vm.getL ((kit.bytes s).drop at_) 0 0 = (m, i + 1, 0)) := by have := HD.out; rw [vm.getL_ok c _ i n q hq h6 hc128 h0 (by omega), ← hm] at this; exact this
              have hl2 : m ≤ 1099511627776 := by omega
              rcases hcase with hz | ⟨hz, hiz⟩
              · clear hd HE HD hq hc hcb hzz h0 hc128 hm hl
                go_wp2
                go_ret3
                rw [HR.out]; exact ⟨by simp [vm.place]; omega, rfl⟩
              · subst hiz
                have h1 : n < 1 := HN.out
                obtain rfl : n = 0 := by omega
                have hc0 : c = 0 := by omega
                have hm0 : m = 0 := by rw [hm, hq, hc0]
                have h' : at_ < s.size := by omega
                have hz' : (s[at_].toNat : Int) = 0 := hz
                subst hm0
                have z1 : bits .and .i64 0 127 = 0 := by decide
                have z2 : bits .or .i64 0 0 = 0 := by decide
                clear hd HE HD hq hc hcb hzz h0 hc128 hm hl hand hqI hor h256 hb hqm hz
                go_wp2
                go_ret3
                rw [HR.out]; exact ⟨by simp [vm.place], rfl⟩
        · have hcb : c = s[at_ + i].toNat - 128 := by omega
          have HR : Hid (vm.getL ((kit.bytes s).drop (at_ + (i + 1))) (i + 1) m = vm.getL ((kit.bytes s).drop at_) 0 0) := by
            have := HE.out
            rw [hd, vm.getL_more _ _ _ _ h6 hb, ← hcb, ← hq, ← hm] at this
            exact this
          have HN2 : Hid (m < 2 ^ (7 * (i + 1))) := by have := vm.acc_lt (b := c) HN.out hc128; rw [← hq, ← hm] at this; exact this
          clear hd HE hq hc hm hcb hc128
          go_wp2
          go_round
          case rel => exact ⟨i + 1, m, by go_num, rfl, by omega, HN2, by omega, HR⟩
          case measure => simp [intOf]; omega
      · have HR : Hid (vm.getL ((kit.bytes s).drop at_) 0 0 = (0, 0, 2)) := by
          have := HE.out
          rw [List.drop_of_length_le (by rw [kit.bytes_len]; omega), vm.getL_nil _ _ h6] at this
          exact this.symm
        go_wp2
        go_ret3
        rw [HR.out]; exact ⟨rfl, rfl⟩
    · have HR : Hid (vm.getL ((kit.bytes s).drop at_) 0 0 = (0, 0, 3)) := by
        have := HE.out
        rw [vm.getL_six _ _ _ (by omega)] at this
        exact this.symm
      go_wp2
      go_ret3
      rw [HR.out]; exact ⟨rfl, rfl⟩

set_option maxRecDepth 100000 in
theorem rget_out (s : ByteArray) (a : Int) (w : World) (hs : s.size ≤ 100000) (ha : a < 0 ∨ (s.size : Int) < a) :
    Calls Try.prog 59 #[.string s, .int .i64 a] w (Trip (0, 0, 1) w) := by
  rcases ha with h | h
  · go_enter Try.func59, Try.ntmps59
    go_wp2
    go_ret3
    exact ⟨rfl, rfl⟩
  · have h0 : 0 ≤ a := by omega
    go_enter Try.func59, Try.ntmps59
    go_wp2
    go_ret3
    exact ⟨rfl, rfl⟩

theorem rget_any (s : ByteArray) (a : Int) (w : World) (hs : s.size ≤ 100000) :
    Calls Try.prog 59 #[.string s, .int .i64 a] w (Trip (vm.get (kit.bytes s) a) w) := by
  by_cases h : a < 0 ∨ (s.size : Int) < a
  · rw [vm.get_bad (by rw [kit.bytes_len]; exact h)]
    exact rget_out s a w hs h
  · obtain ⟨k, rfl⟩ : ∃ k : Nat, a = (k : Int) := ⟨a.toNat, by omega⟩
    rw [vm.get_in (by rw [kit.bytes_len]; omega)]
    exact rget_in s k w hs (by omega)
end Go.Proofs.Ytghbkieflifegaa
