/- classes. -/
import Derived.Test.YtbccejlemhgioaaRxBase
import Derived.Test.YtbccejlemhgioaaShelf
namespace Go.Proofs.Ytbccejlemhgioaa
open Go Go.RowKit Go.ChangeShapes cl rx
theorem u64_and (a b : Nat) (ha : a < 18446744073709551616) (hb : b < 18446744073709551616) : bits .and .u64 (a : Int) (b : Int) = ((a &&& b : Nat) : Int) := by
  have hx : a &&& b < 2 ^ 64 := Nat.and_lt_two_pow _ (by omega)
  show IntKind.u64.wrap ((BitVec.ofInt 64 (a : Int) &&& BitVec.ofInt 64 (b : Int)).toNat : Int) = _
  rw [BitVec.toNat_and, ofInt_u64 a (by omega), ofInt_u64 b (by omega)]
  exact IntWalk.u64_in _ ⟨by omega, by omega⟩
theorem u64_or (a b : Nat) (ha : a < 18446744073709551616) (hb : b < 18446744073709551616) : bits .or .u64 (a : Int) (b : Int) = ((a ||| b : Nat) : Int) := by
  have hx : a ||| b < 2 ^ 64 := Nat.or_lt_two_pow (by omega) (by omega)
  show IntKind.u64.wrap ((BitVec.ofInt 64 (a : Int) ||| BitVec.ofInt 64 (b : Int)).toNat : Int) = _
  rw [BitVec.toNat_or, ofInt_u64 a (by omega), ofInt_u64 b (by omega)]
  exact IntWalk.u64_in _ ⟨by omega, by omega⟩
theorem pow_u64 {r : Nat} (h : r < 64) : IntKind.u64.wrap (2 ^ r) = ((2 ^ r : Nat) : Int) := by
  have h1 : (2 : Nat) ^ r < 2 ^ 64 := Nat.pow_lt_pow_right (by decide) h
  have e : ((2 : Int) ^ r) = ((2 ^ r : Nat) : Int) := by simp
  rw [e]
  obtain ⟨v, hv⟩ : ∃ v, v = 2 ^ r := ⟨_, rfl⟩
  rw [← hv] at h1 ⊢
  exact IntWalk.u64_in _ ⟨by omega, by omega⟩
theorem bit_u64 {n r : Nat} (hn : n < 18446744073709551616) : (bits .and .u64 ((n : Int) / 2 ^ r) 1 == 1) = n.testBit r := by
  have e : ((n : Int) / 2 ^ r) = ((n / 2 ^ r : Nat) : Int) := by simp
  have hlt : n / 2 ^ r ≤ n := Nat.div_le_self _ _
  have e1 : (1 : Int) = ((1 : Nat) : Int) := rfl
  rw [e, e1, u64_and _ _ (by omega) (by omega), Nat.testBit_eq_decide_div_mod_eq, Nat.and_one_is_mod]
  by_cases h : n / 2 ^ r % 2 = 1
  · rw [h]; simp
  · have : n / 2 ^ r % 2 = 0 := by omega
    rw [this]; simp
/-- its words are of 64 bits -/
def rx.Cls.ok (k : Cls) : Prop := k.a < 18446744073709551616 ∧ k.b < 18446744073709551616 ∧ k.c < 18446744073709551616 ∧ k.d < 18446744073709551616
set_option maxHeartbeats 3200000 in
set_option maxRecDepth 100000 in
theorem rx_in (k : Cls) (c : Nat) (w : World) (hk : k.ok) (hc : c < 256) : Calls Try.prog 12 #[.agg #[.int .u64 k.a, .int .u64 k.b, .int .u64 k.c, .int .u64 k.d], .int .u8 c] w (fun e w' => e = .returned (.bool (k.has c)) ∧ Below w.heap.size w w') := by
  obtain ⟨ka, kb, kc, kd⟩ := hk
  rcases (by omega : c < 64 ∨ (64 ≤ c ∧ c < 128) ∨ (128 ≤ c ∧ c < 192) ∨ 192 ≤ c) with h | h | h | h
  · -- the word 0
    have e1 : (c : Int) / 64 = 0 := by omega
    have e1n : c / 64 = 0 := by omega
    obtain ⟨r, hr⟩ : ∃ r, r = c % 64 := ⟨_, rfl⟩
    have e2 : (c : Int) % 64 = (r : Int) := by omega
    have e2n : c % 64 = r := hr.symm
    have hrl : r < 64 := by omega
    have HK : Hid (k.has c = (bits .and .u64 ((k.a : Int) / 2 ^ r) 1 == 1)) := by
      show _ = _
      rw [bit_u64 (by assumption)]
      unfold Cls.has Cls.wd
      rw [e2n]
      rw [if_pos (by omega)]
    clear hr
    go_enter Try.func12, Try.ntmps12
    go_wp2
    go_ret
    exact ⟨by rw [HK.out]; rfl, below1⟩
  · -- the word 1
    have e1 : (c : Int) / 64 = 1 := by omega
    have e1n : c / 64 = 1 := by omega
    obtain ⟨r, hr⟩ : ∃ r, r = c % 64 := ⟨_, rfl⟩
    have e2 : (c : Int) % 64 = (r : Int) := by omega
    have e2n : c % 64 = r := hr.symm
    have hrl : r < 64 := by omega
    have HK : Hid (k.has c = (bits .and .u64 ((k.b : Int) / 2 ^ r) 1 == 1)) := by
      show _ = _
      rw [bit_u64 (by assumption)]
      unfold Cls.has Cls.wd
      rw [e2n]
      rw [if_neg (by omega), if_pos (by omega)]
    clear hr
    go_enter Try.func12, Try.ntmps12
    go_wp2
    go_ret
    exact ⟨by rw [HK.out]; rfl, below1⟩
  · -- the word 2
    have e1 : (c : Int) / 64 = 2 := by omega
    have e1n : c / 64 = 2 := by omega
    obtain ⟨r, hr⟩ : ∃ r, r = c % 64 := ⟨_, rfl⟩
    have e2 : (c : Int) % 64 = (r : Int) := by omega
    have e2n : c % 64 = r := hr.symm
    have hrl : r < 64 := by omega
    have HK : Hid (k.has c = (bits .and .u64 ((k.c : Int) / 2 ^ r) 1 == 1)) := by
      show _ = _
      rw [bit_u64 (by assumption)]
      unfold Cls.has Cls.wd
      rw [e2n]
      rw [if_neg (by omega), if_neg (by omega), if_pos (by omega)]
    clear hr
    go_enter Try.func12, Try.ntmps12
    go_wp2
    go_ret
    exact ⟨by rw [HK.out]; rfl, below1⟩
  · -- the word 3
    have e1 : (c : Int) / 64 = 3 := by omega
    have e1n : c / 64 = 3 := by omega
    obtain ⟨r, hr⟩ : ∃ r, r = c % 64 := ⟨_, rfl⟩
    have e2 : (c : Int) % 64 = (r : Int) := by omega
    have e2n : c % 64 = r := hr.symm
    have hrl : r < 64 := by omega
    have HK : Hid (k.has c = (bits .and .u64 ((k.d : Int) / 2 ^ r) 1 == 1)) := by
      show _ = _
      rw [bit_u64 (by assumption)]
      unfold Cls.has Cls.wd
      rw [e2n]
      rw [if_neg (by omega), if_neg (by omega), if_neg (by omega)]
    clear hr
    go_enter Try.func12, Try.ntmps12
    go_wp2
    go_ret
    exact ⟨by rw [HK.out]; rfl, below1⟩
set_option maxHeartbeats 3200000 in
set_option maxRecDepth 100000 in
theorem rx_single (c : Nat) (w : World) (hc : c < 256) : Calls Try.prog 13 #[.int .u8 c] w (fun e w' => e = .returned (.agg #[.int .u64 (Cls.one c).a, .int .u64 (Cls.one c).b, .int .u64 (Cls.one c).c, .int .u64 (Cls.one c).d]) ∧ Below w.heap.size w w') := by
  rcases (by omega : c < 64 ∨ (64 ≤ c ∧ c < 128) ∨ (128 ≤ c ∧ c < 192) ∨ 192 ≤ c) with h | h | h | h
  · have e1 : (c : Int) / 64 = 0 := by omega
    have e1n : c / 64 = 0 := by omega
    obtain ⟨r, hr⟩ : ∃ r, r = c % 64 := ⟨_, rfl⟩
    have e2 : (c : Int) % 64 = (r : Int) := by omega
    have e2n : c % 64 = r := hr.symm
    have hrl : r < 64 := by omega
    have hw : IntKind.u64.wrap (2 ^ r) = ((2 ^ r : Nat) : Int) := pow_u64 hrl
    have HO : Cls.one c = ⟨2 ^ r, 0, 0, 0⟩ := by
      unfold Cls.one
      rw [if_pos (by omega), show c = r by omega]
    rw [HO]
    obtain ⟨v, hv⟩ : ∃ v, v = 2 ^ r := ⟨_, rfl⟩
    rw [← hv] at hw ⊢
    clear hr HO hv
    go_enter Try.func13, Try.ntmps13
    go_wp2
    refine bodyPost_ret (v := .agg #[.int .u64 (v : Int), .int .u64 0, .int .u64 0, .int .u64 0]) (by simp [results, Try.results13, go_sem]) rfl ⟨rfl, ?_⟩
    exact below1.trans (below1.mono (by simp))
  · have e1 : (c : Int) / 64 = 1 := by omega
    have e1n : c / 64 = 1 := by omega
    obtain ⟨r, hr⟩ : ∃ r, r = c % 64 := ⟨_, rfl⟩
    have e2 : (c : Int) % 64 = (r : Int) := by omega
    have e2n : c % 64 = r := hr.symm
    have hrl : r < 64 := by omega
    have hw : IntKind.u64.wrap (2 ^ r) = ((2 ^ r : Nat) : Int) := pow_u64 hrl
    have HO : Cls.one c = ⟨0, 2 ^ r, 0, 0⟩ := by
      unfold Cls.one
      rw [if_neg (by omega), if_pos (by omega), show c - 64 = r by omega]
    rw [HO]
    obtain ⟨v, hv⟩ : ∃ v, v = 2 ^ r := ⟨_, rfl⟩
    rw [← hv] at hw ⊢
    clear hr HO hv
    go_enter Try.func13, Try.ntmps13
    go_wp2
    refine bodyPost_ret (v := .agg #[.int .u64 0, .int .u64 (v : Int), .int .u64 0, .int .u64 0]) (by simp [results, Try.results13, go_sem]) rfl ⟨rfl, ?_⟩
    exact below1.trans (below1.mono (by simp))
  · have e1 : (c : Int) / 64 = 2 := by omega
    have e1n : c / 64 = 2 := by omega
    obtain ⟨r, hr⟩ : ∃ r, r = c % 64 := ⟨_, rfl⟩
    have e2 : (c : Int) % 64 = (r : Int) := by omega
    have e2n : c % 64 = r := hr.symm
    have hrl : r < 64 := by omega
    have hw : IntKind.u64.wrap (2 ^ r) = ((2 ^ r : Nat) : Int) := pow_u64 hrl
    have HO : Cls.one c = ⟨0, 0, 2 ^ r, 0⟩ := by
      unfold Cls.one
      rw [if_neg (by omega), if_neg (by omega), if_pos (by omega), show c - 128 = r by omega]
    rw [HO]
    obtain ⟨v, hv⟩ : ∃ v, v = 2 ^ r := ⟨_, rfl⟩
    rw [← hv] at hw ⊢
    clear hr HO hv
    go_enter Try.func13, Try.ntmps13
    go_wp2
    refine bodyPost_ret (v := .agg #[.int .u64 0, .int .u64 0, .int .u64 (v : Int), .int .u64 0]) (by simp [results, Try.results13, go_sem]) rfl ⟨rfl, ?_⟩
    exact below1.trans (below1.mono (by simp))
  · have e1 : (c : Int) / 64 = 3 := by omega
    have e1n : c / 64 = 3 := by omega
    obtain ⟨r, hr⟩ : ∃ r, r = c % 64 := ⟨_, rfl⟩
    have e2 : (c : Int) % 64 = (r : Int) := by omega
    have e2n : c % 64 = r := hr.symm
    have hrl : r < 64 := by omega
    have hw : IntKind.u64.wrap (2 ^ r) = ((2 ^ r : Nat) : Int) := pow_u64 hrl
    have HO : Cls.one c = ⟨0, 0, 0, 2 ^ r⟩ := by
      unfold Cls.one
      rw [if_neg (by omega), if_neg (by omega), if_neg (by omega), show c - 192 = r by omega]
    rw [HO]
    obtain ⟨v, hv⟩ : ∃ v, v = 2 ^ r := ⟨_, rfl⟩
    rw [← hv] at hw ⊢
    clear hr HO hv
    go_enter Try.func13, Try.ntmps13
    go_wp2
    refine bodyPost_ret (v := .agg #[.int .u64 0, .int .u64 0, .int .u64 0, .int .u64 (v : Int)]) (by simp [results, Try.results13, go_sem]) rfl ⟨rfl, ?_⟩
    exact below1.trans (below1.mono (by simp))
set_option maxHeartbeats 3200000 in
set_option maxRecDepth 100000 in
theorem rx_class (k : Cls) (w : World) : Calls Try.prog 45 #[.agg #[.int .u64 k.a, .int .u64 k.b, .int .u64 k.c, .int .u64 k.d]] w (fun e w' => e = .returned (.agg #[.int .i64 2, .int .u64 k.a, .int .u64 k.b, .int .u64 k.c, .int .u64 k.d, .slice none 0 0, .int .i64 0, .int .i64 0]) ∧ Below w.heap.size w w') := by
  go_enter Try.func45, Try.ntmps45
  go_wp2
  refine bodyPost_ret (v := .agg #[.int .i64 2, .int .u64 k.a, .int .u64 k.b, .int .u64 k.c, .int .u64 k.d, .slice none 0 0, .int .i64 0, .int .i64 0]) (by simp [results, Try.results45, go_sem]) rfl ⟨rfl, ?_⟩
  exact below1.trans (below1.mono (by simp))
end Go.Proofs.Ytbccejlemhgioaa
