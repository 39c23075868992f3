/- texts put together: RrFn0. -/
import Derived.Test.YtbccejlemhgioaaPa00
import Derived.Test.YtbccejlemhgioaaPa04
import Derived.Test.YtbccejlemhgioaaPa08
namespace Go.Proofs.Ytbccejlemhgioaa
open Go Go.RowKit Go.ChangeShapes cl rx
open rf
set_option maxHeartbeats 3200000 in
set_option maxRecDepth 100000 in
theorem rr_special (c : Nat) (w : World) : Calls Try.prog 54 #[.int .u8 c] w (fun e w' => e = .returned (.bool (spc c)) ∧ w' = w) := by
 by_cases h92 : c = 92
 ·
  have HV : Hid (spc c = true) := by show _ = _; rw [h92]; decide
  have b92 : ((c : Int) == 92) = true := by simp [h92]
  obtain ⟨z, hz⟩ : ∃ z, z = spc c := ⟨_, rfl⟩
  rw [← hz] at HV ⊢
  clear hz h92
  go_enter Try.func54, Try.ntmps54
  go_wp2
  go_ret
  exact ⟨by rw [HV.out]; rfl, rfl⟩
 have b92 : ((c : Int) == 92) = false := beq_eq_false_iff_ne.2 (by omega)
 by_cases h46 : c = 46
 ·
  have HV : Hid (spc c = true) := by show _ = _; rw [h46]; decide
  have b46 : ((c : Int) == 46) = true := by simp [h46]
  obtain ⟨z, hz⟩ : ∃ z, z = spc c := ⟨_, rfl⟩
  rw [← hz] at HV ⊢
  clear hz h92 h46
  go_enter Try.func54, Try.ntmps54
  go_wp2
  go_ret
  exact ⟨by rw [HV.out]; rfl, rfl⟩
 have b46 : ((c : Int) == 46) = false := beq_eq_false_iff_ne.2 (by omega)
 by_cases h43 : c = 43
 ·
  have HV : Hid (spc c = true) := by show _ = _; rw [h43]; decide
  have b43 : ((c : Int) == 43) = true := by simp [h43]
  obtain ⟨z, hz⟩ : ∃ z, z = spc c := ⟨_, rfl⟩
  rw [← hz] at HV ⊢
  clear hz h92 h46 h43
  go_enter Try.func54, Try.ntmps54
  go_wp2
  go_ret
  exact ⟨by rw [HV.out]; rfl, rfl⟩
 have b43 : ((c : Int) == 43) = false := beq_eq_false_iff_ne.2 (by omega)
 by_cases h42 : c = 42
 ·
  have HV : Hid (spc c = true) := by show _ = _; rw [h42]; decide
  have b42 : ((c : Int) == 42) = true := by simp [h42]
  obtain ⟨z, hz⟩ : ∃ z, z = spc c := ⟨_, rfl⟩
  rw [← hz] at HV ⊢
  clear hz h92 h46 h43 h42
  go_enter Try.func54, Try.ntmps54
  go_wp2
  go_ret
  exact ⟨by rw [HV.out]; rfl, rfl⟩
 have b42 : ((c : Int) == 42) = false := beq_eq_false_iff_ne.2 (by omega)
 by_cases h63 : c = 63
 ·
  have HV : Hid (spc c = true) := by show _ = _; rw [h63]; decide
  have b63 : ((c : Int) == 63) = true := by simp [h63]
  obtain ⟨z, hz⟩ : ∃ z, z = spc c := ⟨_, rfl⟩
  rw [← hz] at HV ⊢
  clear hz h92 h46 h43 h42 h63
  go_enter Try.func54, Try.ntmps54
  go_wp2
  go_ret
  exact ⟨by rw [HV.out]; rfl, rfl⟩
 have b63 : ((c : Int) == 63) = false := beq_eq_false_iff_ne.2 (by omega)
 by_cases h40 : c = 40
 ·
  have HV : Hid (spc c = true) := by show _ = _; rw [h40]; decide
  have b40 : ((c : Int) == 40) = true := by simp [h40]
  obtain ⟨z, hz⟩ : ∃ z, z = spc c := ⟨_, rfl⟩
  rw [← hz] at HV ⊢
  clear hz h92 h46 h43 h42 h63 h40
  go_enter Try.func54, Try.ntmps54
  go_wp2
  go_ret
  exact ⟨by rw [HV.out]; rfl, rfl⟩
 have b40 : ((c : Int) == 40) = false := beq_eq_false_iff_ne.2 (by omega)
 by_cases h41 : c = 41
 ·
  have HV : Hid (spc c = true) := by show _ = _; rw [h41]; decide
  have b41 : ((c : Int) == 41) = true := by simp [h41]
  obtain ⟨z, hz⟩ : ∃ z, z = spc c := ⟨_, rfl⟩
  rw [← hz] at HV ⊢
  clear hz h92 h46 h43 h42 h63 h40 h41
  go_enter Try.func54, Try.ntmps54
  go_wp2
  go_ret
  exact ⟨by rw [HV.out]; rfl, rfl⟩
 have b41 : ((c : Int) == 41) = false := beq_eq_false_iff_ne.2 (by omega)
 by_cases h124 : c = 124
 ·
  have HV : Hid (spc c = true) := by show _ = _; rw [h124]; decide
  have b124 : ((c : Int) == 124) = true := by simp [h124]
  obtain ⟨z, hz⟩ : ∃ z, z = spc c := ⟨_, rfl⟩
  rw [← hz] at HV ⊢
  clear hz h92 h46 h43 h42 h63 h40 h41 h124
  go_enter Try.func54, Try.ntmps54
  go_wp2
  go_ret
  exact ⟨by rw [HV.out]; rfl, rfl⟩
 have b124 : ((c : Int) == 124) = false := beq_eq_false_iff_ne.2 (by omega)
 by_cases h91 : c = 91
 ·
  have HV : Hid (spc c = true) := by show _ = _; rw [h91]; decide
  have b91 : ((c : Int) == 91) = true := by simp [h91]
  obtain ⟨z, hz⟩ : ∃ z, z = spc c := ⟨_, rfl⟩
  rw [← hz] at HV ⊢
  clear hz h92 h46 h43 h42 h63 h40 h41 h124 h91
  go_enter Try.func54, Try.ntmps54
  go_wp2
  go_ret
  exact ⟨by rw [HV.out]; rfl, rfl⟩
 have b91 : ((c : Int) == 91) = false := beq_eq_false_iff_ne.2 (by omega)
 by_cases h93 : c = 93
 ·
  have HV : Hid (spc c = true) := by show _ = _; rw [h93]; decide
  have b93 : ((c : Int) == 93) = true := by simp [h93]
  obtain ⟨z, hz⟩ : ∃ z, z = spc c := ⟨_, rfl⟩
  rw [← hz] at HV ⊢
  clear hz h92 h46 h43 h42 h63 h40 h41 h124 h91 h93
  go_enter Try.func54, Try.ntmps54
  go_wp2
  go_ret
  exact ⟨by rw [HV.out]; rfl, rfl⟩
 have b93 : ((c : Int) == 93) = false := beq_eq_false_iff_ne.2 (by omega)
 by_cases h123 : c = 123
 ·
  have HV : Hid (spc c = true) := by show _ = _; rw [h123]; decide
  have b123 : ((c : Int) == 123) = true := by simp [h123]
  obtain ⟨z, hz⟩ : ∃ z, z = spc c := ⟨_, rfl⟩
  rw [← hz] at HV ⊢
  clear hz h92 h46 h43 h42 h63 h40 h41 h124 h91 h93 h123
  go_enter Try.func54, Try.ntmps54
  go_wp2
  go_ret
  exact ⟨by rw [HV.out]; rfl, rfl⟩
 have b123 : ((c : Int) == 123) = false := beq_eq_false_iff_ne.2 (by omega)
 by_cases h125 : c = 125
 ·
  have HV : Hid (spc c = true) := by show _ = _; rw [h125]; decide
  have b125 : ((c : Int) == 125) = true := by simp [h125]
  obtain ⟨z, hz⟩ : ∃ z, z = spc c := ⟨_, rfl⟩
  rw [← hz] at HV ⊢
  clear hz h92 h46 h43 h42 h63 h40 h41 h124 h91 h93 h123 h125
  go_enter Try.func54, Try.ntmps54
  go_wp2
  go_ret
  exact ⟨by rw [HV.out]; rfl, rfl⟩
 have b125 : ((c : Int) == 125) = false := beq_eq_false_iff_ne.2 (by omega)
 by_cases h94 : c = 94
 ·
  have HV : Hid (spc c = true) := by show _ = _; rw [h94]; decide
  have b94 : ((c : Int) == 94) = true := by simp [h94]
  obtain ⟨z, hz⟩ : ∃ z, z = spc c := ⟨_, rfl⟩
  rw [← hz] at HV ⊢
  clear hz h92 h46 h43 h42 h63 h40 h41 h124 h91 h93 h123 h125 h94
  go_enter Try.func54, Try.ntmps54
  go_wp2
  go_ret
  exact ⟨by rw [HV.out]; rfl, rfl⟩
 have b94 : ((c : Int) == 94) = false := beq_eq_false_iff_ne.2 (by omega)
 by_cases h36 : c = 36
 ·
  have HV : Hid (spc c = true) := by show _ = _; rw [h36]; decide
  have b36 : ((c : Int) == 36) = true := by simp [h36]
  obtain ⟨z, hz⟩ : ∃ z, z = spc c := ⟨_, rfl⟩
  rw [← hz] at HV ⊢
  clear hz h92 h46 h43 h42 h63 h40 h41 h124 h91 h93 h123 h125 h94 h36
  go_enter Try.func54, Try.ntmps54
  go_wp2
  go_ret
  exact ⟨by rw [HV.out]; rfl, rfl⟩
 have b36 : ((c : Int) == 36) = false := beq_eq_false_iff_ne.2 (by omega)
 by_cases h45 : c = 45
 ·
  have HV : Hid (spc c = true) := by show _ = _; rw [h45]; decide
  have b45 : ((c : Int) == 45) = true := by simp [h45]
  obtain ⟨z, hz⟩ : ∃ z, z = spc c := ⟨_, rfl⟩
  rw [← hz] at HV ⊢
  clear hz h92 h46 h43 h42 h63 h40 h41 h124 h91 h93 h123 h125 h94 h36 h45
  go_enter Try.func54, Try.ntmps54
  go_wp2
  go_ret
  exact ⟨by rw [HV.out]; rfl, rfl⟩
 have b45 : ((c : Int) == 45) = false := beq_eq_false_iff_ne.2 (by omega)
 have HV : Hid (spc c = false) := by
  show _ = _
  unfold spc
  simp [h92, h46, h43, h42, h63, h40, h41, h124, h91, h93, h123, h125, h94, h36, h45]
 obtain ⟨z, hz⟩ : ∃ z, z = spc c := ⟨_, rfl⟩
 rw [← hz] at HV ⊢
 clear hz h92 h46 h43 h42 h63 h40 h41 h124 h91 h93 h123 h125 h94 h36 h45
 go_enter Try.func54, Try.ntmps54
 go_wp2
 go_ret
 exact ⟨by rw [HV.out]; rfl, rfl⟩
set_option maxHeartbeats 3200000 in
set_option maxRecDepth 100000 in
theorem rr_digit (c : Nat) (w : World) (hc : c < 256) : Calls Try.prog 64 #[.int .u8 c] w (fun e w' => e = .returned (.int .i64 (dig c)) ∧ w' = w) := by
 obtain ⟨d, hd⟩ : ∃ d, d = dig c := ⟨_, rfl⟩
 rw [← hd]
 unfold dig at hd
 by_cases h1 : 48 ≤ c ∧ c ≤ 57
 ·
  rw [if_pos h1] at hd
  obtain ⟨h2, h3⟩ := h1
  have i2 : (48 : Int) ≤ (c : Int) := by omega
  have i3 : (c : Int) ≤ 57 := by omega
  have HD := Lib.hid hd
  clear hd
  go_enter Try.func64, Try.ntmps64
  go_wp2
  go_ret
  exact ⟨by rw [HD.out]; rfl, rfl⟩
 rw [if_neg h1] at hd
 by_cases h4 : 97 ≤ c ∧ c ≤ 102
 ·
  rw [if_pos h4] at hd
  obtain ⟨h2, h3⟩ := h4
  have i1 : (48 : Int) ≤ (c : Int) := by omega
  have i0 : ¬ (c : Int) ≤ 57 := by omega
  have i2 : (97 : Int) ≤ (c : Int) := by omega
  have i3 : (c : Int) ≤ 102 := by omega
  have HD : Hid (d = (c : Int) - 97 + 10) := by show _ = _; omega
  clear hd h1
  go_enter Try.func64, Try.ntmps64
  go_wp2
  go_ret
  exact ⟨by rw [HD.out]; rfl, rfl⟩
 rw [if_neg h4] at hd
 subst hd
 have a1 : decide ((48 : Int) ≤ (c : Int)) = true ∨ decide ((48 : Int) ≤ (c : Int)) = false := by cases decide ((48 : Int) ≤ (c : Int)) <;> simp
 by_cases j1 : 48 ≤ c
 ·
  have i1 : (48 : Int) ≤ (c : Int) := by omega
  have i0 : ¬ (c : Int) ≤ 57 := by omega
  by_cases j2 : 97 ≤ c
  ·
   have i2 : (97 : Int) ≤ (c : Int) := by omega
   have i3 : ¬ (c : Int) ≤ 102 := by omega
   clear h1 h4 a1
   go_enter Try.func64, Try.ntmps64
   go_wp2
   go_ret
   exact ⟨rfl, rfl⟩
  ·
   have i2 : ¬ (97 : Int) ≤ (c : Int) := by omega
   clear h1 h4 a1
   go_enter Try.func64, Try.ntmps64
   go_wp2
   go_ret
   exact ⟨rfl, rfl⟩
 ·
  have i1 : ¬ (48 : Int) ≤ (c : Int) := by omega
  have i2 : ¬ (97 : Int) ≤ (c : Int) := by omega
  clear h1 h4 a1
  go_enter Try.func64, Try.ntmps64
  go_wp2
  go_ret
  exact ⟨rfl, rfl⟩
set_option maxHeartbeats 3200000 in
set_option maxRecDepth 100000 in
theorem rr_single (c : Nat) (w : World) (hc : c < 256) : Calls Try.prog 55 #[.int .u8 c] w (fun e w' => e = .returned (.agg #[.int .u64 (Cls.one c).a, .int .u64 (Cls.one c).b, .int .u64 (Cls.one c).c, .int .u64 (Cls.one c).d]) ∧ Below w.heap.size w w') := by
 have ea := and63 c hc
 rcases (by omega : c < 64 ∨ (64 ≤ c ∧ c < 128) ∨ (128 ≤ c ∧ c < 192) ∨ 192 ≤ c) with h | h | h | h
 ·
  have e1 : (c : Int) / 64 = 0 := by omega
  obtain ⟨r, hr⟩ : ∃ r, r = c % 64 := ⟨_, rfl⟩
  rw [← hr] at ea
  have hrl : r < 64 := by omega
  have hw0 : IntKind.u64.wrap (r : Int) = (r : Int) := IntWalk.u64_in _ ⟨by omega, by omega⟩
  have hw : IntKind.u64.wrap (2 ^ r) = ((2 ^ r : Nat) : Int) := pow_u64 hrl
  have HO : Cls.one c = ⟨2 ^ r, 0, 0, 0⟩ := by
   unfold Cls.one
   rw [if_pos (by omega), show c = r by omega]
  rw [HO]
  obtain ⟨v, hv⟩ : ∃ v, v = 2 ^ r := ⟨_, rfl⟩
  rw [← hv] at hw ⊢
  clear hr HO hv
  go_enter Try.func55, Try.ntmps55
  go_wp2
  refine bodyPost_ret (v := .agg #[.int .u64 (v : Int), .int .u64 0, .int .u64 0, .int .u64 0]) (by simp [results, Try.results55, go_sem]) rfl ⟨rfl, ?_⟩
  exact below1.trans (below1.mono (by simp))
 ·
  have e1 : (c : Int) / 64 = 1 := by omega
  obtain ⟨r, hr⟩ : ∃ r, r = c % 64 := ⟨_, rfl⟩
  rw [← hr] at ea
  have hrl : r < 64 := by omega
  have hw0 : IntKind.u64.wrap (r : Int) = (r : Int) := IntWalk.u64_in _ ⟨by omega, by omega⟩
  have hw : IntKind.u64.wrap (2 ^ r) = ((2 ^ r : Nat) : Int) := pow_u64 hrl
  have HO : Cls.one c = ⟨0, 2 ^ r, 0, 0⟩ := by
   unfold Cls.one
   rw [if_neg (by omega), if_pos (by omega), show c - 64 = r by omega]
  rw [HO]
  obtain ⟨v, hv⟩ : ∃ v, v = 2 ^ r := ⟨_, rfl⟩
  rw [← hv] at hw ⊢
  clear hr HO hv
  go_enter Try.func55, Try.ntmps55
  go_wp2
  refine bodyPost_ret (v := .agg #[.int .u64 0, .int .u64 (v : Int), .int .u64 0, .int .u64 0]) (by simp [results, Try.results55, go_sem]) rfl ⟨rfl, ?_⟩
  exact below1.trans (below1.mono (by simp))
 ·
  have e1 : (c : Int) / 64 = 2 := by omega
  obtain ⟨r, hr⟩ : ∃ r, r = c % 64 := ⟨_, rfl⟩
  rw [← hr] at ea
  have hrl : r < 64 := by omega
  have hw0 : IntKind.u64.wrap (r : Int) = (r : Int) := IntWalk.u64_in _ ⟨by omega, by omega⟩
  have hw : IntKind.u64.wrap (2 ^ r) = ((2 ^ r : Nat) : Int) := pow_u64 hrl
  have HO : Cls.one c = ⟨0, 0, 2 ^ r, 0⟩ := by
   unfold Cls.one
   rw [if_neg (by omega), if_neg (by omega), if_pos (by omega), show c - 128 = r by omega]
  rw [HO]
  obtain ⟨v, hv⟩ : ∃ v, v = 2 ^ r := ⟨_, rfl⟩
  rw [← hv] at hw ⊢
  clear hr HO hv
  go_enter Try.func55, Try.ntmps55
  go_wp2
  refine bodyPost_ret (v := .agg #[.int .u64 0, .int .u64 0, .int .u64 (v : Int), .int .u64 0]) (by simp [results, Try.results55, go_sem]) rfl ⟨rfl, ?_⟩
  exact below1.trans (below1.mono (by simp))
 ·
  have e1 : (c : Int) / 64 = 3 := by omega
  obtain ⟨r, hr⟩ : ∃ r, r = c % 64 := ⟨_, rfl⟩
  rw [← hr] at ea
  have hrl : r < 64 := by omega
  have hw0 : IntKind.u64.wrap (r : Int) = (r : Int) := IntWalk.u64_in _ ⟨by omega, by omega⟩
  have hw : IntKind.u64.wrap (2 ^ r) = ((2 ^ r : Nat) : Int) := pow_u64 hrl
  have HO : Cls.one c = ⟨0, 0, 0, 2 ^ r⟩ := by
   unfold Cls.one
   rw [if_neg (by omega), if_neg (by omega), if_neg (by omega), show c - 192 = r by omega]
  rw [HO]
  obtain ⟨v, hv⟩ : ∃ v, v = 2 ^ r := ⟨_, rfl⟩
  rw [← hv] at hw ⊢
  clear hr HO hv
  go_enter Try.func55, Try.ntmps55
  go_wp2
  refine bodyPost_ret (v := .agg #[.int .u64 0, .int .u64 0, .int .u64 0, .int .u64 (v : Int)]) (by simp [results, Try.results55, go_sem]) rfl ⟨rfl, ?_⟩
  exact below1.trans (below1.mono (by simp))
set_option maxHeartbeats 3200000 in
set_option maxRecDepth 100000 in
theorem rr_fail (S : ByteArray) (r : rr.R) (a : Nat) (co : Int) (w : World) : Calls Try.prog 23 #[.agg #[.string S, .int .i64 ((r).p : Int), .int .i64 (r).co], .int .i64 a, .int .i64 co] w (fun e w' => e = .returned (.agg #[.string S, .int .i64 ((r.fail a co).p : Int), .int .i64 (r.fail a co).co]) ∧ Below w.heap.size w w') := by
 by_cases h : r.co = 0
 ·
  have hb : (r.co == 0) = true := by simp [h]
  have HF : r.fail a co = ⟨a, co⟩ := by unfold rr.R.fail; rw [if_pos h]
  rw [HF]
  simp only
  clear HF h
  go_enter Try.func23, Try.ntmps23
  go_wp2
  refine bodyPost_ret (v := .agg #[.string S, .int .i64 (a : Int), .int .i64 co]) (by simp [results, Try.results23, go_sem]) rfl ⟨rfl, ?_⟩
  exact below1.trans (below1.mono (by simp))
 ·
  have hb : (r.co == 0) = false := by simp [h]
  have HF : r.fail a co = r := by unfold rr.R.fail; rw [if_neg h]
  rw [HF]
  clear HF h
  go_enter Try.func23, Try.ntmps23
  go_wp2
  refine bodyPost_ret (v := .agg #[.string S, .int .i64 ((r).p : Int), .int .i64 (r).co]) (by simp [results, Try.results23, go_sem]) rfl ⟨rfl, ?_⟩
  exact below1.trans (below1.mono (by simp))
set_option maxHeartbeats 3200000 in
set_option maxRecDepth 100000 in
theorem rr_more (S : ByteArray) (r : rr.R) (w : World) : Calls Try.prog 30 #[.agg #[.string S, .int .i64 ((r).p : Int), .int .i64 (r).co]] w (fun e w' => e = .returned (.bool (rr.more (kit.bytes S) r)) ∧ Below w.heap.size w w') := by
 have hl : (kit.bytes S).length = S.size := by simp [kit.bytes]
 obtain ⟨m, hm⟩ : ∃ m, m = rr.more (kit.bytes S) r := ⟨_, rfl⟩
 rw [← hm]
 unfold rr.more at hm
 rw [hl] at hm
 by_cases h : r.co = 0
 ·
  have hb : (r.co == 0) = true := by simp [h]
  by_cases h2 : r.p < S.size
  ·
   have hi : (r.p : Int) < (S.size : Int) := by omega
   obtain rfl : m = true := by rw [hm]; exact decide_eq_true ⟨h, h2⟩
   clear hm h h2 hl
   go_enter Try.func30, Try.ntmps30
   go_wp2
   go_ret
   exact ⟨rfl, below1⟩
  ·
   have hi : ¬ (r.p : Int) < (S.size : Int) := by omega
   obtain rfl : m = false := by rw [hm]; exact decide_eq_false (fun e => h2 e.2)
   clear hm h h2 hl
   go_enter Try.func30, Try.ntmps30
   go_wp2
   go_ret
   exact ⟨rfl, below1⟩
 ·
  have hb : (r.co == 0) = false := by simp [h]
  obtain rfl : m = false := by rw [hm]; exact decide_eq_false (fun e => h e.1)
  clear hm h hl
  go_enter Try.func30, Try.ntmps30
  go_wp2
  go_ret
  exact ⟨rfl, below1⟩
end Go.Proofs.Ytbccejlemhgioaa
