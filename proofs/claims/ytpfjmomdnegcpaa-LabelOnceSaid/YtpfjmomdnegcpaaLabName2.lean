/- label.IsValue and the document's IsName, IsValue by contract. -/
import Derived.Test.YtpfjmomdnegcpaaLabName
namespace Go.Proofs.Ytpfjmomdnegcpaa
open Go.RowKit Go.ChangeShapes

set_option maxHeartbeats 1600000 in
set_option maxRecDepth 100000 in
theorem isval_any (s : ByteArray) (w : World) (hs : s.size ≤ maxLen) :
    Calls Try.prog 12 #[.string s] w (Said (lb.isVal s) w) := by
  unfold maxLen at hs
  have HE : Hid (lb.isVal s = decide (s.size ≤ 32 ∧ lb.VlOk s s.size)) := rfl
  obtain ⟨R, hR⟩ : ∃ R, R = lb.isVal s := ⟨_, rfl⟩
  rw [← hR] at HE ⊢
  clear hR
  by_cases h2 : 32 < s.size
  · have HR : Hid (R = false) := by show _ = _; rw [HE.out]; exact decide_eq_false (fun h => by omega)
    have h2I : (32 : Int) < (s.size : Int) := by omega
    go_enter Try.func12, Try.ntmps12
    go_wp2
    go_ret
    rw [HR.out]; exact ⟨rfl, Below.refl _ _⟩
  have h2I : ¬ (32 : Int) < (s.size : Int) := by omega
  go_enter Try.func12, Try.ntmps12
  go_wp2
  go_loop [3, 9] (fun _ i => ∃ k : Nat, k ≤ s.size ∧ i = .int .i64 k ∧ Hid (lb.VlOk s k)) (fun _ i => s.size - (intOf i).toNat)
  case atStart => exact ⟨0, Nat.zero_le _, rfl, fun i hi => absurd hi (Nat.not_lt_zero _)⟩
  case round =>
    obtain ⟨k, hk, rfl, HV⟩ := hrel
    by_cases hlt : k < s.size
    · have HBT := Lib.hid (lb.byte_at s k hlt)
      have hkI : (k : Int) < (s.size : Int) := by omega
      by_cases hv : 32 ≤ (s[k]'hlt).toNat ∧ (s[k]'hlt).toNat ≤ 126
      · obtain ⟨hv1, hv2⟩ := hv
        have HG : Hid (lb.VlOk s (k + 1)) := lb.vl_succ HV.out (by rw [HBT.out]; exact ⟨hv1, hv2⟩)
        have g1 : ¬ ((s[k]'hlt).toNat : Int) < 32 := by omega
        have g2 : ¬ (126 : Int) < ((s[k]'hlt).toNat : Int) := by omega
        have g3 : ¬ (s[k]'hlt).toNat < 32 := by omega
        have g4 : ¬ 126 < (s[k]'hlt).toNat := by omega
        go_wp2
        go_round
        case rel => exact ⟨k + 1, by omega, by go_num, HG⟩
        case measure => simp [intOf]; omega
      · have HR : Hid (R = false) := by
          show _ = _
          rw [HE.out]
          refine decide_eq_false (fun h => hv ?_)
          have := h.2 k hlt
          rw [HBT.out] at this; exact this
        by_cases h3 : (s[k]'hlt).toNat < 32
        · have g1 : ((s[k]'hlt).toNat : Int) < 32 := by omega
          clear hv
          go_wp2
          go_ret
          rw [HR.out]; exact ⟨rfl, Below.refl _ _⟩
        · have g1 : ¬ ((s[k]'hlt).toNat : Int) < 32 := by omega
          have g2 : (126 : Int) < ((s[k]'hlt).toNat : Int) := by omega
          have g4 : 126 < (s[k]'hlt).toNat := by omega
          clear hv
          go_wp2
          go_ret
          rw [HR.out]; exact ⟨rfl, Below.refl _ _⟩
    · obtain rfl : k = s.size := by omega
      have HR : Hid (R = true) := by show _ = _; rw [HE.out]; exact decide_eq_true ⟨by omega, HV.out⟩
      go_wp2
      go_ret
      rw [HR.out]; exact ⟨rfl, Below.refl _ _⟩

set_option maxHeartbeats 1600000 in
set_option maxRecDepth 100000 in
theorem rval_any (s : ByteArray) (w : World) (hs : s.size ≤ maxLen) :
    Calls Try.prog 13 #[.string s] w (Said (lb.isVal s) w) := by
  unfold maxLen at hs
  have HE : Hid (lb.isVal s = decide (s.size ≤ 32 ∧ lb.VlOk s s.size)) := rfl
  obtain ⟨R, hR⟩ : ∃ R, R = lb.isVal s := ⟨_, rfl⟩
  rw [← hR] at HE ⊢
  clear hR
  go_enter Try.func13, Try.ntmps13
  go_wp2
  go_loop [3, 6] (fun _ i => ∃ k : Nat, k ≤ s.size ∧ i = .int .i64 k ∧ Hid (lb.VlOk s k)) (fun _ i => s.size - (intOf i).toNat)
  case atStart => exact ⟨0, Nat.zero_le _, rfl, fun i hi => absurd hi (Nat.not_lt_zero _)⟩
  case round =>
    obtain ⟨k, hk, rfl, HV⟩ := hrel
    by_cases hlt : k < s.size
    · have HBT := Lib.hid (lb.byte_at s k hlt)
      have hkI : (k : Int) < (s.size : Int) := by omega
      by_cases hv : 32 ≤ (s[k]'hlt).toNat ∧ (s[k]'hlt).toNat ≤ 126
      · obtain ⟨hv1, hv2⟩ := hv
        have HG : Hid (lb.VlOk s (k + 1)) := lb.vl_succ HV.out (by rw [HBT.out]; exact ⟨hv1, hv2⟩)
        have g1 : ¬ ((s[k]'hlt).toNat : Int) < 32 := by omega
        have g2 : ¬ (126 : Int) < ((s[k]'hlt).toNat : Int) := by omega
        have g3 : ¬ (s[k]'hlt).toNat < 32 := by omega
        have g4 : ¬ 126 < (s[k]'hlt).toNat := by omega
        go_wp2
        go_round
        case rel => exact ⟨k + 1, by omega, by go_num, HG⟩
        case measure => simp [intOf]; omega
      · have HR : Hid (R = false) := by
          show _ = _
          rw [HE.out]
          refine decide_eq_false (fun h => hv ?_)
          have := h.2 k hlt
          rw [HBT.out] at this; exact this
        by_cases h3 : (s[k]'hlt).toNat < 32
        · have g1 : ((s[k]'hlt).toNat : Int) < 32 := by omega
          clear hv
          go_wp2
          go_ret
          rw [HR.out]; exact ⟨rfl, Below.refl _ _⟩
        · have g1 : ¬ ((s[k]'hlt).toNat : Int) < 32 := by omega
          have g2 : (126 : Int) < ((s[k]'hlt).toNat : Int) := by omega
          have g4 : 126 < (s[k]'hlt).toNat := by omega
          clear hv
          go_wp2
          go_ret
          rw [HR.out]; exact ⟨rfl, Below.refl _ _⟩
    · obtain rfl : k = s.size := by omega
      by_cases h2 : s.size ≤ 32
      · have HR : Hid (R = true) := by show _ = _; rw [HE.out]; exact decide_eq_true ⟨h2, HV.out⟩
        have h2I : (s.size : Int) ≤ 32 := by omega
        go_wp2
        go_ret
        rw [HR.out]; exact ⟨rfl, Below.refl _ _⟩
      · have HR : Hid (R = false) := by show _ = _; rw [HE.out]; exact decide_eq_false (fun h => h2 h.1)
        have h2I : ¬ (s.size : Int) ≤ 32 := by omega
        go_wp2
        go_ret
        rw [HR.out]; exact ⟨rfl, Below.refl _ _⟩

set_option maxHeartbeats 1600000 in
set_option maxRecDepth 100000 in
theorem rname_any (s : ByteArray) (w : World) (hs : s.size ≤ maxLen) :
    Calls Try.prog 11 #[.string s] w (Said (lb.isName s) w) := by
  unfold maxLen at hs
  have HE : Hid (lb.isName s = decide (1 ≤ s.size ∧ s.size ≤ 16 ∧ lb.NmOk s s.size)) := rfl
  obtain ⟨R, hR⟩ : ∃ R, R = lb.isName s := ⟨_, rfl⟩
  rw [← hR] at HE ⊢
  clear hR
  go_enter Try.func11, Try.ntmps11
  go_wp2
  go_loop [3, 4, 7] (fun _ _ i => ∃ k : Nat, k ≤ s.size ∧ i = .int .i64 k ∧ Hid (lb.NmOk s k)) (fun _ _ i => s.size - (intOf i).toNat)
  case atStart => exact ⟨0, Nat.zero_le _, rfl, fun i hi => absurd hi (Nat.not_lt_zero _)⟩
  case round =>
    obtain ⟨k, hk, rfl, HV⟩ := hrel
    by_cases hlt : k < s.size
    · have HBT := Lib.hid (lb.byte_at s k hlt)
      have hkI : (k : Int) < (s.size : Int) := by omega
      have HBAD : Hid (¬ (((97 ≤ (s[k]'hlt).toNat ∧ (s[k]'hlt).toNat ≤ 122) ∨ (s[k]'hlt).toNat = 95) ∨ (48 ≤ (s[k]'hlt).toNat ∧ (s[k]'hlt).toNat ≤ 57 ∧ 0 < k)) → R = false) := fun hn => by
        rw [HE.out]
        refine decide_eq_false (fun h => hn ?_)
        have := h.2.2 k hlt
        rw [HBT.out] at this; exact this
      have HGOOD : Hid ((((97 ≤ (s[k]'hlt).toNat ∧ (s[k]'hlt).toNat ≤ 122) ∨ (s[k]'hlt).toNat = 95) ∨ (48 ≤ (s[k]'hlt).toNat ∧ (s[k]'hlt).toNat ≤ 57 ∧ 0 < k)) → lb.NmOk s (k + 1)) := fun hg => lb.nm_succ HV.out (by rw [HBT.out]; exact hg)
      rcases (by omega : (97 ≤ (s[k]'hlt).toNat ∧ (s[k]'hlt).toNat ≤ 122) ∨ (s[k]'hlt).toNat = 95 ∨ (48 ≤ (s[k]'hlt).toNat ∧ (s[k]'hlt).toNat ≤ 57 ∧ 0 < k) ∨ (48 ≤ (s[k]'hlt).toNat ∧ (s[k]'hlt).toNat ≤ 57 ∧ k = 0) ∨ (s[k]'hlt).toNat < 48 ∨ (57 < (s[k]'hlt).toNat ∧ (s[k]'hlt).toNat < 97 ∧ (s[k]'hlt).toNat ≠ 95) ∨ 122 < (s[k]'hlt).toNat) with hc | hc | hc | hc | hc | hc | hc
      · have HG := Lib.hid (HGOOD.out (by omega))
        have g0 : ¬ ((s[k]'hlt).toNat : Int) < (97 : Int) := by omega
        have g1 : ¬ (s[k]'hlt).toNat < 97 := by omega
        have g2 : ¬ (122 : Int) < ((s[k]'hlt).toNat : Int) := by omega
        have g3 : ¬ 122 < (s[k]'hlt).toNat := by omega
        clear hc
        go_wp2
        go_round
        case rel => exact ⟨k + 1, by omega, by go_num, HG.out⟩
        case measure => simp [intOf]; omega
      · have HG := Lib.hid (HGOOD.out (by omega))
        have g0 : ((s[k]'hlt).toNat : Int) < (97 : Int) := by omega
        have g1 : (s[k]'hlt).toNat < 97 := by omega
        have g2 : (((s[k]'hlt).toNat : Int) == 95) = true := by simp; omega
        have g3 : (((s[k]'hlt).toNat : Int) != 95) = false := by simp; omega
        clear hc
        go_wp2
        go_round
        case rel => exact ⟨k + 1, by omega, by go_num, HG.out⟩
        case measure => simp [intOf]; omega
      · have HG := Lib.hid (HGOOD.out (by omega))
        have g0 : ((s[k]'hlt).toNat : Int) < (97 : Int) := by omega
        have g1 : (s[k]'hlt).toNat < 97 := by omega
        have g2 : (((s[k]'hlt).toNat : Int) == 95) = false := by simp; omega
        have g3 : (((s[k]'hlt).toNat : Int) != 95) = true := by simp; omega
        have g4 : ((k : Int) == 0) = false := by simp; omega
        have g5 : ¬ ((s[k]'hlt).toNat : Int) < (48 : Int) := by omega
        have g6 : ¬ (s[k]'hlt).toNat < 48 := by omega
        have g7 : ¬ (57 : Int) < ((s[k]'hlt).toNat : Int) := by omega
        have g8 : ¬ 57 < (s[k]'hlt).toNat := by omega
        clear hc
        go_wp2
        go_round
        case rel => exact ⟨k + 1, by omega, by go_num, HG.out⟩
        case measure => simp [intOf]; omega
      · have HR := Lib.hid (HBAD.out (by omega))
        have g0 : ((s[k]'hlt).toNat : Int) < (97 : Int) := by omega
        have g1 : (s[k]'hlt).toNat < 97 := by omega
        have g2 : (((s[k]'hlt).toNat : Int) == 95) = false := by simp; omega
        have g3 : (((s[k]'hlt).toNat : Int) != 95) = true := by simp; omega
        have g4 : ((k : Int) == 0) = true := by simp; omega
        clear hc
        go_wp2
        all_goals (go_ret; rw [HR.out]; exact ⟨rfl, Below.refl _ _⟩)
      · have HR := Lib.hid (HBAD.out (by omega))
        have g0 : ((s[k]'hlt).toNat : Int) < (97 : Int) := by omega
        have g1 : (s[k]'hlt).toNat < 97 := by omega
        have g2 : (((s[k]'hlt).toNat : Int) == 95) = false := by simp; omega
        have g3 : (((s[k]'hlt).toNat : Int) != 95) = true := by simp; omega
        have g4 : ((s[k]'hlt).toNat : Int) < (48 : Int) := by omega
        have g5 : (s[k]'hlt).toNat < 48 := by omega
        clear hc
        go_wp2
        all_goals (go_ret; rw [HR.out]; exact ⟨rfl, Below.refl _ _⟩)
      · have HR := Lib.hid (HBAD.out (by omega))
        have g0 : ((s[k]'hlt).toNat : Int) < (97 : Int) := by omega
        have g1 : (s[k]'hlt).toNat < 97 := by omega
        have g2 : (((s[k]'hlt).toNat : Int) == 95) = false := by simp; omega
        have g3 : (((s[k]'hlt).toNat : Int) != 95) = true := by simp; omega
        have g4 : ¬ ((s[k]'hlt).toNat : Int) < (48 : Int) := by omega
        have g5 : ¬ (s[k]'hlt).toNat < 48 := by omega
        have g6 : (57 : Int) < ((s[k]'hlt).toNat : Int) := by omega
        have g7 : 57 < (s[k]'hlt).toNat := by omega
        clear hc
        go_wp2
        all_goals (go_ret; rw [HR.out]; exact ⟨rfl, Below.refl _ _⟩)
      · have HR := Lib.hid (HBAD.out (by omega))
        have g0 : ¬ ((s[k]'hlt).toNat : Int) < (97 : Int) := by omega
        have g1 : ¬ (s[k]'hlt).toNat < 97 := by omega
        have g2 : (122 : Int) < ((s[k]'hlt).toNat : Int) := by omega
        have g3 : 122 < (s[k]'hlt).toNat := by omega
        have g4 : (((s[k]'hlt).toNat : Int) == 95) = false := by simp; omega
        have g5 : (((s[k]'hlt).toNat : Int) != 95) = true := by simp; omega
        have g6 : ¬ ((s[k]'hlt).toNat : Int) < (48 : Int) := by omega
        have g7 : ¬ (s[k]'hlt).toNat < 48 := by omega
        have g8 : (57 : Int) < ((s[k]'hlt).toNat : Int) := by omega
        have g9 : 57 < (s[k]'hlt).toNat := by omega
        clear hc
        go_wp2
        all_goals (go_ret; rw [HR.out]; exact ⟨rfl, Below.refl _ _⟩)
    · obtain rfl : k = s.size := by omega
      by_cases h1 : 1 ≤ s.size
      · have h1I : (1 : Int) ≤ (s.size : Int) := by omega
        by_cases h2 : s.size ≤ 16
        · have HR : Hid (R = true) := by show _ = _; rw [HE.out]; exact decide_eq_true ⟨h1, h2, HV.out⟩
          have h2I : (s.size : Int) ≤ 16 := by omega
          go_wp2
          go_ret
          rw [HR.out]; exact ⟨rfl, Below.refl _ _⟩
        · have HR : Hid (R = false) := by show _ = _; rw [HE.out]; exact decide_eq_false (fun h => h2 h.2.1)
          have h2I : ¬ (s.size : Int) ≤ 16 := by omega
          go_wp2
          go_ret
          rw [HR.out]; exact ⟨rfl, Below.refl _ _⟩
      · have HR : Hid (R = false) := by show _ = _; rw [HE.out]; exact decide_eq_false (fun h => h1 h.1)
        have h1I : ¬ (1 : Int) ≤ (s.size : Int) := by omega
        go_wp2
        go_ret
        rw [HR.out]; exact ⟨rfl, Below.refl _ _⟩
end Go.Proofs.Ytpfjmomdnegcpaa
