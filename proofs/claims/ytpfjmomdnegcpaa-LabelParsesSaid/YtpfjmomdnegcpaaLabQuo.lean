/- the document's quoted: a value in its signs. -/
import Derived.Test.YtpfjmomdnegcpaaLabEsc
namespace Go.Proofs.Ytpfjmomdnegcpaa
open Go.RowKit Go.ChangeShapes

theorem extract_one (s : ByteArray) (k : Nat) (h : k < s.size) : s.extract k (k + 1) = kit.str [(s[k]'h).toNat] := by
  apply ByteArray.ext
  rw [ByteArray.data_extract]
  apply Array.ext
  · simp [kit.str]
    have : s.data.size = s.size := rfl
    omega
  · intro i h1 h2
    have h3 : i < 1 := by simpa [kit.str] using h2
    obtain rfl : i = 0 := by omega
    simp [kit.str]
    rfl

set_option maxHeartbeats 1600000 in
set_option maxRecDepth 100000 in
theorem quoted_any (s : ByteArray) (w : World) (hlen : s.size ≤ 100000) :
    Calls Try.prog 33 #[.string s] w fun e w' => e = .returned (.string (kit.str ([34] ++ escN (kit.bytes s) ++ [34]))) ∧ w' = w := by
  obtain ⟨R, hR⟩ : ∃ R, R = kit.str ([34] ++ escN (kit.bytes s) ++ [34]) := ⟨_, rfl⟩
  rw [← hR]
  have HR := Lib.hid hR
  clear hR
  go_enter Try.func33, Try.ntmps33
  go_wp2
  go_loop [3, 4, 7] (fun x _ i => ∃ (k : Nat) (q : ByteArray), k ≤ s.size ∧ i = .int .i64 k ∧ x = .string q ∧ q.size ≤ 1 + 2 * k ∧ Hid (q = kit.str ([34] ++ escN ((kit.bytes s).take k)))) (fun _ _ i => s.size - (intOf i).toNat)
  case atStart => exact ⟨0, _, Nat.zero_le _, rfl, rfl, by simp [ByteArray.size], by show _ = _; simp [escN]; rfl⟩
  case round =>
    obtain ⟨k, q, hk, rfl, rfl, hpl, HP⟩ := hrel
    have z1 : ¬ 9223372036854775807 < q.size + 1 := by omega
    by_cases hlt : k < s.size
    · have HST := Lib.hid (esc_step s k hlt)
      have HX := Lib.hid (extract_one s k hlt)
      have hkI : (k : Int) < (s.size : Int) := by omega
      have z2 : ¬ 9223372036854775807 < q.size + 1 + (min (k + 1) s.size - k) := by omega
      have z3 : ¬ 9223372036854775807 < q.size + (min (k + 1) s.size - k) := by omega
      have HE0 : Hid ((s.extract k (k + 1)).size = 1) := by show _ = _; rw [ByteArray.size_extract]; omega
      by_cases h34 : (s[k]'hlt).toNat = 34
      · have HP2 : Hid (q ++ ⟨#[92]⟩ ++ s.extract k (k + 1) = kit.str ([34] ++ escN ((kit.bytes s).take (k + 1)))) := by
          show _ = _
          rw [HST.out, ← List.append_assoc, kit.str_app, ← HP.out, HX.out, esc1, if_pos (by simp [h34]), h34, ByteArray.append_assoc]
          rfl
        go_wp2
        go_round
        case rel => exact ⟨k + 1, _, by omega, by go_num, rfl, by rw [ByteArray.size_append, ByteArray.size_append, HE0.out]; show _ + 1 + 1 ≤ _; omega, HP2⟩
        case measure => simp [intOf]; omega
      · by_cases h92 : (s[k]'hlt).toNat = 92
        · have HP2 : Hid (q ++ ⟨#[92]⟩ ++ s.extract k (k + 1) = kit.str ([34] ++ escN ((kit.bytes s).take (k + 1)))) := by
            show _ = _
            rw [HST.out, ← List.append_assoc, kit.str_app, ← HP.out, HX.out, esc1, if_pos (by simp [h92]), h92, ByteArray.append_assoc]
            rfl
          go_wp2
          go_round
          case rel => exact ⟨k + 1, _, by omega, by go_num, rfl, by rw [ByteArray.size_append, ByteArray.size_append, HE0.out]; show _ + 1 + 1 ≤ _; omega, HP2⟩
          case measure => simp [intOf]; omega
        · have HP2 : Hid (q ++ s.extract k (k + 1) = kit.str ([34] ++ escN ((kit.bytes s).take (k + 1)))) := by
            show _ = _
            rw [HST.out, ← List.append_assoc, kit.str_app, ← HP.out, HX.out, esc1, if_neg (by simp [h34, h92])]
          have g1 : ¬ ((s[k]'hlt).toNat : Int) = 34 := by omega
          have g2 : ¬ ((s[k]'hlt).toNat : Int) = 92 := by omega
          have g1b : (((s[k]'hlt).toNat : Int) == 34) = false := by simpa using g1
          have g2b : (((s[k]'hlt).toNat : Int) == 92) = false := by simpa using g2
          go_wp2
          go_round
          case rel => exact ⟨k + 1, _, by omega, by go_num, rfl, by rw [ByteArray.size_append, HE0.out]; omega, HP2⟩
          case measure => simp [intOf]; omega
    · obtain rfl : k = s.size := by omega
      have HE : Hid (q ++ ⟨#[34]⟩ = R) := by
        show _ = R
        rw [HR.out, kit.str_app, HP.out, List.take_of_length_le (by rw [bytes_len]; exact Nat.le_refl _)]; rfl
      go_wp2
      go_ret
      rw [← HE.out]
      exact ⟨rfl, rfl⟩
end Go.Proofs.Ytpfjmomdnegcpaa
