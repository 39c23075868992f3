/- gleanerref01.Number by its contract: as the program's. -/
import Derived.Test.YtcfnclfkjmnhlaaDoorNumber
namespace Go.Proofs.YtcfnclfkjmnhlaaDoor
open Go.RowKit Go.ChangeShapes

set_option maxHeartbeats 1600000 in
set_option maxRecDepth 100000 in
theorem rnumber_any (s : ByteArray) (w : World) (hs : s.size ≤ 100000) :
    Calls Tryd.prog 21 #[.string s] w (Pair (nm.number (kit.bytes s)) w) := by
  have hlen := kit.bytes_len s
  by_cases h0 : s.size = 0
  · have HR : Hid (nm.number (kit.bytes s) = (0, 3)) := nm.number_form (Or.inl (List.eq_nil_of_length_eq_zero (by omega)))
    have hl0 : s.toList = [] := by rw [ByteArray.toList_eq]; exact List.eq_nil_of_length_eq_zero (by rw [Array.length_toList]; exact h0)
    have hl1 : s.toList.isEmpty = true := by rw [hl0]; rfl
    clear hlen
    go_enter Tryd.func21, Tryd.ntmps21
    go_wp2
    go_ret2
    rw [HR.out]; exact ⟨rfl, rfl⟩
  · have hp : 0 < s.size := by omega
    obtain ⟨hl1, hl2, hE⟩ := kit.ne_empty hp
    have hz : ((s.size : Int) == 0) = false := by simp; omega
    have hhead : (kit.bytes s).head? = some s[0].toNat := by rw [List.head?_eq_getElem?, kit.bytes_get s 0 hp]
    by_cases h1 : (s[0].toNat : Int) = 48 ∧ 1 < s.size
    · have HR : Hid (nm.number (kit.bytes s) = (0, 3)) := nm.number_form (Or.inr ⟨by rw [hhead]; congr 1; omega, by omega⟩)
      obtain ⟨h1, h2⟩ := h1
      have hlt : (1 : Int) < (s.size : Int) := by omega
      clear hlen hhead h0
      go_enter Tryd.func21, Tryd.ntmps21
      go_wp2
      go_ret2
      rw [HR.out]; exact ⟨rfl, rfl⟩
    · have HF : Hid (¬ (kit.bytes s = [] ∨ ((kit.bytes s).head? = some 48 ∧ 1 < (kit.bytes s).length))) := by
        rintro (h | ⟨h, h'⟩)
        · rw [h] at hlen; simp at hlen; omega
        · rw [hhead] at h; have := Option.some.inj h; rw [hlen] at h'; exact h1 ⟨by omega, h'⟩
      have h1' : (s[0].toNat : Int) = 48 → s.size = 1 := fun h => by
        have : ¬ 1 < s.size := fun h2 => h1 ⟨h, h2⟩
        omega
      clear hhead h0 h1
      have h3 : (s[0].toNat : Int) = 48 ∧ (s.size : Int) ≤ 1 ∨ ¬ (s[0].toNat : Int) = 48 := by
        by_cases h2 : (s[0].toNat : Int) = 48
        · exact Or.inl ⟨h2, by have := h1' h2; omega⟩
        · exact Or.inr h2
      have HL : Hid ((kit.bytes s).length = s.size) := hlen
      clear h1' hlen
      rcases h3 with ⟨h2, hle⟩ | h2
      all_goals
        go_enter Tryd.func21, Tryd.ntmps21
        go_wp2
        clear h2
        go_loop [4, 21] (fun _ i => ∃ k : Nat, i = .int .i64 k ∧ k ≤ s.size ∧ Hid (((kit.bytes s).take k).all nm.okDigit = true)) (fun _ i => s.size - (intOf i).toNat)
        case atStart => exact ⟨0, rfl, by omega, rfl⟩
        case round =>
          obtain ⟨k, rfl, hk, HA⟩ := hrel
          by_cases hks : k < s.size
          · by_cases hb1 : s[k].toNat < 48
            · have HR : Hid (nm.number (kit.bytes s) = (0, 3)) := nm.number_digit (nm.all_not s k hks (Or.inl hb1))
              go_wp2
              go_ret2
              rw [HR.out]; exact ⟨rfl, rfl⟩
            · by_cases hb2 : 57 < s[k].toNat
              · have HR : Hid (nm.number (kit.bytes s) = (0, 3)) := nm.number_digit (nm.all_not s k hks (Or.inr hb2))
                go_wp2
                go_ret2
                rw [HR.out]; exact ⟨rfl, rfl⟩
              · have HA' : Hid (((kit.bytes s).take (k + 1)).all nm.okDigit = true) := nm.all_take s k hks HA.out (by omega) (by omega)
                go_wp2
                go_round
                case rel => exact ⟨k + 1, by go_num, by omega, HA'⟩
                case measure => simp [intOf]; omega
          · have HA' : Hid ((kit.bytes s).all nm.okDigit = true) := by
              have := HA.out
              rw [List.take_of_length_le (by rw [HL.out]; omega)] at this
              exact this
            clear HA
            by_cases h13 : 13 < s.size
            · have HR : Hid (nm.number (kit.bytes s) = (0, 4)) := nm.number_long HF.out HA'.out (by rw [HL.out]; exact h13)
              first
                | (exfalso; omega)
                | (go_wp2; go_ret2; rw [HR.out]; exact ⟨rfl, rfl⟩)
            · go_wp2
              go_loop [5, 6, 40] (fun n _ i => ∃ k : Nat, i = .int .i64 k ∧ k ≤ s.size ∧ n = .int .i64 (nm.val ((kit.bytes s).take k))) (fun _ _ i => s.size - (intOf i).toNat)
              case atStart => exact ⟨0, rfl, by omega, rfl⟩
              case round =>
                obtain ⟨k, rfl, hk, rfl⟩ := hrel
                by_cases hks : k < s.size
                · obtain ⟨hb1, hb2⟩ := nm.digit_at s k hks HA'.out
                  have hv := nm.val_take_lt s k (by omega) HA'.out
                  have HV : Hid (nm.val ((kit.bytes s).take (k + 1)) = 10 * nm.val ((kit.bytes s).take k) + (s[k].toNat - 48)) := nm.val_take s k hks
                  go_wp2
                  go_round
                  case rel => exact ⟨k + 1, by go_num, by omega, by rw [HV.out]; go_num⟩
                  case measure => simp [intOf]; omega
                · have HT : Hid ((kit.bytes s).take k = kit.bytes s) := List.take_of_length_le (by rw [HL.out]; omega)
                  rw [HT.out]
                  have hv : nm.val (kit.bytes s) < 10000000000000 := by
                    have := nm.val_take_lt s k (by omega) HA'.out
                    rw [HT.out] at this; exact this
                  by_cases hg : 1099511627776 < nm.val (kit.bytes s)
                  · have HR : Hid (nm.number (kit.bytes s) = (0, 4)) := nm.number_great HF.out HA'.out (by rw [HL.out]; exact h13) hg
                    go_wp2
                    go_ret2
                    rw [HR.out]; exact ⟨rfl, rfl⟩
                  · have HR : Hid (nm.number (kit.bytes s) = (nm.val (kit.bytes s), 0)) := nm.number_ok HF.out HA'.out (by rw [HL.out]; exact h13) hg
                    go_wp2
                    go_ret2
                    rw [HR.out]; exact ⟨rfl, rfl⟩
end Go.Proofs.YtcfnclfkjmnhlaaDoor
