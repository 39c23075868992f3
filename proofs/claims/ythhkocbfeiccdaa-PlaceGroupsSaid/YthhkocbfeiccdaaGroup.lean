/- place.Group (and the document's own) by its contract. -/
import Derived.Test.YthhkocbfeiccdaaRows
import Derived.Test.YthhkocbfeiccdaaKit
namespace Go.Proofs.Ythhkocbfeiccdaa
open Go.RowKit Go.ChangeShapes

def hash (l : List Nat) : Nat := l.foldl (fun n b => (31 * n + b) % 65521) 0
def grp (l : List Nat) (g : Int) : Int := if g < 1 then 0 else (hash l : Int) % g
theorem hash_step (s : ByteArray) (k : Nat) (h : k < s.size) : hash ((kit.bytes s).take (k + 1)) = (31 * hash ((kit.bytes s).take k) + s[k].toNat) % 65521 := by
  rw [List.take_add_one, kit.bytes_get s k h]; simp [hash]

set_option maxHeartbeats 800000 in
set_option maxRecDepth 100000 in
theorem group_any (s : ByteArray) (g : Int) (w : World) (hs : s.size ≤ 9223372036854775807) :
    Calls Try.prog 10 #[.string s, .int .i64 g] w fun e w' => e = .returned (.int .i64 (grp (kit.bytes s) g)) ∧ w = w' := by
  have wb := kit.wrap_byte
  by_cases hg : g < 1
  · have HG : Hid (grp (kit.bytes s) g = 0) := by show _ = _; unfold grp; rw [if_pos hg]
    go_enter Try.func10, Try.ntmps10
    go_wp2
    go_ret
    rw [HG.out]; exact ⟨rfl, rfl⟩
  · have HG : Hid (grp (kit.bytes s) g = (hash (kit.bytes s) : Int) % g) := by show _ = _; unfold grp; rw [if_neg hg]
    have hg1 : 1 ≤ g := by omega
    have HL := Lib.hid (kit.bytes_len s)
    clear hg
    go_enter Try.func10, Try.ntmps10
    go_wp2
    go_loop [5, 6, 11] (fun n _ i => ∃ (k m : Nat), i = .int .i64 k ∧ k ≤ s.size ∧ n = .int .i64 m ∧ Hid (m = hash ((kit.bytes s).take k)) ∧ m < 65521) (fun _ _ i => s.size - (intOf i).toNat)
    case atStart => exact ⟨0, 0, rfl, by omega, rfl, rfl, by omega⟩
    case round =>
      obtain ⟨k, m, rfl, hk, rfl, HM, hm⟩ := hrel
      by_cases hlt : k < s.size
      · have h256 : s[k].toNat < 256 := s[k].toNat_lt
        have HM' : Hid ((31 * m + s[k].toNat) % 65521 = hash ((kit.bytes s).take (k + 1))) := by rw [hash_step s k hlt, ← HM.out]; rfl
        go_wp2
        go_round
        case rel => exact ⟨k + 1, (31 * m + s[k].toNat) % 65521, by go_num, by omega, by go_num, HM'.out, by omega⟩
        case measure => simp [intOf]; omega
      · have HT : Hid (m = hash (kit.bytes s)) := by
          have := HM.out
          rw [List.take_of_length_le (by rw [HL.out]; omega)] at this
          exact this
        go_wp2
        go_ret
        rw [HG.out, ← HT.out]; exact ⟨rfl, rfl⟩

set_option maxHeartbeats 800000 in
set_option maxRecDepth 100000 in
theorem rgroup_any (s : ByteArray) (g : Int) (w : World) (hs : s.size ≤ 9223372036854775807) :
    Calls Try.prog 11 #[.string s, .int .i64 g] w fun e w' => e = .returned (.int .i64 (grp (kit.bytes s) g)) ∧ w = w' := by
  have wb := kit.wrap_byte
  by_cases hg : g < 1
  · have HG : Hid (grp (kit.bytes s) g = 0) := by show _ = _; unfold grp; rw [if_pos hg]
    go_enter Try.func11, Try.ntmps11
    go_wp2
    go_ret
    rw [HG.out]; exact ⟨rfl, rfl⟩
  · have HG : Hid (grp (kit.bytes s) g = (hash (kit.bytes s) : Int) % g) := by show _ = _; unfold grp; rw [if_neg hg]
    have hg1 : 1 ≤ g := by omega
    have HL := Lib.hid (kit.bytes_len s)
    clear hg
    go_enter Try.func11, Try.ntmps11
    go_wp2
    go_loop [5, 6, 11] (fun n _ i => ∃ (k m : Nat), i = .int .i64 k ∧ k ≤ s.size ∧ n = .int .i64 m ∧ Hid (m = hash ((kit.bytes s).take k)) ∧ m < 65521) (fun _ _ i => s.size - (intOf i).toNat)
    case atStart => exact ⟨0, 0, rfl, by omega, rfl, rfl, by omega⟩
    case round =>
      obtain ⟨k, m, rfl, hk, rfl, HM, hm⟩ := hrel
      by_cases hlt : k < s.size
      · have h256 : s[k].toNat < 256 := s[k].toNat_lt
        have HM' : Hid ((31 * m + s[k].toNat) % 65521 = hash ((kit.bytes s).take (k + 1))) := by rw [hash_step s k hlt, ← HM.out]; rfl
        go_wp2
        go_round
        case rel => exact ⟨k + 1, (31 * m + s[k].toNat) % 65521, by go_num, by omega, by go_num, HM'.out, by omega⟩
        case measure => simp [intOf]; omega
      · have HT : Hid (m = hash (kit.bytes s)) := by
          have := HM.out
          rw [List.take_of_length_le (by rw [HL.out]; omega)] at this
          exact this
        go_wp2
        go_ret
        rw [HG.out, ← HT.out]; exact ⟨rfl, rfl⟩
end Go.Proofs.Ythhkocbfeiccdaa
