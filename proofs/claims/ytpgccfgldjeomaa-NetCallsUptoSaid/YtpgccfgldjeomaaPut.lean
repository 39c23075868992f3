/- varint.Put by its contract: the number's bytes, or ErrArg. -/
import Derived.Test.YtpgccfgldjeomaaRows
import Derived.Test.YtpgccfgldjeomaaPutMath
import Derived.Test.YtpgccfgldjeomaaKit
namespace Go.Proofs.Ytpgccfgldjeomaa
open Go.RowKit Go.ChangeShapes

theorem infoU8 : (Try.prog.info? 5).map (fun i => (i.zero, i.size, i.bytes)) = some (some (.int .u8 0), 1, 1) := by kernel_rfl

def PutOk (n : Nat) (w : World) (e : Ending) (w' : World) : Prop := e = .returned (.tuple #[.string (kit.str (vm.enc n)), .int .i64 0]) ∧ Below w.heap.size w w'

theorem put_bad (n : Int) (w : World) (h : n < 0 ∨ 1099511627776 < n) :
    Calls Try.prog 39 #[.int .i64 n] w fun e w' => e = .returned (.tuple #[.string ⟨#[]⟩, .int .i64 1]) ∧ w = w' := by
  rcases h with h | h
  · go_enter Try.func39, Try.ntmps39
    go_wp2
    go_ret2
    exact ⟨rfl, rfl⟩
  · have h0 : 0 ≤ n := by omega
    go_enter Try.func39, Try.ntmps39
    go_wp2
    go_ret2
    exact ⟨rfl, rfl⟩


theorem put_step {B : Nat} {n m : Nat} {pre : List Nat} {w1 : World} {v' : Value} (hm : ¬ m < 128) (he : pre ++ vm.enc m = vm.enc n)
    (hown' : w1.ownsRow B 5 1 v' (pre.length + 1) (kit.u8s pre ++ [.int .u8 ((m : Int) % 128 + 128)])) :
    (pre ++ [m % 128 + 128]) ++ vm.enc (m / 128) = vm.enc n ∧ w1.ownsRow B 5 1 v' (pre ++ [m % 128 + 128]).length (kit.u8s (pre ++ [m % 128 + 128])) := by
  refine ⟨?_, ?_⟩
  · rw [← he, vm.enc_ge hm, List.append_assoc]; rfl
  · simpa [kit.u8s] using hown'
theorem put_last {B : Nat} {n m : Nat} {pre : List Nat} {w1 : World} {v' : Value} (hm : m < 128) (he : pre ++ vm.enc m = vm.enc n)
    (hown' : w1.ownsRow B 5 1 v' (pre.length + 1) (kit.u8s pre ++ [.int .u8 (m : Int)])) :
    w1.ownsRow B 5 1 v' (vm.enc n).length (kit.u8s (vm.enc n)) := by
  rw [← he, vm.enc_lt hm]; simpa [kit.u8s] using hown'

set_option maxHeartbeats 800000 in
set_option maxRecDepth 100000 in
theorem put_ok (n : Nat) (w : World) (h : n ≤ 1099511627776) :
    Calls Try.prog 39 #[.int .i64 n] w (PutOk n w) := by
  have h6 := vm.enc_six h
  have h0 : ((n : Int) < 0) = False := by simp
  go_enter Try.func39, Try.ntmps39
  go_wp2
  go_loopw [0, 4] (fun x v wr => ∃ (m : Nat) (pre : List Nat), m ≤ n ∧ x = .int .i64 m ∧ pre ++ vm.enc m = vm.enc n ∧ wr.ownsRow w.heap.size 5 1 v pre.length (kit.u8s pre) ∧ Below w.heap.size w wr)
    (fun x _ _ => (intOf x).toNat)
  case atStart => exact ⟨n, [], Nat.le_refl _, rfl, rfl, World.ownsRow_nil _ _ _ _, Below.refl _ _⟩
  case round =>
    obtain ⟨m, pre, hmn, rfl, he, hown, hnx⟩ := hrel
    have hpl : pre.length ≤ 6 := by have := congrArg List.length he; simp at this; omega
    have HE : Hid (pre ++ vm.enc m = vm.enc n) := he
    have hsz := hnx.size
    clear he
    by_cases hm : m < 128
    · go_wp2_with (at_builtin; refine kit.app1 (.tmp 22) (.tmp 25) 63 rfl rfl w.heap.size Try.underlying63 infoU8 rfl (by decide) (by decide) hown rfl rfl rfl (by intro u hu; simp at hu; subst hu; rfl) (by omega) hsz ?_)
      intro v' w1 hown' hb'
      have hown2 := put_last hm HE.out hown'
      have hconv := kit.run_string (P := Try.prog) (src := 63) (dst := 9) Try.underlying63 Try.underlying5 Try.underlying9 hown2
      go_wp2
      go_ret2
      exact ⟨rfl, hnx.trans hb'⟩
    · go_wp2_with (at_builtin; refine kit.app1 (.tmp 13) (.tmp 18) 63 rfl rfl w.heap.size Try.underlying63 infoU8 rfl (by decide) (by decide) hown rfl rfl rfl (by intro u hu; simp at hu; subst hu; rfl) (by omega) hsz ?_)
      intro v' w1 hown' hb'
      have R := put_step hm HE.out hown'
      clear hown' hown
      go_wp2
      go_roundw
      case rel => exact ⟨m / 128, pre ++ [m % 128 + 128], by omega, by go_num, R.1, R.2, hnx.trans hb'⟩
      case measure => simp [intOf]; omega
end Go.Proofs.Ytpgccfgldjeomaa
