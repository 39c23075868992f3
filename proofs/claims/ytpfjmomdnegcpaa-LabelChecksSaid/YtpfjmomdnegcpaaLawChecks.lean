/- law LabelChecks. -/
import Derived.Test.YtpfjmomdnegcpaaLabAwake
import Derived.Test.YtpfjmomdnegcpaaLabName2
namespace Go.Proofs.Ytpfjmomdnegcpaa
open Go.RowKit Go.ChangeShapes cl

set_option maxHeartbeats 1600000 in
set_option maxRecDepth 100000 in
theorem checks_any (s : ByteArray) (w : World) (hs : s.size ≤ maxLen) (hm : MX w) : Calls Try.prog 3 #[.string s] w (Said true w) := by
  have A1 : Hid (∀ W, Below w.heap.size w W → Calls Try.prog 10 #[.string s] W (Said (lb.isName s) W)) := fun W _ => isname_any s W hs
  have A2 : Hid (∀ W, Below w.heap.size w W → Calls Try.prog 11 #[.string s] W (Said (lb.isName s) W)) := fun W _ => rname_any s W hs
  have A3 : Hid (∀ W, Below w.heap.size w W → Calls Try.prog 12 #[.string s] W (Said (lb.isVal s) W)) := fun W _ => isval_any s W hs
  have A4 : Hid (∀ W, Below w.heap.size w W → Calls Try.prog 13 #[.string s] W (Said (lb.isVal s) W)) := fun W _ => rval_any s W hs
  obtain ⟨x, hx⟩ : ∃ x, x = lb.isName s := ⟨_, rfl⟩
  obtain ⟨y, hy⟩ : ∃ y, y = lb.isVal s := ⟨_, rfl⟩
  rw [← hx] at A1 A2
  rw [← hy] at A3 A4
  unfold maxLen at hs
  have AW : Hid (∀ W, Below w.heap.size w W → Calls Try.prog 9 #[] W (Said true W)) := fun W hW => awake_any W (MX.next hm hW)
  have B : Below w.heap.size w w := Below.refl _ _
  clear hx hy hm
  by_cases h3 : 3000 < s.size
  · have h3I : (3000 : Int) < (s.size : Int) := by omega
    go_enter Try.func3, Try.ntmps3
    go_wp2_with fail
    (with_reducible refine (AW.out _ B).mono ?_)
    rintro e wX ⟨rfl, b⟩
    replace B := B.trans (b.mono B.size)
    clear b
    go_wp2
    go_ret
    exact ⟨rfl, B⟩
  · have h3I : ¬ (3000 : Int) < (s.size : Int) := by omega
    have h3J : (s.size : Int) ≤ 3000 := by omega
    go_enter Try.func3, Try.ntmps3
    go_wp2_with fail
    (with_reducible refine (A1.out _ B).mono ?_)
    rintro e wX ⟨rfl, b⟩
    replace B := B.trans (b.mono B.size)
    clear b
    go_wp2_with fail
    (with_reducible refine (A2.out _ B).mono ?_)
    rintro e wX ⟨rfl, b⟩
    replace B := B.trans (b.mono B.size)
    clear b
    go_wp2_with fail
    (with_reducible refine (A3.out _ B).mono ?_)
    rintro e wX ⟨rfl, b⟩
    replace B := B.trans (b.mono B.size)
    clear b
    go_wp2_with fail
    (with_reducible refine (A4.out _ B).mono ?_)
    rintro e wX ⟨rfl, b⟩
    replace B := B.trans (b.mono B.size)
    clear b
    go_wp2_with fail
    (with_reducible refine (AW.out _ B).mono ?_)
    rintro e wX ⟨rfl, b⟩
    replace B := B.trans (b.mono B.size)
    clear b
    go_wp2
    go_ret
    exact ⟨rfl, B⟩
end Go.Proofs.Ytpfjmomdnegcpaa
