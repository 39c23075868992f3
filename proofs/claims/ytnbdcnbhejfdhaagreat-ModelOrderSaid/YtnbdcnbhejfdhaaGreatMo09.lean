/- texts put together: MdMt, MdOld, MdAw28, MdFar. -/
import Derived.Test.YtnbdcnbhejfdhaaGreatLv00
import Derived.Test.YtnbdcnbhejfdhaaGreatLv01
import Derived.Test.YtnbdcnbhejfdhaaGreatLv02
import Derived.Test.YtnbdcnbhejfdhaaGreatLv03
import Derived.Test.YtnbdcnbhejfdhaaGreatLv04
import Derived.Test.YtnbdcnbhejfdhaaGreatLv05
import Derived.Test.YtnbdcnbhejfdhaaGreatLv06
import Derived.Test.YtnbdcnbhejfdhaaGreatLv07
import Derived.Test.YtnbdcnbhejfdhaaGreatLv08
import Derived.Test.YtnbdcnbhejfdhaaGreatLv09
import Derived.Test.YtnbdcnbhejfdhaaGreatLv10
import Derived.Test.YtnbdcnbhejfdhaaGreatLv11
import Derived.Test.YtnbdcnbhejfdhaaGreatMo00
import Derived.Test.YtnbdcnbhejfdhaaGreatMo06
open List (setIfInBounds_toArray set_cons_zero set_cons_succ take_succ_cons take_zero drop_succ_cons drop_zero)
namespace Go.Proofs.YtnbdcnbhejfdhaaGreat
open Go Go.RowKit Go.ChangeShapes cl Go.Sort
section
variable {W W' : World} {h : Nat}
end
end Go.Proofs.YtnbdcnbhejfdhaaGreat
namespace Go.Proofs.YtnbdcnbhejfdhaaGreat
open Go Go.RowKit Go.ChangeShapes cl
set_option maxHeartbeats 1600000 in
set_option maxRecDepth 100000 in
theorem same_self (L : List Lv) (u v : Value) (w : World) (hu : Cells w w.heap.size u L.length 4 (lvcells L)) (hv : Cells w w.heap.size v L.length 4 (lvcells L)) : Calls Tryz.prog 12 #[u, v] w (Said true w) := by
 obtain ⟨n, hn⟩ : ∃ n, n = L.length := ⟨_, rfl⟩
 have HN := Lib.hid hn
 rw [← hn] at hu hv
 obtain ⟨ao, cap, rfl, _, hn6⟩ := hu.form
 obtain ⟨bo, bcap, rfl, _, _⟩ := hv.form
 have hn63 : n ≤ 9223372036854775807 := by unfold maxLen at hn6; exact hn6
 have HU := Lib.hid hu
 have HV := Lib.hid hv
 have HB0 : Hid (Below w.heap.size w w) := Below.refl _ _
 clear hu hv hn hn6
 go_enter Tryz.func12, Tryz.ntmps12
 go_wp2
 go_loopw [5, 13] (fun _ i wr => ∃ k : Nat, i = .int .i64 k ∧ k ≤ n ∧ Hid (Below w.heap.size w wr)) (fun _ i _ => n - (intOf i).toNat)
 case atStart => exact ⟨0, rfl, by omega, HB0.out⟩
 case round =>
  obtain ⟨k, rfl, hk, HB⟩ := hrel
  by_cases hlt : k < n
  ·
   have hkI : (k : Int) < (n : Int) := by omega
   have hk0 : (0 : Int) ≤ (k : Int) := by omega
   obtain ⟨b1, o1, rfl, hb1, p0, p1, p2, p3⟩ := lv_get (HU.out.next HB.out) HN.out hlt
   obtain ⟨b2, o2, rfl, hb2, q0, q1, q2, q3⟩ := lv_get (HV.out.next HB.out) HN.out hlt
   obtain ⟨x, hx⟩ : ∃ x, x = L.getD k default := ⟨_, rfl⟩
   rw [← hx] at p0 p1 p2 p3 q0 q1 q2 q3
   have HBQ : Hid (∀ q, Below w.heap.size w (wr.drewN q)) := fun q => below_drewN HB.out q
   clear hx
   go_wp2
   go_quiet (fail)
   go_wp2
   go_roundw
   case rel => exact ⟨k + 1, by go_num, by omega, HBQ.out _⟩
   case measure => simp [intOf]; omega
  ·
   have hkn : k = n := by omega
   subst hkn
   go_wp2
   go_ret
   exact ⟨rfl, HB.out⟩
end Go.Proofs.YtnbdcnbhejfdhaaGreat

