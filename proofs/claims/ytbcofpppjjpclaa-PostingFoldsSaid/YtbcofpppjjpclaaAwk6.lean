/- The posting laws' own example. -/
import Derived.Test.YtbcofpppjjpclaaEnv
namespace Go.Proofs.Ytbcofpppjjpclaa
open Go.RowKit Go.ChangeShapes at_ pm

theorem aw1 : both [1, 2, 5] [2, 5, 9] = [2, 5] := by decide
theorem aw2 : any [1, 2, 5] [2, 5, 9] = [1, 2, 5, 9] := by rw [any_lt (by decide), any_eq, any_eq, any_nil_left]
theorem aw3 : minus [1, 2, 5] [2, 5, 9] = [1] := by decide
theorem aw4 : has [1, 2, 5] 5 = true := by decide
theorem aw5 : rightOf [2, 2] = false := by decide
theorem aga : Good 3 [1, 2, 5] := ⟨by unfold Inc; decide, by decide⟩
theorem agb : Good 3 [2, 5, 9] := ⟨by unfold Inc; decide, by decide⟩
set_option maxHeartbeats 6400000 in
set_option maxRecDepth 100000 in
theorem awake_any (w : World) :
    Calls Try.prog 11 #[] w (Said true w) := by
  have E0 : Env w w [] := ⟨Below.refl _ _, fun p hp => by cases hp⟩
  have E1 := E0.lit [1, 2, 5] #[.int .i64 1, .int .i64 2, .int .i64 5] 3 (w.heap.size) (by simp) rfl (by decide)
  have E2 := E1.lit [2, 5, 9] #[.int .i64 2, .int .i64 5, .int .i64 9] 3 (w.heap.size + 1) (by simp) rfl (by decide)
  go_enter Try.func11, Try.ntmps11
  go_wp2_with fail
  refine (cboth E2 (.tail _ (.head _)) (.head _) aga agb).mono ?_
  rintro e W3 ⟨v3, rfl, E3⟩
  clear E2
  have E4 := E3.lit [2, 5] #[.int .i64 2, .int .i64 5] 3 (W3.heap.size) (by simp) rfl (by decide)
  go_wp2_with fail
  refine (cints E4 (.tail _ (.head _)) (.head _) aw1).mono ?_
  rintro e W5 ⟨rfl, E5⟩
  clear E4
  go_wp2_with fail
  refine (cany E5 (.tail _ (.tail _ (.tail _ (.head _)))) (.tail _ (.tail _ (.head _))) aga agb).mono ?_
  rintro e W6 ⟨v6, rfl, E6⟩
  clear E5
  have E7 := E6.lit [1, 2, 5, 9] #[.int .i64 1, .int .i64 2, .int .i64 5, .int .i64 9] 3 (W6.heap.size) (by simp) rfl (by decide)
  go_wp2_with fail
  refine (cints E7 (.tail _ (.head _)) (.head _) aw2).mono ?_
  rintro e W8 ⟨rfl, E8⟩
  clear E7
  go_wp2_with fail
  refine (cminus E8 (.tail _ (.tail _ (.tail _ (.tail _ (.tail _ (.head _)))))) (.tail _ (.tail _ (.tail _ (.tail _ (.head _))))) aga agb).mono ?_
  rintro e W9 ⟨v9, rfl, E9⟩
  clear E8
  have E10 := E9.lit [1] #[.int .i64 1] 3 (W9.heap.size) (by simp) rfl (by decide)
  go_wp2_with fail
  refine (cints E10 (.tail _ (.head _)) (.head _) aw3).mono ?_
  rintro e W11 ⟨rfl, E11⟩
  clear E10
  go_wp2_with fail
  refine (chas E11 (.tail _ (.tail _ (.tail _ (.tail _ (.tail _ (.tail _ (.tail _ (.head _)))))))) aga 5).mono ?_
  rw [aw4]
  rintro e W12 ⟨rfl, E12⟩
  have E13 := E12.lit [2, 2] #[.int .i64 2, .int .i64 2] 3 (W12.heap.size) (by simp) rfl (by decide)
  go_wp2_with fail
  refine (cpright E13 (.head _)).mono ?_
  rw [aw5]
  rintro e W14 ⟨rfl, E14⟩
  go_wp2
  go_ret
  exact ⟨rfl, E14.1⟩
end Go.Proofs.Ytbcofpppjjpclaa
