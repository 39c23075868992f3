/- posting.Both by its contract, at rising lists. -/
import Derived.Test.YtojngbobecdpeaaInts
import Derived.Test.YtojngbobecdpeaaPostMath
namespace Go.Proofs.Ytojngbobecdpeaa
open Go.RowKit Go.ChangeShapes at_ pm

theorem infoInt : (Try.prog.info? 3).map (fun i => (i.zero, i.size, i.bytes)) = some (some (.int .i64 0), 1, 8) := by kernel_rfl
/-- a slice of the call's own with these numbers -/
def Owned (zs : List Int) (w : World) (e : Ending) (w' : World) : Prop := ∃ v, e = .returned v ∧ w'.ownsRow w.heap.size 3 1 v zs.length (i64s zs) ∧ Below w.heap.size w w'

set_option maxHeartbeats 3200000 in
set_option maxRecDepth 100000 in
theorem both_any (a b : List Int) (va vb : Value) (w : World) (ha : At w w.heap.size va a) (hb : At w w.heap.size vb b) (hia : Inc a) (hib : Inc b) (hla : a.length ≤ 100000) (hlb : b.length ≤ 100000) :
    Calls Try.prog 43 #[va, vb] w (Owned (both a b) w) := by
  obtain ⟨ao, ca, rfl, ⟨_, hca⟩, _, ka⟩ := ha
  obtain ⟨bo, cb, rfl, ⟨_, hcb⟩, _, kb⟩ := hb
  have KA := Lib.hid ka; clear ka
  have KB := Lib.hid kb; clear kb
  have GA := Lib.hid hia; clear hia
  have GB := Lib.hid hib; clear hib
  go_enter Try.func43, Try.ntmps43
  have d0 : (0 : Int) ≤ (a.length : Int) := by omega
  go_wp2
  go_step3
  go_wp2
  go_step3
  go_wp2
  go_loopw [5, 6, 8, 11] (fun v p _ i wr => ∃ k q : Nat, i = .int .i64 k ∧ k ≤ a.length ∧ p = .int .i64 q ∧ q ≤ b.length ∧ wr.ownsRow w.heap.size 3 1 v (both (a.take k) b).length (i64s (both (a.take k) b)) ∧ Below w.heap.size w wr ∧ Hid (∀ j, j < q → ∀ i, k ≤ i → i < a.length → b.getD j 0 < a.getD i 0)) (fun _ _ _ i _ => a.length - (intOf i).toNat)
  case atStart => exact ⟨0, 0, rfl, by omega, rfl, by omega, World.ownsRow_nil _ _ _ _, Below.refl _ _, fun j hj => absurd hj (Nat.not_lt_zero _)⟩
  case round =>
    obtain ⟨k, q, rfl, hk, rfl, hq, hown, hbl, HQ⟩ := hrel
    have hszr := hbl.size
    have hol := both_take_le a b k
    by_cases hlt : k < a.length
    · obtain ⟨ba, oa, hao, hBa, hcell⟩ := KA.out (by omega)
      subst hao
      have c1 : wr.cell? ⟨ba, oa + k, none⟩ = some (.int .i64 (a.getD k 0)) := (hbl.cell (p := ⟨ba, _, none⟩) hBa).trans (hcell k hlt)
      obtain ⟨x, hx⟩ : ∃ x, x = a.getD k 0 := ⟨_, rfl⟩
      rw [← hx] at c1
      have HX := Lib.hid hx
      have HO := Lib.hid hown
      clear hx hcell hown
      obtain ⟨wo, rfl⟩ : ∃ wo : World, wo = wr := ⟨_, rfl⟩
      go_wp2
      go_loop [6] (fun p => ∃ r : Nat, p = .int .i64 r ∧ r ≤ b.length ∧ Hid (∀ j, j < r → b.getD j 0 < x)) (fun p => b.length - (intOf p).toNat)
      case atStart => exact ⟨q, rfl, hq, fun j hj => by rw [HX.out]; exact HQ.out j hj k (Nat.le_refl _) hlt⟩
      case round =>
        obtain ⟨r, rfl, hr, HR⟩ := hrel
        by_cases hrl : r < b.length
        · obtain ⟨bb, ob, hbo, hBb, hcellb⟩ := KB.out (by omega)
          subst hbo
          have c2 : wo.cell? ⟨bb, ob + r, none⟩ = some (.int .i64 (b.getD r 0)) := (hbl.cell (p := ⟨bb, _, none⟩) hBb).trans (hcellb r hrl)
          obtain ⟨y, hy⟩ : ∃ y, y = b.getD r 0 := ⟨_, rfl⟩
          rw [← hy] at c2
          have HY := Lib.hid hy
          clear hy hcellb
          rcases Int.lt_trichotomy y x with h3 | h3 | h3
          · have HR' : Hid (∀ j, j < r + 1 → b.getD j 0 < x) := fun j hj => by
              by_cases e : j = r
              · rw [e, ← HY.out]; exact h3
              · exact HR.out j (by omega)
            go_wp2
            go_round
            case rel => exact ⟨r + 1, by go_num, by omega, HR'⟩
            case measure => simp [intOf]; omega
          · subst h3
            have HQ' : Hid (∀ j, j < r → ∀ i, k + 1 ≤ i → i < a.length → b.getD j 0 < a.getD i 0) := fun j hj i hi hil => by
              have h4 := HR.out j hj
              have h5 := inc_get GA.out (show k < i by omega) hil
              rw [← HX.out] at h5
              omega
            have HH := Lib.hid (both_hit hlt hrl (by rw [← HX.out, ← HY.out]))
            go_wp2_with (at_builtin; refine kit.app1 (.tmp 39) (.tmp 41) 22 rfl rfl w.heap.size Try.underlying22 infoInt rfl (by decide) (by decide) HO.out rfl rfl rfl (by intro u hu; simp at hu; subst hu; rfl) (by omega) hszr ?_)
            intro v' w5 hown' hb5
            have HO5 : Hid (w5.ownsRow w.heap.size 3 1 v' (both (a.take (k + 1)) b).length (i64s (both (a.take (k + 1)) b))) := by
              show World.ownsRow _ _ _ _ _ _ _
              rw [HH.out, List.length_append, i64s_app, ← HX.out]; exact hown'
            clear hown'
            go_wp2
            go_roundw
            case rel => exact ⟨k + 1, r, by go_num, by omega, rfl, by omega, HO5.out, hbl.trans hb5, HQ'⟩
            case measure => simp [intOf]; omega
          · have HQ' : Hid (∀ j, j < r → ∀ i, k + 1 ≤ i → i < a.length → b.getD j 0 < a.getD i 0) := fun j hj i hi hil => by
              have h4 := HR.out j hj
              have h5 := inc_get GA.out (show k < i by omega) hil
              rw [← HX.out] at h5
              omega
            have HM := Lib.hid (both_miss hlt (not_in (q := r) GB.out (fun j hj => by rw [← HX.out]; exact HR.out j hj) (fun _ => by rw [← HX.out, ← HY.out]; exact h3)))
            have hle : x ≤ y := by omega
            have hne : (y == x) = false := beq_eq_false_iff_ne.2 (by omega)
            have HO5 : Hid (wo.ownsRow w.heap.size 3 1 u5 (both (a.take (k + 1)) b).length (i64s (both (a.take (k + 1)) b))) := by
              show World.ownsRow _ _ _ _ _ _ _
              rw [HM.out]; exact HO.out
            go_wp2
            go_roundw
            case rel => exact ⟨k + 1, r, by go_num, by omega, rfl, by omega, HO5.out, hbl, HQ'⟩
            case measure => simp [intOf]; omega
        · have hrb : r = b.length := by omega
          subst hrb
          have HS := Lib.hid (both_stop GA.out GB.out hlt (fun j hj => by rw [← HX.out]; exact HR.out j hj))
          have heq : ((b.length : Int) == (b.length : Int)) = true := by simp
          go_wp2
          try rw [Exit.noGoto_ret]
          go_ret
          exact ⟨_, rfl, by rw [HS.out]; exact HO.out, hbl⟩
    · have HE : Hid (both (a.take k) b = both a b) := both_all (by omega)
      rw [HE.out] at hown
      go_wp2
      try rw [Exit.noGoto_ret]
      go_ret
      exact ⟨_, rfl, hown, hbl⟩
end Go.Proofs.Ytojngbobecdpeaa
