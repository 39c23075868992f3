/- posting.Minus by its contract, at rising lists. -/
import Derived.Test.YtojngbobecdpeaaBoth
namespace Go.Proofs.Ytojngbobecdpeaa
open Go.RowKit Go.ChangeShapes at_ pm

set_option maxHeartbeats 3200000 in
set_option maxRecDepth 100000 in
theorem minus_any (a b : List Int) (va vb : Value) (w : World) (ha : At w w.heap.size va a) (hb : At w w.heap.size vb b) (hia : Inc a) (hib : Inc b) (hla : a.length ≤ 100000) (hlb : b.length ≤ 100000) :
    Calls Try.prog 32 #[va, vb] w (Owned (minus a b) w) := by
  obtain ⟨ao, ca, rfl, ⟨_, hca⟩, _, ka⟩ := ha
  obtain ⟨bo, cb, rfl, ⟨_, hcb⟩, _, kb⟩ := hb
  have KA := Lib.hid ka; clear ka
  have KB := Lib.hid kb; clear kb
  have GA := Lib.hid hia; clear hia
  have GB := Lib.hid hib; clear hib
  go_enter Try.func32, Try.ntmps32
  have d0 : (0 : Int) ≤ (a.length : Int) := by omega
  go_wp2
  go_step3
  go_wp2
  go_step3
  go_wp2
  go_loopw [5, 6, 7, 8, 11] (fun v p _ _ i wr => ∃ k q : Nat, i = .int .i64 k ∧ k ≤ a.length ∧ p = .int .i64 q ∧ q ≤ b.length ∧ wr.ownsRow w.heap.size 3 1 v (minus (a.take k) b).length (i64s (minus (a.take k) b)) ∧ Below w.heap.size w wr ∧ Hid (∀ j, j < q → ∀ i, k ≤ i → i < a.length → b.getD j 0 < a.getD i 0)) (fun _ _ _ _ i _ => a.length - (intOf i).toNat)
  case atStart => exact ⟨0, 0, rfl, by omega, rfl, by omega, World.ownsRow_nil _ _ _ _, Below.refl _ _, fun j hj => absurd hj (Nat.not_lt_zero _)⟩
  case round =>
    obtain ⟨k, q, rfl, hk, rfl, hq, hown, hbl, HQ⟩ := hrel
    have hszr := hbl.size
    have hol := minus_take_le a b k
    by_cases hlt : k < a.length
    · obtain ⟨ba, oa, hao, hBa, hcell⟩ := KA.out (by omega)
      subst hao
      have c1 : wr.cell? ⟨ba, oa + k, none⟩ = some (.int .i64 (a.getD k 0)) := (hbl.cell (p := ⟨ba, _, none⟩) hBa).trans (hcell k hlt)
      obtain ⟨x, hx⟩ : ∃ x, x = a.getD k 0 := ⟨_, rfl⟩
      rw [← hx] at c1
      have HX := Lib.hid hx
      have HO := Lib.hid hown
      have HCL := Lib.hid hcell
      clear hx hcell hown
      obtain ⟨wo, rfl⟩ : ∃ wo : World, wo = wr := ⟨_, rfl⟩
      go_wp2
      go_loop [6] (fun p => ∃ r : Nat, p = .int .i64 r ∧ r ≤ b.length ∧ Hid (∀ j, j < r → b.getD j 0 < x)) (fun p => b.length - (intOf p).toNat)
      case atStart => exact ⟨q, rfl, hq, fun j hj => by rw [HX.out]; exact HQ.out j hj k (Nat.le_refl _) hlt⟩
      case round =>
        obtain ⟨r, rfl, hr, HR⟩ := hrel
        by_cases hrl : r < b.length
        · obtain ⟨bb, ob, hbo, hBb, hcellb⟩ := KB.out (by omega)
          subst hbo
          have c2 : wo.cell? ⟨bb, ob + r, none⟩ = some (.int .i64 (b.getD r 0)) := (hbl.cell (p := ⟨bb, _, none⟩) hBb).trans (hcellb r hrl)
          obtain ⟨y, hy⟩ : ∃ y, y = b.getD r 0 := ⟨_, rfl⟩
          rw [← hy] at c2
          have HY := Lib.hid hy
          clear hy hcellb
          rcases Int.lt_trichotomy y x with h3 | h3 | h3
          · have HR' : Hid (∀ j, j < r + 1 → b.getD j 0 < x) := fun j hj => by
              by_cases e : j = r
              · rw [e, ← HY.out]; exact h3
              · exact HR.out j (by omega)
            go_wp2
            go_round
            case rel => exact ⟨r + 1, by go_num, by omega, HR'⟩
            case measure => simp [intOf]; omega
          · subst h3
            have HQ' : Hid (∀ j, j < r → ∀ i, k + 1 ≤ i → i < a.length → b.getD j 0 < a.getD i 0) := fun j hj i hi hil => by
              have h4 := HR.out j hj
              have h5 := inc_get GA.out (show k < i by omega) hil
              rw [← HX.out] at h5
              omega
            have HM := Lib.hid (minus_miss (b := b) hlt hrl (by rw [← HX.out, ← HY.out]))
            have HO5 : Hid (wo.ownsRow w.heap.size 3 1 u5 (minus (a.take (k + 1)) b).length (i64s (minus (a.take (k + 1)) b))) := by
              show World.ownsRow _ _ _ _ _ _ _
              rw [HM.out]; exact HO.out
            go_wp2
            go_roundw
            case rel => exact ⟨k + 1, r, by go_num, by omega, rfl, by omega, HO5.out, hbl, HQ'⟩
            case measure => simp [intOf]; omega
          · have HQ' : Hid (∀ j, j < r → ∀ i, k + 1 ≤ i → i < a.length → b.getD j 0 < a.getD i 0) := fun j hj i hi hil => by
              have h4 := HR.out j hj
              have h5 := inc_get GA.out (show k < i by omega) hil
              rw [← HX.out] at h5
              omega
            have HH := Lib.hid (minus_hit hlt (not_in (q := r) GB.out (fun j hj => by rw [← HX.out]; exact HR.out j hj) (fun _ => by rw [← HX.out, ← HY.out]; exact h3)))
            have hle : x ≤ y := by omega
            have hne : (y != x) = true := bne_iff_ne.2 (by omega)
            go_wp2_with (at_builtin; refine kit.app1 (.tmp 45) (.tmp 47) 22 rfl rfl w.heap.size Try.underlying22 infoInt rfl (by decide) (by decide) HO.out rfl rfl rfl (by intro u hu; simp at hu; subst hu; rfl) (by omega) hszr ?_)
            intro v' w5 hown' hb5
            have HO5 : Hid (w5.ownsRow w.heap.size 3 1 v' (minus (a.take (k + 1)) b).length (i64s (minus (a.take (k + 1)) b))) := by
              show World.ownsRow _ _ _ _ _ _ _
              rw [HH.out, List.length_append, i64s_app, ← HX.out]; exact hown'
            clear hown'
            go_wp2
            go_roundw
            case rel => exact ⟨k + 1, r, by go_num, by omega, rfl, by omega, HO5.out, hbl.trans hb5, HQ'⟩
            case measure => simp [intOf]; omega
        · have hrb : r = b.length := by omega
          subst hrb
          have HS := Lib.hid (minus_stop GA.out GB.out hlt (fun j hj => by rw [← HX.out]; exact HR.out j hj))
          have heq : ((b.length : Int) == (b.length : Int)) = true := by simp
          have HCC : Hid (∀ j, j < a.length → wo.cell? ⟨ba, oa + j, none⟩ = some (.int .i64 (a.getD j 0))) := fun j hj => (hbl.cell (p := ⟨ba, _, none⟩) hBa).trans (HCL.out j hj)
          have hdl : (i64s (a.drop k)).length = a.length - k := by simp [i64s]
          have hck : ¬ ca = k := by omega
          have hckI : ¬ (ca : Int) = (k : Int) := by omega
          go_wp2_with (at_builtin; refine kit.appN (.tmp 34) (.tmp 37) 22 rfl rfl w.heap.size Try.underlying22 infoInt rfl (by decide) (by decide) HO.out rfl (i64s (a.drop k)) rfl ?hl ?hnone ?hnews ?h1 ?hbytes ?hbase ?_)
          case hnews =>
            intro j u hj
            obtain ⟨h1, rfl⟩ := i64s_at hj
            simp only [List.length_drop] at h1
            rw [getD_drop, Nat.add_assoc]
            exact HCC.out (k + j) (by omega)
          case h1 => exact i64s_one
          case hbytes => omega
          intro v' w5 hown' hb5
          have HO5 : Hid (w5.ownsRow w.heap.size 3 1 v' (minus a b).length (i64s (minus a b))) := by
            show World.ownsRow _ _ _ _ _ _ _
            rw [HS.out, List.length_append, i64s_app, List.length_drop]; exact hown'
          clear hown'
          go_wp2
          try rw [Exit.noGoto_ret]
          go_ret
          exact ⟨_, rfl, HO5.out, hbl.trans hb5⟩
    · have HE : Hid (minus (a.take k) b = minus a b) := minus_all (by omega)
      rw [HE.out] at hown
      go_wp2
      try rw [Exit.noGoto_ret]
      go_ret
      exact ⟨_, rfl, hown, hbl⟩
end Go.Proofs.Ytojngbobecdpeaa
