/- posting.Any by its contract, at rising lists. -/
import Derived.Test.YtojngbobecdpeaaBoth
namespace Go.Proofs.Ytojngbobecdpeaa
open Go.RowKit Go.ChangeShapes at_ pm

def lenOf : Value → Nat | .slice _ n _ => n | _ => 0

set_option maxHeartbeats 3200000 in
set_option maxRecDepth 100000 in
theorem any_any (a b : List Int) (va vb : Value) (w : World) (ha : At w w.heap.size va a) (hb : At w w.heap.size vb b) (hia : Inc a) (hib : Inc b) (hla : a.length ≤ 100000) (hlb : b.length ≤ 100000) :
    Calls Try.prog 44 #[va, vb] w (Owned (any a b) w) := by
  have hsum : 0 + a.length + b.length ≤ 200000 := by omega
  go_enter Try.func44, Try.ntmps44
  go_wp2
  go_loopw [0, 1, 5, 6] (fun ua ub v _ wr => ∃ la lb pre : List Int, At wr w.heap.size ua la ∧ At wr w.heap.size ub lb ∧ Hid (Inc la) ∧ Hid (Inc lb) ∧ pre.length + la.length + lb.length ≤ 200000 ∧ Hid (pre ++ any la lb = any a b) ∧ wr.ownsRow w.heap.size 3 1 v pre.length (i64s pre) ∧ Below w.heap.size w wr) (fun ua ub _ _ _ => lenOf ua + lenOf ub)
  case atStart => exact ⟨a, b, [], ha, hb, hia, hib, hsum, rfl, World.ownsRow_nil _ _ _ _, Below.refl _ _⟩
  case round =>
    obtain ⟨la, lb, pre, hA, hB, HIA, HIB, hls, HP, hown, hbl⟩ := hrel
    have HAT := Lib.hid hA
    have HBT := Lib.hid hB
    obtain ⟨ao, ca, rfl, ⟨_, hca⟩, hma, ka⟩ := hA
    obtain ⟨bo, cb, rfl, ⟨_, hcb⟩, hmb, kb⟩ := hB
    have KA := Lib.hid ka
    have KB := Lib.hid kb
    have hszr := hbl.size
    have HO := Lib.hid hown
    have HNA := Lib.hid HAT.out.cells.2
    unfold maxLen at hma hmb
    clear ha hb ka kb hown hsum hia hib hla hlb
    cases la with
    | nil =>
      have HE : Hid (any a b = pre ++ [] ++ lb) := by
        have := HP.out
        rw [any_nil_left] at this
        show _ = _
        rw [← this, List.append_nil]
      simp only [List.length_nil] at hls hca hma ⊢
      go_wp2_with (at_builtin; refine kit.appN (.tmp 40) (.tmp 41) 22 rfl rfl w.heap.size Try.underlying22 infoInt rfl (by decide) (by decide) HO.out rfl (i64s []) rfl (by simp [i64s]) HNA.out.1 HNA.out.2 i64s_one (by omega) hszr ?_)
      intro v' w5 hown' hb5
      have hB5 := HBT.out.below hb5
      have HNB := Lib.hid hB5.cells.2
      have HO5 := Lib.hid hown'
      have hszr5 := Nat.le_trans hszr hb5.size
      clear hown' hB5
      go_wp2_with (at_builtin; refine kit.appN (.tmp 42) (.tmp 43) 22 rfl rfl w.heap.size Try.underlying22 infoInt rfl (by decide) (by decide) HO5.out rfl (i64s lb) rfl (by simp [i64s]) HNB.out.1 HNB.out.2 i64s_one (by omega) hszr5 ?_)
      intro v'' w6 hown' hb6
      have HO6 : Hid (w6.ownsRow w.heap.size 3 1 v'' (any a b).length (i64s (any a b))) := by
        show World.ownsRow _ _ _ _ _ _ _
        rw [HE.out, List.length_append, List.length_append, i64s_app, i64s_app, List.append_assoc]; exact hown'
      clear hown'
      go_wp2
      go_ret
      exact ⟨_, rfl, HO6.out, (hbl.trans hb5).trans hb6⟩
    | cons x la =>
      cases lb with
      | nil =>
        have HE : Hid (any a b = pre ++ (x :: la) ++ []) := by
          have := HP.out
          rw [any_nil_right] at this
          show _ = _
          rw [← this, List.append_nil]
        simp only [List.length_nil, List.length_cons] at hls hca hma hcb hmb ⊢
        have la0 : (0 : Int) < ((la.length + 1 : Nat) : Int) := by omega
        go_wp2_with (at_builtin; refine kit.appN (.tmp 40) (.tmp 41) 22 rfl rfl w.heap.size Try.underlying22 infoInt rfl (by decide) (by decide) HO.out rfl (i64s (x :: la)) rfl (by simp [i64s]) HNA.out.1 HNA.out.2 i64s_one (by omega) hszr ?_)
        intro v' w5 hown' hb5
        have hB5 := HBT.out.below hb5
        have HNB := Lib.hid hB5.cells.2
        have HO5 := Lib.hid hown'
        have hszr5 := Nat.le_trans hszr hb5.size
        clear hown' hB5
        go_wp2_with (at_builtin; refine kit.appN (.tmp 42) (.tmp 43) 22 rfl rfl w.heap.size Try.underlying22 infoInt rfl (by decide) (by decide) HO5.out rfl (i64s []) rfl (by simp [i64s]) HNB.out.1 HNB.out.2 i64s_one (by omega) hszr5 ?_)
        intro v'' w6 hown' hb6
        have HO6 : Hid (w6.ownsRow w.heap.size 3 1 v'' (any a b).length (i64s (any a b))) := by
          show World.ownsRow _ _ _ _ _ _ _
          rw [HE.out, List.length_append, List.length_append, i64s_app, i64s_app, List.append_assoc]; exact hown'
        clear hown'
        go_wp2
        go_ret
        exact ⟨_, rfl, HO6.out, (hbl.trans hb5).trans hb6⟩
      | cons y lb =>
        obtain ⟨ba, oa, hao, hBa, hcella⟩ := KA.out (by simp)
        obtain ⟨bb, ob, hbo, hBb, hcellb⟩ := KB.out (by simp)
        subst hao
        subst hbo
        have c1 : wr.cell? ⟨ba, oa, none⟩ = some (.int .i64 x) := hcella 0 (by simp)
        have c2 : wr.cell? ⟨bb, ob, none⟩ = some (.int .i64 y) := hcellb 0 (by simp)
        clear hcella hcellb KA KB HNA
        simp only [List.length_cons] at hca hcb hls hma hmb
        have la0 : (0 : Int) < ((la.length + 1 : Nat) : Int) := by omega
        have lb0 : (0 : Int) < ((lb.length + 1 : Nat) : Int) := by omega
        simp only [List.length_cons] at HAT HBT ⊢
        rcases Int.lt_trichotomy x y with h3 | h3 | h3
        · have hne : (y == x) = false := beq_eq_false_iff_ne.2 (by omega)
          have H3 := Lib.hid h3
          have HS : Hid (pre ++ [x] ++ any (la) (y :: lb) = any a b) := by
            have := HP.out
            rw [any_lt H3.out] at this
            show _ = _
            rw [← this, List.append_assoc]; rfl
          go_wp2
          go_quiet (fail)
          go_wp2_with (at_builtin; refine kit.app1 (.tmp 22) (.tmp 24) 22 rfl rfl w.heap.size Try.underlying22 infoInt rfl (by decide) (by decide) HO.out rfl rfl rfl (by intro u hu; simp at hu; subst hu; rfl) (by omega) hszr ?_)
          intro v' w5 hown' hb5
          have hbl5 : Below w.heap.size w w5 := (below_drewN hbl _).trans hb5
          have c1' : w5.cell? ⟨ba, oa, none⟩ = some (.int .i64 x) := (hb5.cell (p := ⟨ba, _, none⟩) hBa).trans c1
          have c2' : w5.cell? ⟨bb, ob, none⟩ = some (.int .i64 y) := (hb5.cell (p := ⟨bb, _, none⟩) hBb).trans c2
          have hA5 := (HAT.out.below (below_drewN (Below.refl _ _) nq)).below hb5
          have hB5 := (HBT.out.below (below_drewN (Below.refl _ _) nq)).below hb5
          have HO5 : Hid (w5.ownsRow w.heap.size 3 1 v' (pre ++ [x]).length (i64s (pre ++ [x]))) := by
            show World.ownsRow _ _ _ _ _ _ _
            rw [List.length_append, i64s_app]; exact hown'
          have HA5 := Lib.hid hA5
          have HB5 := Lib.hid hB5
          clear hown' hA5 hB5
          go_wp2
          go_roundw
          case rel => exact ⟨la, y :: lb, pre ++ [x], HA5.out.tailIf, HB5.out, inc_tail HIA.out, HIB.out, by simp only [List.length_cons, List.length_append, List.length_nil]; omega, HS, HO5.out, hbl5⟩
          case measure => simp [lenOf] <;> omega
        · subst h3
          have HS : Hid (pre ++ [x] ++ any (la) (lb) = any a b) := by
            have := HP.out
            rw [any_eq] at this
            show _ = _
            rw [← this, List.append_assoc]; rfl
          go_wp2
          go_quiet (fail)
          go_wp2_with (at_builtin; refine kit.app1 (.tmp 22) (.tmp 24) 22 rfl rfl w.heap.size Try.underlying22 infoInt rfl (by decide) (by decide) HO.out rfl rfl rfl (by intro u hu; simp at hu; subst hu; rfl) (by omega) hszr ?_)
          intro v' w5 hown' hb5
          have hbl5 : Below w.heap.size w w5 := (below_drewN hbl _).trans hb5
          have c1' : w5.cell? ⟨ba, oa, none⟩ = some (.int .i64 x) := (hb5.cell (p := ⟨ba, _, none⟩) hBa).trans c1
          have c2' : w5.cell? ⟨bb, ob, none⟩ = some (.int .i64 x) := (hb5.cell (p := ⟨bb, _, none⟩) hBb).trans c2
          have hA5 := (HAT.out.below (below_drewN (Below.refl _ _) nq)).below hb5
          have hB5 := (HBT.out.below (below_drewN (Below.refl _ _) nq)).below hb5
          have HO5 : Hid (w5.ownsRow w.heap.size 3 1 v' (pre ++ [x]).length (i64s (pre ++ [x]))) := by
            show World.ownsRow _ _ _ _ _ _ _
            rw [List.length_append, i64s_app]; exact hown'
          have HA5 := Lib.hid hA5
          have HB5 := Lib.hid hB5
          clear hown' hA5 hB5
          go_wp2
          go_roundw
          case rel => exact ⟨la, lb, pre ++ [x], HA5.out.tailIf, HB5.out.tailIf, inc_tail HIA.out, inc_tail HIB.out, by simp only [List.length_cons, List.length_append, List.length_nil]; omega, HS, HO5.out, hbl5⟩
          case measure => simp [lenOf] <;> omega
        · have hne : (x == y) = false := beq_eq_false_iff_ne.2 (by omega)
          have H3 := Lib.hid h3
          have HS : Hid (pre ++ [y] ++ any (x :: la) (lb) = any a b) := by
            have := HP.out
            rw [any_gt H3.out] at this
            show _ = _
            rw [← this, List.append_assoc]; rfl
          go_wp2
          go_quiet (fail)
          go_wp2_with (at_builtin; refine kit.app1 (.tmp 22) (.tmp 24) 22 rfl rfl w.heap.size Try.underlying22 infoInt rfl (by decide) (by decide) HO.out rfl rfl rfl (by intro u hu; simp at hu; subst hu; rfl) (by omega) hszr ?_)
          intro v' w5 hown' hb5
          have hbl5 : Below w.heap.size w w5 := (below_drewN hbl _).trans hb5
          have c1' : w5.cell? ⟨ba, oa, none⟩ = some (.int .i64 x) := (hb5.cell (p := ⟨ba, _, none⟩) hBa).trans c1
          have c2' : w5.cell? ⟨bb, ob, none⟩ = some (.int .i64 y) := (hb5.cell (p := ⟨bb, _, none⟩) hBb).trans c2
          have hA5 := (HAT.out.below (below_drewN (Below.refl _ _) nq)).below hb5
          have hB5 := (HBT.out.below (below_drewN (Below.refl _ _) nq)).below hb5
          have HO5 : Hid (w5.ownsRow w.heap.size 3 1 v' (pre ++ [y]).length (i64s (pre ++ [y]))) := by
            show World.ownsRow _ _ _ _ _ _ _
            rw [List.length_append, i64s_app]; exact hown'
          have HA5 := Lib.hid hA5
          have HB5 := Lib.hid hB5
          clear hown' hA5 hB5
          go_wp2
          go_roundw
          case rel => exact ⟨x :: la, lb, pre ++ [y], HA5.out, HB5.out.tailIf, HIA.out, inc_tail HIB.out, by simp only [List.length_cons, List.length_append, List.length_nil]; omega, HS, HO5.out, hbl5⟩
          case measure => simp [lenOf] <;> omega
end Go.Proofs.Ytojngbobecdpeaa
