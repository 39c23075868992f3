/- PostingMany, walked. -/
import Derived.Test.YtbcofpppjjpclaaMerge
import Derived.Test.YtbcofpppjjpclaaAwk6
namespace Go.Proofs.Ytbcofpppjjpclaa
open Go.RowKit Go.ChangeShapes at_ pm

theorem many_good {ls : List (List Int)} (hr : rowsOk ls = true) : (∀ l ∈ ls, Good 2000 l) ∧ ls.length ≤ 30 :=
  ⟨fun _ hl => ⟨right_inc (rowsOk_get hr hl).2, (rowsOk_get hr hl).1⟩, of_decide_eq_true (Bool.and_eq_true_iff.1 hr).2⟩
def Kept (w W : World) (v : Value) (ls : List (List Int)) : Prop := LRows w w.heap.size v ls ∧ Below w.heap.size w W
theorem Kept.at {w W : World} {v : Value} {ls : List (List Int)} (h : Kept w W v ls) : LRows W W.heap.size v ls := (h.1.below h.2).mono h.2.size

set_option maxHeartbeats 6400000 in
set_option maxRecDepth 100000 in
theorem many_any (ls : List (List Int)) (v : Value) (w : World) (ha : LRows w w.heap.size v ls) :
    Calls Try.prog 4 #[v] w (Said true w) := by
  have HA := Lib.hid ha
  have E0 : Env w w [] := ⟨Below.refl _ _, fun p hp => by cases hp⟩
  have HW : Hid (∀ W : World, Below w.heap.size w W → LRows W W.heap.size v ls) := fun W hb => (HA.out.below hb).mono hb.size
  clear ha HA
  cases hr : rowsOk ls with
  | false =>
    have R : Hid (∀ (W : World) (L : List (Value × List Int)), Env w W L → Calls Try.prog 12 #[v] W (fun e W' => e = .returned (.bool false) ∧ Env w W' L)) := fun W L E => by
      have h := cright E (HW.out W E.1)
      rw [hr] at h
      exact h
    clear hr
    go_enter Try.func4, Try.ntmps4
    go_wp2_with fail
    refine (R.out _ _ E0).mono ?_
    rintro e W1 ⟨rfl, E1⟩
    go_wp2_with fail
    refine (awake_any _).mono ?_
    rintro e W2 ⟨rfl, hb2⟩
    go_wp2
    go_ret
    exact ⟨rfl, (E1.step hb2).1⟩
  | true =>
    have R : Hid (∀ (W : World) (L : List (Value × List Int)), Env w W L → Calls Try.prog 12 #[v] W (fun e W' => e = .returned (.bool true) ∧ Env w W' L)) := fun W L E => by
      have h := cright E (HW.out W E.1)
      rw [hr] at h
      exact h
    obtain ⟨hg, h30⟩ := many_good hr
    have C1 : Hid (∀ (W : World) (L : List (Value × List Int)), Env w W L → Calls Try.prog 22 #[v] W (fun e W' => ∃ u, e = .returned u ∧ Env w W' ((u, allOf ls) :: L))) := fun W L E =>
      (all_any ls v W (HW.out W E.1) hg).mono fun _ _ ⟨u, he, ho, hb⟩ => ⟨u, he, E.push ho hb⟩
    have C2 : Hid (∀ (W : World) (L : List (Value × List Int)), Env w W L → Calls Try.prog 23 #[v] W (fun e W' => ∃ u, e = .returned u ∧ Env w W' ((u, allOf ls) :: L))) := fun W L E =>
      (rall_any ls v W (HW.out W E.1) hg).mono fun _ _ ⟨u, he, ho, hb⟩ => ⟨u, he, E.push ho hb⟩
    have C3 : Hid (∀ (W : World) (L : List (Value × List Int)), Env w W L → Calls Try.prog 24 #[v] W (fun e W' => ∃ u, e = .returned u ∧ Env w W' ((u, mergeOf ls) :: L))) := fun W L E =>
      (merge_any _ ls v W (Nat.le_refl _) (HW.out W E.1) hg h30).mono fun _ _ ⟨u, he, ho, hb⟩ => ⟨u, he, E.push ho hb⟩
    have C4 : Hid (∀ (W : World) (L : List (Value × List Int)), Env w W L → Calls Try.prog 25 #[v] W (fun e W' => ∃ u, e = .returned u ∧ Env w W' ((u, mergeOf ls) :: L))) := fun W L E =>
      (rmerge_any ls v W (HW.out W E.1) hg h30).mono fun _ _ ⟨u, he, ho, hb⟩ => ⟨u, he, E.push ho hb⟩
    clear hr hg h30
    go_enter Try.func4, Try.ntmps4
    go_wp2_with fail
    refine (R.out _ _ E0).mono ?_
    rintro e W1 ⟨rfl, E1⟩
    go_wp2_with fail
    refine (R.out _ _ E1).mono ?_
    rintro e W2 ⟨rfl, E2⟩
    go_wp2_with fail
    refine (C1.out _ _ E2).mono ?_
    rintro e W3 ⟨v3, rfl, E3⟩
    go_wp2_with fail
    refine (C2.out _ _ E3).mono ?_
    rintro e W4 ⟨v4, rfl, E4⟩
    go_wp2_with fail
    refine (cints E4 (.tail _ (.head _)) (.head _) rfl).mono ?_
    rintro e W5 ⟨rfl, E5⟩
    go_wp2_with fail
    refine (C3.out _ _ E5).mono ?_
    rintro e W6 ⟨v6, rfl, E6⟩
    go_wp2_with fail
    refine (C4.out _ _ E6).mono ?_
    rintro e W7 ⟨v7, rfl, E7⟩
    go_wp2_with fail
    refine (cints E7 (.tail _ (.head _)) (.head _) rfl).mono ?_
    rintro e W8 ⟨rfl, E8⟩
    go_wp2_with fail
    refine (awake_any _).mono ?_
    rintro e W9 ⟨rfl, hb9⟩
    have hfin := (E8.step hb9).1
    clear E0 E1 E2 E3 E4 E5 E6 E7 E8 hb9
    go_wp2
    go_ret
    exact ⟨rfl, hfin⟩
end Go.Proofs.Ytbcofpppjjpclaa
