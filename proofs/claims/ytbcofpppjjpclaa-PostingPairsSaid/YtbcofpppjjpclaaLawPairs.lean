/- PostingPairs, walked. -/
import Derived.Test.YtbcofpppjjpclaaAwk6
namespace Go.Proofs.Ytbcofpppjjpclaa
open Go.RowKit Go.ChangeShapes at_ pm

set_option maxHeartbeats 6400000 in
set_option maxRecDepth 100000 in
theorem pairs_any (a b : List Int) (x : Int) (va vb : Value) (w : World) (ha : At w w.heap.size va a) (hb : At w w.heap.size vb b) :
    Calls Try.prog 3 #[va, vb, .int .i64 x] w (Said true w) := by
  have E0 : Env w w [(va, a), (vb, b)] := ⟨Below.refl _ _, by
    intro p hp
    simp only [List.mem_cons, List.not_mem_nil, or_false] at hp
    rcases hp with rfl | rfl
    · exact ha
    · exact hb⟩
  clear ha hb
  obtain ⟨ao, na, ca, rfl, hna⟩ := E0.form (.head _)
  obtain ⟨bo, nb, cb, rfl, hnb⟩ := E0.form (.tail _ (.head _))
  have HNa := Lib.hid hna
  have HNb := Lib.hid hnb
  clear hna hnb
  by_cases hbig : 2000 < na
  · have hbI : (2000 : Int) < (na : Int) := by omega
    go_enter Try.func3, Try.ntmps3
    go_wp2_with fail
    refine (awake_any _).mono ?_
    rintro e W2 ⟨rfl, hb2⟩
    go_wp2
    go_ret
    exact ⟨rfl, hb2⟩
  · have hbI : ¬ (2000 : Int) < (na : Int) := by omega
    obtain ⟨r, hr⟩ : ∃ r, r = rightOf a := ⟨_, rfl⟩
    have HR := Lib.hid hr
    clear hr
    go_enter Try.func3, Try.ntmps3
    go_wp2_with fail
    refine (cpright E0 (.head _)).mono ?_
    rw [← HR.out]
    rintro e W1 ⟨rfl, E1⟩
    clear E0
    go_wp2_with fail
    refine (crright E1 (.head _)).mono ?_
    rw [← HR.out]
    rintro e W2 ⟨rfl, E2⟩
    clear E1
    have hrr : (r != r) = false := by cases r <;> rfl
    have hR := lrows_lit E2 [.slice ao na ca, .slice bo nb cb] [a, b] #[.slice ao na ca, .slice bo nb cb] 22 rfl rfl (by simp [maxLen]) (fun j h => match j, h with | 0, _ => .head _ | 1, _ => .tail _ (.head _) | (j + 2), h => absurd h (by simp))
    have H := cright (E2.alloc #[.slice ao na ca, .slice bo nb cb] 22) hR
    clear hR E2
    cases hrr2 : rowsOk [a, b] with
    | false =>
      rw [hrr2] at H
      clear hrr2
      go_wp2_with fail
      refine H.mono ?_
      rintro e W3 ⟨rfl, E3⟩
      go_wp2_with fail
      refine (awake_any _).mono ?_
      rintro e W4 ⟨rfl, hb4⟩
      go_wp2
      go_ret
      exact ⟨rfl, (E3.step hb4).1⟩
    | true =>
      rw [hrr2] at H
      have ga : Good 2000 a := ⟨right_inc (rowsOk_get hrr2 (by simp)).2, (rowsOk_get hrr2 (by simp)).1⟩
      have gb : Good 2000 b := ⟨right_inc (rowsOk_get hrr2 (by simp)).2, (rowsOk_get hrr2 (by simp)).1⟩
      clear hrr2
      go_wp2_with fail
      refine H.mono ?_
      rintro e W0 ⟨rfl, E0⟩
      clear H
      go_wp2_with fail
      refine (cboth E0 (.head _) (.tail _ (.head _)) ga gb).mono ?_
      rintro e W11 ⟨v11, rfl, E11⟩
      clear E0
      go_wp2_with fail
      refine (rcboth E11 (.tail _ (.head _)) (.tail _ (.tail _ (.head _))) ga gb).mono ?_
      rintro e W12 ⟨v12, rfl, E12⟩
      clear E11
      go_wp2_with fail
      refine (cints E12 (.tail _ (.head _)) (.head _) rfl).mono ?_
      rintro e W13 ⟨rfl, E13⟩
      clear E12
      go_wp2_with fail
      refine (cany E13 (.tail _ (.tail _ (.head _))) (.tail _ (.tail _ (.tail _ (.head _)))) ga gb).mono ?_
      rintro e W14 ⟨v14, rfl, E14⟩
      clear E13
      go_wp2_with fail
      refine (rcany E14 (.tail _ (.tail _ (.tail _ (.head _)))) (.tail _ (.tail _ (.tail _ (.tail _ (.head _))))) ga gb).mono ?_
      rintro e W15 ⟨v15, rfl, E15⟩
      clear E14
      go_wp2_with fail
      refine (cints E15 (.tail _ (.head _)) (.head _) rfl).mono ?_
      rintro e W16 ⟨rfl, E16⟩
      clear E15
      go_wp2_with fail
      refine (cminus E16 (.tail _ (.tail _ (.tail _ (.tail _ (.head _))))) (.tail _ (.tail _ (.tail _ (.tail _ (.tail _ (.head _)))))) ga gb).mono ?_
      rintro e W17 ⟨v17, rfl, E17⟩
      clear E16
      go_wp2_with fail
      refine (rcminus E17 (.tail _ (.tail _ (.tail _ (.tail _ (.tail _ (.head _)))))) (.tail _ (.tail _ (.tail _ (.tail _ (.tail _ (.tail _ (.head _))))))) ga gb).mono ?_
      rintro e W18 ⟨v18, rfl, E18⟩
      clear E17
      go_wp2_with fail
      refine (cints E18 (.tail _ (.head _)) (.head _) rfl).mono ?_
      rintro e W19 ⟨rfl, E19⟩
      clear E18
      go_wp2_with fail
      refine (chas E19 (.tail _ (.tail _ (.tail _ (.tail _ (.tail _ (.tail _ (.head _))))))) ga x).mono ?_
      obtain ⟨h, hh⟩ : ∃ h, h = has a x := ⟨_, rfl⟩
      rw [← hh]
      rintro e W20 ⟨rfl, E20⟩
      clear E19
      go_wp2_with fail
      refine (crhas E20 (.tail _ (.tail _ (.tail _ (.tail _ (.tail _ (.tail _ (.head _))))))) ga x).mono ?_
      rw [← hh]
      rintro e W21 ⟨rfl, E21⟩
      clear E20
      have hhe : (h == h) = true := by cases h <;> rfl
      clear hh
      go_wp2_with fail
      refine (awake_any _).mono ?_
      rintro e Wz ⟨rfl, hbz⟩
      have hfin := (E21.step hbz).1
      clear E21 hbz
      go_wp2
      go_ret
      exact ⟨rfl, hfin⟩
end Go.Proofs.Ytbcofpppjjpclaa
