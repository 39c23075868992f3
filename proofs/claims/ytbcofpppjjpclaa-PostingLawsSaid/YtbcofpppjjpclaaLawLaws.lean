/- PostingLaws, walked. -/
import Derived.Test.YtbcofpppjjpclaaAwk6
namespace Go.Proofs.Ytbcofpppjjpclaa
open Go.RowKit Go.ChangeShapes at_ pm

set_option maxHeartbeats 6400000 in
set_option maxRecDepth 100000 in
theorem laws_any (a b c : List Int) (va vb vc : Value) (w : World) (ha : At w w.heap.size va a) (hb : At w w.heap.size vb b) (hc : At w w.heap.size vc c) :
    Calls Try.prog 6 #[va, vb, vc] w (Said true w) := by
  have E0 : Env w w [(va, a), (vb, b), (vc, c), (.slice none 0 0, [])] := ⟨Below.refl _ _, by
    intro p hp
    simp only [List.mem_cons, List.not_mem_nil, or_false] at hp
    rcases hp with rfl | rfl | rfl | rfl
    · exact ha
    · exact hb
    · exact hc
    · exact at_.nil _ _⟩
  obtain ⟨ao, na, ca, rfl, hna⟩ := E0.form (.head _)
  have HNa := Lib.hid hna
  clear hna
  obtain ⟨bo, nb, cb, rfl, hnb⟩ := E0.form (.tail _ (.head _))
  have HNb := Lib.hid hnb
  clear hnb
  obtain ⟨co, nc, cc, rfl, hnc⟩ := E0.form (.tail _ (.tail _ (.head _)))
  have HNc := Lib.hid hnc
  clear hnc
  have hR := lrows_lit E0 [.slice ao na ca, .slice bo nb cb, .slice co nc cc] [a, b, c] #[.slice ao na ca, .slice bo nb cb, .slice co nc cc] 22 rfl rfl (by simp [maxLen]) (fun j h => match j, h with | 0, _ => .head _ | 1, _ => .tail _ (.head _) | 2, _ => .tail _ (.tail _ (.head _)) | (j + 3), h => absurd h (by simp))
  have H := cright (E0.alloc #[.slice ao na ca, .slice bo nb cb, .slice co nc cc] 22) hR
  clear hR ha hb hc
  cases hr : rowsOk [a, b, c] with
  | false =>
    rw [hr] at H
    clear hr
    go_enter Try.func6, Try.ntmps6
    go_wp2_with fail
    refine H.mono ?_
    rintro e W1 ⟨rfl, E1⟩
    go_wp2_with fail
    refine (awake_any _).mono ?_
    rintro e W2 ⟨rfl, hb2⟩
    go_wp2
    go_ret
    exact ⟨rfl, (E1.step hb2).1⟩
  | true =>
    rw [hr] at H
    have ga : Good 2000 a := ⟨right_inc (rowsOk_get hr (by simp)).2, (rowsOk_get hr (by simp)).1⟩
    have gb : Good 2000 b := ⟨right_inc (rowsOk_get hr (by simp)).2, (rowsOk_get hr (by simp)).1⟩
    have gc : Good 2000 c := ⟨right_inc (rowsOk_get hr (by simp)).2, (rowsOk_get hr (by simp)).1⟩
    clear hr
    go_enter Try.func6, Try.ntmps6
    go_wp2_with fail
    refine H.mono ?_
    rintro e W0 ⟨rfl, E0⟩
    go_wp2_with fail
    refine (cboth E0 (.head _) (.tail _ (.head _)) ga gb).mono ?_
    rintro e W1 ⟨v1, rfl, E1⟩
    clear E0
    go_wp2_with fail
    refine (cboth E1 (.tail _ (.tail _ (.head _))) (.tail _ (.head _)) gb ga).mono ?_
    rintro e W2 ⟨v2, rfl, E2⟩
    clear E1
    go_wp2_with fail
    refine (cints E2 (.tail _ (.head _)) (.head _) (ext (ga.both gb).1 (gb.both ga).1 (fun x => by simp only [mem_both]; by_cases ha : x ∈ a <;> by_cases hb : x ∈ b <;> simp [ha, hb]))).mono ?_
    rintro e W3 ⟨rfl, E3⟩
    clear E2
    have E4 : Env w W3 _ := ⟨E3.1, fun p hp => E3.2 p (.tail _ (.tail _ (hp)))⟩
    clear E3
    go_wp2_with fail
    refine (cany E4 (.head _) (.tail _ (.head _)) ga gb).mono ?_
    rintro e W5 ⟨v5, rfl, E5⟩
    clear E4
    go_wp2_with fail
    refine (cany E5 (.tail _ (.tail _ (.head _))) (.tail _ (.head _)) gb ga).mono ?_
    rintro e W6 ⟨v6, rfl, E6⟩
    clear E5
    go_wp2_with fail
    refine (cints E6 (.tail _ (.head _)) (.head _) (ext (ga.any gb).1 (gb.any ga).1 (fun x => by simp only [mem_any']; by_cases ha : x ∈ a <;> by_cases hb : x ∈ b <;> simp [ha, hb]))).mono ?_
    rintro e W7 ⟨rfl, E7⟩
    clear E6
    have E8 : Env w W7 _ := ⟨E7.1, fun p hp => E7.2 p (.tail _ (.tail _ (hp)))⟩
    clear E7
    go_wp2_with fail
    refine (cboth E8 (.head _) (.tail _ (.head _)) ga gb).mono ?_
    rintro e W9 ⟨v9, rfl, E9⟩
    clear E8
    go_wp2_with fail
    refine (cboth E9 (.head _) (.tail _ (.tail _ (.tail _ (.head _)))) (ga.both gb) gc).mono ?_
    rintro e W10 ⟨v10, rfl, E10⟩
    clear E9
    go_wp2_with fail
    refine (cboth E10 (.tail _ (.tail _ (.tail _ (.head _)))) (.tail _ (.tail _ (.tail _ (.tail _ (.head _))))) gb gc).mono ?_
    rintro e W11 ⟨v11, rfl, E11⟩
    clear E10
    go_wp2_with fail
    refine (cboth E11 (.tail _ (.tail _ (.tail _ (.head _)))) (.head _) ga (gb.both gc)).mono ?_
    rintro e W12 ⟨v12, rfl, E12⟩
    clear E11
    go_wp2_with fail
    refine (cints E12 (.tail _ (.tail _ (.head _))) (.head _) (ext ((ga.both gb).both gc).1 (ga.both (gb.both gc)).1 (fun x => by simp only [mem_both]; by_cases ha : x ∈ a <;> by_cases hb : x ∈ b <;> by_cases hc : x ∈ c <;> simp [ha, hb, hc]))).mono ?_
    rintro e W13 ⟨rfl, E13⟩
    clear E12
    have E14 : Env w W13 _ := ⟨E13.1, fun p hp => E13.2 p (.tail _ (.tail _ (.tail _ (.tail _ (hp)))))⟩
    clear E13
    go_wp2_with fail
    refine (cany E14 (.head _) (.tail _ (.head _)) ga gb).mono ?_
    rintro e W15 ⟨v15, rfl, E15⟩
    clear E14
    go_wp2_with fail
    refine (cany E15 (.head _) (.tail _ (.tail _ (.tail _ (.head _)))) (ga.any gb) gc).mono ?_
    rintro e W16 ⟨v16, rfl, E16⟩
    clear E15
    go_wp2_with fail
    refine (cany E16 (.tail _ (.tail _ (.tail _ (.head _)))) (.tail _ (.tail _ (.tail _ (.tail _ (.head _))))) gb gc).mono ?_
    rintro e W17 ⟨v17, rfl, E17⟩
    clear E16
    go_wp2_with fail
    refine (cany E17 (.tail _ (.tail _ (.tail _ (.head _)))) (.head _) ga (gb.any gc)).mono ?_
    rintro e W18 ⟨v18, rfl, E18⟩
    clear E17
    go_wp2_with fail
    refine (cints E18 (.tail _ (.tail _ (.head _))) (.head _) (ext ((ga.any gb).any gc).1 (ga.any (gb.any gc)).1 (fun x => by simp only [mem_any']; by_cases ha : x ∈ a <;> by_cases hb : x ∈ b <;> by_cases hc : x ∈ c <;> simp [ha, hb, hc]))).mono ?_
    rintro e W19 ⟨rfl, E19⟩
    clear E18
    have E20 : Env w W19 _ := ⟨E19.1, fun p hp => E19.2 p (.tail _ (.tail _ (.tail _ (.tail _ (hp)))))⟩
    clear E19
    go_wp2_with fail
    refine (cany E20 (.tail _ (.head _)) (.tail _ (.tail _ (.head _))) gb gc).mono ?_
    rintro e W21 ⟨v21, rfl, E21⟩
    clear E20
    go_wp2_with fail
    refine (cboth E21 (.tail _ (.head _)) (.head _) ga (gb.any gc)).mono ?_
    rintro e W22 ⟨v22, rfl, E22⟩
    clear E21
    go_wp2_with fail
    refine (cboth E22 (.tail _ (.tail _ (.head _))) (.tail _ (.tail _ (.tail _ (.head _)))) ga gb).mono ?_
    rintro e W23 ⟨v23, rfl, E23⟩
    clear E22
    go_wp2_with fail
    refine (cboth E23 (.tail _ (.tail _ (.tail _ (.head _)))) (.tail _ (.tail _ (.tail _ (.tail _ (.tail _ (.head _)))))) ga gc).mono ?_
    rintro e W24 ⟨v24, rfl, E24⟩
    clear E23
    go_wp2_with fail
    refine (cany E24 (.tail _ (.head _)) (.head _) (ga.both gb) (ga.both gc)).mono ?_
    rintro e W25 ⟨v25, rfl, E25⟩
    clear E24
    go_wp2_with fail
    refine (cints E25 (.tail _ (.tail _ (.tail _ (.head _)))) (.head _) (ext (ga.both (gb.any gc)).1 ((ga.both gb).any (ga.both gc)).1 (fun x => by simp only [mem_both, mem_any']; by_cases ha : x ∈ a <;> by_cases hb : x ∈ b <;> by_cases hc : x ∈ c <;> simp [ha, hb, hc]))).mono ?_
    rintro e W26 ⟨rfl, E26⟩
    clear E25
    have E27 : Env w W26 _ := ⟨E26.1, fun p hp => E26.2 p (.tail _ (.tail _ (.tail _ (.tail _ (.tail _ (hp))))))⟩
    clear E26
    go_wp2_with fail
    refine (cboth E27 (.tail _ (.head _)) (.tail _ (.tail _ (.head _))) gb gc).mono ?_
    rintro e W28 ⟨v28, rfl, E28⟩
    clear E27
    go_wp2_with fail
    refine (cany E28 (.tail _ (.head _)) (.head _) ga (gb.both gc)).mono ?_
    rintro e W29 ⟨v29, rfl, E29⟩
    clear E28
    go_wp2_with fail
    refine (cany E29 (.tail _ (.tail _ (.head _))) (.tail _ (.tail _ (.tail _ (.head _)))) ga gb).mono ?_
    rintro e W30 ⟨v30, rfl, E30⟩
    clear E29
    go_wp2_with fail
    refine (cany E30 (.tail _ (.tail _ (.tail _ (.head _)))) (.tail _ (.tail _ (.tail _ (.tail _ (.tail _ (.head _)))))) ga gc).mono ?_
    rintro e W31 ⟨v31, rfl, E31⟩
    clear E30
    go_wp2_with fail
    refine (cboth E31 (.tail _ (.head _)) (.head _) (ga.any gb) (ga.any gc)).mono ?_
    rintro e W32 ⟨v32, rfl, E32⟩
    clear E31
    go_wp2_with fail
    refine (cints E32 (.tail _ (.tail _ (.tail _ (.head _)))) (.head _) (ext (ga.any (gb.both gc)).1 ((ga.any gb).both (ga.any gc)).1 (fun x => by simp only [mem_both, mem_any']; by_cases ha : x ∈ a <;> by_cases hb : x ∈ b <;> by_cases hc : x ∈ c <;> simp [ha, hb, hc]))).mono ?_
    rintro e W33 ⟨rfl, E33⟩
    clear E32
    have E34 : Env w W33 _ := ⟨E33.1, fun p hp => E33.2 p (.tail _ (.tail _ (.tail _ (.tail _ (.tail _ (hp))))))⟩
    clear E33
    go_wp2_with fail
    refine (cany E34 (.head _) (.tail _ (.head _)) ga gb).mono ?_
    rintro e W35 ⟨v35, rfl, E35⟩
    clear E34
    go_wp2_with fail
    refine (cminus E35 (.head _) (.tail _ (.tail _ (.tail _ (.head _)))) (ga.any gb) gc).mono ?_
    rintro e W36 ⟨v36, rfl, E36⟩
    clear E35
    go_wp2_with fail
    refine (cminus E36 (.tail _ (.tail _ (.head _))) (.tail _ (.tail _ (.tail _ (.tail _ (.head _))))) ga gc).mono ?_
    rintro e W37 ⟨v37, rfl, E37⟩
    clear E36
    go_wp2_with fail
    refine (cminus E37 (.tail _ (.tail _ (.tail _ (.tail _ (.head _))))) (.tail _ (.tail _ (.tail _ (.tail _ (.tail _ (.head _)))))) gb gc).mono ?_
    rintro e W38 ⟨v38, rfl, E38⟩
    clear E37
    go_wp2_with fail
    refine (cany E38 (.tail _ (.head _)) (.head _) (ga.minus gc) (gb.minus gc)).mono ?_
    rintro e W39 ⟨v39, rfl, E39⟩
    clear E38
    go_wp2_with fail
    refine (cints E39 (.tail _ (.tail _ (.tail _ (.head _)))) (.head _) (ext ((ga.any gb).minus gc).1 ((ga.minus gc).any (gb.minus gc)).1 (fun x => by simp only [mem_any', mem_minus]; by_cases ha : x ∈ a <;> by_cases hb : x ∈ b <;> by_cases hc : x ∈ c <;> simp [ha, hb, hc]))).mono ?_
    rintro e W40 ⟨rfl, E40⟩
    clear E39
    have E41 : Env w W40 _ := ⟨E40.1, fun p hp => E40.2 p (.tail _ (.tail _ (.tail _ (.tail _ (.tail _ (hp))))))⟩
    clear E40
    go_wp2_with fail
    refine (cany E41 (.tail _ (.head _)) (.tail _ (.tail _ (.head _))) gb gc).mono ?_
    rintro e W42 ⟨v42, rfl, E42⟩
    clear E41
    go_wp2_with fail
    refine (cminus E42 (.tail _ (.head _)) (.head _) ga (gb.any gc)).mono ?_
    rintro e W43 ⟨v43, rfl, E43⟩
    clear E42
    go_wp2_with fail
    refine (cminus E43 (.tail _ (.tail _ (.head _))) (.tail _ (.tail _ (.tail _ (.head _)))) ga gb).mono ?_
    rintro e W44 ⟨v44, rfl, E44⟩
    clear E43
    go_wp2_with fail
    refine (cminus E44 (.tail _ (.tail _ (.tail _ (.head _)))) (.tail _ (.tail _ (.tail _ (.tail _ (.tail _ (.head _)))))) ga gc).mono ?_
    rintro e W45 ⟨v45, rfl, E45⟩
    clear E44
    go_wp2_with fail
    refine (cboth E45 (.tail _ (.head _)) (.head _) (ga.minus gb) (ga.minus gc)).mono ?_
    rintro e W46 ⟨v46, rfl, E46⟩
    clear E45
    go_wp2_with fail
    refine (cints E46 (.tail _ (.tail _ (.tail _ (.head _)))) (.head _) (ext (ga.minus (gb.any gc)).1 ((ga.minus gb).both (ga.minus gc)).1 (fun x => by simp only [mem_both, mem_any', mem_minus]; by_cases ha : x ∈ a <;> by_cases hb : x ∈ b <;> by_cases hc : x ∈ c <;> simp [ha, hb, hc]))).mono ?_
    rintro e W47 ⟨rfl, E47⟩
    clear E46
    have E48 : Env w W47 _ := ⟨E47.1, fun p hp => E47.2 p (.tail _ (.tail _ (.tail _ (.tail _ (.tail _ (hp))))))⟩
    clear E47
    go_wp2_with fail
    refine (cminus E48 (.head _) (.tail _ (.head _)) ga gb).mono ?_
    rintro e W49 ⟨v49, rfl, E49⟩
    clear E48
    go_wp2_with fail
    refine (cminus E49 (.tail _ (.head _)) (.head _) ga (ga.minus gb)).mono ?_
    rintro e W50 ⟨v50, rfl, E50⟩
    clear E49
    go_wp2_with fail
    refine (cboth E50 (.tail _ (.tail _ (.head _))) (.tail _ (.tail _ (.tail _ (.head _)))) ga gb).mono ?_
    rintro e W51 ⟨v51, rfl, E51⟩
    clear E50
    go_wp2_with fail
    refine (cints E51 (.tail _ (.head _)) (.head _) (ext (ga.minus (ga.minus gb)).1 (ga.both gb).1 (fun x => by simp only [mem_both, mem_minus]; by_cases ha : x ∈ a <;> by_cases hb : x ∈ b <;> simp [ha, hb]))).mono ?_
    rintro e W52 ⟨rfl, E52⟩
    clear E51
    have E53 : Env w W52 _ := ⟨E52.1, fun p hp => E52.2 p (.tail _ (.tail _ (.tail _ (hp))))⟩
    clear E52
    go_wp2_with fail
    refine (cboth E53 (.head _) (.head _) ga ga).mono ?_
    rintro e W54 ⟨v54, rfl, E54⟩
    clear E53
    go_wp2_with fail
    refine (cints E54 (.head _) (.tail _ (.head _)) (ext (ga.both ga).1 ga.1 (fun x => by simp only [mem_both]; by_cases ha : x ∈ a <;> simp [ha]))).mono ?_
    rintro e W55 ⟨rfl, E55⟩
    clear E54
    have E56 : Env w W55 _ := ⟨E55.1, fun p hp => E55.2 p (.tail _ (hp))⟩
    clear E55
    go_wp2_with fail
    refine (cany E56 (.head _) (.tail _ (.tail _ (.tail _ (.head _)))) ga good_nil).mono ?_
    rintro e W57 ⟨v57, rfl, E57⟩
    clear E56
    go_wp2_with fail
    refine (cints E57 (.head _) (.tail _ (.head _)) (ext (ga.any good_nil).1 ga.1 (fun x => by simp only [mem_any']; by_cases ha : x ∈ a <;> simp [ha]))).mono ?_
    rintro e W58 ⟨rfl, E58⟩
    clear E57
    have E59 : Env w W58 _ := ⟨E58.1, fun p hp => E58.2 p (.tail _ (hp))⟩
    clear E58
    go_wp2_with fail
    refine (awake_any _).mono ?_
    rintro e Wz ⟨rfl, hbz⟩
    have hfin := (E59.step hbz).1
    clear E59 hbz
    go_wp2
    go_ret
    exact ⟨rfl, hfin⟩
end Go.Proofs.Ytbcofpppjjpclaa
