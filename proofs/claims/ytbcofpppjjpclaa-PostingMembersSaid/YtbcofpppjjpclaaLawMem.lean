/- PostingMembers, walked. -/
import Derived.Test.YtbcofpppjjpclaaAwk6
namespace Go.Proofs.Ytbcofpppjjpclaa
open Go.RowKit Go.ChangeShapes at_ pm

theorem own_empty (W : World) (t : TypeId) : (W.alloc (.cells #[] t)).ownsRow W.heap.size t 1 (.slice (some ⟨W.heap.size, 0, none⟩) 0 0) 0 (i64s []) := by
  refine ⟨rfl, Or.inr ⟨W.heap.size, 0, #[], rfl, Nat.le_refl _, ?_, Nat.le_refl _, Nat.zero_le _, rfl, rfl⟩⟩
  show (W.heap.push _)[W.heap.size]? = _
  simp
theorem has_both {a b : List Int} {y : Int} : has (both a b) y = (has a y && has b y) := by
  rw [Bool.eq_iff_iff, Bool.and_eq_true, has_iff, has_iff, has_iff]; exact mem_both
theorem has_any {a b : List Int} {y : Int} : has (any a b) y = (has a y || has b y) := by
  rw [Bool.eq_iff_iff, Bool.or_eq_true, has_iff, has_iff, has_iff]; exact mem_any'
theorem has_minus {a b : List Int} {y : Int} : has (minus a b) y = (has a y && !has b y) := by
  rw [Bool.eq_iff_iff, Bool.and_eq_true, Bool.not_eq_true', has_iff, has_iff, has_not]; exact mem_minus
set_option maxHeartbeats 6400000 in
set_option maxRecDepth 100000 in
theorem members_any (a b : List Int) (x : Int) (va vb : Value) (w : World) (ha : At w w.heap.size va a) (hb : At w w.heap.size vb b) :
    Calls Try.prog 5 #[va, vb, .int .i64 x] w (Said true w) := by
  have E0 : Env w w [(va, a), (vb, b), (.slice none 0 0, [])] := ⟨Below.refl _ _, by
    intro p hp
    simp only [List.mem_cons, List.not_mem_nil, or_false] at hp
    rcases hp with rfl | rfl | rfl
    · exact ha
    · exact hb
    · exact at_.nil _ _⟩
  obtain ⟨ao, na, ca, rfl, hna⟩ := E0.form (.head _)
  have HNa := Lib.hid hna
  clear hna
  obtain ⟨bo, nb, cb, rfl, hnb⟩ := E0.form (.tail _ (.head _))
  have HNb := Lib.hid hnb
  clear hnb
  have hR := lrows_lit E0 [.slice ao na ca, .slice bo nb cb] [a, b] #[.slice ao na ca, .slice bo nb cb] 22 rfl rfl (by simp [maxLen]) (fun j h => match j, h with | 0, _ => .head _ | 1, _ => .tail _ (.head _) | (j + 2), h => absurd h (by simp))
  have H := cright (E0.alloc #[.slice ao na ca, .slice bo nb cb] 22) hR
  clear hR ha hb
  cases hr : rowsOk [a, b] with
  | false =>
    rw [hr] at H
    clear hr
    go_enter Try.func5, Try.ntmps5
    go_wp2_with fail
    refine H.mono ?_
    rintro e W1 ⟨rfl, E1⟩
    go_wp2_with fail
    refine (awake_any _).mono ?_
    rintro e W2 ⟨rfl, hb2⟩
    go_wp2
    go_ret
    exact ⟨rfl, (E1.step hb2).1⟩
  | true =>
    rw [hr] at H
    have ga : Good 2000 a := ⟨right_inc (rowsOk_get hr (by simp)).2, (rowsOk_get hr (by simp)).1⟩
    have gb : Good 2000 b := ⟨right_inc (rowsOk_get hr (by simp)).2, (rowsOk_get hr (by simp)).1⟩
    have Ra := (rowsOk_get hr (List.mem_cons_self ..)).2
    have Rb := (rowsOk_get hr (List.mem_cons_of_mem _ (List.mem_cons_self ..))).2
    have HB1 : Hid (rightOf (both a b) = true) := inc_right (inc_both ga.1) fun y hy => right_mem Ra y (mem_both.1 hy).1
    have HB2 : Hid (rightOf (any a b) = true) := inc_right (inc_any' ga.1 gb.1) fun y hy => (mem_any'.1 hy).elim (right_mem Ra y) (right_mem Rb y)
    have HB3 : Hid (rightOf (minus a b) = true) := inc_right (inc_minus ga.1) fun y hy => right_mem Ra y (mem_minus.1 hy).1
    clear hr Ra Rb
    have hla := ga.2
    have hlb := gb.2
    rw [← HNa.out] at hla
    rw [← HNb.out] at hlb
    go_enter Try.func5, Try.ntmps5
    go_wp2_with fail
    refine H.mono ?_
    rintro e W0 ⟨rfl, E0⟩
    go_wp2_with fail
    refine (cboth E0 (.head _) (.tail _ (.head _)) ga gb).mono ?_
    rintro e W1 ⟨v1, rfl, E1⟩
    clear E0
    go_wp2_with fail
    refine (cany E1 (.tail _ (.head _)) (.tail _ (.tail _ (.head _))) ga gb).mono ?_
    rintro e W2 ⟨v2, rfl, E2⟩
    clear E1
    go_wp2_with fail
    refine (cminus E2 (.tail _ (.tail _ (.head _))) (.tail _ (.tail _ (.tail _ (.head _)))) ga gb).mono ?_
    rintro e W3 ⟨v3, rfl, E3⟩
    clear E2
    go_wp2_with fail
    refine (cpright E3 (.tail _ (.tail _ (.head _)))).mono ?_
    rw [HB1.out]
    rintro e W4 ⟨rfl, E4⟩
    clear E3
    go_wp2_with fail
    refine (cpright E4 (.tail _ (.head _))).mono ?_
    rw [HB2.out]
    rintro e W5 ⟨rfl, E5⟩
    clear E4
    go_wp2_with fail
    refine (cpright E5 (.head _)).mono ?_
    rw [HB3.out]
    rintro e W6 ⟨rfl, E6⟩
    clear E5
    have HO0 := Lib.hid (own_empty W6 3)
    have EA := E6.alloc #[] 3
    have HNA := Lib.hid (EA.2 _ (.tail _ (.tail _ (.tail _ (.head _))))).cells.2
    go_wp2_with (at_builtin; refine kit.appN (.tmp 42) (.tmp 43) 22 rfl rfl W6.heap.size Try.underlying22 infoInt rfl (by decide) (by decide) HO0.out rfl (i64s a) rfl (by rw [HNa.out]; simp [i64s]) HNA.out.1 HNA.out.2 i64s_one (by omega) (by simp) ?_)
    intro u1 X1 ho1 hb1
    have hbA : Below W6.heap.size W6 X1 := ((Below.refl _ _).alloc (Nat.le_refl _) _).trans hb1
    have EB := E6.step hbA
    have HNB := Lib.hid (EB.2 _ (.tail _ (.tail _ (.tail _ (.tail _ (.head _)))))).cells.2
    have HO1 := Lib.hid ho1
    have hs1 := hbA.size
    clear ho1 hb1 EA
    go_wp2_with (at_builtin; refine kit.appN (.tmp 44) (.tmp 45) 22 rfl rfl W6.heap.size Try.underlying22 infoInt rfl (by decide) (by decide) HO1.out rfl (i64s b) rfl (by rw [HNb.out]; simp [i64s]) HNB.out.1 HNB.out.2 i64s_one (by omega) (by omega) ?_)
    intro u2 X2 ho2 hb2
    have HO2 := Lib.hid ho2
    have hbB := hbA.trans hb2
    have hs2 := hbB.size
    clear ho2 hb2 EB hbA
    go_wp2_with (at_builtin; refine kit.app1 (.tmp 46) (.tmp 48) 22 rfl rfl W6.heap.size Try.underlying22 infoInt rfl (by decide) (by decide) HO2.out rfl rfl rfl (by intro u hu; simp at hu; subst hu; rfl) (by omega) (by omega) ?_)
    intro u3 X3 ho3 hb3
    obtain ⟨l, hl⟩ : ∃ l, l = a ++ (b ++ [x]) := ⟨_, rfl⟩
    have hll : l.length = na + nb + 1 := by rw [hl, HNa.out, HNb.out]; simp; omega
    have E9 := Env.push E6 (v := u3) (l := l) (t := 3) (by rw [hll, hl, i64s_app, i64s_app]; exact ho3) (hbB.trans hb3)
    clear ho3 hb3 hbB hs1 hs2 HO0 HO1 HO2 HNA HNB E6 HB1 HB2 HB3 hl
    obtain ⟨uo, nl, cl, rfl, hnl⟩ := E9.form (.head _)
    have EX : Env X3 X3 _ := ⟨Below.refl _ _, E9.2⟩
    obtain ⟨_, _, hsl, _, hmx, kl⟩ := E9.2 _ (.head _)
    simp only [Value.slice.injEq] at hsl
    obtain ⟨rfl, _, rfl⟩ := hsl
    rw [← hnl] at hll kl
    have KL := Lib.hid kl
    clear kl hmx hnl
    go_wp2
    go_loopw [51, 97] (fun i _ wr => ∃ k : Nat, i = .int .i64 k ∧ k ≤ nl ∧ Below X3.heap.size X3 wr) (fun i _ _ => nl - (intOf i).toNat)
    case atStart => exact ⟨0, rfl, by omega, Below.refl _ _⟩
    case round =>
      obtain ⟨k, rfl, hk, hbl⟩ := hrel
      have E10 := EX.step hbl
      by_cases hlt : k < nl
      · obtain ⟨ba, oa, hao, hBa, hcell⟩ := KL.out (by omega)
        subst hao
        have c1 : wr.cell? ⟨ba, oa + k, none⟩ = some (.int .i64 (l.getD k 0)) := (hbl.cell (p := ⟨ba, _, none⟩) hBa).trans (hcell k hlt)
        have hkI : (k : Int) < (nl : Int) := by omega
        obtain ⟨y, hy⟩ : ∃ y, y = l.getD k 0 := ⟨_, rfl⟩
        rw [← hy] at c1
        clear hy hcell
        cases hp : has a y <;> cases hq : has b y
        all_goals
          go_wp2_with fail
          refine (cin E10 (.tail _ (.tail _ (.tail _ (.tail _ (.head _))))) y).mono ?_
          rw [hp]
          rintro e W21 ⟨rfl, E21⟩
          go_wp2_with fail
          refine (cin E21 (.tail _ (.tail _ (.tail _ (.tail _ (.tail _ (.head _)))))) y).mono ?_
          rw [hq]
          rintro e W22 ⟨rfl, E22⟩
          go_wp2_with fail
          refine (chas E22 (.tail _ (.tail _ (.tail _ (.tail _ (.head _))))) ga y).mono ?_
          rw [hp]
          rintro e W23 ⟨rfl, E23⟩
          go_wp2_with fail
          refine (cin E23 (.tail _ (.tail _ (.tail _ (.head _)))) y).mono ?_
          rw [has_both, hp, hq]
          rintro e W24 ⟨rfl, E24⟩
          go_wp2_with fail
          refine (cin E24 (.tail _ (.tail _ (.head _))) y).mono ?_
          rw [has_any, hp, hq]
          rintro e W25 ⟨rfl, E25⟩
          go_wp2_with fail
          refine (cin E25 (.tail _ (.head _)) y).mono ?_
          rw [has_minus, hp, hq]
          rintro e W26 ⟨rfl, E26⟩
          have h26 := E26.1
          clear E10 E21 E22 E23 E24 E25 E26 hp hq
          go_wp2
          go_roundw
          case rel => exact ⟨k + 1, by go_num, by omega, h26⟩
          case measure => simp [intOf]; omega
      · go_wp2_with fail
        refine (awake_any _).mono ?_
        rintro e Wz ⟨rfl, hbz⟩
        have hfin := E9.1.trans ((hbl.trans (hbz.mono hbl.size)).mono E9.1.size)
        clear hbz E10 EX E9
        go_wp2
        go_ret
        exact ⟨rfl, hfin⟩
    
end Go.Proofs.Ytbcofpppjjpclaa
