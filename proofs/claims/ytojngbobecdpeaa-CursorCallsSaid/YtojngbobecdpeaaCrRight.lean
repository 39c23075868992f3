/- the document's cursors: which are right. -/
import Derived.Test.YtojngbobecdpeaaCurRight
namespace Go.Proofs.Ytojngbobecdpeaa
open Go Go.RowKit Go.ChangeShapes at_ pm cl
set_option maxHeartbeats 12800000 in
set_option maxRecDepth 100000 in
theorem rr_of (d e : Nat) (z : Int) (hz : z = (d : Int) + 1) (hd : d ≤ 1000) (HR : ∀ (x : Cur) (c : List Value) (w : World), curR e w w.heap.size c x → Calls Try.prog 37 #[.agg c.toArray, .int .i64 (z - 1)] w (Said (x.right d) w))
    (x : Cur) (c : List Value) (w : World) (h : curR (e + 1) w w.heap.size c x) :
    Calls Try.prog 37 #[.agg c.toArray, .int .i64 z] w (Said (x.right (d + 1)) w) := by
  cases x with
  | mk xk xl xa xs =>
  obtain ⟨lo, ln, lc, ko, kn, kc, rfl, hA, hR⟩ := h
  simp only [Cur.k, Cur.l, Cur.a, Cur.ks] at hA hR ⊢
  obtain ⟨hln, hln0, _⟩ := hA.cells
  have hcap : ln ≤ lc := by
    obtain ⟨_, _, e, ⟨_, h2⟩, _⟩ := hA
    simp only [Value.slice.injEq] at e
    omega
  obtain ⟨hkn, hkc, hko, hko0⟩ : kn = xs.length ∧ kn ≤ kc ∧ (ko = none → kc = 0) ∧ kn ≤ 9223372036854775807 := by
    obtain ⟨cs, g0, g1, ⟨g2, ao, c2, e, ⟨g3, g4⟩, g5, g6⟩⟩ := hR
    simp only [Value.slice.injEq] at e
    obtain ⟨rfl, rfl, rfl⟩ := e
    unfold maxLen at g5
    exact ⟨rfl, g4, g3, by omega⟩
  have hlnm : ln ≤ 9223372036854775807 := by
    obtain ⟨_, _, _, _, hm, _⟩ := hA
    unfold maxLen at hm
    omega
  obtain ⟨W2, hW2⟩ : ∃ W, W = w.alloc (.cells #[.int .i64 xk, .slice lo ln lc, .int .i64 xa, .slice ko kn kc] 25) := ⟨_, rfl⟩
  have b2 : Below w.heap.size w W2 := by rw [hW2]; exact below1
  obtain ⟨q0, hq0⟩ : ∃ q, q = w.heap.size := ⟨_, rfl⟩
  have x2 : W2.heap[q0]? = some (.cells #[.int .i64 xk, .slice lo ln lc, .int .i64 xa, .slice ko kn kc] 25) := by
    rw [hW2, hq0]; exact heap_alloc_new _ _
  have HAT : Hid (∀ W, Below W2.heap.size W2 W → At W W.heap.size (.slice lo ln lc) xl) := fun W hW => (hA.below (b2.trans (hW.mono b2.size))).mono (Nat.le_trans b2.size hW.size)
  have HRW : Hid (∀ W, Below W2.heap.size W2 W → RowsAt 4 (curR e) W W.heap.size (.slice ko kn kc) xs) := fun W hW => hR.next (curR_steady e) (b2.trans (hW.mono b2.size))
  have X2 := Lib.hid x2
  have B2 := Lib.hid b2
  have HW2 := Lib.hid hW2
  have HQ0 := Lib.hid hq0
  rw [right_eq, ← hln, ← hkn]
  have HPR : Hid (Calls Try.prog 51 #[.slice lo ln lc] W2 (Said (rightOf xl) W2)) := rright_any xl _ W2 (HAT.out _ (Below.refl _ _))
  have HKN := Lib.hid hkn
  have HH := Lib.hid HR
  obtain ⟨rl, hrl⟩ : ∃ r, r = rightOf xl := ⟨_, rfl⟩
  obtain ⟨rk, hrk⟩ : ∃ r, r = xs.all (Cur.right d) := ⟨_, rfl⟩
  rw [← hrl, ← hrk]
  rw [← hrl] at HPR
  have hz0 : ¬ z < 1 := by omega
  have hzw : IntKind.i64.wrap (z - 1) = z - 1 := IntWalk.i64_in _ (by omega)
  clear hA hR hln hkn b2 hW2 hq0 hrl x2 HR hz hd hln0 hcap hkc hko
  obtain ⟨b, hb⟩ : ∃ b, b = (if xk = 1 then decide (kn = 0) && decide (0 ≤ xa) && decide (xa ≤ (ln : Int)) && decide (ln ≤ 4000) && rl else if xk = 4 ∧ kn = 0 then false else if xk = 2 ∨ xk = 3 ∨ xk = 4 then decide (ln = 0) && decide (xa = 0) && decide (kn ≤ 20) && rk else false) := ⟨_, rfl⟩
  rw [← hb]
  by_cases g20 : 20 < kn
  · have g20i : (20 : Int) < (kn : Int) := by omega
    have e0 : ¬ kn = 0 := by omega
    have e20 : ¬ kn ≤ 20 := by omega
    have hv : b = false := by rw [hb]; simp [e0, e20]
    rw [hv]
    clear hv hb
    go_enter Try.func37, Try.ntmps37
    go_wp2
    rw [← HW2.out]
    go_ret
    exact ⟨rfl, B2.out⟩
  have g20i : ¬ (20 : Int) < (kn : Int) := by omega
  have g20n : kn ≤ 20 := by omega
  by_cases k1 : xk = 1
  · subst k1
    by_cases g1 : kn = 0
    · subst g1
      cases rl with
      | false =>
        have hv : b = false := by rw [hb]; simp []
        rw [hv]
        clear hv hb
        go_enter Try.func37, Try.ntmps37
        go_wp2_with fail
        rw [← HW2.out, ← HQ0.out]
        (with_reducible refine HPR.out.mono ?_)
        rintro e3 w3 ⟨rfl, b3⟩
        have B3 := Lib.hid (B2.out.trans (b3.mono B2.out.size))
        have X3 := Lib.hid ((b3.block _ (lt_of_block X2.out)).trans X2.out)
        have c1 := boxc X3.out 1 _ rfl
        have c2 := boxc X3.out 2 _ rfl
        clear b3
        go_wp2
        go_ret
        exact ⟨rfl, B3.out⟩
      | true =>
        by_cases g4 : ln ≤ 4000
        · have g4i : (ln : Int) ≤ 4000 := by omega
          by_cases g2 : 0 ≤ xa
          · by_cases g3 : xa ≤ (ln : Int)
            · skip
              have hv : b = true := by rw [hb]; simp [g2, g3, g4]
              rw [hv]
              clear hv hb
              go_enter Try.func37, Try.ntmps37
              go_wp2_with fail
              rw [← HW2.out, ← HQ0.out]
              (with_reducible refine HPR.out.mono ?_)
              rintro e3 w3 ⟨rfl, b3⟩
              have B3 := Lib.hid (B2.out.trans (b3.mono B2.out.size))
              have X3 := Lib.hid ((b3.block _ (lt_of_block X2.out)).trans X2.out)
              have c1 := boxc X3.out 1 _ rfl
              have c2 := boxc X3.out 2 _ rfl
              clear b3
              go_wp2
              go_ret
              exact ⟨rfl, B3.out⟩
            · skip
              have hv : b = false := by rw [hb]; simp [g2, g3, g4]
              rw [hv]
              clear hv hb
              go_enter Try.func37, Try.ntmps37
              go_wp2_with fail
              rw [← HW2.out, ← HQ0.out]
              (with_reducible refine HPR.out.mono ?_)
              rintro e3 w3 ⟨rfl, b3⟩
              have B3 := Lib.hid (B2.out.trans (b3.mono B2.out.size))
              have X3 := Lib.hid ((b3.block _ (lt_of_block X2.out)).trans X2.out)
              have c1 := boxc X3.out 1 _ rfl
              have c2 := boxc X3.out 2 _ rfl
              clear b3
              go_wp2
              go_ret
              refine ⟨?_, B3.out⟩
              show Ending.returned (.bool (decide (xa ≤ (ln : Int)))) = _
              rw [decide_eq_false (by omega)]
          · skip
            have hv : b = false := by rw [hb]; simp [g2, g4]
            rw [hv]
            clear hv hb
            go_enter Try.func37, Try.ntmps37
            go_wp2_with fail
            rw [← HW2.out, ← HQ0.out]
            (with_reducible refine HPR.out.mono ?_)
            rintro e3 w3 ⟨rfl, b3⟩
            have B3 := Lib.hid (B2.out.trans (b3.mono B2.out.size))
            have X3 := Lib.hid ((b3.block _ (lt_of_block X2.out)).trans X2.out)
            have c1 := boxc X3.out 1 _ rfl
            have c2 := boxc X3.out 2 _ rfl
            clear b3
            go_wp2
            go_ret
            exact ⟨rfl, B3.out⟩
        · have g4i : ¬ (ln : Int) ≤ 4000 := by omega
          have hv : b = false := by rw [hb]; simp [g4]
          rw [hv]
          clear hv hb
          go_enter Try.func37, Try.ntmps37
          go_wp2_with fail
          rw [← HW2.out, ← HQ0.out]
          (with_reducible refine HPR.out.mono ?_)
          rintro e3 w3 ⟨rfl, b3⟩
          have B3 := Lib.hid (B2.out.trans (b3.mono B2.out.size))
          have X3 := Lib.hid ((b3.block _ (lt_of_block X2.out)).trans X2.out)
          have c1 := boxc X3.out 1 _ rfl
          have c2 := boxc X3.out 2 _ rfl
          clear b3
          go_wp2
          go_ret
          exact ⟨rfl, B3.out⟩
    · have g1i : ¬ (kn : Int) = 0 := by omega
      have hv : b = false := by rw [hb]; simp [g1]
      rw [hv]
      clear hv hb
      go_enter Try.func37, Try.ntmps37
      go_wp2
      rw [← HW2.out]
      go_ret
      exact ⟨rfl, B2.out⟩
  by_cases k2 : xk = 2
  · subst k2
    by_cases g1 : ln = 0
    · subst g1
      by_cases g2 : xa = 0
      · subst g2
        have hv : b = rk := by rw [hb]; simp [g20n]
        rw [hv]
        have HRK := Lib.hid hrk
        clear hv hb hrk
        go_enter Try.func37, Try.ntmps37
        go_wp2
        rw [← HW2.out]
        go_loopw [68, 77] (fun i _ wr => ∃ k : Nat, i = .int .i64 k ∧ k ≤ kn ∧ Hid (∀ j, j < k → (xs.getD j default).right d = true) ∧ Below W2.heap.size W2 wr) (fun i _ _ => kn - (intOf i).toNat)
        case atStart => exact ⟨0, rfl, by omega, fun j hj => absurd hj (Nat.not_lt_zero _), Below.refl _ _⟩
        case round =>
          obtain ⟨k, rfl, hk, HI, hbl⟩ := hrel
          by_cases hlt : k < kn
          · have hkI : (k : Int) < (kn : Int) := by omega
            obtain ⟨y, hy⟩ : ∃ y, y = xs.getD k default := ⟨_, rfl⟩
            obtain ⟨ba, oa, c, rfl, hbB, hcl, hRc, hC⟩ := (HRW.out _ hbl).get HKN.out hlt default
            rw [← hy] at hRc
            obtain ⟨lo3, ln3, lc3, ko3, kn3, kc3, rfl⟩ := cur_form hRc
            have q0' : wr.cell? ⟨ba, oa + k * 4, none⟩ = _ := hC 0 _ rfl
            have q1 := hC 1 _ rfl
            have q2 := hC 2 _ rfl
            have q3 := hC 3 _ rfl
            have hym : y ∈ xs := by
              rw [hy, List.getD_eq_getElem?_getD, List.getElem?_eq_getElem (by rw [← HKN.out]; exact hlt)]; exact List.getElem_mem _
            obtain ⟨W3, hW3⟩ : ∃ W, W = wr.alloc (.cells #[.int .i64 y.k, .slice lo3 ln3 lc3, .int .i64 y.a, .slice ko3 kn3 kc3] 25) := ⟨_, rfl⟩
            have b3 : Below wr.heap.size wr W3 := by rw [hW3]; exact below1
            have hc3 : curR e W3 W3.heap.size [.int .i64 y.k, .slice lo3 ln3 lc3, .int .i64 y.a, .slice ko3 kn3 kc3] y := curR_steady e _ _ _ _ _ _ hRc b3 b3.size
            have HC := Lib.hid (HH.out y _ W3 hc3)
            have B3 := Lib.hid b3
            have HW3 := Lib.hid hW3
            have HBL := Lib.hid hbl
            have HY := Lib.hid hy
            have HYM := Lib.hid hym
            obtain ⟨r, hr⟩ : ∃ r, r = y.right d := ⟨_, rfl⟩
            rw [← hr] at HC
            have HRR := Lib.hid hr
            clear hRc hC hy hcl hbB b3 hW3 hbl hc3 hym hr
            cases r with
            | false =>
              have HF : Hid (rk = false) := by
                show rk = false
                rw [HRK.out]
                refine Bool.eq_false_iff.2 (fun h => ?_)
                have := List.all_eq_true.1 h y HYM.out
                rw [← HRR.out] at this
                exact absurd this (by decide)
              go_wp2_with fail
              rw [← HW3.out]
              (with_reducible refine HC.out.mono ?_)
              rintro e4 w4 ⟨rfl, b4⟩
              have B4 := Lib.hid (B2.out.trans ((HBL.out.trans ((B3.out.trans (b4.mono B3.out.size)).mono HBL.out.size)).mono B2.out.size))
              clear b4
              go_wp2
              go_ret
              rw [HF.out]; exact ⟨rfl, B4.out⟩
            | true =>
              have HI2 : Hid (∀ j, j < k + 1 → (xs.getD j default).right d = true) := fun j hj => by
                by_cases ej : j = k
                · subst ej; rw [← HY.out]; exact HRR.out.symm
                · exact HI.out j (by omega)
              go_wp2_with fail
              rw [← HW3.out]
              (with_reducible refine HC.out.mono ?_)
              rintro e4 w4 ⟨rfl, b4⟩
              have B4 := Lib.hid (HBL.out.trans ((B3.out.trans (b4.mono B3.out.size)).mono HBL.out.size))
              clear b4
              go_wp2
              go_roundw
              case rel => exact ⟨k + 1, by go_num, by omega, HI2, B4.out⟩
              case measure => simp [intOf]; omega
          · have HF : Hid (rk = true) := by
              show rk = true
              rw [HRK.out, List.all_eq_true]
              intro x hx
              obtain ⟨j, hj, rfl⟩ := List.mem_iff_getElem.1 hx
              have := HI.out j (by have := HKN.out; omega)
              rwa [List.getD_eq_getElem?_getD, List.getElem?_eq_getElem hj] at this
            have HBL := Lib.hid (B2.out.trans (hbl.mono B2.out.size))
            clear hbl
            go_wp2
            go_ret
            rw [HF.out]; exact ⟨rfl, HBL.out⟩
      · skip
        have hv : b = false := by rw [hb]; simp [g2]
        rw [hv]
        clear hv hb
        go_enter Try.func37, Try.ntmps37
        go_wp2
        rw [← HW2.out]
        go_ret
        exact ⟨rfl, B2.out⟩
    · have g1i : (0 : Int) < (ln : Int) := by omega
      have g1j : 0 < ln := by omega
      have hv : b = false := by rw [hb]; simp [g1]
      rw [hv]
      clear hv hb
      go_enter Try.func37, Try.ntmps37
      go_wp2
      rw [← HW2.out]
      go_ret
      exact ⟨rfl, B2.out⟩
  by_cases k3 : xk = 3
  · subst k3
    by_cases g1 : ln = 0
    · subst g1
      by_cases g2 : xa = 0
      · subst g2
        have hv : b = rk := by rw [hb]; simp [g20n]
        rw [hv]
        have HRK := Lib.hid hrk
        clear hv hb hrk
        go_enter Try.func37, Try.ntmps37
        go_wp2
        rw [← HW2.out]
        go_loopw [68, 77] (fun i _ wr => ∃ k : Nat, i = .int .i64 k ∧ k ≤ kn ∧ Hid (∀ j, j < k → (xs.getD j default).right d = true) ∧ Below W2.heap.size W2 wr) (fun i _ _ => kn - (intOf i).toNat)
        case atStart => exact ⟨0, rfl, by omega, fun j hj => absurd hj (Nat.not_lt_zero _), Below.refl _ _⟩
        case round =>
          obtain ⟨k, rfl, hk, HI, hbl⟩ := hrel
          by_cases hlt : k < kn
          · have hkI : (k : Int) < (kn : Int) := by omega
            obtain ⟨y, hy⟩ : ∃ y, y = xs.getD k default := ⟨_, rfl⟩
            obtain ⟨ba, oa, c, rfl, hbB, hcl, hRc, hC⟩ := (HRW.out _ hbl).get HKN.out hlt default
            rw [← hy] at hRc
            obtain ⟨lo3, ln3, lc3, ko3, kn3, kc3, rfl⟩ := cur_form hRc
            have q0' : wr.cell? ⟨ba, oa + k * 4, none⟩ = _ := hC 0 _ rfl
            have q1 := hC 1 _ rfl
            have q2 := hC 2 _ rfl
            have q3 := hC 3 _ rfl
            have hym : y ∈ xs := by
              rw [hy, List.getD_eq_getElem?_getD, List.getElem?_eq_getElem (by rw [← HKN.out]; exact hlt)]; exact List.getElem_mem _
            obtain ⟨W3, hW3⟩ : ∃ W, W = wr.alloc (.cells #[.int .i64 y.k, .slice lo3 ln3 lc3, .int .i64 y.a, .slice ko3 kn3 kc3] 25) := ⟨_, rfl⟩
            have b3 : Below wr.heap.size wr W3 := by rw [hW3]; exact below1
            have hc3 : curR e W3 W3.heap.size [.int .i64 y.k, .slice lo3 ln3 lc3, .int .i64 y.a, .slice ko3 kn3 kc3] y := curR_steady e _ _ _ _ _ _ hRc b3 b3.size
            have HC := Lib.hid (HH.out y _ W3 hc3)
            have B3 := Lib.hid b3
            have HW3 := Lib.hid hW3
            have HBL := Lib.hid hbl
            have HY := Lib.hid hy
            have HYM := Lib.hid hym
            obtain ⟨r, hr⟩ : ∃ r, r = y.right d := ⟨_, rfl⟩
            rw [← hr] at HC
            have HRR := Lib.hid hr
            clear hRc hC hy hcl hbB b3 hW3 hbl hc3 hym hr
            cases r with
            | false =>
              have HF : Hid (rk = false) := by
                show rk = false
                rw [HRK.out]
                refine Bool.eq_false_iff.2 (fun h => ?_)
                have := List.all_eq_true.1 h y HYM.out
                rw [← HRR.out] at this
                exact absurd this (by decide)
              go_wp2_with fail
              rw [← HW3.out]
              (with_reducible refine HC.out.mono ?_)
              rintro e4 w4 ⟨rfl, b4⟩
              have B4 := Lib.hid (B2.out.trans ((HBL.out.trans ((B3.out.trans (b4.mono B3.out.size)).mono HBL.out.size)).mono B2.out.size))
              clear b4
              go_wp2
              go_ret
              rw [HF.out]; exact ⟨rfl, B4.out⟩
            | true =>
              have HI2 : Hid (∀ j, j < k + 1 → (xs.getD j default).right d = true) := fun j hj => by
                by_cases ej : j = k
                · subst ej; rw [← HY.out]; exact HRR.out.symm
                · exact HI.out j (by omega)
              go_wp2_with fail
              rw [← HW3.out]
              (with_reducible refine HC.out.mono ?_)
              rintro e4 w4 ⟨rfl, b4⟩
              have B4 := Lib.hid (HBL.out.trans ((B3.out.trans (b4.mono B3.out.size)).mono HBL.out.size))
              clear b4
              go_wp2
              go_roundw
              case rel => exact ⟨k + 1, by go_num, by omega, HI2, B4.out⟩
              case measure => simp [intOf]; omega
          · have HF : Hid (rk = true) := by
              show rk = true
              rw [HRK.out, List.all_eq_true]
              intro x hx
              obtain ⟨j, hj, rfl⟩ := List.mem_iff_getElem.1 hx
              have := HI.out j (by have := HKN.out; omega)
              rwa [List.getD_eq_getElem?_getD, List.getElem?_eq_getElem hj] at this
            have HBL := Lib.hid (B2.out.trans (hbl.mono B2.out.size))
            clear hbl
            go_wp2
            go_ret
            rw [HF.out]; exact ⟨rfl, HBL.out⟩
      · skip
        have hv : b = false := by rw [hb]; simp [g2]
        rw [hv]
        clear hv hb
        go_enter Try.func37, Try.ntmps37
        go_wp2
        rw [← HW2.out]
        go_ret
        exact ⟨rfl, B2.out⟩
    · have g1i : (0 : Int) < (ln : Int) := by omega
      have g1j : 0 < ln := by omega
      have hv : b = false := by rw [hb]; simp [g1]
      rw [hv]
      clear hv hb
      go_enter Try.func37, Try.ntmps37
      go_wp2
      rw [← HW2.out]
      go_ret
      exact ⟨rfl, B2.out⟩
  by_cases k4 : xk = 4
  · subst k4
    by_cases g0 : kn = 0
    · subst g0
      have hv : b = false := by rw [hb]; simp []
      rw [hv]
      clear hv hb
      go_enter Try.func37, Try.ntmps37
      go_wp2
      rw [← HW2.out]
      go_ret
      exact ⟨rfl, B2.out⟩
    have g0i : ¬ (kn : Int) = 0 := by omega
    by_cases g1 : ln = 0
    · subst g1
      by_cases g2 : xa = 0
      · subst g2
        have hv : b = rk := by rw [hb]; simp [g20n, g0]
        rw [hv]
        have HRK := Lib.hid hrk
        clear hv hb hrk
        go_enter Try.func37, Try.ntmps37
        go_wp2
        rw [← HW2.out]
        go_loopw [68, 77] (fun i _ wr => ∃ k : Nat, i = .int .i64 k ∧ k ≤ kn ∧ Hid (∀ j, j < k → (xs.getD j default).right d = true) ∧ Below W2.heap.size W2 wr) (fun i _ _ => kn - (intOf i).toNat)
        case atStart => exact ⟨0, rfl, by omega, fun j hj => absurd hj (Nat.not_lt_zero _), Below.refl _ _⟩
        case round =>
          obtain ⟨k, rfl, hk, HI, hbl⟩ := hrel
          by_cases hlt : k < kn
          · have hkI : (k : Int) < (kn : Int) := by omega
            obtain ⟨y, hy⟩ : ∃ y, y = xs.getD k default := ⟨_, rfl⟩
            obtain ⟨ba, oa, c, rfl, hbB, hcl, hRc, hC⟩ := (HRW.out _ hbl).get HKN.out hlt default
            rw [← hy] at hRc
            obtain ⟨lo3, ln3, lc3, ko3, kn3, kc3, rfl⟩ := cur_form hRc
            have q0' : wr.cell? ⟨ba, oa + k * 4, none⟩ = _ := hC 0 _ rfl
            have q1 := hC 1 _ rfl
            have q2 := hC 2 _ rfl
            have q3 := hC 3 _ rfl
            have hym : y ∈ xs := by
              rw [hy, List.getD_eq_getElem?_getD, List.getElem?_eq_getElem (by rw [← HKN.out]; exact hlt)]; exact List.getElem_mem _
            obtain ⟨W3, hW3⟩ : ∃ W, W = wr.alloc (.cells #[.int .i64 y.k, .slice lo3 ln3 lc3, .int .i64 y.a, .slice ko3 kn3 kc3] 25) := ⟨_, rfl⟩
            have b3 : Below wr.heap.size wr W3 := by rw [hW3]; exact below1
            have hc3 : curR e W3 W3.heap.size [.int .i64 y.k, .slice lo3 ln3 lc3, .int .i64 y.a, .slice ko3 kn3 kc3] y := curR_steady e _ _ _ _ _ _ hRc b3 b3.size
            have HC := Lib.hid (HH.out y _ W3 hc3)
            have B3 := Lib.hid b3
            have HW3 := Lib.hid hW3
            have HBL := Lib.hid hbl
            have HY := Lib.hid hy
            have HYM := Lib.hid hym
            obtain ⟨r, hr⟩ : ∃ r, r = y.right d := ⟨_, rfl⟩
            rw [← hr] at HC
            have HRR := Lib.hid hr
            clear hRc hC hy hcl hbB b3 hW3 hbl hc3 hym hr
            cases r with
            | false =>
              have HF : Hid (rk = false) := by
                show rk = false
                rw [HRK.out]
                refine Bool.eq_false_iff.2 (fun h => ?_)
                have := List.all_eq_true.1 h y HYM.out
                rw [← HRR.out] at this
                exact absurd this (by decide)
              go_wp2_with fail
              rw [← HW3.out]
              (with_reducible refine HC.out.mono ?_)
              rintro e4 w4 ⟨rfl, b4⟩
              have B4 := Lib.hid (B2.out.trans ((HBL.out.trans ((B3.out.trans (b4.mono B3.out.size)).mono HBL.out.size)).mono B2.out.size))
              clear b4
              go_wp2
              go_ret
              rw [HF.out]; exact ⟨rfl, B4.out⟩
            | true =>
              have HI2 : Hid (∀ j, j < k + 1 → (xs.getD j default).right d = true) := fun j hj => by
                by_cases ej : j = k
                · subst ej; rw [← HY.out]; exact HRR.out.symm
                · exact HI.out j (by omega)
              go_wp2_with fail
              rw [← HW3.out]
              (with_reducible refine HC.out.mono ?_)
              rintro e4 w4 ⟨rfl, b4⟩
              have B4 := Lib.hid (HBL.out.trans ((B3.out.trans (b4.mono B3.out.size)).mono HBL.out.size))
              clear b4
              go_wp2
              go_roundw
              case rel => exact ⟨k + 1, by go_num, by omega, HI2, B4.out⟩
              case measure => simp [intOf]; omega
          · have HF : Hid (rk = true) := by
              show rk = true
              rw [HRK.out, List.all_eq_true]
              intro x hx
              obtain ⟨j, hj, rfl⟩ := List.mem_iff_getElem.1 hx
              have := HI.out j (by have := HKN.out; omega)
              rwa [List.getD_eq_getElem?_getD, List.getElem?_eq_getElem hj] at this
            have HBL := Lib.hid (B2.out.trans (hbl.mono B2.out.size))
            clear hbl
            go_wp2
            go_ret
            rw [HF.out]; exact ⟨rfl, HBL.out⟩
      · skip
        have hv : b = false := by rw [hb]; simp [g2, g0]
        rw [hv]
        clear hv hb
        go_enter Try.func37, Try.ntmps37
        go_wp2
        rw [← HW2.out]
        go_ret
        exact ⟨rfl, B2.out⟩
    · have g1i : (0 : Int) < (ln : Int) := by omega
      have g1j : 0 < ln := by omega
      have hv : b = false := by rw [hb]; simp [g1, g0]
      rw [hv]
      clear hv hb
      go_enter Try.func37, Try.ntmps37
      go_wp2
      rw [← HW2.out]
      go_ret
      exact ⟨rfl, B2.out⟩
  skip
  have hv : b = false := by rw [hb]; simp [k1, k2, k3, k4]
  rw [hv]
  clear hv hb
  go_enter Try.func37, Try.ntmps37
  go_wp2
  rw [← HW2.out]
  go_ret
  exact ⟨rfl, B2.out⟩
theorem rr_z (x : Cur) (c : List Value) (w : World) (e : Nat) (h : curR e w w.heap.size c x) :
    Calls Try.prog 37 #[.agg c.toArray, .int .i64 0] w (Said (x.right 0) w) := by
  have hr0 : x.right 0 = false := by cases x; rfl
  rw [hr0]
  obtain ⟨lo, ln, lc, ko, kn, kc, rfl⟩ := cur_form h
  clear h hr0
  go_enter Try.func37, Try.ntmps37
  go_wp2
  go_ret
  exact ⟨rfl, below1⟩
theorem rr_cu : ∀ (d e : Nat) (z : Int) (x : Cur) (c : List Value) (w : World), z = (d : Int) → d ≤ 1000 → curR e w w.heap.size c x → Calls Try.prog 37 #[.agg c.toArray, .int .i64 z] w (Said (x.right d) w)
  | 0, e, z, x, c, w, hz, _, h => by
    obtain rfl : z = 0 := by omega
    exact rr_z x c w e h
  | d + 1, 0, _, _, _, _, _, _, h => h.elim
  | d + 1, e + 1, z, x, c, w, hz, hd, h => rr_of d e z (by omega) (by omega) (fun x c w hx => rr_cu d e (z - 1) x c w (by omega) (by omega) hx) x c w h
set_option maxHeartbeats 1600000 in
set_option maxRecDepth 100000 in
theorem rright_cu (e : Nat) (x : Cur) (c : List Value) (w : World) (h : curR e w w.heap.size c x) : Calls Try.prog 13 #[.agg c.toArray] w (Said (x.right 8) w) := by
  have HR : Hid (∀ W, Below w.heap.size w W → Calls Try.prog 37 #[.agg c.toArray, .int .i64 8] W (Said (x.right 8) W)) := fun W hW => rr_cu 8 e 8 x c W rfl (by omega) (curR_steady e _ _ _ _ _ _ h hW hW.size)
  obtain ⟨b, hb⟩ : ∃ b, b = x.right 8 := ⟨_, rfl⟩
  rw [← hb] at HR ⊢
  obtain ⟨lo, ln, lc, ko, kn, kc, rfl⟩ := cur_form h
  obtain ⟨W2, hW2⟩ : ∃ W, W = w.alloc (.cells #[.int .i64 x.k, .slice lo ln lc, .int .i64 x.a, .slice ko kn kc] 25) := ⟨_, rfl⟩
  have b2 : Below w.heap.size w W2 := by rw [hW2]; exact below1
  have HC := Lib.hid (HR.out _ b2)
  have HW2 := Lib.hid hW2
  have B2 := Lib.hid b2
  clear h hb b2 hW2
  go_enter Try.func13, Try.ntmps13
  go_wp2_with fail
  rw [← HW2.out]
  (with_reducible refine HC.out.mono ?_)
  rintro e w3 ⟨rfl, b3⟩
  go_wp2
  go_ret
  exact ⟨rfl, B2.out.trans (b3.mono B2.out.size)⟩
end Go.Proofs.Ytojngbobecdpeaa
