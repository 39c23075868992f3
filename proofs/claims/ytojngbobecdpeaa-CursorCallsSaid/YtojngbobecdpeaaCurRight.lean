/- cursors: which are right. -/
import Derived.Test.YtojngbobecdpeaaCurForth
namespace Go.Proofs.Ytojngbobecdpeaa
open Go Go.RowKit Go.ChangeShapes at_ pm cl
set_option maxHeartbeats 3200000 in
set_option maxRecDepth 100000 in
theorem rkids_of (d e : Nat) (z : Int) (HR : ∀ (x : Cur) (c : List Value) (w : World), curR e w w.heap.size c x → Calls Try.prog 36 #[.agg c.toArray, .int .i64 z] w (Said (x.right d) w))
    (l : List Cur) (v : Value) (w : World) (h : RowsAt 4 (curR e) w w.heap.size v l) :
    Calls Try.prog 50 #[v, .int .i64 z] w (Said (l.all (Cur.right d)) w) := by
  obtain ⟨m, hm⟩ : ∃ m, m = l.length := ⟨_, rfl⟩
  obtain ⟨ao, cap, rfl, hnc, hnm⟩ := h.form' hm
  unfold maxLen at hnm
  obtain ⟨b, hb⟩ : ∃ b, b = l.all (Cur.right d) := ⟨_, rfl⟩
  rw [← hb]
  have HB := Lib.hid hb
  have HL := Lib.hid h
  have HM := Lib.hid hm
  have HH := Lib.hid HR
  clear h hm HR hb
  go_enter Try.func50, Try.ntmps50
  go_wp2
  go_loopw [9, 17] (fun i _ wr => ∃ k : Nat, i = .int .i64 k ∧ k ≤ m ∧ Hid (∀ j, j < k → (l.getD j default).right d = true) ∧ Below w.heap.size w wr) (fun i _ _ => m - (intOf i).toNat)
  case atStart => exact ⟨0, rfl, by omega, fun j hj => absurd hj (Nat.not_lt_zero _), Below.refl _ _⟩
  case round =>
    obtain ⟨k, rfl, hk, HI, hbl⟩ := hrel
    by_cases hlt : k < m
    · skip
      have hkI : (k : Int) < (m : Int) := by omega
      obtain ⟨x, hx⟩ : ∃ x, x = l.getD k default := ⟨_, rfl⟩
      obtain ⟨ba, oa, c, rfl, hbB, hcl, hR, hC⟩ := (HL.out.next (curR_steady e) hbl).get HM.out hlt default
      rw [← hx] at hR
      obtain ⟨lo, ln, lc, ko, kn, kc, rfl⟩ := cur_form hR
      have q0 : wr.cell? ⟨ba, oa + k * 4, none⟩ = _ := hC 0 _ rfl
      have q1 := hC 1 _ rfl
      have q2 := hC 2 _ rfl
      have q3 := hC 3 _ rfl
      have hxl : k < l.length := by rw [← HM.out]; exact hlt
      have hxe : x = l[k] := by rw [hx, List.getD_eq_getElem?_getD, List.getElem?_eq_getElem hxl]; rfl
      obtain ⟨W2, hW2⟩ : ∃ W, W = wr.alloc (.cells #[.int .i64 x.k, .slice lo ln lc, .int .i64 x.a, .slice ko kn kc] 25) := ⟨_, rfl⟩
      have b2 : Below wr.heap.size wr W2 := by rw [hW2]; exact below1
      have B2 := Lib.hid b2
      have HW2 := Lib.hid hW2
      have HBL := Lib.hid hbl
      have HC := Lib.hid (HH.out x _ W2 (curR_steady e _ _ _ _ _ _ hR b2 b2.size))
      have HX : Hid (x ∈ l) := by show x ∈ l; rw [hxe]; exact List.getElem_mem _
      have HXX := Lib.hid hx
      clear hxe hxl
      clear hR hC hx hcl hbB b2 hW2 hbl
      obtain ⟨r, hr⟩ : ∃ r, r = x.right d := ⟨_, rfl⟩
      rw [← hr] at HC
      have HRR := Lib.hid hr
      clear hr
      cases r with
      | false =>
        have HF : Hid (b = false) := by
          show b = false
          rw [HB.out]
          refine Bool.eq_false_iff.2 (fun h => ?_)
          have := List.all_eq_true.1 h x HX.out
          rw [← HRR.out] at this
          exact absurd this (by decide)
        go_wp2_with fail
        rw [← HW2.out]
        (with_reducible refine HC.out.mono ?_)
        rintro e w3 ⟨rfl, b3⟩
        have B3 := Lib.hid (HBL.out.trans ((B2.out.trans (b3.mono B2.out.size)).mono HBL.out.size))
        clear b3
        go_wp2
        go_ret
        rw [HF.out]; exact ⟨rfl, B3.out⟩
      | true =>
        have HI2 : Hid (∀ j, j < k + 1 → (l.getD j default).right d = true) := fun j hj => by
          by_cases ej : j = k
          · subst ej; rw [← HXX.out]; exact HRR.out.symm
          · exact HI.out j (by omega)
        go_wp2_with fail
        rw [← HW2.out]
        (with_reducible refine HC.out.mono ?_)
        rintro e w3 ⟨rfl, b3⟩
        have B3 := Lib.hid (HBL.out.trans ((B2.out.trans (b3.mono B2.out.size)).mono HBL.out.size))
        clear b3
        go_wp2
        go_roundw
        case rel => exact ⟨k + 1, by go_num, by omega, HI2, B3.out⟩
        case measure => simp [intOf]; omega
    · have HF : Hid (b = true) := by
        show b = true
        rw [HB.out, List.all_eq_true]
        intro x hx
        obtain ⟨j, hj, rfl⟩ := List.mem_iff_getElem.1 hx
        have := HI.out j (by have := HM.out; omega)
        rwa [List.getD_eq_getElem?_getD, List.getElem?_eq_getElem hj] at this
      have HBL := Lib.hid hbl
      clear hbl
      go_wp2
      go_ret
      rw [HF.out]; exact ⟨rfl, HBL.out⟩
theorem right_eq (d : Nat) (k : Int) (l : List Int) (a : Int) (ks : List Cur) : Cur.right (d + 1) (.mk k l a ks) = (if k = 1 then decide (ks.length = 0) && decide (0 ≤ a) && decide (a ≤ (l.length : Int)) && decide (l.length ≤ 4000) && rightOf l
      else if k = 4 ∧ ks.length = 0 then false
      else if k = 2 ∨ k = 3 ∨ k = 4 then decide (l.length = 0) && decide (a = 0) && decide (ks.length ≤ 20) && ks.all (Cur.right d)
      else false) := rfl
set_option maxHeartbeats 6400000 in
set_option maxRecDepth 100000 in
theorem right_of (d e : Nat) (z : Int) (hz : z = (d : Int) + 1) (hd : d ≤ 1000) (HK : ∀ (l : List Cur) (v : Value) (w : World), RowsAt 4 (curR e) w w.heap.size v l → Calls Try.prog 50 #[v, .int .i64 (z - 1)] w (Said (l.all (Cur.right d)) w))
    (x : Cur) (c : List Value) (w : World) (h : curR (e + 1) w w.heap.size c x) :
    Calls Try.prog 36 #[.agg c.toArray, .int .i64 z] w (Said (x.right (d + 1)) w) := by
  cases x with
  | mk xk xl xa xs =>
  obtain ⟨lo, ln, lc, ko, kn, kc, rfl, hA, hR⟩ := h
  rw [right_eq]
  simp only [Cur.k, Cur.l, Cur.a, Cur.ks] at hA hR ⊢
  obtain ⟨hln, _, _⟩ := hA.cells
  have hkn : kn = xs.length := by
    obtain ⟨_, _, e, _, _⟩ := hR.form
    simp only [Value.slice.injEq] at e
    exact e.2.1
  have hknm : kn ≤ 9223372036854775807 := by
    obtain ⟨_, _, _, _, hm⟩ := hR.form
    unfold maxLen at hm
    omega
  have hlnm : ln ≤ 9223372036854775807 := by
    obtain ⟨_, _, _, _, hm, _⟩ := hA
    unfold maxLen at hm
    omega
  rw [← hln, ← hkn]
  obtain ⟨W2, hW2⟩ : ∃ W, W = w.alloc (.cells #[.int .i64 xk, .slice lo ln lc, .int .i64 xa, .slice ko kn kc] 25) := ⟨_, rfl⟩
  have b2 : Below w.heap.size w W2 := by rw [hW2]; exact below1
  obtain ⟨q0, hq0⟩ : ∃ q, q = w.heap.size := ⟨_, rfl⟩
  have x2 : W2.heap[q0]? = some (.cells #[.int .i64 xk, .slice lo ln lc, .int .i64 xa, .slice ko kn kc] 25) := by
    rw [hW2, hq0]; exact heap_alloc_new _ _
  have HPR : Hid (Calls Try.prog 26 #[.slice lo ln lc] W2 (Said (rightOf xl) W2)) := pright_any xl _ W2 ((hA.below b2).mono b2.size)
  have HKK : Hid (Calls Try.prog 50 #[.slice ko kn kc, .int .i64 (z - 1)] W2 (Said (xs.all (Cur.right d)) W2)) := HK xs _ W2 (hR.next (curR_steady e) b2)
  obtain ⟨rl, hrl⟩ : ∃ r, r = rightOf xl := ⟨_, rfl⟩
  obtain ⟨rk, hrk⟩ : ∃ r, r = xs.all (Cur.right d) := ⟨_, rfl⟩
  rw [← hrl, ← hrk]
  rw [← hrl] at HPR
  rw [← hrk] at HKK
  have HX2 := Lib.hid x2
  have B2 := Lib.hid b2
  have HW2 := Lib.hid hW2
  have HQ0 := Lib.hid hq0
  have hz0 : ¬ z = 0 := by omega
  have hzw : IntKind.i64.wrap (z - 1) = z - 1 := IntWalk.i64_in _ (by omega)
  have c0 := boxc x2 0 _ rfl
  have c1 := boxc x2 1 _ rfl
  have c2 := boxc x2 2 _ rfl
  have c3 := boxc x2 3 _ rfl
  clear hA hR hln hkn b2 hW2 hq0 hrl hrk x2 HK hz hd
  obtain ⟨b, hb⟩ : ∃ b, b = (if xk = 1 then decide (kn = 0) && decide (0 ≤ xa) && decide (xa ≤ (ln : Int)) && decide (ln ≤ 4000) && rl else if xk = 4 ∧ kn = 0 then false else if xk = 2 ∨ xk = 3 ∨ xk = 4 then decide (ln = 0) && decide (xa = 0) && decide (kn ≤ 20) && rk else false) := ⟨_, rfl⟩
  rw [← hb]
  by_cases k1 : xk = 1
  · subst k1
    by_cases g1 : kn = 0
    · skip
      subst g1
      by_cases g2 : 0 ≤ xa
      · skip
        by_cases g3 : xa ≤ (ln : Int)
        · skip
          by_cases g4 : ln ≤ 4000
          · skip
            have g4i : (ln : Int) ≤ 4000 := by omega
            have hv : b = rl := by rw [hb]; simp [g2, g3, g4]
            rw [hv]
            clear hv hb
            go_enter Try.func36, Try.ntmps36
            go_wp2_with fail
            rw [← HW2.out]
            (with_reducible refine HPR.out.mono ?_)
            rintro e w3 ⟨rfl, b3⟩
            go_wp2
            go_ret
            exact ⟨rfl, B2.out.trans (b3.mono B2.out.size)⟩
          · skip
            have g4i : ¬ (ln : Int) ≤ 4000 := by omega
            have hv : b = false := by rw [hb]; simp [g2, g3, g4]
            rw [hv]
            clear hv hb
            go_enter Try.func36, Try.ntmps36
            go_wp2
            rw [← HW2.out]
            go_ret
            exact ⟨rfl, B2.out⟩
        · skip
          have hv : b = false := by rw [hb]; simp [g2, g3]
          rw [hv]
          clear hv hb
          go_enter Try.func36, Try.ntmps36
          go_wp2
          rw [← HW2.out]
          go_ret
          exact ⟨rfl, B2.out⟩
      · skip
        have hv : b = false := by rw [hb]; simp [g2]
        rw [hv]
        clear hv hb
        go_enter Try.func36, Try.ntmps36
        go_wp2
        rw [← HW2.out]
        go_ret
        exact ⟨rfl, B2.out⟩
    · skip
      have hv : b = false := by rw [hb]; simp [g1]
      rw [hv]
      clear hv hb
      go_enter Try.func36, Try.ntmps36
      go_wp2
      rw [← HW2.out]
      go_ret
      exact ⟨rfl, B2.out⟩
  by_cases k4 : xk = 4
  · subst k4
    by_cases g0 : kn = 0
    · subst g0
      have hv : b = false := by rw [hb]; simp
      rw [hv]
      clear hv hb
      go_enter Try.func36, Try.ntmps36
      go_wp2
      rw [← HW2.out]
      go_ret
      exact ⟨rfl, B2.out⟩
    · have g0i : ¬ (kn : Int) = 0 := by omega
      by_cases g1 : ln = 0
      · skip
        subst g1
        by_cases g2 : xa = 0
        · skip
          subst g2
          by_cases g3 : kn ≤ 20
          · skip
            have g3i : (kn : Int) ≤ 20 := by omega
            have hv : b = rk := by rw [hb]; simp [g0, g3]
            rw [hv]
            clear hv hb
            go_enter Try.func36, Try.ntmps36
            go_wp2_with fail
            rw [← HW2.out]
            (with_reducible refine HKK.out.mono ?_)
            rintro e w3 ⟨rfl, b3⟩
            go_wp2
            go_ret
            exact ⟨rfl, B2.out.trans (b3.mono B2.out.size)⟩
          · skip
            have g3i : ¬ (kn : Int) ≤ 20 := by omega
            have hv : b = false := by rw [hb]; simp [g0, g3]
            rw [hv]
            clear hv hb
            go_enter Try.func36, Try.ntmps36
            go_wp2
            rw [← HW2.out]
            go_ret
            exact ⟨rfl, B2.out⟩
        · skip
          have hv : b = false := by rw [hb]; simp [g0, g2]
          rw [hv]
          clear hv hb
          go_enter Try.func36, Try.ntmps36
          go_wp2
          rw [← HW2.out]
          go_ret
          exact ⟨rfl, B2.out⟩
      · skip
        have hv : b = false := by rw [hb]; simp [g0, g1]
        rw [hv]
        clear hv hb
        go_enter Try.func36, Try.ntmps36
        go_wp2
        rw [← HW2.out]
        go_ret
        exact ⟨rfl, B2.out⟩
  by_cases k2 : xk = 2
  · subst k2
    by_cases g1 : ln = 0
    · skip
      subst g1
      by_cases g2 : xa = 0
      · skip
        subst g2
        by_cases g3 : kn ≤ 20
        · skip
          have g3i : (kn : Int) ≤ 20 := by omega
          have hv : b = rk := by rw [hb]; simp [g3]
          rw [hv]
          clear hv hb
          go_enter Try.func36, Try.ntmps36
          go_wp2_with fail
          rw [← HW2.out]
          (with_reducible refine HKK.out.mono ?_)
          rintro e w3 ⟨rfl, b3⟩
          go_wp2
          go_ret
          exact ⟨rfl, B2.out.trans (b3.mono B2.out.size)⟩
        · skip
          have g3i : ¬ (kn : Int) ≤ 20 := by omega
          have hv : b = false := by rw [hb]; simp [g3]
          rw [hv]
          clear hv hb
          go_enter Try.func36, Try.ntmps36
          go_wp2
          rw [← HW2.out]
          go_ret
          exact ⟨rfl, B2.out⟩
      · skip
        have hv : b = false := by rw [hb]; simp [g2]
        rw [hv]
        clear hv hb
        go_enter Try.func36, Try.ntmps36
        go_wp2
        rw [← HW2.out]
        go_ret
        exact ⟨rfl, B2.out⟩
    · skip
      have hv : b = false := by rw [hb]; simp [g1]
      rw [hv]
      clear hv hb
      go_enter Try.func36, Try.ntmps36
      go_wp2
      rw [← HW2.out]
      go_ret
      exact ⟨rfl, B2.out⟩
  by_cases k3 : xk = 3
  · subst k3
    by_cases g1 : ln = 0
    · skip
      subst g1
      by_cases g2 : xa = 0
      · skip
        subst g2
        by_cases g3 : kn ≤ 20
        · skip
          have g3i : (kn : Int) ≤ 20 := by omega
          have hv : b = rk := by rw [hb]; simp [g3]
          rw [hv]
          clear hv hb
          go_enter Try.func36, Try.ntmps36
          go_wp2_with fail
          rw [← HW2.out]
          (with_reducible refine HKK.out.mono ?_)
          rintro e w3 ⟨rfl, b3⟩
          go_wp2
          go_ret
          exact ⟨rfl, B2.out.trans (b3.mono B2.out.size)⟩
        · skip
          have g3i : ¬ (kn : Int) ≤ 20 := by omega
          have hv : b = false := by rw [hb]; simp [g3]
          rw [hv]
          clear hv hb
          go_enter Try.func36, Try.ntmps36
          go_wp2
          rw [← HW2.out]
          go_ret
          exact ⟨rfl, B2.out⟩
      · skip
        have hv : b = false := by rw [hb]; simp [g2]
        rw [hv]
        clear hv hb
        go_enter Try.func36, Try.ntmps36
        go_wp2
        rw [← HW2.out]
        go_ret
        exact ⟨rfl, B2.out⟩
    · skip
      have hv : b = false := by rw [hb]; simp [g1]
      rw [hv]
      clear hv hb
      go_enter Try.func36, Try.ntmps36
      go_wp2
      rw [← HW2.out]
      go_ret
      exact ⟨rfl, B2.out⟩
  have hv : b = false := by rw [hb]; simp [k1, k2, k3, k4]
  rw [hv]
  clear hv hb
  go_enter Try.func36, Try.ntmps36
  go_wp2
  rw [← HW2.out]
  go_ret
  exact ⟨rfl, B2.out⟩
theorem right_z (x : Cur) (c : List Value) (w : World) (e : Nat) (h : curR e w w.heap.size c x) :
    Calls Try.prog 36 #[.agg c.toArray, .int .i64 0] w (Said (x.right 0) w) := by
  have hr0 : x.right 0 = false := by cases x; rfl
  rw [hr0]
  obtain ⟨lo, ln, lc, ko, kn, kc, rfl⟩ := cur_form h
  clear h hr0
  go_enter Try.func36, Try.ntmps36
  go_wp2
  go_ret
  exact ⟨rfl, below1⟩
theorem right_cu : ∀ (d e : Nat) (z : Int) (x : Cur) (c : List Value) (w : World), z = (d : Int) → d ≤ 1000 → curR e w w.heap.size c x → Calls Try.prog 36 #[.agg c.toArray, .int .i64 z] w (Said (x.right d) w)
  | 0, e, z, x, c, w, hz, _, h => by
    obtain rfl : z = 0 := by omega
    exact right_z x c w e h
  | d + 1, 0, _, _, _, _, _, _, h => h.elim
  | d + 1, e + 1, z, x, c, w, hz, hd, h => right_of d e z (by omega) (by omega) (fun l v w hl => rkids_of d e (z - 1) (fun x c w hx => right_cu d e (z - 1) x c w (by omega) (by omega) hx) l v w hl) x c w h
set_option maxHeartbeats 1600000 in
set_option maxRecDepth 100000 in
theorem cright_any (e : Nat) (x : Cur) (c : List Value) (w : World) (h : curR e w w.heap.size c x) : Calls Try.prog 12 #[.agg c.toArray] w (Said (x.right 8) w) := by
  have HR : Hid (∀ W, Below w.heap.size w W → Calls Try.prog 36 #[.agg c.toArray, .int .i64 8] W (Said (x.right 8) W)) := fun W hW => right_cu 8 e 8 x c W rfl (by omega) (curR_steady e _ _ _ _ _ _ h hW hW.size)
  obtain ⟨b, hb⟩ : ∃ b, b = x.right 8 := ⟨_, rfl⟩
  rw [← hb] at HR ⊢
  obtain ⟨lo, ln, lc, ko, kn, kc, rfl⟩ := cur_form h
  obtain ⟨W2, hW2⟩ : ∃ W, W = w.alloc (.cells #[.int .i64 x.k, .slice lo ln lc, .int .i64 x.a, .slice ko kn kc] 25) := ⟨_, rfl⟩
  have b2 : Below w.heap.size w W2 := by rw [hW2]; exact below1
  have HC := Lib.hid (HR.out _ b2)
  have HW2 := Lib.hid hW2
  have B2 := Lib.hid b2
  clear h hb b2 hW2
  go_enter Try.func12, Try.ntmps12
  go_wp2_with fail
  rw [← HW2.out]
  (with_reducible refine HC.out.mono ?_)
  rintro e w3 ⟨rfl, b3⟩
  go_wp2
  go_ret
  exact ⟨rfl, B2.out.trans (b3.mono B2.out.size)⟩
end Go.Proofs.Ytojngbobecdpeaa
