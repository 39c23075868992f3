/- the law's same, of two cursors that are: true. -/
import Derived.Test.YtojngbobecdpeaaCurLaw0
namespace Go.Proofs.Ytojngbobecdpeaa
open Go Go.RowKit Go.ChangeShapes at_ pm cl
set_option maxHeartbeats 6400000 in
set_option maxRecDepth 100000 in
theorem same_of (d : Nat) (HH : ∀ (x : Cur) (c1 c2 : List Value) (w : World), curR d w w.heap.size c1 x → curR d w w.heap.size c2 x → Calls Try.prog 14 #[.agg c1.toArray, .agg c2.toArray] w (Said true w))
    (x : Cur) (c1 c2 : List Value) (w : World) (h1 : curR (d + 1) w w.heap.size c1 x) (h2 : curR (d + 1) w w.heap.size c2 x) : Calls Try.prog 14 #[.agg c1.toArray, .agg c2.toArray] w (Said true w) := by
  cases x with
  | mk xk xl xa xs =>
  obtain ⟨lo, ln, lc, ko, kn, kc, rfl, hA, hK⟩ := h1
  obtain ⟨lo2, ln2, lc2, ko2, kn2, kc2, rfl, hA2, hK2⟩ := h2
  simp only [Cur.k, Cur.l, Cur.a, Cur.ks] at hA hK hA2 hK2 ⊢
  have hkn : kn = xs.length := by
    obtain ⟨_, _, e, _, _⟩ := hK.form
    simp only [Value.slice.injEq] at e
    exact e.2.1
  have hkn2 : kn2 = xs.length := by
    obtain ⟨_, _, e, _, _⟩ := hK2.form
    simp only [Value.slice.injEq] at e
    exact e.2.1
  have hknm : kn ≤ 9223372036854775807 := by
    obtain ⟨_, _, _, _, hm⟩ := hK.form
    unfold maxLen at hm
    omega
  obtain rfl : kn = kn2 := by omega
  obtain ⟨W2, hW2⟩ : ∃ W, W = (w.alloc (.cells #[.int .i64 xk, .slice lo ln lc, .int .i64 xa, .slice ko kn kc] 25)).alloc (.cells #[.int .i64 xk, .slice lo2 ln2 lc2, .int .i64 xa, .slice ko2 kn kc2] 25) := ⟨_, rfl⟩
  have b2 : Below w.heap.size w W2 := by rw [hW2]; exact below1.trans (below1.mono (by simp))
  obtain ⟨q0, hq0⟩ : ∃ q, q = w.heap.size := ⟨_, rfl⟩
  have x2 : W2.heap[q0]? = some (.cells #[.int .i64 xk, .slice lo ln lc, .int .i64 xa, .slice ko kn kc] 25) := by
    rw [hW2]; exact (below1.block q0 (by rw [World.size_alloc, hq0]; omega)).trans (by rw [hq0]; exact heap_alloc_new _ _)
  have x3 : W2.heap[q0 + 1]? = some (.cells #[.int .i64 xk, .slice lo2 ln2 lc2, .int .i64 xa, .slice ko2 kn kc2] 25) := by
    have : q0 + 1 = (w.alloc (.cells #[.int .i64 xk, .slice lo ln lc, .int .i64 xa, .slice ko kn kc] 25)).heap.size := by rw [World.size_alloc, hq0]
    rw [hW2, this]; exact heap_alloc_new _ _
  have HIN := Lib.hid (ints_same xl _ _ W2 ((hA.below b2).mono b2.size) ((hA2.below b2).mono b2.size))
  have HK1 : Hid (∀ W, Below w.heap.size w W → RowsAt 4 (curR d) W W.heap.size (.slice ko kn kc) xs) := fun W hW => hK.next (curR_steady d) hW
  have HK2 : Hid (∀ W, Below w.heap.size w W → RowsAt 4 (curR d) W W.heap.size (.slice ko2 kn kc2) xs) := fun W hW => hK2.next (curR_steady d) hW
  have X2 := Lib.hid x2
  have X3 := Lib.hid x3
  have B2 := Lib.hid b2
  have HW2 := Lib.hid hW2
  have HQ0 := Lib.hid hq0
  have HKN := Lib.hid hkn
  have HH := Lib.hid HH
  have c0 := boxc x2 0 _ rfl
  have c1 := boxc x2 1 _ rfl
  have c2 := boxc x2 2 _ rfl
  have d0 := boxc x3 0 _ rfl
  have d1 := boxc x3 1 _ rfl
  have d2 := boxc x3 2 _ rfl
  clear hA hK hA2 hK2 hkn hkn2 x2 x3 b2
  rw [hW2, hq0] at c0 c1 c2 d0 d1 d2
  clear hW2 hq0
  go_enter Try.func14, Try.ntmps14
  go_wp2_with fail
  rw [← HW2.out, ← HQ0.out]
  (with_reducible refine HIN.out.mono ?_)
  rintro e3 w3 ⟨rfl, b3⟩
  have B3 := Lib.hid (B2.out.trans (b3.mono B2.out.size))
  have XW := Lib.hid ((b3.block _ (lt_of_block X2.out)).trans X2.out)
  have YW := Lib.hid ((b3.block _ (lt_of_block X3.out)).trans X3.out)
  have c3 := boxc XW.out 3 _ rfl
  have d3 := boxc YW.out 3 _ rfl
  clear b3 c0 c1 c2 d0 d1 d2
  go_wp2
  clear c3 d3
  go_loopw [38, 53] (fun i _ wr => ∃ k : Nat, i = .int .i64 k ∧ k ≤ kn ∧ Below w3.heap.size w3 wr) (fun i _ _ => kn - (intOf i).toNat)
  case atStart => exact ⟨0, rfl, Nat.zero_le _, Below.refl _ _⟩
  case round =>
    obtain ⟨k, rfl, hk, hbl⟩ := hrel
    have HBL := Lib.hid hbl
    have BW : Hid (Below w.heap.size w wr) := B3.out.trans (hbl.mono B3.out.size)
    have XR := Lib.hid ((hbl.block _ (lt_of_block XW.out)).trans XW.out)
    have YR := Lib.hid ((hbl.block _ (lt_of_block YW.out)).trans YW.out)
    clear hbl
    by_cases hlt : k < kn
    · have hkI : (k : Int) < (kn : Int) := by omega
      obtain ⟨y, hy⟩ : ∃ y, y = xs.getD k default := ⟨_, rfl⟩
      obtain ⟨ba, oa, c1, rfl, hb1, hl1, hR1, hC1⟩ := (HK1.out wr BW.out).get HKN.out hlt default
      rw [← hy] at hR1
      obtain ⟨lo3, ln3, lc3, ko3, kn3, kc3, rfl⟩ := cur_form hR1
      have HC1 : Hid (∀ W, Below wr.heap.size wr W → W.cell? ⟨ba, oa + k * 4, none⟩ = some (.int .i64 y.k) ∧ W.cell? ⟨ba, oa + k * 4 + 1, none⟩ = some (.slice lo3 ln3 lc3) ∧ W.cell? ⟨ba, oa + k * 4 + 2, none⟩ = some (.int .i64 y.a) ∧ W.cell? ⟨ba, oa + k * 4 + 3, none⟩ = some (.slice ko3 kn3 kc3)) := fun W hW =>
        ⟨(hW.cell (p := ⟨ba, _, none⟩) hb1).trans (hC1 0 _ rfl), (hW.cell (p := ⟨ba, _, none⟩) hb1).trans (hC1 1 _ rfl), (hW.cell (p := ⟨ba, _, none⟩) hb1).trans (hC1 2 _ rfl), (hW.cell (p := ⟨ba, _, none⟩) hb1).trans (hC1 3 _ rfl)⟩
      obtain ⟨bb, ob, c2, rfl, hb2, hl2, hR2, hC2⟩ := (HK2.out wr BW.out).get HKN.out hlt default
      rw [← hy] at hR2
      obtain ⟨lo4, ln4, lc4, ko4, kn4, kc4, rfl⟩ := cur_form hR2
      have HC2 : Hid (∀ W, Below wr.heap.size wr W → W.cell? ⟨bb, ob + k * 4, none⟩ = some (.int .i64 y.k) ∧ W.cell? ⟨bb, ob + k * 4 + 1, none⟩ = some (.slice lo4 ln4 lc4) ∧ W.cell? ⟨bb, ob + k * 4 + 2, none⟩ = some (.int .i64 y.a) ∧ W.cell? ⟨bb, ob + k * 4 + 3, none⟩ = some (.slice ko4 kn4 kc4)) := fun W hW =>
        ⟨(hW.cell (p := ⟨bb, _, none⟩) hb2).trans (hC2 0 _ rfl), (hW.cell (p := ⟨bb, _, none⟩) hb2).trans (hC2 1 _ rfl), (hW.cell (p := ⟨bb, _, none⟩) hb2).trans (hC2 2 _ rfl), (hW.cell (p := ⟨bb, _, none⟩) hb2).trans (hC2 3 _ rfl)⟩
      have HC : Hid (∀ W, Below wr.heap.size wr W → Calls Try.prog 14 #[.agg #[.int .i64 y.k, .slice lo3 ln3 lc3, .int .i64 y.a, .slice ko3 kn3 kc3], .agg #[.int .i64 y.k, .slice lo4 ln4 lc4, .int .i64 y.a, .slice ko4 kn4 kc4]] W (Said true W)) := fun W hW =>
        HH.out y _ _ W (curR_steady d _ _ _ _ _ _ hR1 hW hW.size) (curR_steady d _ _ _ _ _ _ hR2 hW hW.size)
      clear hR1 hR2 hC1 hC2 hb1 hb2 hl1 hl2 hy
      go_wp2
      refine wp_flow 12 (fun _ => 1000) (fun ww => RowKit.Below wr.heap.size wr ww) (fun _ w w' => (fun (w w' : World) => RowKit.Below w.heap.size w w') w w') (fun kF vF wF => match kF with | 0 => (vF = .pointer (some ⟨q0, 3, none⟩)) | 1 => (vF = .slice (some ⟨ba, oa, none⟩) kn kc) | 2 => (vF = .int .i64 (k : Int)) | 3 => (vF = .pointer (some ⟨ba, oa + k * 4, none⟩)) | 4 => (vF = .agg #[.int .i64 y.k, .slice lo3 ln3 lc3, .int .i64 y.a, .slice ko3 kn3 kc3]) | 5 => (vF = .pointer (some ⟨q0 + 1, 3, none⟩)) | 6 => (vF = .slice (some ⟨bb, ob, none⟩) kn kc2) | 7 => (vF = .int .i64 (k : Int)) | 8 => (vF = .pointer (some ⟨bb, ob + k * 4, none⟩)) | 9 => (vF = .agg #[.int .i64 y.k, .slice lo4 ln4 lc4, .int .i64 y.a, .slice ko4 kn4 kc4]) | 10 => (vF = .bool true) | 11 => (vF = .bool false) | _ => True) (fun _ _ _ _ => True) (by kernel_rfl) (by kernel_rfl) ?_ ?_ ?_ ?_ ?_
      · exact (Below.refl _ _).drew
      · intro iF wF1 wF2 hR hT; exact hR.trans (hT.mono hR.size)
      · intro kF hkF iF hiF hne hdd hanc hdan vF wF1 wF2 h hT
        rcases (by omega : kF = 0 ∨ kF = 1 ∨ kF = 2 ∨ kF = 3 ∨ kF = 4 ∨ kF = 5 ∨ kF = 6 ∨ kF = 7 ∨ kF = 8 ∨ kF = 9 ∨ kF = 10 ∨ kF = 11) with rfl | rfl | rfl | rfl | rfl | rfl | rfl | rfl | rfl | rfl | rfl | rfl
        · exact h
        · exact h
        · exact h
        · exact h
        · exact h
        · exact h
        · exact h
        · exact h
        · exact h
        · exact h
        · exact h
        · exact h
      · generalize hAF : fillOf _ _ _ = AF
        replace hAF := fun x => congrFun hAF x
        simp only [List.take_succ_cons, List.take_zero, fillOf, Act.put, List.setIfInBounds_toArray, List.set_cons_zero, List.set_cons_succ, Nat.reduceAdd, Nat.zero_add] at hAF
        refine FlowAll.cons ?_ ?_
        · intro xF wq hR hd K hK
          clear hd
          simp only [← hAF, Act.put, List.setIfInBounds_toArray, List.set_cons_zero, List.set_cons_succ] at hK ⊢
          clear hAF
          try simp only [Nat.zero_add] at hK ⊢
          try simp only [Nat.reduceAdd] at hK ⊢
          obtain hbR := id hR
          rw [if_pos (by rfl)]
          go_simp
          exact hK.out _ _ (Below.refl _ _) (rfl) (fun _ _ _ => ⟨trivial, trivial⟩)
        refine FlowAll.cons ?_ ?_
        · intro xF wq hR hd K hK
          have dd0 : ((xF 0) = .pointer (some ⟨q0, 3, none⟩)) := hd 0 (by kernel_rfl)
          clear hd
          simp only [← hAF, Act.put, List.setIfInBounds_toArray, List.set_cons_zero, List.set_cons_succ] at hK ⊢
          clear hAF
          try simp only [Nat.zero_add] at hK ⊢
          try simp only [Nat.reduceAdd] at hK ⊢
          try generalize xF 0 = yy0 at *
          obtain rfl := dd0
          obtain hbR := id hR
          have hxa := (hbR.block _ (lt_of_block XR.out)).trans XR.out
          have c9 := boxc hxa 3 _ rfl
          clear hxa
          rw [if_pos (by rfl)]
          go_simp
          exact hK.out _ _ (Below.refl _ _) (rfl) (fun _ _ _ => ⟨trivial, trivial⟩)
        refine FlowAll.cons ?_ ?_
        · intro xF wq hR hd K hK
          clear hd
          simp only [← hAF, Act.put, List.setIfInBounds_toArray, List.set_cons_zero, List.set_cons_succ] at hK ⊢
          clear hAF
          try simp only [Nat.zero_add] at hK ⊢
          try simp only [Nat.reduceAdd] at hK ⊢
          obtain hbR := id hR
          rw [if_pos (by rfl)]
          go_simp
          exact hK.out _ _ (Below.refl _ _) (rfl) (fun _ _ _ => ⟨trivial, trivial⟩)
        refine FlowAll.cons ?_ ?_
        · intro xF wq hR hd K hK
          have dd1 : ((xF 1) = .slice (some ⟨ba, oa, none⟩) kn kc) := hd 1 (by kernel_rfl)
          have dd2 : ((xF 2) = .int .i64 (k : Int)) := hd 2 (by kernel_rfl)
          clear hd
          simp only [← hAF, Act.put, List.setIfInBounds_toArray, List.set_cons_zero, List.set_cons_succ] at hK ⊢
          clear hAF
          try simp only [Nat.zero_add] at hK ⊢
          try simp only [Nat.reduceAdd] at hK ⊢
          try generalize xF 1 = yy1 at *
          try generalize xF 2 = yy2 at *
          obtain rfl := dd1
          obtain rfl := dd2
          obtain hbR := id hR
          rw [if_pos (by rfl)]
          go_simp
          exact hK.out _ _ (Below.refl _ _) (rfl) (fun _ _ _ => ⟨trivial, trivial⟩)
        refine FlowAll.cons ?_ ?_
        · intro xF wq hR hd K hK
          have dd3 : ((xF 3) = .pointer (some ⟨ba, oa + k * 4, none⟩)) := hd 3 (by kernel_rfl)
          clear hd
          simp only [← hAF, Act.put, List.setIfInBounds_toArray, List.set_cons_zero, List.set_cons_succ] at hK ⊢
          clear hAF
          try simp only [Nat.zero_add] at hK ⊢
          try simp only [Nat.reduceAdd] at hK ⊢
          try generalize xF 3 = yy3 at *
          obtain rfl := dd3
          obtain hbR := id hR
          obtain ⟨z0, z1, z2, z3⟩ := HC1.out _ hbR
          rw [if_pos (by rfl)]
          go_simp
          exact hK.out _ _ (Below.refl _ _) (rfl) (fun _ _ _ => ⟨trivial, trivial⟩)
        refine FlowAll.cons ?_ ?_
        · intro xF wq hR hd K hK
          clear hd
          simp only [← hAF, Act.put, List.setIfInBounds_toArray, List.set_cons_zero, List.set_cons_succ] at hK ⊢
          clear hAF
          try simp only [Nat.zero_add] at hK ⊢
          try simp only [Nat.reduceAdd] at hK ⊢
          obtain hbR := id hR
          rw [if_pos (by rfl)]
          go_simp
          exact hK.out _ _ (Below.refl _ _) (rfl) (fun _ _ _ => ⟨trivial, trivial⟩)
        refine FlowAll.cons ?_ ?_
        · intro xF wq hR hd K hK
          have dd5 : ((xF 5) = .pointer (some ⟨q0 + 1, 3, none⟩)) := hd 5 (by kernel_rfl)
          clear hd
          simp only [← hAF, Act.put, List.setIfInBounds_toArray, List.set_cons_zero, List.set_cons_succ] at hK ⊢
          clear hAF
          try simp only [Nat.zero_add] at hK ⊢
          try simp only [Nat.reduceAdd] at hK ⊢
          try generalize xF 5 = yy5 at *
          obtain rfl := dd5
          obtain hbR := id hR
          have hxa := (hbR.block _ (lt_of_block YR.out)).trans YR.out
          have c9 := boxc hxa 3 _ rfl
          clear hxa
          rw [if_pos (by rfl)]
          go_simp
          exact hK.out _ _ (Below.refl _ _) (rfl) (fun _ _ _ => ⟨trivial, trivial⟩)
        refine FlowAll.cons ?_ ?_
        · intro xF wq hR hd K hK
          clear hd
          simp only [← hAF, Act.put, List.setIfInBounds_toArray, List.set_cons_zero, List.set_cons_succ] at hK ⊢
          clear hAF
          try simp only [Nat.zero_add] at hK ⊢
          try simp only [Nat.reduceAdd] at hK ⊢
          obtain hbR := id hR
          rw [if_pos (by rfl)]
          go_simp
          exact hK.out _ _ (Below.refl _ _) (rfl) (fun _ _ _ => ⟨trivial, trivial⟩)
        refine FlowAll.cons ?_ ?_
        · intro xF wq hR hd K hK
          have dd6 : ((xF 6) = .slice (some ⟨bb, ob, none⟩) kn kc2) := hd 6 (by kernel_rfl)
          have dd7 : ((xF 7) = .int .i64 (k : Int)) := hd 7 (by kernel_rfl)
          clear hd
          simp only [← hAF, Act.put, List.setIfInBounds_toArray, List.set_cons_zero, List.set_cons_succ] at hK ⊢
          clear hAF
          try simp only [Nat.zero_add] at hK ⊢
          try simp only [Nat.reduceAdd] at hK ⊢
          try generalize xF 6 = yy6 at *
          try generalize xF 7 = yy7 at *
          obtain rfl := dd6
          obtain rfl := dd7
          obtain hbR := id hR
          rw [if_pos (by rfl)]
          go_simp
          exact hK.out _ _ (Below.refl _ _) (rfl) (fun _ _ _ => ⟨trivial, trivial⟩)
        refine FlowAll.cons ?_ ?_
        · intro xF wq hR hd K hK
          have dd8 : ((xF 8) = .pointer (some ⟨bb, ob + k * 4, none⟩)) := hd 8 (by kernel_rfl)
          clear hd
          simp only [← hAF, Act.put, List.setIfInBounds_toArray, List.set_cons_zero, List.set_cons_succ] at hK ⊢
          clear hAF
          try simp only [Nat.zero_add] at hK ⊢
          try simp only [Nat.reduceAdd] at hK ⊢
          try generalize xF 8 = yy8 at *
          obtain rfl := dd8
          obtain hbR := id hR
          obtain ⟨z0, z1, z2, z3⟩ := HC2.out _ hbR
          rw [if_pos (by rfl)]
          go_simp
          exact hK.out _ _ (Below.refl _ _) (rfl) (fun _ _ _ => ⟨trivial, trivial⟩)
        refine FlowAll.cons ?_ ?_
        · intro xF wq hR hd K hK
          have dd4 : ((xF 4) = .agg #[.int .i64 y.k, .slice lo3 ln3 lc3, .int .i64 y.a, .slice ko3 kn3 kc3]) := hd 4 (by kernel_rfl)
          have dd9 : ((xF 9) = .agg #[.int .i64 y.k, .slice lo4 ln4 lc4, .int .i64 y.a, .slice ko4 kn4 kc4]) := hd 9 (by kernel_rfl)
          clear hd
          simp only [← hAF, Act.put, List.setIfInBounds_toArray, List.set_cons_zero, List.set_cons_succ] at hK ⊢
          clear hAF
          try simp only [Nat.zero_add] at hK ⊢
          try simp only [Nat.reduceAdd] at hK ⊢
          try generalize xF 4 = yy4 at *
          try generalize xF 9 = yy9 at *
          obtain rfl := dd4
          obtain rfl := dd9
          obtain hbR := id hR
          rw [if_pos (by rfl)]
          go_simp
          (go_at_call 14; (with_reducible refine (HC.out _ hbR).mono ?_); rintro e wK ⟨rfl, hbK⟩)
          try go_wp2_with fail
          exact hK.out _ _ (hbK) (rfl) (fun _ _ _ => ⟨trivial, trivial⟩)
        refine FlowAll.cons ?_ ?_
        · intro xF wq hR hd K hK
          have dd10 : ((xF 10) = .bool true) := hd 10 (by kernel_rfl)
          clear hd
          simp only [← hAF, Act.put, List.setIfInBounds_toArray, List.set_cons_zero, List.set_cons_succ] at hK ⊢
          clear hAF
          try simp only [Nat.zero_add] at hK ⊢
          try simp only [Nat.reduceAdd] at hK ⊢
          try generalize xF 10 = yy10 at *
          obtain rfl := dd10
          obtain hbR := id hR
          rw [if_pos (by rfl)]
          go_simp
          exact hK.out _ _ (Below.refl _ _) (rfl) (fun _ _ _ => ⟨trivial, trivial⟩)
        exact FlowAll.nil
      intro xF wq hR hF hP
      clear hP
      have dd0 : ((xF 0) = .pointer (some ⟨q0, 3, none⟩)) := hF 0 (by omega) (by decide)
      have dd1 : ((xF 1) = .slice (some ⟨ba, oa, none⟩) kn kc) := hF 1 (by omega) (by decide)
      have dd2 : ((xF 2) = .int .i64 (k : Int)) := hF 2 (by omega) (by decide)
      have dd3 : ((xF 3) = .pointer (some ⟨ba, oa + k * 4, none⟩)) := hF 3 (by omega) (by decide)
      have dd4 : ((xF 4) = .agg #[.int .i64 y.k, .slice lo3 ln3 lc3, .int .i64 y.a, .slice ko3 kn3 kc3]) := hF 4 (by omega) (by decide)
      have dd5 : ((xF 5) = .pointer (some ⟨q0 + 1, 3, none⟩)) := hF 5 (by omega) (by decide)
      have dd6 : ((xF 6) = .slice (some ⟨bb, ob, none⟩) kn kc2) := hF 6 (by omega) (by decide)
      have dd7 : ((xF 7) = .int .i64 (k : Int)) := hF 7 (by omega) (by decide)
      have dd8 : ((xF 8) = .pointer (some ⟨bb, ob + k * 4, none⟩)) := hF 8 (by omega) (by decide)
      have dd9 : ((xF 9) = .agg #[.int .i64 y.k, .slice lo4 ln4 lc4, .int .i64 y.a, .slice ko4 kn4 kc4]) := hF 9 (by omega) (by decide)
      have dd10 : ((xF 10) = .bool true) := hF 10 (by omega) (by decide)
      have dd11 : ((xF 11) = .bool false) := hF 11 (by omega) (by decide)
      clear hF
      simp only [List.take_succ_cons, List.take_zero, List.drop_succ_cons, List.drop_zero, fillOf, Act.put, List.setIfInBounds_toArray, List.set_cons_zero, List.set_cons_succ, Nat.reduceAdd, Nat.zero_add]
      try generalize xF 0 = yy0 at *
      try generalize xF 1 = yy1 at *
      try generalize xF 2 = yy2 at *
      try generalize xF 3 = yy3 at *
      try generalize xF 4 = yy4 at *
      try generalize xF 5 = yy5 at *
      try generalize xF 6 = yy6 at *
      try generalize xF 7 = yy7 at *
      try generalize xF 8 = yy8 at *
      try generalize xF 9 = yy9 at *
      try generalize xF 10 = yy10 at *
      try generalize xF 11 = yy11 at *
      clear xF
      obtain rfl := dd0
      obtain rfl := dd1
      obtain rfl := dd2
      obtain rfl := dd3
      obtain rfl := dd4
      obtain rfl := dd5
      obtain rfl := dd6
      obtain rfl := dd7
      obtain rfl := dd8
      obtain rfl := dd9
      obtain rfl := dd10
      obtain rfl := dd11
      have hRE := Lib.hid hR
      clear hR
      have B9 := Lib.hid (HBL.out.trans (hRE.out.mono HBL.out.size))
      go_wp2
      go_roundw
      case rel => exact ⟨k + 1, by go_num, by omega, B9.out⟩
      case measure => simp [intOf]; omega
    · obtain rfl : k = kn := by omega
      go_wp2
      go_ret
      exact ⟨rfl, BW.out⟩
theorem same_same : ∀ (d : Nat) (x : Cur) (c1 c2 : List Value) (w : World), curR d w w.heap.size c1 x → curR d w w.heap.size c2 x → Calls Try.prog 14 #[.agg c1.toArray, .agg c2.toArray] w (Said true w)
  | 0, _, _, _, _, h, _ => h.elim
  | d + 1, x, c1, c2, w, h1, h2 => same_of d (fun x c1 c2 w h1 h2 => same_same d x c1 c2 w h1 h2) x c1 c2 w h1 h2
end Go.Proofs.Ytojngbobecdpeaa
