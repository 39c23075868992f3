/- the law's same: of a pattern with itself, wherever the two lie. -/
import Derived.Test.YtbccejlemhgioaaRxEq
import Derived.Test.YtbccejlemhgioaaRxAwk
import Derived.Test.YtbccejlemhgioaaFlow
namespace Go.Proofs.Ytbccejlemhgioaa
open Go Go.RowKit Go.ChangeShapes cl rx
theorem eqq_self (x : Cls) : x.eqq x = true := decide_eq_true rfl
set_option maxHeartbeats 12800000 in
set_option maxRecDepth 100000 in
theorem same_of (e : Nat) (HR : ∀ (x : Pat) (c c' : List Value) (w : World), rxR e w w.heap.size c x → rxR e w w.heap.size c' x → Calls Try.prog 10 #[.agg c.toArray, .agg c'.toArray] w (Said true w))
    (y : Pat) (c c' : List Value) (w : World) (h : rxR (e + 1) w w.heap.size c y) (h' : rxR (e + 1) w w.heap.size c' y) : Calls Try.prog 10 #[.agg c.toArray, .agg c'.toArray] w (Said true w) := by
  obtain ⟨ao, m, cap, rfl, hA⟩ := h
  obtain ⟨bo, m', bap, rfl, hB⟩ := h'
  obtain ⟨hm, hnm⟩ : m = y.ks.length ∧ m ≤ maxLen := by
    obtain ⟨_, _, e, h1, h2⟩ := hA.form
    simp only [Value.slice.injEq] at e
    obtain ⟨rfl, rfl, rfl⟩ := e
    exact ⟨rfl, h2⟩
  have hm' : m' = y.ks.length := by
    obtain ⟨_, _, e, h1, h2⟩ := hB.form
    simp only [Value.slice.injEq] at e
    exact e.2.1
  unfold maxLen at hnm
  obtain rfl : m = m' := by rw [hm, hm']
  clear hm'
  obtain ⟨q, hq⟩ : ∃ q, q = w.heap.size := ⟨_, rfl⟩
  have hs1 : (w.alloc (.cells #[.int .i64 y.k, .int .u64 y.cl.a, .int .u64 y.cl.b, .int .u64 y.cl.c, .int .u64 y.cl.d, .slice ao m cap, .int .i64 y.mn, .int .i64 y.mx] 28)).heap.size = q + 1 := by rw [World.size_alloc, hq]
  obtain ⟨W3, hW3⟩ : ∃ W, W = (w.alloc (.cells #[.int .i64 y.k, .int .u64 y.cl.a, .int .u64 y.cl.b, .int .u64 y.cl.c, .int .u64 y.cl.d, .slice ao m cap, .int .i64 y.mn, .int .i64 y.mx] 28)).alloc (.cells #[.int .i64 y.k, .int .u64 y.cl.a, .int .u64 y.cl.b, .int .u64 y.cl.c, .int .u64 y.cl.d, .slice bo m bap, .int .i64 y.mn, .int .i64 y.mx] 28) := ⟨_, rfl⟩
  have b1 : Below w.heap.size w (w.alloc (.cells #[.int .i64 y.k, .int .u64 y.cl.a, .int .u64 y.cl.b, .int .u64 y.cl.c, .int .u64 y.cl.d, .slice ao m cap, .int .i64 y.mn, .int .i64 y.mx] 28)) := below1
  have b3 : Below w.heap.size w W3 := by rw [hW3]; exact b1.trans (below1.mono b1.size)
  have x0 : W3.heap[q]? = some (.cells #[.int .i64 y.k, .int .u64 y.cl.a, .int .u64 y.cl.b, .int .u64 y.cl.c, .int .u64 y.cl.d, .slice ao m cap, .int .i64 y.mn, .int .i64 y.mx] 28 (0, 0)) := by
    rw [hW3]
    refine (below1.block q (by omega)).trans ?_
    rw [hq]; exact heap_alloc_new _ _
  have x1 : W3.heap[q + 1]? = some (.cells #[.int .i64 y.k, .int .u64 y.cl.a, .int .u64 y.cl.b, .int .u64 y.cl.c, .int .u64 y.cl.d, .slice bo m bap, .int .i64 y.mn, .int .i64 y.mx] 28 (0, 0)) := by rw [hW3, ← hs1]; exact heap_alloc_new _ _
  have heq := eqq_self y.cl
  have B3 := Lib.hid b3
  have X0' := Lib.hid x0
  have X1' := Lib.hid x1
  have HQ := Lib.hid hq
  have HW3 := Lib.hid hW3
  have HLA := Lib.hid hA
  have HLB := Lib.hid hB
  have HM := Lib.hid hm
  have HH := Lib.hid HR
  have a0 := boxc x0 0 _ rfl
  have d0 := boxc x1 0 _ rfl
  have a1 := boxc x0 1 _ rfl
  have d1 := boxc x1 1 _ rfl
  have a2 := boxc x0 2 _ rfl
  have d2 := boxc x1 2 _ rfl
  have a3 := boxc x0 3 _ rfl
  have d3 := boxc x1 3 _ rfl
  have a4 := boxc x0 4 _ rfl
  have d4 := boxc x1 4 _ rfl
  have a5 := boxc x0 5 _ rfl
  have d5 := boxc x1 5 _ rfl
  have a6 := boxc x0 6 _ rfl
  have d6 := boxc x1 6 _ rfl
  have a7 := boxc x0 7 _ rfl
  have d7 := boxc x1 7 _ rfl
  rw [hW3] at a0 d0 a1 d1 a2 d2 a3 d3 a4 d4 a5 d5 a6 d6 a7 d7
  rw [hq] at a0 d0 a1 d1 a2 d2 a3 d3 a4 d4 a5 d5 a6 d6 a7 d7
  clear hs1 b1 b3 x0 x1 hq hW3 hA hB hm HR
  go_enter Try.func10, Try.ntmps10
  go_wp2
  rw [← HW3.out, ← HQ.out]
  clear a0 d0 a1 d1 a2 d2 a3 d3 a4 d4 a5 d5 a6 d6 a7 d7 heq
  go_loopw [44, 59] (fun i _ wr => ∃ k : Nat, i = .int .i64 k ∧ k ≤ m ∧ Below W3.heap.size W3 wr) (fun i _ _ => m - (intOf i).toNat)
  case atStart => exact ⟨0, rfl, Nat.zero_le _, Below.refl _ _⟩
  case round =>
    obtain ⟨k, rfl, hk, hbl⟩ := hrel
    have HBL := Lib.hid (B3.out.trans (hbl.mono B3.out.size))
    have HB0 := Lib.hid hbl
    by_cases hlt : k < m
    · have hkI : (k : Int) < (m : Int) := by omega
      have hLA := HLA.out.next (rxR_steady e) HBL.out
      have hLB := HLB.out.next (rxR_steady e) HBL.out
      obtain ⟨x, hx⟩ : ∃ x, x = y.ks.getD k default := ⟨_, rfl⟩
      obtain ⟨ba, oa, c, rfl, hbA, hcl, hRA, hCA⟩ := hLA.get HM.out hlt default
      obtain ⟨bb, ob, c', rfl, hbB, hcl', hRB, hCB⟩ := hLB.get HM.out hlt default
      rw [← hx] at hRA hRB
      obtain ⟨ko, kn, kc, rfl⟩ := rx_form hRA
      obtain ⟨lo, ln, lc, rfl⟩ := rx_form hRB
      have HBA := Lib.hid hbA
      have HBB := Lib.hid hbB
      have HCA := Lib.hid hCA
      have HCB := Lib.hid hCB
      have HLT := Lib.hid hlt
      have HSA : Hid (∀ W, Below wr.heap.size wr W → Calls Try.prog 10 #[.agg #[.int .i64 x.k, .int .u64 x.cl.a, .int .u64 x.cl.b, .int .u64 x.cl.c, .int .u64 x.cl.d, .slice ko kn kc, .int .i64 x.mn, .int .i64 x.mx], .agg #[.int .i64 x.k, .int .u64 x.cl.a, .int .u64 x.cl.b, .int .u64 x.cl.c, .int .u64 x.cl.d, .slice lo ln lc, .int .i64 x.mn, .int .i64 x.mx]] W (Said true W)) := fun W hW => HH.out x _ _ W (rxR_steady e _ _ _ _ _ _ hRA hW hW.size) (rxR_steady e _ _ _ _ _ _ hRB hW hW.size)
      have X0 := Lib.hid ((HB0.out.block _ (lt_of_block X0'.out)).trans X0'.out)
      have X1 := Lib.hid ((HB0.out.block _ (lt_of_block X1'.out)).trans X1'.out)
      clear hLA hLB hRA hRB hbA hbB hcl hcl' hCA hCB hx hbl hlt
      go_wp2
      refine wp_flow 12 (fun _ => 1000) (fun ww => Below wr.heap.size wr ww) (fun _ w w' => (fun (w w' : World) => RowKit.Below w.heap.size w w') w w') (fun kF vF wF => match kF with | 0 => (vF = .pointer (some ⟨q, 5, none⟩)) | 1 => (vF = .slice (some ⟨ba, oa, none⟩) m cap) | 2 => (vF = .int .i64 (k : Int)) | 3 => (vF = .pointer (some ⟨ba, oa + k * 8, none⟩)) | 4 => (vF = .agg #[.int .i64 x.k, .int .u64 x.cl.a, .int .u64 x.cl.b, .int .u64 x.cl.c, .int .u64 x.cl.d, .slice ko kn kc, .int .i64 x.mn, .int .i64 x.mx]) | 5 => (vF = .pointer (some ⟨q + 1, 5, none⟩)) | 6 => (vF = .slice (some ⟨bb, ob, none⟩) m bap) | 7 => (vF = .int .i64 (k : Int)) | 8 => (vF = .pointer (some ⟨bb, ob + k * 8, none⟩)) | 9 => (vF = .agg #[.int .i64 x.k, .int .u64 x.cl.a, .int .u64 x.cl.b, .int .u64 x.cl.c, .int .u64 x.cl.d, .slice lo ln lc, .int .i64 x.mn, .int .i64 x.mx]) | 10 => (vF = .bool true) | 11 => (vF = .bool false) | _ => True) (fun _ _ _ _ => True) (by kernel_rfl) (by kernel_rfl) ?_ ?_ ?_ ?_ ?_
      · exact (Below.refl _ _).drew
      · intro iF wF1 wF2 hR hT; exact hR.trans (Below.mono hT (Below.size hR))
      · intro kF hkF iF hiF hne hdd hanc hdan vF wF1 wF2 h hT
        rcases (by omega : kF = 0 ∨ kF = 1 ∨ kF = 2 ∨ kF = 3 ∨ kF = 4 ∨ kF = 5 ∨ kF = 6 ∨ kF = 7 ∨ kF = 8 ∨ kF = 9 ∨ kF = 10 ∨ kF = 11) with rfl | rfl | rfl | rfl | rfl | rfl | rfl | rfl | rfl | rfl | rfl | rfl
        · exact h
        · exact h
        · exact h
        · exact h
        · exact h
        · exact h
        · exact h
        · exact h
        · exact h
        · exact h
        · exact h
        · exact h
      · generalize hAF : fillOf _ _ _ = AF
        replace hAF := fun x => congrFun hAF x
        simp only [List.take_succ_cons, List.take_zero, fillOf, Act.put, List.setIfInBounds_toArray, List.set_cons_zero, List.set_cons_succ, Nat.reduceAdd, Nat.zero_add] at hAF
        refine FlowAll.cons ?_ ?_
        · intro xF wz hR hd K hK
          clear hd
          simp only [← hAF, Act.put, List.setIfInBounds_toArray, List.set_cons_zero, List.set_cons_succ] at hK ⊢
          clear hAF
          try simp only [Nat.zero_add] at hK ⊢
          try simp only [Nat.reduceAdd] at hK ⊢
          obtain hbR := id hR
          rw [if_pos (by rfl)]
          go_simp
          exact hK.out _ _ (Below.refl _ _) (rfl) (fun _ _ _ => ⟨trivial, trivial⟩)
        refine FlowAll.cons ?_ ?_
        · intro xF wz hR hd K hK
          have dd0 : ((xF 0) = .pointer (some ⟨q, 5, none⟩)) := hd 0 (by kernel_rfl)
          clear hd
          simp only [← hAF, Act.put, List.setIfInBounds_toArray, List.set_cons_zero, List.set_cons_succ] at hK ⊢
          clear hAF
          try simp only [Nat.zero_add] at hK ⊢
          try simp only [Nat.reduceAdd] at hK ⊢
          try generalize xF 0 = yy0 at *
          obtain rfl := dd0
          obtain hbR := id hR
          have hxa := (hbR.block _ (lt_of_block X0.out)).trans X0.out
          have c95 := boxc hxa 5 _ rfl
          clear hxa
          rw [if_pos (by rfl)]
          go_simp
          exact hK.out _ _ (Below.refl _ _) (rfl) (fun _ _ _ => ⟨trivial, trivial⟩)
        refine FlowAll.cons ?_ ?_
        · intro xF wz hR hd K hK
          clear hd
          simp only [← hAF, Act.put, List.setIfInBounds_toArray, List.set_cons_zero, List.set_cons_succ] at hK ⊢
          clear hAF
          try simp only [Nat.zero_add] at hK ⊢
          try simp only [Nat.reduceAdd] at hK ⊢
          obtain hbR := id hR
          rw [if_pos (by rfl)]
          go_simp
          exact hK.out _ _ (Below.refl _ _) (rfl) (fun _ _ _ => ⟨trivial, trivial⟩)
        refine FlowAll.cons ?_ ?_
        · intro xF wz hR hd K hK
          have dd1 : ((xF 1) = .slice (some ⟨ba, oa, none⟩) m cap) := hd 1 (by kernel_rfl)
          have dd2 : ((xF 2) = .int .i64 (k : Int)) := hd 2 (by kernel_rfl)
          clear hd
          simp only [← hAF, Act.put, List.setIfInBounds_toArray, List.set_cons_zero, List.set_cons_succ] at hK ⊢
          clear hAF
          try simp only [Nat.zero_add] at hK ⊢
          try simp only [Nat.reduceAdd] at hK ⊢
          try generalize xF 1 = yy1 at *
          try generalize xF 2 = yy2 at *
          obtain rfl := dd1
          obtain rfl := dd2
          obtain hbR := id hR
          rw [if_pos (by rfl)]
          go_simp
          exact hK.out _ _ (Below.refl _ _) (rfl) (fun _ _ _ => ⟨trivial, trivial⟩)
        refine FlowAll.cons ?_ ?_
        · intro xF wz hR hd K hK
          have dd3 : ((xF 3) = .pointer (some ⟨ba, oa + k * 8, none⟩)) := hd 3 (by kernel_rfl)
          clear hd
          simp only [← hAF, Act.put, List.setIfInBounds_toArray, List.set_cons_zero, List.set_cons_succ] at hK ⊢
          clear hAF
          try simp only [Nat.zero_add] at hK ⊢
          try simp only [Nat.reduceAdd] at hK ⊢
          try generalize xF 3 = yy3 at *
          obtain rfl := dd3
          obtain hbR := id hR
          have c90 := (hbR.cell (p := ⟨ba, oa + k * 8, none⟩) HBA.out).trans (HCA.out 0 _ rfl)
          have c91 := (hbR.cell (p := ⟨ba, oa + k * 8 + 1, none⟩) HBA.out).trans (HCA.out 1 _ rfl)
          have c92 := (hbR.cell (p := ⟨ba, oa + k * 8 + 2, none⟩) HBA.out).trans (HCA.out 2 _ rfl)
          have c93 := (hbR.cell (p := ⟨ba, oa + k * 8 + 3, none⟩) HBA.out).trans (HCA.out 3 _ rfl)
          have c94 := (hbR.cell (p := ⟨ba, oa + k * 8 + 4, none⟩) HBA.out).trans (HCA.out 4 _ rfl)
          have c95 := (hbR.cell (p := ⟨ba, oa + k * 8 + 5, none⟩) HBA.out).trans (HCA.out 5 _ rfl)
          have c96 := (hbR.cell (p := ⟨ba, oa + k * 8 + 6, none⟩) HBA.out).trans (HCA.out 6 _ rfl)
          have c97 := (hbR.cell (p := ⟨ba, oa + k * 8 + 7, none⟩) HBA.out).trans (HCA.out 7 _ rfl)
          rw [if_pos (by rfl)]
          go_simp
          exact hK.out _ _ (Below.refl _ _) (rfl) (fun _ _ _ => ⟨trivial, trivial⟩)
        refine FlowAll.cons ?_ ?_
        · intro xF wz hR hd K hK
          clear hd
          simp only [← hAF, Act.put, List.setIfInBounds_toArray, List.set_cons_zero, List.set_cons_succ] at hK ⊢
          clear hAF
          try simp only [Nat.zero_add] at hK ⊢
          try simp only [Nat.reduceAdd] at hK ⊢
          obtain hbR := id hR
          rw [if_pos (by rfl)]
          go_simp
          exact hK.out _ _ (Below.refl _ _) (rfl) (fun _ _ _ => ⟨trivial, trivial⟩)
        refine FlowAll.cons ?_ ?_
        · intro xF wz hR hd K hK
          have dd5 : ((xF 5) = .pointer (some ⟨q + 1, 5, none⟩)) := hd 5 (by kernel_rfl)
          clear hd
          simp only [← hAF, Act.put, List.setIfInBounds_toArray, List.set_cons_zero, List.set_cons_succ] at hK ⊢
          clear hAF
          try simp only [Nat.zero_add] at hK ⊢
          try simp only [Nat.reduceAdd] at hK ⊢
          try generalize xF 5 = yy5 at *
          obtain rfl := dd5
          obtain hbR := id hR
          have hxa := (hbR.block _ (lt_of_block X1.out)).trans X1.out
          have c95 := boxc hxa 5 _ rfl
          clear hxa
          rw [if_pos (by rfl)]
          go_simp
          exact hK.out _ _ (Below.refl _ _) (rfl) (fun _ _ _ => ⟨trivial, trivial⟩)
        refine FlowAll.cons ?_ ?_
        · intro xF wz hR hd K hK
          clear hd
          simp only [← hAF, Act.put, List.setIfInBounds_toArray, List.set_cons_zero, List.set_cons_succ] at hK ⊢
          clear hAF
          try simp only [Nat.zero_add] at hK ⊢
          try simp only [Nat.reduceAdd] at hK ⊢
          obtain hbR := id hR
          rw [if_pos (by rfl)]
          go_simp
          exact hK.out _ _ (Below.refl _ _) (rfl) (fun _ _ _ => ⟨trivial, trivial⟩)
        refine FlowAll.cons ?_ ?_
        · intro xF wz hR hd K hK
          have dd6 : ((xF 6) = .slice (some ⟨bb, ob, none⟩) m bap) := hd 6 (by kernel_rfl)
          have dd7 : ((xF 7) = .int .i64 (k : Int)) := hd 7 (by kernel_rfl)
          clear hd
          simp only [← hAF, Act.put, List.setIfInBounds_toArray, List.set_cons_zero, List.set_cons_succ] at hK ⊢
          clear hAF
          try simp only [Nat.zero_add] at hK ⊢
          try simp only [Nat.reduceAdd] at hK ⊢
          try generalize xF 6 = yy6 at *
          try generalize xF 7 = yy7 at *
          obtain rfl := dd6
          obtain rfl := dd7
          obtain hbR := id hR
          rw [if_pos (by rfl)]
          go_simp
          exact hK.out _ _ (Below.refl _ _) (rfl) (fun _ _ _ => ⟨trivial, trivial⟩)
        refine FlowAll.cons ?_ ?_
        · intro xF wz hR hd K hK
          have dd8 : ((xF 8) = .pointer (some ⟨bb, ob + k * 8, none⟩)) := hd 8 (by kernel_rfl)
          clear hd
          simp only [← hAF, Act.put, List.setIfInBounds_toArray, List.set_cons_zero, List.set_cons_succ] at hK ⊢
          clear hAF
          try simp only [Nat.zero_add] at hK ⊢
          try simp only [Nat.reduceAdd] at hK ⊢
          try generalize xF 8 = yy8 at *
          obtain rfl := dd8
          obtain hbR := id hR
          have c90 := (hbR.cell (p := ⟨bb, ob + k * 8, none⟩) HBB.out).trans (HCB.out 0 _ rfl)
          have c91 := (hbR.cell (p := ⟨bb, ob + k * 8 + 1, none⟩) HBB.out).trans (HCB.out 1 _ rfl)
          have c92 := (hbR.cell (p := ⟨bb, ob + k * 8 + 2, none⟩) HBB.out).trans (HCB.out 2 _ rfl)
          have c93 := (hbR.cell (p := ⟨bb, ob + k * 8 + 3, none⟩) HBB.out).trans (HCB.out 3 _ rfl)
          have c94 := (hbR.cell (p := ⟨bb, ob + k * 8 + 4, none⟩) HBB.out).trans (HCB.out 4 _ rfl)
          have c95 := (hbR.cell (p := ⟨bb, ob + k * 8 + 5, none⟩) HBB.out).trans (HCB.out 5 _ rfl)
          have c96 := (hbR.cell (p := ⟨bb, ob + k * 8 + 6, none⟩) HBB.out).trans (HCB.out 6 _ rfl)
          have c97 := (hbR.cell (p := ⟨bb, ob + k * 8 + 7, none⟩) HBB.out).trans (HCB.out 7 _ rfl)
          rw [if_pos (by rfl)]
          go_simp
          exact hK.out _ _ (Below.refl _ _) (rfl) (fun _ _ _ => ⟨trivial, trivial⟩)
        refine FlowAll.cons ?_ ?_
        · intro xF wz hR hd K hK
          have dd4 : ((xF 4) = .agg #[.int .i64 x.k, .int .u64 x.cl.a, .int .u64 x.cl.b, .int .u64 x.cl.c, .int .u64 x.cl.d, .slice ko kn kc, .int .i64 x.mn, .int .i64 x.mx]) := hd 4 (by kernel_rfl)
          have dd9 : ((xF 9) = .agg #[.int .i64 x.k, .int .u64 x.cl.a, .int .u64 x.cl.b, .int .u64 x.cl.c, .int .u64 x.cl.d, .slice lo ln lc, .int .i64 x.mn, .int .i64 x.mx]) := hd 9 (by kernel_rfl)
          clear hd
          simp only [← hAF, Act.put, List.setIfInBounds_toArray, List.set_cons_zero, List.set_cons_succ] at hK ⊢
          clear hAF
          try simp only [Nat.zero_add] at hK ⊢
          try simp only [Nat.reduceAdd] at hK ⊢
          try generalize xF 4 = yy4 at *
          try generalize xF 9 = yy9 at *
          obtain rfl := dd4
          obtain rfl := dd9
          obtain hbR := id hR
          rw [if_pos (by rfl)]
          go_simp
          (go_at_call 10; (with_reducible refine (HSA.out _ hbR).mono ?_); rintro e wK ⟨rfl, hbK⟩)
          try go_wp2_with fail
          exact hK.out _ _ (hbK) (rfl) (fun _ _ _ => ⟨trivial, trivial⟩)
        refine FlowAll.cons ?_ ?_
        · intro xF wz hR hd K hK
          have dd10 : ((xF 10) = .bool true) := hd 10 (by kernel_rfl)
          clear hd
          simp only [← hAF, Act.put, List.setIfInBounds_toArray, List.set_cons_zero, List.set_cons_succ] at hK ⊢
          clear hAF
          try simp only [Nat.zero_add] at hK ⊢
          try simp only [Nat.reduceAdd] at hK ⊢
          try generalize xF 10 = yy10 at *
          obtain rfl := dd10
          obtain hbR := id hR
          rw [if_pos (by rfl)]
          go_simp
          exact hK.out _ _ (Below.refl _ _) (rfl) (fun _ _ _ => ⟨trivial, trivial⟩)
        exact FlowAll.nil
      intro xF wz hR hF hP
      clear hP
      have dd0 : ((xF 0) = .pointer (some ⟨q, 5, none⟩)) := hF 0 (by omega) (by decide)
      have dd1 : ((xF 1) = .slice (some ⟨ba, oa, none⟩) m cap) := hF 1 (by omega) (by decide)
      have dd2 : ((xF 2) = .int .i64 (k : Int)) := hF 2 (by omega) (by decide)
      have dd3 : ((xF 3) = .pointer (some ⟨ba, oa + k * 8, none⟩)) := hF 3 (by omega) (by decide)
      have dd4 : ((xF 4) = .agg #[.int .i64 x.k, .int .u64 x.cl.a, .int .u64 x.cl.b, .int .u64 x.cl.c, .int .u64 x.cl.d, .slice ko kn kc, .int .i64 x.mn, .int .i64 x.mx]) := hF 4 (by omega) (by decide)
      have dd5 : ((xF 5) = .pointer (some ⟨q + 1, 5, none⟩)) := hF 5 (by omega) (by decide)
      have dd6 : ((xF 6) = .slice (some ⟨bb, ob, none⟩) m bap) := hF 6 (by omega) (by decide)
      have dd7 : ((xF 7) = .int .i64 (k : Int)) := hF 7 (by omega) (by decide)
      have dd8 : ((xF 8) = .pointer (some ⟨bb, ob + k * 8, none⟩)) := hF 8 (by omega) (by decide)
      have dd9 : ((xF 9) = .agg #[.int .i64 x.k, .int .u64 x.cl.a, .int .u64 x.cl.b, .int .u64 x.cl.c, .int .u64 x.cl.d, .slice lo ln lc, .int .i64 x.mn, .int .i64 x.mx]) := hF 9 (by omega) (by decide)
      have dd10 : ((xF 10) = .bool true) := hF 10 (by omega) (by decide)
      have dd11 : ((xF 11) = .bool false) := hF 11 (by omega) (by decide)
      clear hF
      simp only [List.take_succ_cons, List.take_zero, List.drop_succ_cons, List.drop_zero, fillOf, Act.put, List.setIfInBounds_toArray, List.set_cons_zero, List.set_cons_succ, Nat.reduceAdd, Nat.zero_add]
      try generalize xF 0 = yy0 at *
      try generalize xF 1 = yy1 at *
      try generalize xF 2 = yy2 at *
      try generalize xF 3 = yy3 at *
      try generalize xF 4 = yy4 at *
      try generalize xF 5 = yy5 at *
      try generalize xF 6 = yy6 at *
      try generalize xF 7 = yy7 at *
      try generalize xF 8 = yy8 at *
      try generalize xF 9 = yy9 at *
      try generalize xF 10 = yy10 at *
      try generalize xF 11 = yy11 at *
      clear xF
      obtain rfl := dd0
      obtain rfl := dd1
      obtain rfl := dd2
      obtain rfl := dd3
      obtain rfl := dd4
      obtain rfl := dd5
      obtain rfl := dd6
      obtain rfl := dd7
      obtain rfl := dd8
      obtain rfl := dd9
      obtain rfl := dd10
      obtain rfl := dd11
      have hRE := Lib.hid hR
      clear hR
      go_wp2
      go_roundw
      case rel => exact ⟨k + 1, by go_num, by have := HLT.out; omega, HB0.out.trans (hRE.out.mono HB0.out.size)⟩
      case measure => simp [intOf]; have := HLT.out; omega
    · obtain rfl : k = m := by omega
      have hkI : ¬ (k : Int) < (k : Int) := by omega
      clear hbl
      go_wp2
      go_ret
      exact ⟨rfl, HBL.out⟩
theorem same_any : ∀ (e : Nat) (x : Pat) (c c' : List Value) (w : World), rxR e w w.heap.size c x → rxR e w w.heap.size c' x → Calls Try.prog 10 #[.agg c.toArray, .agg c'.toArray] w (Said true w)
  | 0, _, _, _, _, h, _ => h.elim
  | e + 1, x, c, c', w, h, h' => same_of e (same_any e) x c c' w h h'
end Go.Proofs.Ytbccejlemhgioaa
