/- texts put together: RxSame, LawRxP, Close. -/
import Derived.Test.YtbccejlemhgioaaPa02
import Derived.Test.YtbccejlemhgioaaPa03
import Derived.Test.YtbccejlemhgioaaPa04
import Derived.Test.YtbccejlemhgioaaPa11
import Derived.Test.YtbccejlemhgioaaPa25
import Derived.Test.YtbccejlemhgioaaPa33
import Derived.Carry
import Derived.Deep.DeepHandedRow
import Derived.JoinedCond
import Derived.Lib.LaidTab
import Derived.OpenShut
import Derived.ProofKit
import Derived.Test.YtbccejlemhgioaaRows
import Derived.WalkKit
namespace Go.Proofs.Ytbccejlemhgioaa
open Go Go.RowKit Go.ChangeShapes cl rx
theorem eqq_self (x : Cls) : x.eqq x = true := decide_eq_true rfl
set_option maxHeartbeats 12800000 in
set_option maxRecDepth 100000 in
theorem same_of (e : Nat) (HR : ∀ (x : Pat) (c c' : List Value) (w : World), rxR e w w.heap.size c x → rxR e w w.heap.size c' x → Calls Try.prog 10 #[.agg c.toArray, .agg c'.toArray] w (Said true w))
  (y : Pat) (c c' : List Value) (w : World) (h : rxR (e + 1) w w.heap.size c y) (h' : rxR (e + 1) w w.heap.size c' y) : Calls Try.prog 10 #[.agg c.toArray, .agg c'.toArray] w (Said true w) := by
 obtain ⟨ao, m, cap, rfl, hA⟩ := h
 obtain ⟨bo, m', bap, rfl, hB⟩ := h'
 obtain ⟨hm, hnm⟩ : m = y.ks.length ∧ m ≤ maxLen := by
  obtain ⟨_, _, e, h1, h2⟩ := hA.form
  simp only [Value.slice.injEq] at e
  obtain ⟨rfl, rfl, rfl⟩ := e
  exact ⟨rfl, h2⟩
 have hm' : m' = y.ks.length := by
  obtain ⟨_, _, e, h1, h2⟩ := hB.form
  simp only [Value.slice.injEq] at e
  exact e.2.1
 unfold maxLen at hnm
 obtain rfl : m = m' := by rw [hm, hm']
 clear hm'
 obtain ⟨q, hq⟩ : ∃ q, q = w.heap.size := ⟨_, rfl⟩
 have hs1 : (w.alloc (.cells #[.int .i64 y.k, .int .u64 y.cl.a, .int .u64 y.cl.b, .int .u64 y.cl.c, .int .u64 y.cl.d, .slice ao m cap, .int .i64 y.mn, .int .i64 y.mx] 28)).heap.size = q + 1 := by rw [World.size_alloc, hq]
 obtain ⟨W3, hW3⟩ : ∃ W, W = (w.alloc (.cells #[.int .i64 y.k, .int .u64 y.cl.a, .int .u64 y.cl.b, .int .u64 y.cl.c, .int .u64 y.cl.d, .slice ao m cap, .int .i64 y.mn, .int .i64 y.mx] 28)).alloc (.cells #[.int .i64 y.k, .int .u64 y.cl.a, .int .u64 y.cl.b, .int .u64 y.cl.c, .int .u64 y.cl.d, .slice bo m bap, .int .i64 y.mn, .int .i64 y.mx] 28) := ⟨_, rfl⟩
 have b1 : Below w.heap.size w (w.alloc (.cells #[.int .i64 y.k, .int .u64 y.cl.a, .int .u64 y.cl.b, .int .u64 y.cl.c, .int .u64 y.cl.d, .slice ao m cap, .int .i64 y.mn, .int .i64 y.mx] 28)) := below1
 have b3 : Below w.heap.size w W3 := by rw [hW3]; exact b1.trans (below1.mono b1.size)
 have x0 : W3.heap[q]? = some (.cells #[.int .i64 y.k, .int .u64 y.cl.a, .int .u64 y.cl.b, .int .u64 y.cl.c, .int .u64 y.cl.d, .slice ao m cap, .int .i64 y.mn, .int .i64 y.mx] 28 (0, 0)) := by
  rw [hW3]
  refine (below1.block q (by omega)).trans ?_
  rw [hq]; exact heap_alloc_new _ _
 have x1 : W3.heap[q + 1]? = some (.cells #[.int .i64 y.k, .int .u64 y.cl.a, .int .u64 y.cl.b, .int .u64 y.cl.c, .int .u64 y.cl.d, .slice bo m bap, .int .i64 y.mn, .int .i64 y.mx] 28 (0, 0)) := by rw [hW3, ← hs1]; exact heap_alloc_new _ _
 have heq := eqq_self y.cl
 have B3 := Lib.hid b3
 have X0' := Lib.hid x0
 have X1' := Lib.hid x1
 have HQ := Lib.hid hq
 have HW3 := Lib.hid hW3
 have HLA := Lib.hid hA
 have HLB := Lib.hid hB
 have HM := Lib.hid hm
 have HH := Lib.hid HR
 have a0 := boxc x0 0 _ rfl
 have d0 := boxc x1 0 _ rfl
 have a1 := boxc x0 1 _ rfl
 have d1 := boxc x1 1 _ rfl
 have a2 := boxc x0 2 _ rfl
 have d2 := boxc x1 2 _ rfl
 have a3 := boxc x0 3 _ rfl
 have d3 := boxc x1 3 _ rfl
 have a4 := boxc x0 4 _ rfl
 have d4 := boxc x1 4 _ rfl
 have a5 := boxc x0 5 _ rfl
 have d5 := boxc x1 5 _ rfl
 have a6 := boxc x0 6 _ rfl
 have d6 := boxc x1 6 _ rfl
 have a7 := boxc x0 7 _ rfl
 have d7 := boxc x1 7 _ rfl
 rw [hW3] at a0 d0 a1 d1 a2 d2 a3 d3 a4 d4 a5 d5 a6 d6 a7 d7
 rw [hq] at a0 d0 a1 d1 a2 d2 a3 d3 a4 d4 a5 d5 a6 d6 a7 d7
 clear hs1 b1 b3 x0 x1 hq hW3 hA hB hm HR
 go_enter Try.func10, Try.ntmps10
 go_wp2
 rw [← HW3.out, ← HQ.out]
 clear a0 d0 a1 d1 a2 d2 a3 d3 a4 d4 a5 d5 a6 d6 a7 d7 heq
 go_loopw [44, 59] (fun i _ wr => ∃ k : Nat, i = .int .i64 k ∧ k ≤ m ∧ Below W3.heap.size W3 wr) (fun i _ _ => m - (intOf i).toNat)
 case atStart => exact ⟨0, rfl, Nat.zero_le _, Below.refl _ _⟩
 case round =>
  obtain ⟨k, rfl, hk, hbl⟩ := hrel
  have HBL := Lib.hid (B3.out.trans (hbl.mono B3.out.size))
  have HB0 := Lib.hid hbl
  by_cases hlt : k < m
  ·
   have hkI : (k : Int) < (m : Int) := by omega
   have hLA := HLA.out.next (rxR_steady e) HBL.out
   have hLB := HLB.out.next (rxR_steady e) HBL.out
   obtain ⟨x, hx⟩ : ∃ x, x = y.ks.getD k default := ⟨_, rfl⟩
   obtain ⟨ba, oa, c, rfl, hbA, hcl, hRA, hCA⟩ := hLA.get HM.out hlt default
   obtain ⟨bb, ob, c', rfl, hbB, hcl', hRB, hCB⟩ := hLB.get HM.out hlt default
   rw [← hx] at hRA hRB
   obtain ⟨ko, kn, kc, rfl⟩ := rx_form hRA
   obtain ⟨lo, ln, lc, rfl⟩ := rx_form hRB
   have HBA := Lib.hid hbA
   have HBB := Lib.hid hbB
   have HCA := Lib.hid hCA
   have HCB := Lib.hid hCB
   have HLT := Lib.hid hlt
   have HSA : Hid (∀ W, Below wr.heap.size wr W → Calls Try.prog 10 #[.agg #[.int .i64 x.k, .int .u64 x.cl.a, .int .u64 x.cl.b, .int .u64 x.cl.c, .int .u64 x.cl.d, .slice ko kn kc, .int .i64 x.mn, .int .i64 x.mx], .agg #[.int .i64 x.k, .int .u64 x.cl.a, .int .u64 x.cl.b, .int .u64 x.cl.c, .int .u64 x.cl.d, .slice lo ln lc, .int .i64 x.mn, .int .i64 x.mx]] W (Said true W)) := fun W hW => HH.out x _ _ W (rxR_steady e _ _ _ _ _ _ hRA hW hW.size) (rxR_steady e _ _ _ _ _ _ hRB hW hW.size)
   have X0 := Lib.hid ((HB0.out.block _ (lt_of_block X0'.out)).trans X0'.out)
   have X1 := Lib.hid ((HB0.out.block _ (lt_of_block X1'.out)).trans X1'.out)
   clear hLA hLB hRA hRB hbA hbB hcl hcl' hCA hCB hx hbl hlt
   go_wp2
   refine wp_flow 12 (fun _ => 1000) (fun ww => Below wr.heap.size wr ww) (fun _ w w' => (fun (w w' : World) => RowKit.Below w.heap.size w w') w w') (fun kF vF wF => match kF with | 0 => (vF = .pointer (some ⟨q, 5, none⟩)) | 1 => (vF = .slice (some ⟨ba, oa, none⟩) m cap) | 2 => (vF = .int .i64 (k : Int)) | 3 => (vF = .pointer (some ⟨ba, oa + k * 8, none⟩)) | 4 => (vF = .agg #[.int .i64 x.k, .int .u64 x.cl.a, .int .u64 x.cl.b, .int .u64 x.cl.c, .int .u64 x.cl.d, .slice ko kn kc, .int .i64 x.mn, .int .i64 x.mx]) | 5 => (vF = .pointer (some ⟨q + 1, 5, none⟩)) | 6 => (vF = .slice (some ⟨bb, ob, none⟩) m bap) | 7 => (vF = .int .i64 (k : Int)) | 8 => (vF = .pointer (some ⟨bb, ob + k * 8, none⟩)) | 9 => (vF = .agg #[.int .i64 x.k, .int .u64 x.cl.a, .int .u64 x.cl.b, .int .u64 x.cl.c, .int .u64 x.cl.d, .slice lo ln lc, .int .i64 x.mn, .int .i64 x.mx]) | 10 => (vF = .bool true) | 11 => (vF = .bool false) | _ => True) (fun _ _ _ _ => True) (by kernel_rfl) (by kernel_rfl) ?_ ?_ ?_ ?_ ?_
   ·
    exact (Below.refl _ _).drew
   ·
    intro iF wF1 wF2 hR hT; exact hR.trans (Below.mono hT (Below.size hR))
   ·
    intro kF hkF iF hiF hne hdd hanc hdan vF wF1 wF2 h hT
    rcases (by omega : kF = 0 ∨ kF = 1 ∨ kF = 2 ∨ kF = 3 ∨ kF = 4 ∨ kF = 5 ∨ kF = 6 ∨ kF = 7 ∨ kF = 8 ∨ kF = 9 ∨ kF = 10 ∨ kF = 11) with rfl | rfl | rfl | rfl | rfl | rfl | rfl | rfl | rfl | rfl | rfl | rfl
    ·
     exact h
    ·
     exact h
    ·
     exact h
    ·
     exact h
    ·
     exact h
    ·
     exact h
    ·
     exact h
    ·
     exact h
    ·
     exact h
    ·
     exact h
    ·
     exact h
    ·
     exact h
   ·
    generalize hAF : fillOf _ _ _ = AF
    replace hAF := fun x => congrFun hAF x
    simp only [List.take_succ_cons, List.take_zero, fillOf, Act.put, List.setIfInBounds_toArray, List.set_cons_zero, List.set_cons_succ, Nat.reduceAdd, Nat.zero_add] at hAF
    refine FlowAll.cons ?_ ?_
    ·
     intro xF wz hR hd K hK
     clear hd
     simp only [← hAF, Act.put, List.setIfInBounds_toArray, List.set_cons_zero, List.set_cons_succ] at hK ⊢
     clear hAF
     try simp only [Nat.zero_add] at hK ⊢
     try simp only [Nat.reduceAdd] at hK ⊢
     obtain hbR := id hR
     rw [if_pos (by rfl)]
     go_simp
     exact hK.out _ _ (Below.refl _ _) (rfl) (fun _ _ _ => ⟨trivial, trivial⟩)
    refine FlowAll.cons ?_ ?_
    ·
     intro xF wz hR hd K hK
     have dd0 : ((xF 0) = .pointer (some ⟨q, 5, none⟩)) := hd 0 (by kernel_rfl)
     clear hd
     simp only [← hAF, Act.put, List.setIfInBounds_toArray, List.set_cons_zero, List.set_cons_succ] at hK ⊢
     clear hAF
     try simp only [Nat.zero_add] at hK ⊢
     try simp only [Nat.reduceAdd] at hK ⊢
     try generalize xF 0 = yy0 at *
     obtain rfl := dd0
     obtain hbR := id hR
     have hxa := (hbR.block _ (lt_of_block X0.out)).trans X0.out
     have c95 := boxc hxa 5 _ rfl
     clear hxa
     rw [if_pos (by rfl)]
     go_simp
     exact hK.out _ _ (Below.refl _ _) (rfl) (fun _ _ _ => ⟨trivial, trivial⟩)
    refine FlowAll.cons ?_ ?_
    ·
     intro xF wz hR hd K hK
     clear hd
     simp only [← hAF, Act.put, List.setIfInBounds_toArray, List.set_cons_zero, List.set_cons_succ] at hK ⊢
     clear hAF
     try simp only [Nat.zero_add] at hK ⊢
     try simp only [Nat.reduceAdd] at hK ⊢
     obtain hbR := id hR
     rw [if_pos (by rfl)]
     go_simp
     exact hK.out _ _ (Below.refl _ _) (rfl) (fun _ _ _ => ⟨trivial, trivial⟩)
    refine FlowAll.cons ?_ ?_
    ·
     intro xF wz hR hd K hK
     have dd1 : ((xF 1) = .slice (some ⟨ba, oa, none⟩) m cap) := hd 1 (by kernel_rfl)
     have dd2 : ((xF 2) = .int .i64 (k : Int)) := hd 2 (by kernel_rfl)
     clear hd
     simp only [← hAF, Act.put, List.setIfInBounds_toArray, List.set_cons_zero, List.set_cons_succ] at hK ⊢
     clear hAF
     try simp only [Nat.zero_add] at hK ⊢
     try simp only [Nat.reduceAdd] at hK ⊢
     try generalize xF 1 = yy1 at *
     try generalize xF 2 = yy2 at *
     obtain rfl := dd1
     obtain rfl := dd2
     obtain hbR := id hR
     rw [if_pos (by rfl)]
     go_simp
     exact hK.out _ _ (Below.refl _ _) (rfl) (fun _ _ _ => ⟨trivial, trivial⟩)
    refine FlowAll.cons ?_ ?_
    ·
     intro xF wz hR hd K hK
     have dd3 : ((xF 3) = .pointer (some ⟨ba, oa + k * 8, none⟩)) := hd 3 (by kernel_rfl)
     clear hd
     simp only [← hAF, Act.put, List.setIfInBounds_toArray, List.set_cons_zero, List.set_cons_succ] at hK ⊢
     clear hAF
     try simp only [Nat.zero_add] at hK ⊢
     try simp only [Nat.reduceAdd] at hK ⊢
     try generalize xF 3 = yy3 at *
     obtain rfl := dd3
     obtain hbR := id hR
     have c90 := (hbR.cell (p := ⟨ba, oa + k * 8, none⟩) HBA.out).trans (HCA.out 0 _ rfl)
     have c91 := (hbR.cell (p := ⟨ba, oa + k * 8 + 1, none⟩) HBA.out).trans (HCA.out 1 _ rfl)
     have c92 := (hbR.cell (p := ⟨ba, oa + k * 8 + 2, none⟩) HBA.out).trans (HCA.out 2 _ rfl)
     have c93 := (hbR.cell (p := ⟨ba, oa + k * 8 + 3, none⟩) HBA.out).trans (HCA.out 3 _ rfl)
     have c94 := (hbR.cell (p := ⟨ba, oa + k * 8 + 4, none⟩) HBA.out).trans (HCA.out 4 _ rfl)
     have c95 := (hbR.cell (p := ⟨ba, oa + k * 8 + 5, none⟩) HBA.out).trans (HCA.out 5 _ rfl)
     have c96 := (hbR.cell (p := ⟨ba, oa + k * 8 + 6, none⟩) HBA.out).trans (HCA.out 6 _ rfl)
     have c97 := (hbR.cell (p := ⟨ba, oa + k * 8 + 7, none⟩) HBA.out).trans (HCA.out 7 _ rfl)
     rw [if_pos (by rfl)]
     go_simp
     exact hK.out _ _ (Below.refl _ _) (rfl) (fun _ _ _ => ⟨trivial, trivial⟩)
    refine FlowAll.cons ?_ ?_
    ·
     intro xF wz hR hd K hK
     clear hd
     simp only [← hAF, Act.put, List.setIfInBounds_toArray, List.set_cons_zero, List.set_cons_succ] at hK ⊢
     clear hAF
     try simp only [Nat.zero_add] at hK ⊢
     try simp only [Nat.reduceAdd] at hK ⊢
     obtain hbR := id hR
     rw [if_pos (by rfl)]
     go_simp
     exact hK.out _ _ (Below.refl _ _) (rfl) (fun _ _ _ => ⟨trivial, trivial⟩)
    refine FlowAll.cons ?_ ?_
    ·
     intro xF wz hR hd K hK
     have dd5 : ((xF 5) = .pointer (some ⟨q + 1, 5, none⟩)) := hd 5 (by kernel_rfl)
     clear hd
     simp only [← hAF, Act.put, List.setIfInBounds_toArray, List.set_cons_zero, List.set_cons_succ] at hK ⊢
     clear hAF
     try simp only [Nat.zero_add] at hK ⊢
     try simp only [Nat.reduceAdd] at hK ⊢
     try generalize xF 5 = yy5 at *
     obtain rfl := dd5
     obtain hbR := id hR
     have hxa := (hbR.block _ (lt_of_block X1.out)).trans X1.out
     have c95 := boxc hxa 5 _ rfl
     clear hxa
     rw [if_pos (by rfl)]
     go_simp
     exact hK.out _ _ (Below.refl _ _) (rfl) (fun _ _ _ => ⟨trivial, trivial⟩)
    refine FlowAll.cons ?_ ?_
    ·
     intro xF wz hR hd K hK
     clear hd
     simp only [← hAF, Act.put, List.setIfInBounds_toArray, List.set_cons_zero, List.set_cons_succ] at hK ⊢
     clear hAF
     try simp only [Nat.zero_add] at hK ⊢
     try simp only [Nat.reduceAdd] at hK ⊢
     obtain hbR := id hR
     rw [if_pos (by rfl)]
     go_simp
     exact hK.out _ _ (Below.refl _ _) (rfl) (fun _ _ _ => ⟨trivial, trivial⟩)
    refine FlowAll.cons ?_ ?_
    ·
     intro xF wz hR hd K hK
     have dd6 : ((xF 6) = .slice (some ⟨bb, ob, none⟩) m bap) := hd 6 (by kernel_rfl)
     have dd7 : ((xF 7) = .int .i64 (k : Int)) := hd 7 (by kernel_rfl)
     clear hd
     simp only [← hAF, Act.put, List.setIfInBounds_toArray, List.set_cons_zero, List.set_cons_succ] at hK ⊢
     clear hAF
     try simp only [Nat.zero_add] at hK ⊢
     try simp only [Nat.reduceAdd] at hK ⊢
     try generalize xF 6 = yy6 at *
     try generalize xF 7 = yy7 at *
     obtain rfl := dd6
     obtain rfl := dd7
     obtain hbR := id hR
     rw [if_pos (by rfl)]
     go_simp
     exact hK.out _ _ (Below.refl _ _) (rfl) (fun _ _ _ => ⟨trivial, trivial⟩)
    refine FlowAll.cons ?_ ?_
    ·
     intro xF wz hR hd K hK
     have dd8 : ((xF 8) = .pointer (some ⟨bb, ob + k * 8, none⟩)) := hd 8 (by kernel_rfl)
     clear hd
     simp only [← hAF, Act.put, List.setIfInBounds_toArray, List.set_cons_zero, List.set_cons_succ] at hK ⊢
     clear hAF
     try simp only [Nat.zero_add] at hK ⊢
     try simp only [Nat.reduceAdd] at hK ⊢
     try generalize xF 8 = yy8 at *
     obtain rfl := dd8
     obtain hbR := id hR
     have c90 := (hbR.cell (p := ⟨bb, ob + k * 8, none⟩) HBB.out).trans (HCB.out 0 _ rfl)
     have c91 := (hbR.cell (p := ⟨bb, ob + k * 8 + 1, none⟩) HBB.out).trans (HCB.out 1 _ rfl)
     have c92 := (hbR.cell (p := ⟨bb, ob + k * 8 + 2, none⟩) HBB.out).trans (HCB.out 2 _ rfl)
     have c93 := (hbR.cell (p := ⟨bb, ob + k * 8 + 3, none⟩) HBB.out).trans (HCB.out 3 _ rfl)
     have c94 := (hbR.cell (p := ⟨bb, ob + k * 8 + 4, none⟩) HBB.out).trans (HCB.out 4 _ rfl)
     have c95 := (hbR.cell (p := ⟨bb, ob + k * 8 + 5, none⟩) HBB.out).trans (HCB.out 5 _ rfl)
     have c96 := (hbR.cell (p := ⟨bb, ob + k * 8 + 6, none⟩) HBB.out).trans (HCB.out 6 _ rfl)
     have c97 := (hbR.cell (p := ⟨bb, ob + k * 8 + 7, none⟩) HBB.out).trans (HCB.out 7 _ rfl)
     rw [if_pos (by rfl)]
     go_simp
     exact hK.out _ _ (Below.refl _ _) (rfl) (fun _ _ _ => ⟨trivial, trivial⟩)
    refine FlowAll.cons ?_ ?_
    ·
     intro xF wz hR hd K hK
     have dd4 : ((xF 4) = .agg #[.int .i64 x.k, .int .u64 x.cl.a, .int .u64 x.cl.b, .int .u64 x.cl.c, .int .u64 x.cl.d, .slice ko kn kc, .int .i64 x.mn, .int .i64 x.mx]) := hd 4 (by kernel_rfl)
     have dd9 : ((xF 9) = .agg #[.int .i64 x.k, .int .u64 x.cl.a, .int .u64 x.cl.b, .int .u64 x.cl.c, .int .u64 x.cl.d, .slice lo ln lc, .int .i64 x.mn, .int .i64 x.mx]) := hd 9 (by kernel_rfl)
     clear hd
     simp only [← hAF, Act.put, List.setIfInBounds_toArray, List.set_cons_zero, List.set_cons_succ] at hK ⊢
     clear hAF
     try simp only [Nat.zero_add] at hK ⊢
     try simp only [Nat.reduceAdd] at hK ⊢
     try generalize xF 4 = yy4 at *
     try generalize xF 9 = yy9 at *
     obtain rfl := dd4
     obtain rfl := dd9
     obtain hbR := id hR
     rw [if_pos (by rfl)]
     go_simp
     (go_at_call 10; (with_reducible refine (HSA.out _ hbR).mono ?_); rintro e wK ⟨rfl, hbK⟩)
     try go_wp2_with fail
     exact hK.out _ _ (hbK) (rfl) (fun _ _ _ => ⟨trivial, trivial⟩)
    refine FlowAll.cons ?_ ?_
    ·
     intro xF wz hR hd K hK
     have dd10 : ((xF 10) = .bool true) := hd 10 (by kernel_rfl)
     clear hd
     simp only [← hAF, Act.put, List.setIfInBounds_toArray, List.set_cons_zero, List.set_cons_succ] at hK ⊢
     clear hAF
     try simp only [Nat.zero_add] at hK ⊢
     try simp only [Nat.reduceAdd] at hK ⊢
     try generalize xF 10 = yy10 at *
     obtain rfl := dd10
     obtain hbR := id hR
     rw [if_pos (by rfl)]
     go_simp
     exact hK.out _ _ (Below.refl _ _) (rfl) (fun _ _ _ => ⟨trivial, trivial⟩)
    exact FlowAll.nil
   intro xF wz hR hF hP
   clear hP
   have dd0 : ((xF 0) = .pointer (some ⟨q, 5, none⟩)) := hF 0 (by omega) (by decide)
   have dd1 : ((xF 1) = .slice (some ⟨ba, oa, none⟩) m cap) := hF 1 (by omega) (by decide)
   have dd2 : ((xF 2) = .int .i64 (k : Int)) := hF 2 (by omega) (by decide)
   have dd3 : ((xF 3) = .pointer (some ⟨ba, oa + k * 8, none⟩)) := hF 3 (by omega) (by decide)
   have dd4 : ((xF 4) = .agg #[.int .i64 x.k, .int .u64 x.cl.a, .int .u64 x.cl.b, .int .u64 x.cl.c, .int .u64 x.cl.d, .slice ko kn kc, .int .i64 x.mn, .int .i64 x.mx]) := hF 4 (by omega) (by decide)
   have dd5 : ((xF 5) = .pointer (some ⟨q + 1, 5, none⟩)) := hF 5 (by omega) (by decide)
   have dd6 : ((xF 6) = .slice (some ⟨bb, ob, none⟩) m bap) := hF 6 (by omega) (by decide)
   have dd7 : ((xF 7) = .int .i64 (k : Int)) := hF 7 (by omega) (by decide)
   have dd8 : ((xF 8) = .pointer (some ⟨bb, ob + k * 8, none⟩)) := hF 8 (by omega) (by decide)
   have dd9 : ((xF 9) = .agg #[.int .i64 x.k, .int .u64 x.cl.a, .int .u64 x.cl.b, .int .u64 x.cl.c, .int .u64 x.cl.d, .slice lo ln lc, .int .i64 x.mn, .int .i64 x.mx]) := hF 9 (by omega) (by decide)
   have dd10 : ((xF 10) = .bool true) := hF 10 (by omega) (by decide)
   have dd11 : ((xF 11) = .bool false) := hF 11 (by omega) (by decide)
   clear hF
   simp only [List.take_succ_cons, List.take_zero, List.drop_succ_cons, List.drop_zero, fillOf, Act.put, List.setIfInBounds_toArray, List.set_cons_zero, List.set_cons_succ, Nat.reduceAdd, Nat.zero_add]
   try generalize xF 0 = yy0 at *
   try generalize xF 1 = yy1 at *
   try generalize xF 2 = yy2 at *
   try generalize xF 3 = yy3 at *
   try generalize xF 4 = yy4 at *
   try generalize xF 5 = yy5 at *
   try generalize xF 6 = yy6 at *
   try generalize xF 7 = yy7 at *
   try generalize xF 8 = yy8 at *
   try generalize xF 9 = yy9 at *
   try generalize xF 10 = yy10 at *
   try generalize xF 11 = yy11 at *
   clear xF
   obtain rfl := dd0
   obtain rfl := dd1
   obtain rfl := dd2
   obtain rfl := dd3
   obtain rfl := dd4
   obtain rfl := dd5
   obtain rfl := dd6
   obtain rfl := dd7
   obtain rfl := dd8
   obtain rfl := dd9
   obtain rfl := dd10
   obtain rfl := dd11
   have hRE := Lib.hid hR
   clear hR
   go_wp2
   go_roundw
   case rel => exact ⟨k + 1, by go_num, by have := HLT.out; omega, HB0.out.trans (hRE.out.mono HB0.out.size)⟩
   case measure => simp [intOf]; have := HLT.out; omega
  ·
   obtain rfl : k = m := by omega
   have hkI : ¬ (k : Int) < (k : Int) := by omega
   clear hbl
   go_wp2
   go_ret
   exact ⟨rfl, HBL.out⟩
theorem same_any : ∀ (e : Nat) (x : Pat) (c c' : List Value) (w : World), rxR e w w.heap.size c x → rxR e w w.heap.size c' x → Calls Try.prog 10 #[.agg c.toArray, .agg c'.toArray] w (Said true w)
 | 0, _, _, _, _, h, _ => h.elim
 | e + 1, x, c, c', w, h, h' => same_of e (same_any e) x c c' w h h'
end Go.Proofs.Ytbccejlemhgioaa
namespace Go.Proofs.Ytbccejlemhgioaa
open Go Go.RowKit Go.ChangeShapes cl rx
set_option maxRecDepth 100000 in
theorem ry_pa (w : World) : Calls Try.prog 8 #[.string ⟨#[97, 124, 98, 99, 42]⟩] w (fun e w' => ∃ c, e = .returned (.tuple #[.agg (List.toArray c), .int .i64 0, .int .i64 0]) ∧ Fre w.heap.size w' (fun W => rxR 40 W W.heap.size c pA) ∧ Below w.heap.size w w') := by
 have h := rf_parse_any ⟨#[97, 124, 98, 99, 42]⟩ w
 rw [bytes_a, show rf.parse [97, 124, 98, 99, 42] = (pA, 0, 0) by kernel_rfl] at h
 exact h
set_option maxRecDepth 100000 in
theorem ry_pb (w : World) : Calls Try.prog 8 #[.string ⟨#[97, 42, 42]⟩] w (fun e w' => ∃ c, e = .returned (.tuple #[.agg (List.toArray c), .int .i64 2, .int .i64 9]) ∧ Fre w.heap.size w' (fun W => rxR 40 W W.heap.size c .zero) ∧ Below w.heap.size w w') := by
 have h := rf_parse_any ⟨#[97, 42, 42]⟩ w
 rw [bytes_b, show rf.parse [97, 42, 42] = (.zero, 2, 9) by kernel_rfl] at h
 exact h
set_option maxHeartbeats 6400000 in
set_option maxRecDepth 100000 in
theorem awake_rf (w : World) : Calls Try.prog 7 #[] w (Said true w) := by
 have HPA := Lib.hid (fun W => ry_pa W)
 have HPB := Lib.hid (fun W => ry_pb W)
 have HSG : Hid (∀ W, Calls Try.prog 13 #[.int .u8 97] W (fun e w' => e = .returned (.agg #[.int .u64 (Cls.one 97).a, .int .u64 (Cls.one 97).b, .int .u64 (Cls.one 97).c, .int .u64 (Cls.one 97).d]) ∧ Below W.heap.size W w')) := fun W => rx_single 97 W (by decide)
 have HIN : Hid (∀ W, Calls Try.prog 12 #[.agg #[.int .u64 (Cls.one 97).a, .int .u64 (Cls.one 97).b, .int .u64 (Cls.one 97).c, .int .u64 (Cls.one 97).d], .int .u8 97] W (fun e w' => e = .returned (.bool true) ∧ Below W.heap.size W w')) := fun W => rx_in (Cls.one 97) 97 W (by unfold Cls.ok; decide) (by decide)
 have HRT : Hid (∀ (c : List Value) (W : World), rxR 40 W W.heap.size c pA → Calls Try.prog 17 #[.agg c.toArray] W (fun e w' => e = .returned (.bool true) ∧ Below W.heap.size W w')) := fun c W h => rx_right 40 pA c W h okR_a
 go_enter Try.func7, Try.ntmps7
 go_wp2_with fail
 (with_reducible refine (HPA.out _).mono ?_)
 rintro e w1 ⟨c, rfl, hf, hb⟩
 have HR := Lib.hid hf.at
 have hB1 := Lib.hid hb
 obtain ⟨ko, kn, kc, rfl⟩ : ∃ (ko : Option Addr) (kn kc : Nat), c = [.int .i64 4, .int .u64 0, .int .u64 0, .int .u64 0, .int .u64 0, .slice ko kn kc, .int .i64 0, .int .i64 0] := rx_form hf.at
 clear hf hb
 have xx : (w1.alloc (.cells #[.int .i64 0, .int .u64 0, .int .u64 0, .int .u64 0, .int .u64 0, .slice none 0 0, .int .i64 0, .int .i64 0] 28)).heap[w1.heap.size]? = some (.cells #[.int .i64 0, .int .u64 0, .int .u64 0, .int .u64 0, .int .u64 0, .slice none 0 0, .int .i64 0, .int .i64 0] 28 (0, 0)) := heap_alloc_new _ _
 go_wp2_with ((with_reducible show wpList _ _ _ (Oper.mk _ (Op.store 28 (.tmp 1) _) _ _ _ _ :: _) _ _); refine wpList_store_row rfl 28 (.tmp 1) _ rfl (w1.heap.size) #[.int .i64 4, .int .u64 0, .int .u64 0, .int .u64 0, .int .u64 0, .slice ko kn kc, .int .i64 0, .int .i64 0] rfl rfl 28 #[.int .i64 0, .int .u64 0, .int .u64 0, .int .u64 0, .int .u64 0, .slice none 0 0, .int .i64 0, .int .i64 0] xx rsize rfl (by simp [Value.oneCell']) ?_)
 have x1 := setRow_heap _ (w1.heap.size) _ #[.int .i64 4, .int .u64 0, .int .u64 0, .int .u64 0, .int .u64 0, .slice ko kn kc, .int .i64 0, .int .i64 0] _ _ xx
 have bb := below_setRow (below1 (w := w1) (o := .cells #[.int .i64 0, .int .u64 0, .int .u64 0, .int .u64 0, .int .u64 0, .slice none 0 0, .int .i64 0, .int .i64 0] 28)) (g := w1.heap.size) (Nat.le_refl _) #[.int .i64 4, .int .u64 0, .int .u64 0, .int .u64 0, .int .u64 0, .slice ko kn kc, .int .i64 0, .int .i64 0]
 obtain ⟨W2, h2⟩ : ∃ W, W = World.setRow (w1.alloc (.cells #[.int .i64 0, .int .u64 0, .int .u64 0, .int .u64 0, .int .u64 0, .slice none 0 0, .int .i64 0, .int .i64 0] 28)) (w1.heap.size) #[.int .i64 4, .int .u64 0, .int .u64 0, .int .u64 0, .int .u64 0, .slice ko kn kc, .int .i64 0, .int .i64 0] := ⟨_, rfl⟩
 obtain ⟨q1, hq1⟩ : ∃ q, q = w1.heap.size := ⟨_, rfl⟩
 rw [← h2] at x1 bb ⊢
 have HR2 := Lib.hid (rxR_steady 40 _ _ _ _ _ _ HR.out bb bb.size)
 have hB2 := Lib.hid (hB1.out.trans (bb.mono hB1.out.size))
 rw [← hq1] at x1 ⊢
 have X1 := Lib.hid x1
 clear xx x1 bb h2 hq1 HR hB1
 (with_reducible refine (HPB.out _).mono ?_)
 rintro e w3 ⟨c, rfl, hf, hb⟩
 have HR3 := Lib.hid (rxR_steady 40 _ _ _ _ _ _ HR2.out hb hb.size)
 have hB3 := Lib.hid (hB2.out.trans (hb.mono hB2.out.size))
 have X3 := Lib.hid ((hb.block _ (lt_of_block X1.out)).trans X1.out)
 obtain ⟨lo, ln, lc, rfl⟩ : ∃ (ko : Option Addr) (kn kc : Nat), c = [.int .i64 0, .int .u64 0, .int .u64 0, .int .u64 0, .int .u64 0, .slice ko kn kc, .int .i64 0, .int .i64 0] := rx_form hf.at
 clear hf hb HR2 hB2 X1
 have xx : (w3.alloc (.cells #[.int .i64 0, .int .u64 0, .int .u64 0, .int .u64 0, .int .u64 0, .slice none 0 0, .int .i64 0, .int .i64 0] 28)).heap[w3.heap.size]? = some (.cells #[.int .i64 0, .int .u64 0, .int .u64 0, .int .u64 0, .int .u64 0, .slice none 0 0, .int .i64 0, .int .i64 0] 28 (0, 0)) := heap_alloc_new _ _
 obtain ⟨W4, h4⟩ : ∃ W, W = World.setRow (w3.alloc (.cells #[.int .i64 0, .int .u64 0, .int .u64 0, .int .u64 0, .int .u64 0, .slice none 0 0, .int .i64 0, .int .i64 0] 28)) (w3.heap.size) #[.int .i64 0, .int .u64 0, .int .u64 0, .int .u64 0, .int .u64 0, .slice lo ln lc, .int .i64 0, .int .i64 0] := ⟨_, rfl⟩
 have bb := below_setRow (below1 (w := w3) (o := .cells #[.int .i64 0, .int .u64 0, .int .u64 0, .int .u64 0, .int .u64 0, .slice none 0 0, .int .i64 0, .int .i64 0] 28)) (g := w3.heap.size) (Nat.le_refl _) #[.int .i64 0, .int .u64 0, .int .u64 0, .int .u64 0, .int .u64 0, .slice lo ln lc, .int .i64 0, .int .i64 0]
 rw [← h4] at bb
 have HR4 := Lib.hid (rxR_steady 40 _ _ _ _ _ _ HR3.out bb bb.size)
 have hB4 := Lib.hid (hB3.out.trans (bb.mono hB3.out.size))
 have X4 := (bb.block _ (lt_of_block X3.out)).trans X3.out
 have hq := lt_of_block X4
 have z0 := boxc X4 0 _ rfl
 have z1 := boxc X4 1 _ rfl
 have z2 := boxc X4 2 _ rfl
 have z3 := boxc X4 3 _ rfl
 have z4 := boxc X4 4 _ rfl
 have z5 := boxc X4 5 _ rfl
 have z6 := boxc X4 6 _ rfl
 have z7 := boxc X4 7 _ rfl
 obtain ⟨ko', kn', kc', he, hK⟩ := HR4.out
 simp only [List.cons.injEq, Value.slice.injEq, and_true] at he
 replace he := he.2.2.2.2.2.1
 obtain ⟨rfl, rfl, rfl⟩ := he
 obtain rfl : kn = 2 := by
  obtain ⟨_, _, e, _, _⟩ := hK.form
  simp only [Value.slice.injEq] at e
  exact e.2.1
 obtain ⟨b, o, so, sn, sc, rfl, hbB, hsn, k0, k1, _, d', hd', hK2⟩ := kid_at hK rfl 1 (by decide)
 obtain rfl : sn = 2 := hsn
 obtain ⟨b', o', uo, un, uc, rfl, hbB', _, _, _, m1, _, _, _⟩ := kid_at hK2 rfl 1 (by decide)
 have k0 : W4.cell? ⟨b, o + 8, none⟩ = some (.int .i64 3) := k0
 have k1 : W4.cell? ⟨b, o + 8 + 5, none⟩ = some (.slice (some ⟨b', o', none⟩) 2 sc) := k1
 have m1 : W4.cell? ⟨b', o' + 8 + 7, none⟩ = some (.int .i64 (-1)) := m1
 clear hK hK2 hbB hbB' hd' HR3 hB3 X3 bb hq
 have HW4 := Lib.hid h4
 have HX4 := Lib.hid X4
 clear X4
 rw [h4] at z0 z1 z2 z3 z4 z5 z6 z7 k0 k1 m1
 clear h4
 go_wp2_with ((with_reducible show wpList _ _ _ (Oper.mk _ (Op.store 28 (.tmp 4) _) _ _ _ _ :: _) _ _); refine wpList_store_row rfl 28 (.tmp 4) _ rfl (w3.heap.size) #[.int .i64 0, .int .u64 0, .int .u64 0, .int .u64 0, .int .u64 0, .slice lo ln lc, .int .i64 0, .int .i64 0] rfl rfl 28 #[.int .i64 0, .int .u64 0, .int .u64 0, .int .u64 0, .int .u64 0, .slice none 0 0, .int .i64 0, .int .i64 0] xx rsize rfl (by simp [Value.oneCell']) ?_)
 rw [← HW4.out] at z0 ⊢
 have X4 := Lib.hid HX4.out
 clear z0 z1 z2 z3 z4 z5 z6 z7 k0 k1 m1 xx
 (with_reducible refine (HSG.out _).mono ?_)
 rintro e w5 ⟨rfl, b5⟩
 have b5' := hB4.out.trans (b5.mono hB4.out.size)
 have X5 := (b5.block _ (lt_of_block X4.out)).trans X4.out
 have HR5 := rxR_steady 40 _ _ _ _ _ _ HR4.out b5 b5.size
 have hB5 := Lib.hid b5'
 clear b5 b5' HR4 hB4
 replace X5 := Lib.hid X5
 replace HR5 := Lib.hid HR5
 go_wp2_with fail
 (with_reducible refine (HIN.out _).mono ?_)
 rintro e w6 ⟨rfl, b6⟩
 have X6 := (b6.block _ (lt_of_block X5.out)).trans X5.out
 have HR6 := Lib.hid (rxR_steady 40 _ _ _ _ _ _ HR5.out b6 b6.size)
 have hB6 := Lib.hid (hB5.out.trans (b6.mono hB5.out.size))
 have z0 := boxc X6 0 _ rfl
 have z1 := boxc X6 1 _ rfl
 have z2 := boxc X6 2 _ rfl
 have z3 := boxc X6 3 _ rfl
 have z4 := boxc X6 4 _ rfl
 have z5 := boxc X6 5 _ rfl
 have z6 := boxc X6 6 _ rfl
 have z7 := boxc X6 7 _ rfl
 clear b6 X5 HR5 hB5 X6
 go_wp2_with fail
 (with_reducible refine (HRT.out _ _ HR6.out).mono ?_)
 rintro e w7 ⟨rfl, b7⟩
 have hB7 := Lib.hid (hB6.out.trans (b7.mono hB6.out.size))
 clear b7 z0 z1 z2 z3 z4 z5 z6 z7
 go_wp2
 go_ret
 exact ⟨rfl, hB7.out⟩
theorem Lop.keep2 {w W W' : World} {l : List (Nat × TypeId × Array Value)} {P P' : World → Prop} (h : Lop w W l P) (hb : Below W.heap.size W W') (f : Fre W.heap.size W' P') : Lop w W' l (fun V => P V ∧ P' V) := ⟨h.1.call hb, fun V h1 h2 => ⟨h.2.next hb V h1 h2, Fro.of f h.1.1.size h.1.lts V h1 h2⟩⟩
set_option maxHeartbeats 25600000 in
set_option maxRecDepth 100000 in
theorem law_parses (S : ByteArray) (w : World) : Calls Try.prog 3 #[.string S] w (Said true w) := by
 have HAW : Hid (∀ W, Calls Try.prog 7 #[] W (Said true W)) := awake_rf
 by_cases hl : 1000 < S.size
 ·
  have jl : (1000 : Int) < (S.size : Int) := by omega
  have jn : 1000 < S.size := hl
  clear hl
  go_enter Try.func3, Try.ntmps3
  go_wp2_with fail
  with_reducible refine (HAW.out _).mono ?_
  rintro e V1 ⟨rfl, b1⟩
  have B1 := Lib.hid b1
  clear b1
  go_wp2
  go_ret
  exact ⟨rfl, B1.out⟩
 ·
  have jl : ¬ (1000 : Int) < (S.size : Int) := by omega
  have jn : ¬ 1000 < S.size := hl
  clear hl
  obtain ⟨x, a, b, hp⟩ : ∃ x a b, rf.parse (kit.bytes S) = (x, a, b) := ⟨_, _, _, rfl⟩
  have HPA : Hid (∀ W : World, Calls Try.prog 8 #[.string S] W (fun e w' => ∃ c, e = .returned (.tuple #[.agg (List.toArray c), .int .i64 a, .int .i64 b]) ∧ Fre W.heap.size w' (fun W => rxR 40 W W.heap.size c x) ∧ Below W.heap.size W w')) := fun W => by have h := rf_parse_any S W; rw [hp] at h; exact h
  have HPB : Hid (∀ W : World, Calls Try.prog 9 #[.string S] W (PrA 40 (x, a, b) W)) := fun W => by have h := rr_parse_any S W; rw [rr.parse_rel, hp] at h; exact h
  clear hp
  go_enter Try.func3, Try.ntmps3
  go_wp2_with fail
  with_reducible refine (HPA.out _).mono ?_
  rintro e V1 ⟨c1, rfl, f1, b1⟩
  obtain ⟨ko1, kn1, kc1, rfl⟩ := rx_form f1.at
  have L1 := Lib.hid ((Lop.nil w).keep b1 f1)
  clear f1 b1
  obtain ⟨q3, hq3⟩ : ∃ x, x = V1.heap.size := ⟨_, rfl⟩
  have L1 := Lib.hid (L1.out.add (q := q3) 28 #[.int .i64 x.k, .int .u64 x.cl.a, .int .u64 x.cl.b, .int .u64 x.cl.c, .int .u64 x.cl.d, .slice ko1 kn1 kc1, .int .i64 x.mn, .int .i64 x.mx] hq3)
  obtain ⟨V2, hV2, L2⟩ := L1.out.nm
  replace L2 := Lib.hid L2; replace hV2 := Lib.hid hV2
  replace hq3 := Lib.hid hq3
  go_wp2_with fail
  rw [← hV2.out, ← hq3.out]
  with_reducible refine (HPB.out _).mono ?_
  rintro e V2 ⟨c2, rfl, f2, b2⟩
  obtain ⟨ko2, kn2, kc2, rfl⟩ := rx_form f2.at
  have L2 := Lib.hid (L2.out.keep2 b2 f2)
  clear f2 b2
  obtain ⟨q6, hq6⟩ : ∃ x, x = V2.heap.size := ⟨_, rfl⟩
  have L3 := Lib.hid (L2.out.add (q := q6) 28 #[.int .i64 x.k, .int .u64 x.cl.a, .int .u64 x.cl.b, .int .u64 x.cl.c, .int .u64 x.cl.d, .slice ko2 kn2 kc2, .int .i64 x.mn, .int .i64 x.mx] hq6)
  obtain ⟨u0, u1, u2, u3, u4, u5, u6, u7⟩ := box8 (L3.out.at (q := q3) 0 rfl)
  obtain ⟨V4, hV4, L4⟩ := L3.out.nm
  replace L4 := Lib.hid L4; replace hV4 := Lib.hid hV4
  replace hq6 := Lib.hid hq6
  have HSM : Hid (Calls Try.prog 10 #[.agg #[.int .i64 x.k, .int .u64 x.cl.a, .int .u64 x.cl.b, .int .u64 x.cl.c, .int .u64 x.cl.d, .slice ko1 kn1 kc1, .int .i64 x.mn, .int .i64 x.mx], .agg #[.int .i64 x.k, .int .u64 x.cl.a, .int .u64 x.cl.b, .int .u64 x.cl.c, .int .u64 x.cl.d, .slice ko2 kn2 kc2, .int .i64 x.mn, .int .i64 x.mx]] V4 (Said true V4)) := same_any 40 x _ _ _ L4.out.2.at.1 L4.out.2.at.2
  go_wp2_with fail
  rw [← hV4.out, ← hq6.out]
  clear u0 u1 u2 u3 u4 u5 u6 u7
  with_reducible refine HSM.out.mono ?_
  rintro e V3 ⟨rfl, b3⟩
  have B3 := Lib.hid (L4.out.1.1.trans (b3.mono L4.out.1.1.size))
  clear b3
  go_wp2_with fail
  with_reducible refine (HAW.out _).mono ?_
  rintro e V4 ⟨rfl, b4⟩
  have B4 := Lib.hid (B3.out.trans (b4.mono B3.out.size))
  clear b4
  go_wp2
  go_ret
  exact ⟨rfl, B4.out⟩
end Go.Proofs.Ytbccejlemhgioaa
namespace Go.Proofs.Ytbccejlemhgioaa.close
open Go.RowKit Go.WideShapes Go.ChangeShapes
section
variable {H : Type} {enc : TypeId × Value → H} {P : Program}
theorem trodAll_stays (hl : laidOutB P = true) {W W' : World} (hb : Below W.heap.size W W') :
  ∀ (ts : List TypeId) (vs : List Value) (ds : List (DataW H)) (ps : List MemPlace), (∀ t ∈ ts, P.readableRec t = true ∧ t < P.types.size) → (∀ x ∈ ps, x.block < W.heap.size) →
   DataW.TrodAll enc P W 0 (fun _ => true) true ts vs ds ps → DataW.TrodAll enc P W' 0 (fun b => decide (b < W.heap.size)) true ts vs ds ps := by
 intro ts
 induction ts with
 | nil =>
  intro vs ds ps _ _ h
  obtain ⟨rfl, rfl, rfl⟩ := trodAll_nil h
  exact rfl
 | cons t ts ih =>
  intro vs ds ps ht hlt h
  obtain ⟨v, vs', d, ds', p, q, rfl, rfl, rfl, h0, r0⟩ := trodAll_cons h
  have h1 := ht t (List.mem_cons_self ..)
  exact ⟨p, q, Below.trod hl h1.1 h1.2 h0 hb (fun x hx => hlt x (List.mem_append_left _ hx)),
   ih _ _ _ (fun u hu => ht u (List.mem_cons_of_mem _ hu)) (fun x hx => hlt x (List.mem_append_right _ hx)) r0, rfl⟩
theorem law_post (hl : laidOutB P = true) {f : Func} {s : ChangeSpec} {apart fresh handsOn : Bool} {W W' : World} {args : Array Value} {ds gs : List (DataW H)} {before : List MemPlace} {tb : TypeId}
  (hts : ∀ t ∈ f.params.toList, P.readableRec t = true ∧ t < P.types.size) (hvars : s.vars = []) (hrt : f.resultTypes = #[tb]) (hb4 : P.underlying tb = some .bool)
  (hW : DataW.Whole enc P f.params.toList s.vars apart W args.toList ds gs before) (hs : s.fn H (ds ++ gs) = { results := [.lit (.bool true)], args := ds, vars := [] })
  (hb : Below W.heap.size W W') : s.post enc P f apart fresh handsOn false W args (.bool true) W' := by
 have hlt : ∀ p ∈ before, p.block < W.heap.size := fun p hp => hW.lt p hp
 have hW' := hW
 obtain ⟨p, q, hA, hV, rfl, _, _⟩ := hW'
 rw [hvars] at hV
 obtain ⟨rfl, rfl⟩ := trodVars_none hV
 refine ⟨ds, [], p ++ [], [], p, [], hW, ?_, ?_, ?_, World.keptBut_mono (fun x hx => ⟨hx, Or.inr (Or.inl (by simpa using hx))⟩) (hb.frame (· ∈ p ++ [])), fun h => by cases h⟩
 ·
  rw [hs, hrt]
  exact trodAll_cons_mk (shut_bool hb4 true) trodAll_mk0
 ·
  rw [hs]
  exact trodAll_stays hl hb _ _ _ _ hts (fun x hx => hlt x (List.mem_append_left _ hx)) hA
 ·
  rw [hs, hvars]
  exact rfl
end
end Go.Proofs.Ytbccejlemhgioaa.close
