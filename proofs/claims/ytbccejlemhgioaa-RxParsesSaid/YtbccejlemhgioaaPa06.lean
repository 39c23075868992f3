/- texts put together: RxUni, RxClm. -/
import Derived.Test.YtbccejlemhgioaaPa01
import Derived.Test.YtbccejlemhgioaaPa02
import Derived.Test.YtbccejlemhgioaaPa03
namespace Go.Proofs.Ytbccejlemhgioaa
open Go Go.RowKit Go.ChangeShapes cl rx
def unK (x y : Cls) (k : Nat) : Cls := ⟨if 0 < k then x.a ||| y.a else x.a, if 1 < k then x.b ||| y.b else x.b, if 2 < k then x.c ||| y.c else x.c, if 3 < k then x.d ||| y.d else x.d⟩
set_option maxHeartbeats 6400000 in
set_option maxRecDepth 100000 in
theorem rx_union (x y : Cls) (w : World) (hx : x.ok) (hy : y.ok) : Calls Try.prog 11 #[.agg #[.int .u64 x.a, .int .u64 x.b, .int .u64 x.c, .int .u64 x.d], .agg #[.int .u64 y.a, .int .u64 y.b, .int .u64 y.c, .int .u64 y.d]] w (fun e w' => e = .returned (.agg #[.int .u64 (x.or y).a, .int .u64 (x.or y).b, .int .u64 (x.or y).c, .int .u64 (x.or y).d]) ∧ Below w.heap.size w w') := by
 obtain ⟨q, hq⟩ : ∃ q, q = w.heap.size := ⟨_, rfl⟩
 obtain ⟨W3, hW3⟩ : ∃ W, W = ((w.alloc (.cells #[.int .u64 x.a, .int .u64 x.b, .int .u64 x.c, .int .u64 x.d] 25)).alloc (.cells #[.int .u64 y.a, .int .u64 y.b, .int .u64 y.c, .int .u64 y.d] 25)).alloc (.cells #[.int .u64 0, .int .u64 0, .int .u64 0, .int .u64 0] 25) := ⟨_, rfl⟩
 have hs1 : (w.alloc (.cells #[.int .u64 x.a, .int .u64 x.b, .int .u64 x.c, .int .u64 x.d] 25)).heap.size = q + 1 := by rw [World.size_alloc, hq]
 have hs2 : ((w.alloc (.cells #[.int .u64 x.a, .int .u64 x.b, .int .u64 x.c, .int .u64 x.d] 25)).alloc (.cells #[.int .u64 y.a, .int .u64 y.b, .int .u64 y.c, .int .u64 y.d] 25)).heap.size = q + 2 := by rw [World.size_alloc, hs1]
 have b1 : Below w.heap.size w (w.alloc (.cells #[.int .u64 x.a, .int .u64 x.b, .int .u64 x.c, .int .u64 x.d] 25)) := below1
 have b2 : Below w.heap.size w ((w.alloc (.cells #[.int .u64 x.a, .int .u64 x.b, .int .u64 x.c, .int .u64 x.d] 25)).alloc (.cells #[.int .u64 y.a, .int .u64 y.b, .int .u64 y.c, .int .u64 y.d] 25)) := b1.trans (below1.mono b1.size)
 have b3 : Below w.heap.size w W3 := by rw [hW3]; exact b2.trans (below1.mono b2.size)
 have x0 : W3.heap[q]? = some (.cells #[.int .u64 (unK x y 0).a, .int .u64 (unK x y 0).b, .int .u64 (unK x y 0).c, .int .u64 (unK x y 0).d] 25 (0, 0)) := by
  rw [hW3]
  refine (below1.block q (by omega)).trans ((below1.block q (by omega)).trans ?_)
  rw [hq]; exact heap_alloc_new _ _
 have x1 : W3.heap[q + 1]? = some (.cells #[.int .u64 y.a, .int .u64 y.b, .int .u64 y.c, .int .u64 y.d] 25 (0, 0)) := by
  rw [hW3]
  refine (below1.block (q + 1) (by omega)).trans ?_
  rw [← hs1]; exact heap_alloc_new _ _
 have x2 : W3.heap[q + 2]? = some (.cells #[.int .u64 0, .int .u64 0, .int .u64 0, .int .u64 0] 25 (0, 0)) := by
  rw [hW3, ← hs2]; exact heap_alloc_new _ _
 have B3 := Lib.hid b3
 have X0 := Lib.hid x0
 have X1 := Lib.hid x1
 have X2 := Lib.hid x2
 have HQ := Lib.hid hq
 have HW3 := Lib.hid hW3
 have OX := Lib.hid hx
 have OY := Lib.hid hy
 clear hs1 hs2 b1 b2 b3 x0 x1 x2 hq hW3 hx hy
 go_enter Try.func11, Try.ntmps11
 go_wp2
 rw [← HW3.out]
 rw [← HQ.out]
 go_loopw [6, 17] (fun i _ wr => ∃ k : Nat, i = .int .i64 k ∧ k ≤ 4 ∧ Below w.heap.size w wr ∧ wr.heap[q]? = some (.cells #[.int .u64 (unK x y k).a, .int .u64 (unK x y k).b, .int .u64 (unK x y k).c, .int .u64 (unK x y k).d] 25 (0, 0)) ∧ wr.heap[q + 1]? = some (.cells #[.int .u64 y.a, .int .u64 y.b, .int .u64 y.c, .int .u64 y.d] 25 (0, 0)) ∧ wr.heap[q + 2]? = some (.cells #[.int .u64 0, .int .u64 0, .int .u64 0, .int .u64 0] 25 (0, 0))) (fun i _ _ => 4 - (intOf i).toNat)
 case atStart => exact ⟨0, rfl, Nat.zero_le _, B3.out, X0.out, X1.out, X2.out⟩
 case round =>
  obtain ⟨k, rfl, hk, hb, y0, y1, y2⟩ := hrel
  have HB := Lib.hid hb
  have Y1 := Lib.hid y1
  have Y2 := Lib.hid y2
  clear hb y1 y2 B3 X0 X1 X2
  rcases (by omega : k = 0 ∨ k = 1 ∨ k = 2 ∨ k = 3 ∨ k = 4) with rfl | rfl | rfl | rfl | rfl
  ·
   have Y0 : Hid (wr.heap[q]? = some (.cells #[.int .u64 (x.a : Int), .int .u64 (x.b : Int), .int .u64 (x.c : Int), .int .u64 (x.d : Int)] 25 (0, 0))) := y0
   have EV : bits .or .u64 (x.a : Int) (y.a : Int) = ((x.a ||| y.a : Nat) : Int) := u64_or _ _ OX.out.1 OY.out.1
   have HEV := Lib.hid EV
   clear y0 EV hk
   go_wp2
   refine wp_flow 8 (fun _ => 1000) (fun ww => Below wr.heap.size wr ww) (fun _ w w' => (fun (w w' : World) => RowKit.Below w.heap.size w w') w w') (fun kF vF wF => match kF with | 0 => (vF = .int .i64 0) | 1 => (vF = .pointer (some ⟨q, 0, none⟩)) | 2 => (vF = .int .u64 (x.a : Int)) | 3 => (vF = .int .i64 0) | 4 => (vF = .pointer (some ⟨q + 1, 0, none⟩)) | 5 => (vF = .int .u64 (y.a : Int)) | 6 => (vF = .int .u64 (bits .or .u64 (x.a : Int) (y.a : Int))) | 7 => (vF = .pointer (some ⟨q, 0, none⟩)) | _ => True) (fun _ _ _ _ => True) (by kernel_rfl) (by kernel_rfl) ?_ ?_ ?_ ?_ ?_
   ·
    exact (Below.refl _ _).drew
   ·
    intro iF wF1 wF2 hR hT; exact hR.trans (Below.mono hT (Below.size hR))
   ·
    intro kF hkF iF hiF hne hdd hanc hdan vF wF1 wF2 h hT
    rcases (by omega : kF = 0 ∨ kF = 1 ∨ kF = 2 ∨ kF = 3 ∨ kF = 4 ∨ kF = 5 ∨ kF = 6 ∨ kF = 7) with rfl | rfl | rfl | rfl | rfl | rfl | rfl | rfl
    ·
     exact h
    ·
     exact h
    ·
     exact h
    ·
     exact h
    ·
     exact h
    ·
     exact h
    ·
     exact h
    ·
     exact h
   ·
    generalize hAF : fillOf _ _ _ = AF
    replace hAF := fun x => congrFun hAF x
    simp only [List.take_succ_cons, List.take_zero, fillOf, Act.put, List.setIfInBounds_toArray, List.set_cons_zero, List.set_cons_succ, Nat.reduceAdd, Nat.zero_add] at hAF
    refine FlowAll.cons ?_ ?_
    ·
     intro xF wz hR hd K hK
     clear hd
     simp only [← hAF, Act.put, List.setIfInBounds_toArray, List.set_cons_zero, List.set_cons_succ] at hK ⊢
     clear hAF
     try simp only [Nat.zero_add] at hK ⊢
     try simp only [Nat.reduceAdd] at hK ⊢
     obtain hbR := id hR
     rw [if_pos (by rfl)]
     go_simp
     exact hK.out _ _ (Below.refl _ _) (rfl) (fun _ _ _ => ⟨trivial, trivial⟩)
    refine FlowAll.cons ?_ ?_
    ·
     intro xF wz hR hd K hK
     have dd0 : ((xF 0) = .int .i64 0) := hd 0 (by kernel_rfl)
     clear hd
     simp only [← hAF, Act.put, List.setIfInBounds_toArray, List.set_cons_zero, List.set_cons_succ] at hK ⊢
     clear hAF
     try simp only [Nat.zero_add] at hK ⊢
     try simp only [Nat.reduceAdd] at hK ⊢
     try generalize xF 0 = yy0 at *
     obtain rfl := dd0
     obtain hbR := id hR
     rw [if_pos (by rfl)]
     go_simp
     exact hK.out _ _ (Below.refl _ _) (rfl) (fun _ _ _ => ⟨trivial, trivial⟩)
    refine FlowAll.cons ?_ ?_
    ·
     intro xF wz hR hd K hK
     have dd1 : ((xF 1) = .pointer (some ⟨q, 0, none⟩)) := hd 1 (by kernel_rfl)
     clear hd
     simp only [← hAF, Act.put, List.setIfInBounds_toArray, List.set_cons_zero, List.set_cons_succ] at hK ⊢
     clear hAF
     try simp only [Nat.zero_add] at hK ⊢
     try simp only [Nat.reduceAdd] at hK ⊢
     try generalize xF 1 = yy1 at *
     obtain rfl := dd1
     obtain hbR := id hR
     have hxa := (hbR.block q (lt_of_block Y0.out)).trans Y0.out
     have c9 := boxc hxa 0 _ rfl
     clear hxa
     rw [if_pos (by rfl)]
     go_simp
     exact hK.out _ _ (Below.refl _ _) (rfl) (fun _ _ _ => ⟨trivial, trivial⟩)
    refine FlowAll.cons ?_ ?_
    ·
     intro xF wz hR hd K hK
     clear hd
     simp only [← hAF, Act.put, List.setIfInBounds_toArray, List.set_cons_zero, List.set_cons_succ] at hK ⊢
     clear hAF
     try simp only [Nat.zero_add] at hK ⊢
     try simp only [Nat.reduceAdd] at hK ⊢
     obtain hbR := id hR
     rw [if_pos (by rfl)]
     go_simp
     exact hK.out _ _ (Below.refl _ _) (rfl) (fun _ _ _ => ⟨trivial, trivial⟩)
    refine FlowAll.cons ?_ ?_
    ·
     intro xF wz hR hd K hK
     have dd3 : ((xF 3) = .int .i64 0) := hd 3 (by kernel_rfl)
     clear hd
     simp only [← hAF, Act.put, List.setIfInBounds_toArray, List.set_cons_zero, List.set_cons_succ] at hK ⊢
     clear hAF
     try simp only [Nat.zero_add] at hK ⊢
     try simp only [Nat.reduceAdd] at hK ⊢
     try generalize xF 3 = yy3 at *
     obtain rfl := dd3
     obtain hbR := id hR
     rw [if_pos (by rfl)]
     go_simp
     exact hK.out _ _ (Below.refl _ _) (rfl) (fun _ _ _ => ⟨trivial, trivial⟩)
    refine FlowAll.cons ?_ ?_
    ·
     intro xF wz hR hd K hK
     have dd4 : ((xF 4) = .pointer (some ⟨q + 1, 0, none⟩)) := hd 4 (by kernel_rfl)
     clear hd
     simp only [← hAF, Act.put, List.setIfInBounds_toArray, List.set_cons_zero, List.set_cons_succ] at hK ⊢
     clear hAF
     try simp only [Nat.zero_add] at hK ⊢
     try simp only [Nat.reduceAdd] at hK ⊢
     try generalize xF 4 = yy4 at *
     obtain rfl := dd4
     obtain hbR := id hR
     have hxa := (hbR.block (q + 1) (lt_of_block Y1.out)).trans Y1.out
     have c9 := boxc hxa 0 _ rfl
     clear hxa
     rw [if_pos (by rfl)]
     go_simp
     exact hK.out _ _ (Below.refl _ _) (rfl) (fun _ _ _ => ⟨trivial, trivial⟩)
    refine FlowAll.cons ?_ ?_
    ·
     intro xF wz hR hd K hK
     have dd2 : ((xF 2) = .int .u64 (x.a : Int)) := hd 2 (by kernel_rfl)
     have dd5 : ((xF 5) = .int .u64 (y.a : Int)) := hd 5 (by kernel_rfl)
     clear hd
     simp only [← hAF, Act.put, List.setIfInBounds_toArray, List.set_cons_zero, List.set_cons_succ] at hK ⊢
     clear hAF
     try simp only [Nat.zero_add] at hK ⊢
     try simp only [Nat.reduceAdd] at hK ⊢
     try generalize xF 2 = yy2 at *
     try generalize xF 5 = yy5 at *
     obtain rfl := dd2
     obtain rfl := dd5
     obtain hbR := id hR
     rw [if_pos (by rfl)]
     go_simp
     exact hK.out _ _ (Below.refl _ _) (rfl) (fun _ _ _ => ⟨trivial, trivial⟩)
    refine FlowAll.cons ?_ ?_
    ·
     intro xF wz hR hd K hK
     have dd0 : ((xF 0) = .int .i64 0) := hd 0 (by kernel_rfl)
     clear hd
     simp only [← hAF, Act.put, List.setIfInBounds_toArray, List.set_cons_zero, List.set_cons_succ] at hK ⊢
     clear hAF
     try simp only [Nat.zero_add] at hK ⊢
     try simp only [Nat.reduceAdd] at hK ⊢
     try generalize xF 0 = yy0 at *
     obtain rfl := dd0
     obtain hbR := id hR
     rw [if_pos (by rfl)]
     go_simp
     exact hK.out _ _ (Below.refl _ _) (rfl) (fun _ _ _ => ⟨trivial, trivial⟩)
    exact FlowAll.nil
   intro xF wz hR hF hP
   clear hP
   have dd0 : ((xF 0) = .int .i64 0) := hF 0 (by omega) (by decide)
   have dd1 : ((xF 1) = .pointer (some ⟨q, 0, none⟩)) := hF 1 (by omega) (by decide)
   have dd2 : ((xF 2) = .int .u64 (x.a : Int)) := hF 2 (by omega) (by decide)
   have dd3 : ((xF 3) = .int .i64 0) := hF 3 (by omega) (by decide)
   have dd4 : ((xF 4) = .pointer (some ⟨q + 1, 0, none⟩)) := hF 4 (by omega) (by decide)
   have dd5 : ((xF 5) = .int .u64 (y.a : Int)) := hF 5 (by omega) (by decide)
   have dd6 : ((xF 6) = .int .u64 (bits .or .u64 (x.a : Int) (y.a : Int))) := hF 6 (by omega) (by decide)
   have dd7 : ((xF 7) = .pointer (some ⟨q, 0, none⟩)) := hF 7 (by omega) (by decide)
   clear hF
   simp only [List.take_succ_cons, List.take_zero, List.drop_succ_cons, List.drop_zero, fillOf, Act.put, List.setIfInBounds_toArray, List.set_cons_zero, List.set_cons_succ, Nat.reduceAdd, Nat.zero_add]
   try generalize xF 0 = yy0 at *
   try generalize xF 1 = yy1 at *
   try generalize xF 2 = yy2 at *
   try generalize xF 3 = yy3 at *
   try generalize xF 4 = yy4 at *
   try generalize xF 5 = yy5 at *
   try generalize xF 6 = yy6 at *
   try generalize xF 7 = yy7 at *
   clear xF
   obtain rfl := dd0
   obtain rfl := dd1
   obtain rfl := dd2
   obtain rfl := dd3
   obtain rfl := dd4
   obtain rfl := dd5
   obtain rfl := dd6
   obtain rfl := dd7
   have hRE := Lib.hid hR
   clear hR
   have z0 := (hRE.out.block q (lt_of_block Y0.out)).trans Y0.out
   have z1 := Lib.hid ((hRE.out.block _ (lt_of_block Y1.out)).trans Y1.out)
   have z2 := Lib.hid ((hRE.out.block _ (lt_of_block Y2.out)).trans Y2.out)
   have bz := HB.out.trans (hRE.out.mono HB.out.size)
   have ff := boxf z0 0
   have cc := boxc z0 0 _ rfl
   have HN : Hid ((wz.setCell ⟨q, 0, none⟩ (.int .u64 (bits .or .u64 (x.a : Int) (y.a : Int)))).heap[q]? = some (.cells #[.int .u64 (unK x y 1).a, .int .u64 (unK x y 1).b, .int .u64 (unK x y 1).c, .int .u64 (unK x y 1).d] 25 (0, 0))) := by
    show _ = _
    rw [HEV.out]
    exact heap_setCell_same wz q 0 _ _ _ z0
   have HO : Hid (Below w.heap.size w (wz.setCell ⟨q, 0, none⟩ (.int .u64 (bits .or .u64 (x.a : Int) (y.a : Int)))) ∧ (wz.setCell ⟨q, 0, none⟩ (.int .u64 (bits .or .u64 (x.a : Int) (y.a : Int)))).heap[q + 1]? = some (.cells #[.int .u64 y.a, .int .u64 y.b, .int .u64 y.c, .int .u64 y.d] 25 (0, 0)) ∧ (wz.setCell ⟨q, 0, none⟩ (.int .u64 (bits .or .u64 (x.a : Int) (y.a : Int)))).heap[q + 2]? = some (.cells #[.int .u64 0, .int .u64 0, .int .u64 0, .int .u64 0] 25 (0, 0))) := by
    have kx : KX q wz (wz.setCell ⟨q, 0, none⟩ (.int .u64 (bits .or .u64 (x.a : Int) (y.a : Int)))) := KX.cell
    refine ⟨bz.trans ⟨kx.1.1, kx.1.2.1, kx.1.2.2, kx.2.1, fun j hj => kx.2.2 j (by have := bz.size; omega) (by have := HQ.out; omega)⟩, (kx.2.2 _ (lt_of_block z1.out) (by omega)).trans z1.out, (kx.2.2 _ (lt_of_block z2.out) (by omega)).trans z2.out⟩
   clear z0 bz
   go_wp2
   go_roundw
   case rel => exact ⟨1, by go_num, by omega, HO.out.1, HN.out, HO.out.2.1, HO.out.2.2⟩
   case measure => simp [intOf]
  ·
   have Y0 : Hid (wr.heap[q]? = some (.cells #[.int .u64 ((x.a ||| y.a : Nat) : Int), .int .u64 (x.b : Int), .int .u64 (x.c : Int), .int .u64 (x.d : Int)] 25 (0, 0))) := y0
   have EV : bits .or .u64 (x.b : Int) (y.b : Int) = ((x.b ||| y.b : Nat) : Int) := u64_or _ _ OX.out.2.1 OY.out.2.1
   have HEV := Lib.hid EV
   clear y0 EV hk
   go_wp2
   refine wp_flow 8 (fun _ => 1000) (fun ww => Below wr.heap.size wr ww) (fun _ w w' => (fun (w w' : World) => RowKit.Below w.heap.size w w') w w') (fun kF vF wF => match kF with | 0 => (vF = .int .i64 1) | 1 => (vF = .pointer (some ⟨q, 1, none⟩)) | 2 => (vF = .int .u64 (x.b : Int)) | 3 => (vF = .int .i64 1) | 4 => (vF = .pointer (some ⟨q + 1, 1, none⟩)) | 5 => (vF = .int .u64 (y.b : Int)) | 6 => (vF = .int .u64 (bits .or .u64 (x.b : Int) (y.b : Int))) | 7 => (vF = .pointer (some ⟨q, 1, none⟩)) | _ => True) (fun _ _ _ _ => True) (by kernel_rfl) (by kernel_rfl) ?_ ?_ ?_ ?_ ?_
   ·
    exact (Below.refl _ _).drew
   ·
    intro iF wF1 wF2 hR hT; exact hR.trans (Below.mono hT (Below.size hR))
   ·
    intro kF hkF iF hiF hne hdd hanc hdan vF wF1 wF2 h hT
    rcases (by omega : kF = 0 ∨ kF = 1 ∨ kF = 2 ∨ kF = 3 ∨ kF = 4 ∨ kF = 5 ∨ kF = 6 ∨ kF = 7) with rfl | rfl | rfl | rfl | rfl | rfl | rfl | rfl
    ·
     exact h
    ·
     exact h
    ·
     exact h
    ·
     exact h
    ·
     exact h
    ·
     exact h
    ·
     exact h
    ·
     exact h
   ·
    generalize hAF : fillOf _ _ _ = AF
    replace hAF := fun x => congrFun hAF x
    simp only [List.take_succ_cons, List.take_zero, fillOf, Act.put, List.setIfInBounds_toArray, List.set_cons_zero, List.set_cons_succ, Nat.reduceAdd, Nat.zero_add] at hAF
    refine FlowAll.cons ?_ ?_
    ·
     intro xF wz hR hd K hK
     clear hd
     simp only [← hAF, Act.put, List.setIfInBounds_toArray, List.set_cons_zero, List.set_cons_succ] at hK ⊢
     clear hAF
     try simp only [Nat.zero_add] at hK ⊢
     try simp only [Nat.reduceAdd] at hK ⊢
     obtain hbR := id hR
     rw [if_pos (by rfl)]
     go_simp
     exact hK.out _ _ (Below.refl _ _) (rfl) (fun _ _ _ => ⟨trivial, trivial⟩)
    refine FlowAll.cons ?_ ?_
    ·
     intro xF wz hR hd K hK
     have dd0 : ((xF 0) = .int .i64 1) := hd 0 (by kernel_rfl)
     clear hd
     simp only [← hAF, Act.put, List.setIfInBounds_toArray, List.set_cons_zero, List.set_cons_succ] at hK ⊢
     clear hAF
     try simp only [Nat.zero_add] at hK ⊢
     try simp only [Nat.reduceAdd] at hK ⊢
     try generalize xF 0 = yy0 at *
     obtain rfl := dd0
     obtain hbR := id hR
     rw [if_pos (by rfl)]
     go_simp
     exact hK.out _ _ (Below.refl _ _) (rfl) (fun _ _ _ => ⟨trivial, trivial⟩)
    refine FlowAll.cons ?_ ?_
    ·
     intro xF wz hR hd K hK
     have dd1 : ((xF 1) = .pointer (some ⟨q, 1, none⟩)) := hd 1 (by kernel_rfl)
     clear hd
     simp only [← hAF, Act.put, List.setIfInBounds_toArray, List.set_cons_zero, List.set_cons_succ] at hK ⊢
     clear hAF
     try simp only [Nat.zero_add] at hK ⊢
     try simp only [Nat.reduceAdd] at hK ⊢
     try generalize xF 1 = yy1 at *
     obtain rfl := dd1
     obtain hbR := id hR
     have hxa := (hbR.block q (lt_of_block Y0.out)).trans Y0.out
     have c9 := boxc hxa 1 _ rfl
     clear hxa
     rw [if_pos (by rfl)]
     go_simp
     exact hK.out _ _ (Below.refl _ _) (rfl) (fun _ _ _ => ⟨trivial, trivial⟩)
    refine FlowAll.cons ?_ ?_
    ·
     intro xF wz hR hd K hK
     clear hd
     simp only [← hAF, Act.put, List.setIfInBounds_toArray, List.set_cons_zero, List.set_cons_succ] at hK ⊢
     clear hAF
     try simp only [Nat.zero_add] at hK ⊢
     try simp only [Nat.reduceAdd] at hK ⊢
     obtain hbR := id hR
     rw [if_pos (by rfl)]
     go_simp
     exact hK.out _ _ (Below.refl _ _) (rfl) (fun _ _ _ => ⟨trivial, trivial⟩)
    refine FlowAll.cons ?_ ?_
    ·
     intro xF wz hR hd K hK
     have dd3 : ((xF 3) = .int .i64 1) := hd 3 (by kernel_rfl)
     clear hd
     simp only [← hAF, Act.put, List.setIfInBounds_toArray, List.set_cons_zero, List.set_cons_succ] at hK ⊢
     clear hAF
     try simp only [Nat.zero_add] at hK ⊢
     try simp only [Nat.reduceAdd] at hK ⊢
     try generalize xF 3 = yy3 at *
     obtain rfl := dd3
     obtain hbR := id hR
     rw [if_pos (by rfl)]
     go_simp
     exact hK.out _ _ (Below.refl _ _) (rfl) (fun _ _ _ => ⟨trivial, trivial⟩)
    refine FlowAll.cons ?_ ?_
    ·
     intro xF wz hR hd K hK
     have dd4 : ((xF 4) = .pointer (some ⟨q + 1, 1, none⟩)) := hd 4 (by kernel_rfl)
     clear hd
     simp only [← hAF, Act.put, List.setIfInBounds_toArray, List.set_cons_zero, List.set_cons_succ] at hK ⊢
     clear hAF
     try simp only [Nat.zero_add] at hK ⊢
     try simp only [Nat.reduceAdd] at hK ⊢
     try generalize xF 4 = yy4 at *
     obtain rfl := dd4
     obtain hbR := id hR
     have hxa := (hbR.block (q + 1) (lt_of_block Y1.out)).trans Y1.out
     have c9 := boxc hxa 1 _ rfl
     clear hxa
     rw [if_pos (by rfl)]
     go_simp
     exact hK.out _ _ (Below.refl _ _) (rfl) (fun _ _ _ => ⟨trivial, trivial⟩)
    refine FlowAll.cons ?_ ?_
    ·
     intro xF wz hR hd K hK
     have dd2 : ((xF 2) = .int .u64 (x.b : Int)) := hd 2 (by kernel_rfl)
     have dd5 : ((xF 5) = .int .u64 (y.b : Int)) := hd 5 (by kernel_rfl)
     clear hd
     simp only [← hAF, Act.put, List.setIfInBounds_toArray, List.set_cons_zero, List.set_cons_succ] at hK ⊢
     clear hAF
     try simp only [Nat.zero_add] at hK ⊢
     try simp only [Nat.reduceAdd] at hK ⊢
     try generalize xF 2 = yy2 at *
     try generalize xF 5 = yy5 at *
     obtain rfl := dd2
     obtain rfl := dd5
     obtain hbR := id hR
     rw [if_pos (by rfl)]
     go_simp
     exact hK.out _ _ (Below.refl _ _) (rfl) (fun _ _ _ => ⟨trivial, trivial⟩)
    refine FlowAll.cons ?_ ?_
    ·
     intro xF wz hR hd K hK
     have dd0 : ((xF 0) = .int .i64 1) := hd 0 (by kernel_rfl)
     clear hd
     simp only [← hAF, Act.put, List.setIfInBounds_toArray, List.set_cons_zero, List.set_cons_succ] at hK ⊢
     clear hAF
     try simp only [Nat.zero_add] at hK ⊢
     try simp only [Nat.reduceAdd] at hK ⊢
     try generalize xF 0 = yy0 at *
     obtain rfl := dd0
     obtain hbR := id hR
     rw [if_pos (by rfl)]
     go_simp
     exact hK.out _ _ (Below.refl _ _) (rfl) (fun _ _ _ => ⟨trivial, trivial⟩)
    exact FlowAll.nil
   intro xF wz hR hF hP
   clear hP
   have dd0 : ((xF 0) = .int .i64 1) := hF 0 (by omega) (by decide)
   have dd1 : ((xF 1) = .pointer (some ⟨q, 1, none⟩)) := hF 1 (by omega) (by decide)
   have dd2 : ((xF 2) = .int .u64 (x.b : Int)) := hF 2 (by omega) (by decide)
   have dd3 : ((xF 3) = .int .i64 1) := hF 3 (by omega) (by decide)
   have dd4 : ((xF 4) = .pointer (some ⟨q + 1, 1, none⟩)) := hF 4 (by omega) (by decide)
   have dd5 : ((xF 5) = .int .u64 (y.b : Int)) := hF 5 (by omega) (by decide)
   have dd6 : ((xF 6) = .int .u64 (bits .or .u64 (x.b : Int) (y.b : Int))) := hF 6 (by omega) (by decide)
   have dd7 : ((xF 7) = .pointer (some ⟨q, 1, none⟩)) := hF 7 (by omega) (by decide)
   clear hF
   simp only [List.take_succ_cons, List.take_zero, List.drop_succ_cons, List.drop_zero, fillOf, Act.put, List.setIfInBounds_toArray, List.set_cons_zero, List.set_cons_succ, Nat.reduceAdd, Nat.zero_add]
   try generalize xF 0 = yy0 at *
   try generalize xF 1 = yy1 at *
   try generalize xF 2 = yy2 at *
   try generalize xF 3 = yy3 at *
   try generalize xF 4 = yy4 at *
   try generalize xF 5 = yy5 at *
   try generalize xF 6 = yy6 at *
   try generalize xF 7 = yy7 at *
   clear xF
   obtain rfl := dd0
   obtain rfl := dd1
   obtain rfl := dd2
   obtain rfl := dd3
   obtain rfl := dd4
   obtain rfl := dd5
   obtain rfl := dd6
   obtain rfl := dd7
   have hRE := Lib.hid hR
   clear hR
   have z0 := (hRE.out.block q (lt_of_block Y0.out)).trans Y0.out
   have z1 := Lib.hid ((hRE.out.block _ (lt_of_block Y1.out)).trans Y1.out)
   have z2 := Lib.hid ((hRE.out.block _ (lt_of_block Y2.out)).trans Y2.out)
   have bz := HB.out.trans (hRE.out.mono HB.out.size)
   have ff := boxf z0 1
   have cc := boxc z0 1 _ rfl
   have HN : Hid ((wz.setCell ⟨q, 1, none⟩ (.int .u64 (bits .or .u64 (x.b : Int) (y.b : Int)))).heap[q]? = some (.cells #[.int .u64 (unK x y 2).a, .int .u64 (unK x y 2).b, .int .u64 (unK x y 2).c, .int .u64 (unK x y 2).d] 25 (0, 0))) := by
    show _ = _
    rw [HEV.out]
    exact heap_setCell_same wz q 1 _ _ _ z0
   have HO : Hid (Below w.heap.size w (wz.setCell ⟨q, 1, none⟩ (.int .u64 (bits .or .u64 (x.b : Int) (y.b : Int)))) ∧ (wz.setCell ⟨q, 1, none⟩ (.int .u64 (bits .or .u64 (x.b : Int) (y.b : Int)))).heap[q + 1]? = some (.cells #[.int .u64 y.a, .int .u64 y.b, .int .u64 y.c, .int .u64 y.d] 25 (0, 0)) ∧ (wz.setCell ⟨q, 1, none⟩ (.int .u64 (bits .or .u64 (x.b : Int) (y.b : Int)))).heap[q + 2]? = some (.cells #[.int .u64 0, .int .u64 0, .int .u64 0, .int .u64 0] 25 (0, 0))) := by
    have kx : KX q wz (wz.setCell ⟨q, 1, none⟩ (.int .u64 (bits .or .u64 (x.b : Int) (y.b : Int)))) := KX.cell
    refine ⟨bz.trans ⟨kx.1.1, kx.1.2.1, kx.1.2.2, kx.2.1, fun j hj => kx.2.2 j (by have := bz.size; omega) (by have := HQ.out; omega)⟩, (kx.2.2 _ (lt_of_block z1.out) (by omega)).trans z1.out, (kx.2.2 _ (lt_of_block z2.out) (by omega)).trans z2.out⟩
   clear z0 bz
   go_wp2
   go_roundw
   case rel => exact ⟨2, by go_num, by omega, HO.out.1, HN.out, HO.out.2.1, HO.out.2.2⟩
   case measure => simp [intOf]
  ·
   have Y0 : Hid (wr.heap[q]? = some (.cells #[.int .u64 ((x.a ||| y.a : Nat) : Int), .int .u64 ((x.b ||| y.b : Nat) : Int), .int .u64 (x.c : Int), .int .u64 (x.d : Int)] 25 (0, 0))) := y0
   have EV : bits .or .u64 (x.c : Int) (y.c : Int) = ((x.c ||| y.c : Nat) : Int) := u64_or _ _ OX.out.2.2.1 OY.out.2.2.1
   have HEV := Lib.hid EV
   clear y0 EV hk
   go_wp2
   refine wp_flow 8 (fun _ => 1000) (fun ww => Below wr.heap.size wr ww) (fun _ w w' => (fun (w w' : World) => RowKit.Below w.heap.size w w') w w') (fun kF vF wF => match kF with | 0 => (vF = .int .i64 2) | 1 => (vF = .pointer (some ⟨q, 2, none⟩)) | 2 => (vF = .int .u64 (x.c : Int)) | 3 => (vF = .int .i64 2) | 4 => (vF = .pointer (some ⟨q + 1, 2, none⟩)) | 5 => (vF = .int .u64 (y.c : Int)) | 6 => (vF = .int .u64 (bits .or .u64 (x.c : Int) (y.c : Int))) | 7 => (vF = .pointer (some ⟨q, 2, none⟩)) | _ => True) (fun _ _ _ _ => True) (by kernel_rfl) (by kernel_rfl) ?_ ?_ ?_ ?_ ?_
   ·
    exact (Below.refl _ _).drew
   ·
    intro iF wF1 wF2 hR hT; exact hR.trans (Below.mono hT (Below.size hR))
   ·
    intro kF hkF iF hiF hne hdd hanc hdan vF wF1 wF2 h hT
    rcases (by omega : kF = 0 ∨ kF = 1 ∨ kF = 2 ∨ kF = 3 ∨ kF = 4 ∨ kF = 5 ∨ kF = 6 ∨ kF = 7) with rfl | rfl | rfl | rfl | rfl | rfl | rfl | rfl
    ·
     exact h
    ·
     exact h
    ·
     exact h
    ·
     exact h
    ·
     exact h
    ·
     exact h
    ·
     exact h
    ·
     exact h
   ·
    generalize hAF : fillOf _ _ _ = AF
    replace hAF := fun x => congrFun hAF x
    simp only [List.take_succ_cons, List.take_zero, fillOf, Act.put, List.setIfInBounds_toArray, List.set_cons_zero, List.set_cons_succ, Nat.reduceAdd, Nat.zero_add] at hAF
    refine FlowAll.cons ?_ ?_
    ·
     intro xF wz hR hd K hK
     clear hd
     simp only [← hAF, Act.put, List.setIfInBounds_toArray, List.set_cons_zero, List.set_cons_succ] at hK ⊢
     clear hAF
     try simp only [Nat.zero_add] at hK ⊢
     try simp only [Nat.reduceAdd] at hK ⊢
     obtain hbR := id hR
     rw [if_pos (by rfl)]
     go_simp
     exact hK.out _ _ (Below.refl _ _) (rfl) (fun _ _ _ => ⟨trivial, trivial⟩)
    refine FlowAll.cons ?_ ?_
    ·
     intro xF wz hR hd K hK
     have dd0 : ((xF 0) = .int .i64 2) := hd 0 (by kernel_rfl)
     clear hd
     simp only [← hAF, Act.put, List.setIfInBounds_toArray, List.set_cons_zero, List.set_cons_succ] at hK ⊢
     clear hAF
     try simp only [Nat.zero_add] at hK ⊢
     try simp only [Nat.reduceAdd] at hK ⊢
     try generalize xF 0 = yy0 at *
     obtain rfl := dd0
     obtain hbR := id hR
     rw [if_pos (by rfl)]
     go_simp
     exact hK.out _ _ (Below.refl _ _) (rfl) (fun _ _ _ => ⟨trivial, trivial⟩)
    refine FlowAll.cons ?_ ?_
    ·
     intro xF wz hR hd K hK
     have dd1 : ((xF 1) = .pointer (some ⟨q, 2, none⟩)) := hd 1 (by kernel_rfl)
     clear hd
     simp only [← hAF, Act.put, List.setIfInBounds_toArray, List.set_cons_zero, List.set_cons_succ] at hK ⊢
     clear hAF
     try simp only [Nat.zero_add] at hK ⊢
     try simp only [Nat.reduceAdd] at hK ⊢
     try generalize xF 1 = yy1 at *
     obtain rfl := dd1
     obtain hbR := id hR
     have hxa := (hbR.block q (lt_of_block Y0.out)).trans Y0.out
     have c9 := boxc hxa 2 _ rfl
     clear hxa
     rw [if_pos (by rfl)]
     go_simp
     exact hK.out _ _ (Below.refl _ _) (rfl) (fun _ _ _ => ⟨trivial, trivial⟩)
    refine FlowAll.cons ?_ ?_
    ·
     intro xF wz hR hd K hK
     clear hd
     simp only [← hAF, Act.put, List.setIfInBounds_toArray, List.set_cons_zero, List.set_cons_succ] at hK ⊢
     clear hAF
     try simp only [Nat.zero_add] at hK ⊢
     try simp only [Nat.reduceAdd] at hK ⊢
     obtain hbR := id hR
     rw [if_pos (by rfl)]
     go_simp
     exact hK.out _ _ (Below.refl _ _) (rfl) (fun _ _ _ => ⟨trivial, trivial⟩)
    refine FlowAll.cons ?_ ?_
    ·
     intro xF wz hR hd K hK
     have dd3 : ((xF 3) = .int .i64 2) := hd 3 (by kernel_rfl)
     clear hd
     simp only [← hAF, Act.put, List.setIfInBounds_toArray, List.set_cons_zero, List.set_cons_succ] at hK ⊢
     clear hAF
     try simp only [Nat.zero_add] at hK ⊢
     try simp only [Nat.reduceAdd] at hK ⊢
     try generalize xF 3 = yy3 at *
     obtain rfl := dd3
     obtain hbR := id hR
     rw [if_pos (by rfl)]
     go_simp
     exact hK.out _ _ (Below.refl _ _) (rfl) (fun _ _ _ => ⟨trivial, trivial⟩)
    refine FlowAll.cons ?_ ?_
    ·
     intro xF wz hR hd K hK
     have dd4 : ((xF 4) = .pointer (some ⟨q + 1, 2, none⟩)) := hd 4 (by kernel_rfl)
     clear hd
     simp only [← hAF, Act.put, List.setIfInBounds_toArray, List.set_cons_zero, List.set_cons_succ] at hK ⊢
     clear hAF
     try simp only [Nat.zero_add] at hK ⊢
     try simp only [Nat.reduceAdd] at hK ⊢
     try generalize xF 4 = yy4 at *
     obtain rfl := dd4
     obtain hbR := id hR
     have hxa := (hbR.block (q + 1) (lt_of_block Y1.out)).trans Y1.out
     have c9 := boxc hxa 2 _ rfl
     clear hxa
     rw [if_pos (by rfl)]
     go_simp
     exact hK.out _ _ (Below.refl _ _) (rfl) (fun _ _ _ => ⟨trivial, trivial⟩)
    refine FlowAll.cons ?_ ?_
    ·
     intro xF wz hR hd K hK
     have dd2 : ((xF 2) = .int .u64 (x.c : Int)) := hd 2 (by kernel_rfl)
     have dd5 : ((xF 5) = .int .u64 (y.c : Int)) := hd 5 (by kernel_rfl)
     clear hd
     simp only [← hAF, Act.put, List.setIfInBounds_toArray, List.set_cons_zero, List.set_cons_succ] at hK ⊢
     clear hAF
     try simp only [Nat.zero_add] at hK ⊢
     try simp only [Nat.reduceAdd] at hK ⊢
     try generalize xF 2 = yy2 at *
     try generalize xF 5 = yy5 at *
     obtain rfl := dd2
     obtain rfl := dd5
     obtain hbR := id hR
     rw [if_pos (by rfl)]
     go_simp
     exact hK.out _ _ (Below.refl _ _) (rfl) (fun _ _ _ => ⟨trivial, trivial⟩)
    refine FlowAll.cons ?_ ?_
    ·
     intro xF wz hR hd K hK
     have dd0 : ((xF 0) = .int .i64 2) := hd 0 (by kernel_rfl)
     clear hd
     simp only [← hAF, Act.put, List.setIfInBounds_toArray, List.set_cons_zero, List.set_cons_succ] at hK ⊢
     clear hAF
     try simp only [Nat.zero_add] at hK ⊢
     try simp only [Nat.reduceAdd] at hK ⊢
     try generalize xF 0 = yy0 at *
     obtain rfl := dd0
     obtain hbR := id hR
     rw [if_pos (by rfl)]
     go_simp
     exact hK.out _ _ (Below.refl _ _) (rfl) (fun _ _ _ => ⟨trivial, trivial⟩)
    exact FlowAll.nil
   intro xF wz hR hF hP
   clear hP
   have dd0 : ((xF 0) = .int .i64 2) := hF 0 (by omega) (by decide)
   have dd1 : ((xF 1) = .pointer (some ⟨q, 2, none⟩)) := hF 1 (by omega) (by decide)
   have dd2 : ((xF 2) = .int .u64 (x.c : Int)) := hF 2 (by omega) (by decide)
   have dd3 : ((xF 3) = .int .i64 2) := hF 3 (by omega) (by decide)
   have dd4 : ((xF 4) = .pointer (some ⟨q + 1, 2, none⟩)) := hF 4 (by omega) (by decide)
   have dd5 : ((xF 5) = .int .u64 (y.c : Int)) := hF 5 (by omega) (by decide)
   have dd6 : ((xF 6) = .int .u64 (bits .or .u64 (x.c : Int) (y.c : Int))) := hF 6 (by omega) (by decide)
   have dd7 : ((xF 7) = .pointer (some ⟨q, 2, none⟩)) := hF 7 (by omega) (by decide)
   clear hF
   simp only [List.take_succ_cons, List.take_zero, List.drop_succ_cons, List.drop_zero, fillOf, Act.put, List.setIfInBounds_toArray, List.set_cons_zero, List.set_cons_succ, Nat.reduceAdd, Nat.zero_add]
   try generalize xF 0 = yy0 at *
   try generalize xF 1 = yy1 at *
   try generalize xF 2 = yy2 at *
   try generalize xF 3 = yy3 at *
   try generalize xF 4 = yy4 at *
   try generalize xF 5 = yy5 at *
   try generalize xF 6 = yy6 at *
   try generalize xF 7 = yy7 at *
   clear xF
   obtain rfl := dd0
   obtain rfl := dd1
   obtain rfl := dd2
   obtain rfl := dd3
   obtain rfl := dd4
   obtain rfl := dd5
   obtain rfl := dd6
   obtain rfl := dd7
   have hRE := Lib.hid hR
   clear hR
   have z0 := (hRE.out.block q (lt_of_block Y0.out)).trans Y0.out
   have z1 := Lib.hid ((hRE.out.block _ (lt_of_block Y1.out)).trans Y1.out)
   have z2 := Lib.hid ((hRE.out.block _ (lt_of_block Y2.out)).trans Y2.out)
   have bz := HB.out.trans (hRE.out.mono HB.out.size)
   have ff := boxf z0 2
   have cc := boxc z0 2 _ rfl
   have HN : Hid ((wz.setCell ⟨q, 2, none⟩ (.int .u64 (bits .or .u64 (x.c : Int) (y.c : Int)))).heap[q]? = some (.cells #[.int .u64 (unK x y 3).a, .int .u64 (unK x y 3).b, .int .u64 (unK x y 3).c, .int .u64 (unK x y 3).d] 25 (0, 0))) := by
    show _ = _
    rw [HEV.out]
    exact heap_setCell_same wz q 2 _ _ _ z0
   have HO : Hid (Below w.heap.size w (wz.setCell ⟨q, 2, none⟩ (.int .u64 (bits .or .u64 (x.c : Int) (y.c : Int)))) ∧ (wz.setCell ⟨q, 2, none⟩ (.int .u64 (bits .or .u64 (x.c : Int) (y.c : Int)))).heap[q + 1]? = some (.cells #[.int .u64 y.a, .int .u64 y.b, .int .u64 y.c, .int .u64 y.d] 25 (0, 0)) ∧ (wz.setCell ⟨q, 2, none⟩ (.int .u64 (bits .or .u64 (x.c : Int) (y.c : Int)))).heap[q + 2]? = some (.cells #[.int .u64 0, .int .u64 0, .int .u64 0, .int .u64 0] 25 (0, 0))) := by
    have kx : KX q wz (wz.setCell ⟨q, 2, none⟩ (.int .u64 (bits .or .u64 (x.c : Int) (y.c : Int)))) := KX.cell
    refine ⟨bz.trans ⟨kx.1.1, kx.1.2.1, kx.1.2.2, kx.2.1, fun j hj => kx.2.2 j (by have := bz.size; omega) (by have := HQ.out; omega)⟩, (kx.2.2 _ (lt_of_block z1.out) (by omega)).trans z1.out, (kx.2.2 _ (lt_of_block z2.out) (by omega)).trans z2.out⟩
   clear z0 bz
   go_wp2
   go_roundw
   case rel => exact ⟨3, by go_num, by omega, HO.out.1, HN.out, HO.out.2.1, HO.out.2.2⟩
   case measure => simp [intOf]
  ·
   have Y0 : Hid (wr.heap[q]? = some (.cells #[.int .u64 ((x.a ||| y.a : Nat) : Int), .int .u64 ((x.b ||| y.b : Nat) : Int), .int .u64 ((x.c ||| y.c : Nat) : Int), .int .u64 (x.d : Int)] 25 (0, 0))) := y0
   have EV : bits .or .u64 (x.d : Int) (y.d : Int) = ((x.d ||| y.d : Nat) : Int) := u64_or _ _ OX.out.2.2.2 OY.out.2.2.2
   have HEV := Lib.hid EV
   clear y0 EV hk
   go_wp2
   refine wp_flow 8 (fun _ => 1000) (fun ww => Below wr.heap.size wr ww) (fun _ w w' => (fun (w w' : World) => RowKit.Below w.heap.size w w') w w') (fun kF vF wF => match kF with | 0 => (vF = .int .i64 3) | 1 => (vF = .pointer (some ⟨q, 3, none⟩)) | 2 => (vF = .int .u64 (x.d : Int)) | 3 => (vF = .int .i64 3) | 4 => (vF = .pointer (some ⟨q + 1, 3, none⟩)) | 5 => (vF = .int .u64 (y.d : Int)) | 6 => (vF = .int .u64 (bits .or .u64 (x.d : Int) (y.d : Int))) | 7 => (vF = .pointer (some ⟨q, 3, none⟩)) | _ => True) (fun _ _ _ _ => True) (by kernel_rfl) (by kernel_rfl) ?_ ?_ ?_ ?_ ?_
   ·
    exact (Below.refl _ _).drew
   ·
    intro iF wF1 wF2 hR hT; exact hR.trans (Below.mono hT (Below.size hR))
   ·
    intro kF hkF iF hiF hne hdd hanc hdan vF wF1 wF2 h hT
    rcases (by omega : kF = 0 ∨ kF = 1 ∨ kF = 2 ∨ kF = 3 ∨ kF = 4 ∨ kF = 5 ∨ kF = 6 ∨ kF = 7) with rfl | rfl | rfl | rfl | rfl | rfl | rfl | rfl
    ·
     exact h
    ·
     exact h
    ·
     exact h
    ·
     exact h
    ·
     exact h
    ·
     exact h
    ·
     exact h
    ·
     exact h
   ·
    generalize hAF : fillOf _ _ _ = AF
    replace hAF := fun x => congrFun hAF x
    simp only [List.take_succ_cons, List.take_zero, fillOf, Act.put, List.setIfInBounds_toArray, List.set_cons_zero, List.set_cons_succ, Nat.reduceAdd, Nat.zero_add] at hAF
    refine FlowAll.cons ?_ ?_
    ·
     intro xF wz hR hd K hK
     clear hd
     simp only [← hAF, Act.put, List.setIfInBounds_toArray, List.set_cons_zero, List.set_cons_succ] at hK ⊢
     clear hAF
     try simp only [Nat.zero_add] at hK ⊢
     try simp only [Nat.reduceAdd] at hK ⊢
     obtain hbR := id hR
     rw [if_pos (by rfl)]
     go_simp
     exact hK.out _ _ (Below.refl _ _) (rfl) (fun _ _ _ => ⟨trivial, trivial⟩)
    refine FlowAll.cons ?_ ?_
    ·
     intro xF wz hR hd K hK
     have dd0 : ((xF 0) = .int .i64 3) := hd 0 (by kernel_rfl)
     clear hd
     simp only [← hAF, Act.put, List.setIfInBounds_toArray, List.set_cons_zero, List.set_cons_succ] at hK ⊢
     clear hAF
     try simp only [Nat.zero_add] at hK ⊢
     try simp only [Nat.reduceAdd] at hK ⊢
     try generalize xF 0 = yy0 at *
     obtain rfl := dd0
     obtain hbR := id hR
     rw [if_pos (by rfl)]
     go_simp
     exact hK.out _ _ (Below.refl _ _) (rfl) (fun _ _ _ => ⟨trivial, trivial⟩)
    refine FlowAll.cons ?_ ?_
    ·
     intro xF wz hR hd K hK
     have dd1 : ((xF 1) = .pointer (some ⟨q, 3, none⟩)) := hd 1 (by kernel_rfl)
     clear hd
     simp only [← hAF, Act.put, List.setIfInBounds_toArray, List.set_cons_zero, List.set_cons_succ] at hK ⊢
     clear hAF
     try simp only [Nat.zero_add] at hK ⊢
     try simp only [Nat.reduceAdd] at hK ⊢
     try generalize xF 1 = yy1 at *
     obtain rfl := dd1
     obtain hbR := id hR
     have hxa := (hbR.block q (lt_of_block Y0.out)).trans Y0.out
     have c9 := boxc hxa 3 _ rfl
     clear hxa
     rw [if_pos (by rfl)]
     go_simp
     exact hK.out _ _ (Below.refl _ _) (rfl) (fun _ _ _ => ⟨trivial, trivial⟩)
    refine FlowAll.cons ?_ ?_
    ·
     intro xF wz hR hd K hK
     clear hd
     simp only [← hAF, Act.put, List.setIfInBounds_toArray, List.set_cons_zero, List.set_cons_succ] at hK ⊢
     clear hAF
     try simp only [Nat.zero_add] at hK ⊢
     try simp only [Nat.reduceAdd] at hK ⊢
     obtain hbR := id hR
     rw [if_pos (by rfl)]
     go_simp
     exact hK.out _ _ (Below.refl _ _) (rfl) (fun _ _ _ => ⟨trivial, trivial⟩)
    refine FlowAll.cons ?_ ?_
    ·
     intro xF wz hR hd K hK
     have dd3 : ((xF 3) = .int .i64 3) := hd 3 (by kernel_rfl)
     clear hd
     simp only [← hAF, Act.put, List.setIfInBounds_toArray, List.set_cons_zero, List.set_cons_succ] at hK ⊢
     clear hAF
     try simp only [Nat.zero_add] at hK ⊢
     try simp only [Nat.reduceAdd] at hK ⊢
     try generalize xF 3 = yy3 at *
     obtain rfl := dd3
     obtain hbR := id hR
     rw [if_pos (by rfl)]
     go_simp
     exact hK.out _ _ (Below.refl _ _) (rfl) (fun _ _ _ => ⟨trivial, trivial⟩)
    refine FlowAll.cons ?_ ?_
    ·
     intro xF wz hR hd K hK
     have dd4 : ((xF 4) = .pointer (some ⟨q + 1, 3, none⟩)) := hd 4 (by kernel_rfl)
     clear hd
     simp only [← hAF, Act.put, List.setIfInBounds_toArray, List.set_cons_zero, List.set_cons_succ] at hK ⊢
     clear hAF
     try simp only [Nat.zero_add] at hK ⊢
     try simp only [Nat.reduceAdd] at hK ⊢
     try generalize xF 4 = yy4 at *
     obtain rfl := dd4
     obtain hbR := id hR
     have hxa := (hbR.block (q + 1) (lt_of_block Y1.out)).trans Y1.out
     have c9 := boxc hxa 3 _ rfl
     clear hxa
     rw [if_pos (by rfl)]
     go_simp
     exact hK.out _ _ (Below.refl _ _) (rfl) (fun _ _ _ => ⟨trivial, trivial⟩)
    refine FlowAll.cons ?_ ?_
    ·
     intro xF wz hR hd K hK
     have dd2 : ((xF 2) = .int .u64 (x.d : Int)) := hd 2 (by kernel_rfl)
     have dd5 : ((xF 5) = .int .u64 (y.d : Int)) := hd 5 (by kernel_rfl)
     clear hd
     simp only [← hAF, Act.put, List.setIfInBounds_toArray, List.set_cons_zero, List.set_cons_succ] at hK ⊢
     clear hAF
     try simp only [Nat.zero_add] at hK ⊢
     try simp only [Nat.reduceAdd] at hK ⊢
     try generalize xF 2 = yy2 at *
     try generalize xF 5 = yy5 at *
     obtain rfl := dd2
     obtain rfl := dd5
     obtain hbR := id hR
     rw [if_pos (by rfl)]
     go_simp
     exact hK.out _ _ (Below.refl _ _) (rfl) (fun _ _ _ => ⟨trivial, trivial⟩)
    refine FlowAll.cons ?_ ?_
    ·
     intro xF wz hR hd K hK
     have dd0 : ((xF 0) = .int .i64 3) := hd 0 (by kernel_rfl)
     clear hd
     simp only [← hAF, Act.put, List.setIfInBounds_toArray, List.set_cons_zero, List.set_cons_succ] at hK ⊢
     clear hAF
     try simp only [Nat.zero_add] at hK ⊢
     try simp only [Nat.reduceAdd] at hK ⊢
     try generalize xF 0 = yy0 at *
     obtain rfl := dd0
     obtain hbR := id hR
     rw [if_pos (by rfl)]
     go_simp
     exact hK.out _ _ (Below.refl _ _) (rfl) (fun _ _ _ => ⟨trivial, trivial⟩)
    exact FlowAll.nil
   intro xF wz hR hF hP
   clear hP
   have dd0 : ((xF 0) = .int .i64 3) := hF 0 (by omega) (by decide)
   have dd1 : ((xF 1) = .pointer (some ⟨q, 3, none⟩)) := hF 1 (by omega) (by decide)
   have dd2 : ((xF 2) = .int .u64 (x.d : Int)) := hF 2 (by omega) (by decide)
   have dd3 : ((xF 3) = .int .i64 3) := hF 3 (by omega) (by decide)
   have dd4 : ((xF 4) = .pointer (some ⟨q + 1, 3, none⟩)) := hF 4 (by omega) (by decide)
   have dd5 : ((xF 5) = .int .u64 (y.d : Int)) := hF 5 (by omega) (by decide)
   have dd6 : ((xF 6) = .int .u64 (bits .or .u64 (x.d : Int) (y.d : Int))) := hF 6 (by omega) (by decide)
   have dd7 : ((xF 7) = .pointer (some ⟨q, 3, none⟩)) := hF 7 (by omega) (by decide)
   clear hF
   simp only [List.take_succ_cons, List.take_zero, List.drop_succ_cons, List.drop_zero, fillOf, Act.put, List.setIfInBounds_toArray, List.set_cons_zero, List.set_cons_succ, Nat.reduceAdd, Nat.zero_add]
   try generalize xF 0 = yy0 at *
   try generalize xF 1 = yy1 at *
   try generalize xF 2 = yy2 at *
   try generalize xF 3 = yy3 at *
   try generalize xF 4 = yy4 at *
   try generalize xF 5 = yy5 at *
   try generalize xF 6 = yy6 at *
   try generalize xF 7 = yy7 at *
   clear xF
   obtain rfl := dd0
   obtain rfl := dd1
   obtain rfl := dd2
   obtain rfl := dd3
   obtain rfl := dd4
   obtain rfl := dd5
   obtain rfl := dd6
   obtain rfl := dd7
   have hRE := Lib.hid hR
   clear hR
   have z0 := (hRE.out.block q (lt_of_block Y0.out)).trans Y0.out
   have z1 := Lib.hid ((hRE.out.block _ (lt_of_block Y1.out)).trans Y1.out)
   have z2 := Lib.hid ((hRE.out.block _ (lt_of_block Y2.out)).trans Y2.out)
   have bz := HB.out.trans (hRE.out.mono HB.out.size)
   have ff := boxf z0 3
   have cc := boxc z0 3 _ rfl
   have HN : Hid ((wz.setCell ⟨q, 3, none⟩ (.int .u64 (bits .or .u64 (x.d : Int) (y.d : Int)))).heap[q]? = some (.cells #[.int .u64 (unK x y 4).a, .int .u64 (unK x y 4).b, .int .u64 (unK x y 4).c, .int .u64 (unK x y 4).d] 25 (0, 0))) := by
    show _ = _
    rw [HEV.out]
    exact heap_setCell_same wz q 3 _ _ _ z0
   have HO : Hid (Below w.heap.size w (wz.setCell ⟨q, 3, none⟩ (.int .u64 (bits .or .u64 (x.d : Int) (y.d : Int)))) ∧ (wz.setCell ⟨q, 3, none⟩ (.int .u64 (bits .or .u64 (x.d : Int) (y.d : Int)))).heap[q + 1]? = some (.cells #[.int .u64 y.a, .int .u64 y.b, .int .u64 y.c, .int .u64 y.d] 25 (0, 0)) ∧ (wz.setCell ⟨q, 3, none⟩ (.int .u64 (bits .or .u64 (x.d : Int) (y.d : Int)))).heap[q + 2]? = some (.cells #[.int .u64 0, .int .u64 0, .int .u64 0, .int .u64 0] 25 (0, 0))) := by
    have kx : KX q wz (wz.setCell ⟨q, 3, none⟩ (.int .u64 (bits .or .u64 (x.d : Int) (y.d : Int)))) := KX.cell
    refine ⟨bz.trans ⟨kx.1.1, kx.1.2.1, kx.1.2.2, kx.2.1, fun j hj => kx.2.2 j (by have := bz.size; omega) (by have := HQ.out; omega)⟩, (kx.2.2 _ (lt_of_block z1.out) (by omega)).trans z1.out, (kx.2.2 _ (lt_of_block z2.out) (by omega)).trans z2.out⟩
   clear z0 bz
   go_wp2
   go_roundw
   case rel => exact ⟨4, by go_num, by omega, HO.out.1, HN.out, HO.out.2.1, HO.out.2.2⟩
   case measure => simp [intOf]
  ·
   have Y0 : wr.heap[q]? = some (.cells #[.int .u64 (x.or y).a, .int .u64 (x.or y).b, .int .u64 (x.or y).c, .int .u64 (x.or y).d] 25 (0, 0)) := y0
   have c0 := boxc Y0 0 _ rfl
   have c1 := boxc Y0 1 _ rfl
   have c2 := boxc Y0 2 _ rfl
   have c3 := boxc Y0 3 _ rfl
   have xx := Y2.out
   clear y0 hk
   go_wp2_with ((with_reducible show wpList _ _ _ (Oper.mk _ (Op.store 25 (.tmp 4) _) _ _ _ _ :: _) _ _); refine wpList_store_row rfl 25 (.tmp 4) _ rfl (q + 2) #[.int .u64 (x.or y).a, .int .u64 (x.or y).b, .int .u64 (x.or y).c, .int .u64 (x.or y).d] rfl rfl 25 #[.int .u64 0, .int .u64 0, .int .u64 0, .int .u64 0] xx clsize rfl (by simp [Value.oneCell']) ?_)
   have cc := setRow_heap _ (q + 2) _ #[.int .u64 (x.or y).a, .int .u64 (x.or y).b, .int .u64 (x.or y).c, .int .u64 (x.or y).d] _ _ xx
   have bb := below_setRow HB.out (g := q + 2) (by have := HQ.out; omega) #[.int .u64 (x.or y).a, .int .u64 (x.or y).b, .int .u64 (x.or y).c, .int .u64 (x.or y).d]
   obtain ⟨w9, h9⟩ : ∃ W, W = World.setRow wr (q + 2) #[.int .u64 (x.or y).a, .int .u64 (x.or y).b, .int .u64 (x.or y).c, .int .u64 (x.or y).d] := ⟨_, rfl⟩
   rw [← h9] at cc bb ⊢
   clear h9 c0 c1 c2 c3 xx Y0
   have k0 := boxc cc 0 _ rfl
   have k1 := boxc cc 1 _ rfl
   have k2 := boxc cc 2 _ rfl
   have k3 := boxc cc 3 _ rfl
   refine bodyPost_ret (v := .agg #[.int .u64 (x.or y).a, .int .u64 (x.or y).b, .int .u64 (x.or y).c, .int .u64 (x.or y).d]) (by simp [results, Try.results11, go_sem, k0, k1, k2, k3]) rfl ⟨rfl, bb⟩
end Go.Proofs.Ytbccejlemhgioaa
namespace Go.Proofs.Ytbccejlemhgioaa
open Go cl rx
theorem one_ok (c : Nat) (hc : c < 256) : (Cls.one c).ok := by
 have hp : ∀ k : Nat, k < 64 → 2 ^ k < 18446744073709551616 := fun k hk => Nat.pow_lt_pow_right (a := 2) (m := k) (n := 64) (by decide) hk
 have h0 : (0 : Nat) < 18446744073709551616 := by decide
 unfold Cls.one Cls.ok
 split
 ·
  exact ⟨hp _ (by omega), h0, h0, h0⟩
 ·
  split
  ·
   exact ⟨h0, hp _ (by omega), h0, h0⟩
  ·
   split
   ·
    exact ⟨h0, h0, hp _ (by omega), h0⟩
   ·
    exact ⟨h0, h0, h0, hp _ (by omega)⟩
theorem or_ok {x y : Cls} (hx : x.ok) (hy : y.ok) : (x.or y).ok :=
 ⟨Nat.or_lt_two_pow (n := 64) hx.1 hy.1, Nat.or_lt_two_pow (n := 64) hx.2.1 hy.2.1, Nat.or_lt_two_pow (n := 64) hx.2.2.1 hy.2.2.1, Nat.or_lt_two_pow (n := 64) hx.2.2.2 hy.2.2.2⟩
end Go.Proofs.Ytbccejlemhgioaa
