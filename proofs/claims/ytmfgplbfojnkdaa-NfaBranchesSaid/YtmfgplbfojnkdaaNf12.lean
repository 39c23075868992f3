/- texts put together: RxUni, RxClm, RfSpan. -/
import Derived.Test.YtmfgplbfojnkdaaNf01
import Derived.Test.YtmfgplbfojnkdaaNf04
import Derived.Test.YtmfgplbfojnkdaaNf10
open List (setIfInBounds_toArray set_cons_zero set_cons_succ take_succ_cons take_zero drop_succ_cons drop_zero)
namespace Go.Proofs.Ytmfgplbfojnkdaa
open Go Go.RowKit Go.ChangeShapes cl rx
def unK (x y : Cls) (k : Nat) : Cls := ⟨if 0 < k then x.a ||| y.a else x.a, if 1 < k then x.b ||| y.b else x.b, if 2 < k then x.c ||| y.c else x.c, if 3 < k then x.d ||| y.d else x.d⟩
set_option maxHeartbeats 6400000 in
set_option maxRecDepth 100000 in
theorem rx_union (x y : Cls) (w : World) (hx : x.ok) (hy : y.ok) : Calls Try.prog 75 #[.agg #[.int .u64 x.a, .int .u64 x.b, .int .u64 x.c, .int .u64 x.d], .agg #[.int .u64 y.a, .int .u64 y.b, .int .u64 y.c, .int .u64 y.d]] w (fun e w' => e = .returned (.agg #[.int .u64 (x.or y).a, .int .u64 (x.or y).b, .int .u64 (x.or y).c, .int .u64 (x.or y).d]) ∧ Below w.heap.size w w') := by
 obtain ⟨q, hq⟩ : ∃ q, q = w.heap.size := ⟨_, rfl⟩
 obtain ⟨W3, hW3⟩ : ∃ W, W = ((w.alloc (.cells #[.int .u64 x.a, .int .u64 x.b, .int .u64 x.c, .int .u64 x.d] 24)).alloc (.cells #[.int .u64 y.a, .int .u64 y.b, .int .u64 y.c, .int .u64 y.d] 24)).alloc (.cells #[.int .u64 0, .int .u64 0, .int .u64 0, .int .u64 0] 24) := ⟨_, rfl⟩
 have hs1 : (w.alloc (.cells #[.int .u64 x.a, .int .u64 x.b, .int .u64 x.c, .int .u64 x.d] 24)).heap.size = q + 1 := by rw [World.size_alloc, hq]
 have hs2 : ((w.alloc (.cells #[.int .u64 x.a, .int .u64 x.b, .int .u64 x.c, .int .u64 x.d] 24)).alloc (.cells #[.int .u64 y.a, .int .u64 y.b, .int .u64 y.c, .int .u64 y.d] 24)).heap.size = q + 2 := by rw [World.size_alloc, hs1]
 have b1 : Below w.heap.size w (w.alloc (.cells #[.int .u64 x.a, .int .u64 x.b, .int .u64 x.c, .int .u64 x.d] 24)) := below1
 have b2 : Below w.heap.size w ((w.alloc (.cells #[.int .u64 x.a, .int .u64 x.b, .int .u64 x.c, .int .u64 x.d] 24)).alloc (.cells #[.int .u64 y.a, .int .u64 y.b, .int .u64 y.c, .int .u64 y.d] 24)) := b1.trans (below1.mono b1.size)
 have b3 : Below w.heap.size w W3 := by rw [hW3]; exact b2.trans (below1.mono b2.size)
 have x0 : W3.heap[q]? = some (.cells #[.int .u64 (unK x y 0).a, .int .u64 (unK x y 0).b, .int .u64 (unK x y 0).c, .int .u64 (unK x y 0).d] 24 (0, 0)) := by
  rw [hW3]
  refine (below1.block q (by omega)).trans ((below1.block q (by omega)).trans ?_)
  rw [hq]; exact heap_alloc_new _ _
 have x1 : W3.heap[q + 1]? = some (.cells #[.int .u64 y.a, .int .u64 y.b, .int .u64 y.c, .int .u64 y.d] 24 (0, 0)) := by
  rw [hW3]
  refine (below1.block (q + 1) (by omega)).trans ?_
  rw [← hs1]; exact heap_alloc_new _ _
 have x2 : W3.heap[q + 2]? = some (.cells #[.int .u64 0, .int .u64 0, .int .u64 0, .int .u64 0] 24 (0, 0)) := by
  rw [hW3, ← hs2]; exact heap_alloc_new _ _
 have B3 := Lib.hid b3
 have X0 := Lib.hid x0
 have X1 := Lib.hid x1
 have X2 := Lib.hid x2
 have HQ := Lib.hid hq
 have HW3 := Lib.hid hW3
 have OX := Lib.hid hx
 have OY := Lib.hid hy
 clear hs1 hs2 b1 b2 b3 x0 x1 x2 hq hW3 hx hy
 go_enter Try.func75, Try.ntmps75
 go_wp2
 rw [← HW3.out]
 rw [← HQ.out]
 go_loopw [6, 17] (fun i _ wr => ∃ k : Nat, i = .int .i64 k ∧ k ≤ 4 ∧ Below w.heap.size w wr ∧ wr.heap[q]? = some (.cells #[.int .u64 (unK x y k).a, .int .u64 (unK x y k).b, .int .u64 (unK x y k).c, .int .u64 (unK x y k).d] 24 (0, 0)) ∧ wr.heap[q + 1]? = some (.cells #[.int .u64 y.a, .int .u64 y.b, .int .u64 y.c, .int .u64 y.d] 24 (0, 0)) ∧ wr.heap[q + 2]? = some (.cells #[.int .u64 0, .int .u64 0, .int .u64 0, .int .u64 0] 24 (0, 0))) (fun i _ _ => 4 - (intOf i).toNat)
 case atStart => exact ⟨0, rfl, Nat.zero_le _, B3.out, X0.out, X1.out, X2.out⟩
 case round =>
  obtain ⟨k, rfl, hk, hb, y0, y1, y2⟩ := hrel
  have HB := Lib.hid hb
  have Y1 := Lib.hid y1
  have Y2 := Lib.hid y2
  clear hb y1 y2 B3 X0 X1 X2
  rcases (by omega : k = 0 ∨ k = 1 ∨ k = 2 ∨ k = 3 ∨ k = 4) with rfl | rfl | rfl | rfl | rfl
  ·
   have Y0 : Hid (wr.heap[q]? = some (.cells #[.int .u64 (x.a : Int), .int .u64 (x.b : Int), .int .u64 (x.c : Int), .int .u64 (x.d : Int)] 24 (0, 0))) := y0
   have EV : bits .or .u64 (x.a : Int) (y.a : Int) = ((x.a ||| y.a : Nat) : Int) := u64_or _ _ OX.out.1 OY.out.1
   have HEV := Lib.hid EV
   clear y0 EV hk
   go_wp2
   refine wp_flow 8 (fun _ => 1000) (fun ww => Below wr.heap.size wr ww) (fun _ w w' => (fun (w w' : World) => RowKit.Below w.heap.size w w') w w') (fun kF vF wF => match kF with | 0 => (vF = .int .i64 0) | 1 => (vF = .pointer (some ⟨q, 0, none⟩)) | 2 => (vF = .int .u64 (x.a : Int)) | 3 => (vF = .int .i64 0) | 4 => (vF = .pointer (some ⟨q + 1, 0, none⟩)) | 5 => (vF = .int .u64 (y.a : Int)) | 6 => (vF = .int .u64 (bits .or .u64 (x.a : Int) (y.a : Int))) | 7 => (vF = .pointer (some ⟨q, 0, none⟩)) | _ => True) (fun _ _ _ _ => True) (by kernel_rfl) (by kernel_rfl) ?_ ?_ ?_ ?_ ?_
   ·
    exact (Below.refl _ _).drew
   ·
    intro iF wF1 wF2 hR hT; exact hR.trans (Below.mono hT (Below.size hR))
   ·
    intro kF hkF iF hiF hne hdd hanc hdan vF wF1 wF2 h hT
    rcases (by omega : kF = 0 ∨ kF = 1 ∨ kF = 2 ∨ kF = 3 ∨ kF = 4 ∨ kF = 5 ∨ kF = 6 ∨ kF = 7) with rfl | rfl | rfl | rfl | rfl | rfl | rfl | rfl
    iterate 8 exact h
   ·
    generalize hAF : fillOf _ _ _ = AF
    replace hAF := fun x => congrFun hAF x
    simp only [take_succ_cons, take_zero, fillOf, Act.put, setIfInBounds_toArray, set_cons_zero, set_cons_succ, Nat.reduceAdd, Nat.zero_add] at hAF
    refine .cons ?_ (.cons ?_ (.cons ?_ (.cons ?_ (.cons ?_ (.cons ?_ (.cons ?_ (.cons ?_ (.nil))))))))
    all_goals
     intro xF wz hR hd K hK
     first | simp only [← hAF, Act.put, setIfInBounds_toArray, set_cons_zero, set_cons_succ] at hK ⊢ | simp only [← hAF, Act.put] at hK ⊢
     clear hAF
     try simp only [Nat.zero_add, Nat.reduceAdd] at hK ⊢
    ·
     clear hd
     obtain hbR := id hR
     rw [if_pos (by rfl)]
     go_simp
     exact hK.out _ _ (Below.refl _ _) (rfl) (fun _ _ _ => ⟨trivial, trivial⟩)
    ·
     have dd0 := hd 0 (by kernel_rfl)
     clear hd
     try generalize xF 0 = yy0 at *
     obtain rfl := dd0
     obtain hbR := id hR
     rw [if_pos (by rfl)]
     go_simp
     exact hK.out _ _ (Below.refl _ _) (rfl) (fun _ _ _ => ⟨trivial, trivial⟩)
    ·
     have dd1 := hd 1 (by kernel_rfl)
     clear hd
     try generalize xF 1 = yy1 at *
     obtain rfl := dd1
     obtain hbR := id hR
     have hxa := (hbR.block q (lt_of_block Y0.out)).trans Y0.out
     have c9 := boxc hxa 0 _ rfl
     clear hxa
     rw [if_pos (by rfl)]
     go_simp
     exact hK.out _ _ (Below.refl _ _) (rfl) (fun _ _ _ => ⟨trivial, trivial⟩)
    ·
     clear hd
     obtain hbR := id hR
     rw [if_pos (by rfl)]
     go_simp
     exact hK.out _ _ (Below.refl _ _) (rfl) (fun _ _ _ => ⟨trivial, trivial⟩)
    ·
     have dd3 := hd 3 (by kernel_rfl)
     clear hd
     try generalize xF 3 = yy3 at *
     obtain rfl := dd3
     obtain hbR := id hR
     rw [if_pos (by rfl)]
     go_simp
     exact hK.out _ _ (Below.refl _ _) (rfl) (fun _ _ _ => ⟨trivial, trivial⟩)
    ·
     have dd4 := hd 4 (by kernel_rfl)
     clear hd
     try generalize xF 4 = yy4 at *
     obtain rfl := dd4
     obtain hbR := id hR
     have hxa := (hbR.block (q + 1) (lt_of_block Y1.out)).trans Y1.out
     have c9 := boxc hxa 0 _ rfl
     clear hxa
     rw [if_pos (by rfl)]
     go_simp
     exact hK.out _ _ (Below.refl _ _) (rfl) (fun _ _ _ => ⟨trivial, trivial⟩)
    ·
     have dd2 := hd 2 (by kernel_rfl)
     have dd5 := hd 5 (by kernel_rfl)
     clear hd
     try generalize xF 2 = yy2 at *
     try generalize xF 5 = yy5 at *
     obtain rfl := dd2
     obtain rfl := dd5
     obtain hbR := id hR
     rw [if_pos (by rfl)]
     go_simp
     exact hK.out _ _ (Below.refl _ _) (rfl) (fun _ _ _ => ⟨trivial, trivial⟩)
    ·
     have dd0 := hd 0 (by kernel_rfl)
     clear hd
     try generalize xF 0 = yy0 at *
     obtain rfl := dd0
     obtain hbR := id hR
     rw [if_pos (by rfl)]
     go_simp
     exact hK.out _ _ (Below.refl _ _) (rfl) (fun _ _ _ => ⟨trivial, trivial⟩)
   intro xF wz hR hF hP
   clear hP
   have dd0 := hF 0 (by omega) (by decide)
   have dd1 := hF 1 (by omega) (by decide)
   have dd2 := hF 2 (by omega) (by decide)
   have dd3 := hF 3 (by omega) (by decide)
   have dd4 := hF 4 (by omega) (by decide)
   have dd5 := hF 5 (by omega) (by decide)
   have dd6 := hF 6 (by omega) (by decide)
   have dd7 := hF 7 (by omega) (by decide)
   clear hF
   simp only [take_succ_cons, take_zero, drop_succ_cons, drop_zero, fillOf, Act.put, setIfInBounds_toArray, set_cons_zero, set_cons_succ, Nat.reduceAdd, Nat.zero_add]
   try generalize xF 0 = yy0 at *
   try generalize xF 1 = yy1 at *
   try generalize xF 2 = yy2 at *
   try generalize xF 3 = yy3 at *
   try generalize xF 4 = yy4 at *
   try generalize xF 5 = yy5 at *
   try generalize xF 6 = yy6 at *
   try generalize xF 7 = yy7 at *
   clear xF
   obtain rfl := dd0
   obtain rfl := dd1
   obtain rfl := dd2
   obtain rfl := dd3
   obtain rfl := dd4
   obtain rfl := dd5
   obtain rfl := dd6
   obtain rfl := dd7
   have hRE := Lib.hid hR
   clear hR
   have z0 := (hRE.out.block q (lt_of_block Y0.out)).trans Y0.out
   have z1 := Lib.hid ((hRE.out.block _ (lt_of_block Y1.out)).trans Y1.out)
   have z2 := Lib.hid ((hRE.out.block _ (lt_of_block Y2.out)).trans Y2.out)
   have bz := HB.out.trans (hRE.out.mono HB.out.size)
   have ff := boxf z0 0
   have cc := boxc z0 0 _ rfl
   have HN : Hid ((wz.setCell ⟨q, 0, none⟩ (.int .u64 (bits .or .u64 (x.a : Int) (y.a : Int)))).heap[q]? = some (.cells #[.int .u64 (unK x y 1).a, .int .u64 (unK x y 1).b, .int .u64 (unK x y 1).c, .int .u64 (unK x y 1).d] 24 (0, 0))) := by
    show _ = _
    rw [HEV.out]
    exact heap_setCell_same wz q 0 _ _ _ z0
   have HO : Hid (Below w.heap.size w (wz.setCell ⟨q, 0, none⟩ (.int .u64 (bits .or .u64 (x.a : Int) (y.a : Int)))) ∧ (wz.setCell ⟨q, 0, none⟩ (.int .u64 (bits .or .u64 (x.a : Int) (y.a : Int)))).heap[q + 1]? = some (.cells #[.int .u64 y.a, .int .u64 y.b, .int .u64 y.c, .int .u64 y.d] 24 (0, 0)) ∧ (wz.setCell ⟨q, 0, none⟩ (.int .u64 (bits .or .u64 (x.a : Int) (y.a : Int)))).heap[q + 2]? = some (.cells #[.int .u64 0, .int .u64 0, .int .u64 0, .int .u64 0] 24 (0, 0))) := by
    have kx : KX q wz (wz.setCell ⟨q, 0, none⟩ (.int .u64 (bits .or .u64 (x.a : Int) (y.a : Int)))) := KX.cell
    refine ⟨bz.trans ⟨kx.1.1, kx.1.2.1, kx.1.2.2, kx.2.1, fun j hj => kx.2.2 j (by have := bz.size; omega) (by have := HQ.out; omega)⟩, (kx.2.2 _ (lt_of_block z1.out) (by omega)).trans z1.out, (kx.2.2 _ (lt_of_block z2.out) (by omega)).trans z2.out⟩
   clear z0 bz
   go_wp2
   go_roundw
   case rel => exact ⟨1, by go_num, by omega, HO.out.1, HN.out, HO.out.2.1, HO.out.2.2⟩
   case measure => simp [intOf]
  ·
   have Y0 : Hid (wr.heap[q]? = some (.cells #[.int .u64 ((x.a ||| y.a : Nat) : Int), .int .u64 (x.b : Int), .int .u64 (x.c : Int), .int .u64 (x.d : Int)] 24 (0, 0))) := y0
   have EV : bits .or .u64 (x.b : Int) (y.b : Int) = ((x.b ||| y.b : Nat) : Int) := u64_or _ _ OX.out.2.1 OY.out.2.1
   have HEV := Lib.hid EV
   clear y0 EV hk
   go_wp2
   refine wp_flow 8 (fun _ => 1000) (fun ww => Below wr.heap.size wr ww) (fun _ w w' => (fun (w w' : World) => RowKit.Below w.heap.size w w') w w') (fun kF vF wF => match kF with | 0 => (vF = .int .i64 1) | 1 => (vF = .pointer (some ⟨q, 1, none⟩)) | 2 => (vF = .int .u64 (x.b : Int)) | 3 => (vF = .int .i64 1) | 4 => (vF = .pointer (some ⟨q + 1, 1, none⟩)) | 5 => (vF = .int .u64 (y.b : Int)) | 6 => (vF = .int .u64 (bits .or .u64 (x.b : Int) (y.b : Int))) | 7 => (vF = .pointer (some ⟨q, 1, none⟩)) | _ => True) (fun _ _ _ _ => True) (by kernel_rfl) (by kernel_rfl) ?_ ?_ ?_ ?_ ?_
   ·
    exact (Below.refl _ _).drew
   ·
    intro iF wF1 wF2 hR hT; exact hR.trans (Below.mono hT (Below.size hR))
   ·
    intro kF hkF iF hiF hne hdd hanc hdan vF wF1 wF2 h hT
    rcases (by omega : kF = 0 ∨ kF = 1 ∨ kF = 2 ∨ kF = 3 ∨ kF = 4 ∨ kF = 5 ∨ kF = 6 ∨ kF = 7) with rfl | rfl | rfl | rfl | rfl | rfl | rfl | rfl
    iterate 8 exact h
   ·
    generalize hAF : fillOf _ _ _ = AF
    replace hAF := fun x => congrFun hAF x
    simp only [take_succ_cons, take_zero, fillOf, Act.put, setIfInBounds_toArray, set_cons_zero, set_cons_succ, Nat.reduceAdd, Nat.zero_add] at hAF
    refine .cons ?_ (.cons ?_ (.cons ?_ (.cons ?_ (.cons ?_ (.cons ?_ (.cons ?_ (.cons ?_ (.nil))))))))
    all_goals
     intro xF wz hR hd K hK
     first | simp only [← hAF, Act.put, setIfInBounds_toArray, set_cons_zero, set_cons_succ] at hK ⊢ | simp only [← hAF, Act.put] at hK ⊢
     clear hAF
     try simp only [Nat.zero_add, Nat.reduceAdd] at hK ⊢
    ·
     clear hd
     obtain hbR := id hR
     rw [if_pos (by rfl)]
     go_simp
     exact hK.out _ _ (Below.refl _ _) (rfl) (fun _ _ _ => ⟨trivial, trivial⟩)
    ·
     have dd0 := hd 0 (by kernel_rfl)
     clear hd
     try generalize xF 0 = yy0 at *
     obtain rfl := dd0
     obtain hbR := id hR
     rw [if_pos (by rfl)]
     go_simp
     exact hK.out _ _ (Below.refl _ _) (rfl) (fun _ _ _ => ⟨trivial, trivial⟩)
    ·
     have dd1 := hd 1 (by kernel_rfl)
     clear hd
     try generalize xF 1 = yy1 at *
     obtain rfl := dd1
     obtain hbR := id hR
     have hxa := (hbR.block q (lt_of_block Y0.out)).trans Y0.out
     have c9 := boxc hxa 1 _ rfl
     clear hxa
     rw [if_pos (by rfl)]
     go_simp
     exact hK.out _ _ (Below.refl _ _) (rfl) (fun _ _ _ => ⟨trivial, trivial⟩)
    ·
     clear hd
     obtain hbR := id hR
     rw [if_pos (by rfl)]
     go_simp
     exact hK.out _ _ (Below.refl _ _) (rfl) (fun _ _ _ => ⟨trivial, trivial⟩)
    ·
     have dd3 := hd 3 (by kernel_rfl)
     clear hd
     try generalize xF 3 = yy3 at *
     obtain rfl := dd3
     obtain hbR := id hR
     rw [if_pos (by rfl)]
     go_simp
     exact hK.out _ _ (Below.refl _ _) (rfl) (fun _ _ _ => ⟨trivial, trivial⟩)
    ·
     have dd4 := hd 4 (by kernel_rfl)
     clear hd
     try generalize xF 4 = yy4 at *
     obtain rfl := dd4
     obtain hbR := id hR
     have hxa := (hbR.block (q + 1) (lt_of_block Y1.out)).trans Y1.out
     have c9 := boxc hxa 1 _ rfl
     clear hxa
     rw [if_pos (by rfl)]
     go_simp
     exact hK.out _ _ (Below.refl _ _) (rfl) (fun _ _ _ => ⟨trivial, trivial⟩)
    ·
     have dd2 := hd 2 (by kernel_rfl)
     have dd5 := hd 5 (by kernel_rfl)
     clear hd
     try generalize xF 2 = yy2 at *
     try generalize xF 5 = yy5 at *
     obtain rfl := dd2
     obtain rfl := dd5
     obtain hbR := id hR
     rw [if_pos (by rfl)]
     go_simp
     exact hK.out _ _ (Below.refl _ _) (rfl) (fun _ _ _ => ⟨trivial, trivial⟩)
    ·
     have dd0 := hd 0 (by kernel_rfl)
     clear hd
     try generalize xF 0 = yy0 at *
     obtain rfl := dd0
     obtain hbR := id hR
     rw [if_pos (by rfl)]
     go_simp
     exact hK.out _ _ (Below.refl _ _) (rfl) (fun _ _ _ => ⟨trivial, trivial⟩)
   intro xF wz hR hF hP
   clear hP
   have dd0 := hF 0 (by omega) (by decide)
   have dd1 := hF 1 (by omega) (by decide)
   have dd2 := hF 2 (by omega) (by decide)
   have dd3 := hF 3 (by omega) (by decide)
   have dd4 := hF 4 (by omega) (by decide)
   have dd5 := hF 5 (by omega) (by decide)
   have dd6 := hF 6 (by omega) (by decide)
   have dd7 := hF 7 (by omega) (by decide)
   clear hF
   simp only [take_succ_cons, take_zero, drop_succ_cons, drop_zero, fillOf, Act.put, setIfInBounds_toArray, set_cons_zero, set_cons_succ, Nat.reduceAdd, Nat.zero_add]
   try generalize xF 0 = yy0 at *
   try generalize xF 1 = yy1 at *
   try generalize xF 2 = yy2 at *
   try generalize xF 3 = yy3 at *
   try generalize xF 4 = yy4 at *
   try generalize xF 5 = yy5 at *
   try generalize xF 6 = yy6 at *
   try generalize xF 7 = yy7 at *
   clear xF
   obtain rfl := dd0
   obtain rfl := dd1
   obtain rfl := dd2
   obtain rfl := dd3
   obtain rfl := dd4
   obtain rfl := dd5
   obtain rfl := dd6
   obtain rfl := dd7
   have hRE := Lib.hid hR
   clear hR
   have z0 := (hRE.out.block q (lt_of_block Y0.out)).trans Y0.out
   have z1 := Lib.hid ((hRE.out.block _ (lt_of_block Y1.out)).trans Y1.out)
   have z2 := Lib.hid ((hRE.out.block _ (lt_of_block Y2.out)).trans Y2.out)
   have bz := HB.out.trans (hRE.out.mono HB.out.size)
   have ff := boxf z0 1
   have cc := boxc z0 1 _ rfl
   have HN : Hid ((wz.setCell ⟨q, 1, none⟩ (.int .u64 (bits .or .u64 (x.b : Int) (y.b : Int)))).heap[q]? = some (.cells #[.int .u64 (unK x y 2).a, .int .u64 (unK x y 2).b, .int .u64 (unK x y 2).c, .int .u64 (unK x y 2).d] 24 (0, 0))) := by
    show _ = _
    rw [HEV.out]
    exact heap_setCell_same wz q 1 _ _ _ z0
   have HO : Hid (Below w.heap.size w (wz.setCell ⟨q, 1, none⟩ (.int .u64 (bits .or .u64 (x.b : Int) (y.b : Int)))) ∧ (wz.setCell ⟨q, 1, none⟩ (.int .u64 (bits .or .u64 (x.b : Int) (y.b : Int)))).heap[q + 1]? = some (.cells #[.int .u64 y.a, .int .u64 y.b, .int .u64 y.c, .int .u64 y.d] 24 (0, 0)) ∧ (wz.setCell ⟨q, 1, none⟩ (.int .u64 (bits .or .u64 (x.b : Int) (y.b : Int)))).heap[q + 2]? = some (.cells #[.int .u64 0, .int .u64 0, .int .u64 0, .int .u64 0] 24 (0, 0))) := by
    have kx : KX q wz (wz.setCell ⟨q, 1, none⟩ (.int .u64 (bits .or .u64 (x.b : Int) (y.b : Int)))) := KX.cell
    refine ⟨bz.trans ⟨kx.1.1, kx.1.2.1, kx.1.2.2, kx.2.1, fun j hj => kx.2.2 j (by have := bz.size; omega) (by have := HQ.out; omega)⟩, (kx.2.2 _ (lt_of_block z1.out) (by omega)).trans z1.out, (kx.2.2 _ (lt_of_block z2.out) (by omega)).trans z2.out⟩
   clear z0 bz
   go_wp2
   go_roundw
   case rel => exact ⟨2, by go_num, by omega, HO.out.1, HN.out, HO.out.2.1, HO.out.2.2⟩
   case measure => simp [intOf]
  ·
   have Y0 : Hid (wr.heap[q]? = some (.cells #[.int .u64 ((x.a ||| y.a : Nat) : Int), .int .u64 ((x.b ||| y.b : Nat) : Int), .int .u64 (x.c : Int), .int .u64 (x.d : Int)] 24 (0, 0))) := y0
   have EV : bits .or .u64 (x.c : Int) (y.c : Int) = ((x.c ||| y.c : Nat) : Int) := u64_or _ _ OX.out.2.2.1 OY.out.2.2.1
   have HEV := Lib.hid EV
   clear y0 EV hk
   go_wp2
   refine wp_flow 8 (fun _ => 1000) (fun ww => Below wr.heap.size wr ww) (fun _ w w' => (fun (w w' : World) => RowKit.Below w.heap.size w w') w w') (fun kF vF wF => match kF with | 0 => (vF = .int .i64 2) | 1 => (vF = .pointer (some ⟨q, 2, none⟩)) | 2 => (vF = .int .u64 (x.c : Int)) | 3 => (vF = .int .i64 2) | 4 => (vF = .pointer (some ⟨q + 1, 2, none⟩)) | 5 => (vF = .int .u64 (y.c : Int)) | 6 => (vF = .int .u64 (bits .or .u64 (x.c : Int) (y.c : Int))) | 7 => (vF = .pointer (some ⟨q, 2, none⟩)) | _ => True) (fun _ _ _ _ => True) (by kernel_rfl) (by kernel_rfl) ?_ ?_ ?_ ?_ ?_
   ·
    exact (Below.refl _ _).drew
   ·
    intro iF wF1 wF2 hR hT; exact hR.trans (Below.mono hT (Below.size hR))
   ·
    intro kF hkF iF hiF hne hdd hanc hdan vF wF1 wF2 h hT
    rcases (by omega : kF = 0 ∨ kF = 1 ∨ kF = 2 ∨ kF = 3 ∨ kF = 4 ∨ kF = 5 ∨ kF = 6 ∨ kF = 7) with rfl | rfl | rfl | rfl | rfl | rfl | rfl | rfl
    iterate 8 exact h
   ·
    generalize hAF : fillOf _ _ _ = AF
    replace hAF := fun x => congrFun hAF x
    simp only [take_succ_cons, take_zero, fillOf, Act.put, setIfInBounds_toArray, set_cons_zero, set_cons_succ, Nat.reduceAdd, Nat.zero_add] at hAF
    refine .cons ?_ (.cons ?_ (.cons ?_ (.cons ?_ (.cons ?_ (.cons ?_ (.cons ?_ (.cons ?_ (.nil))))))))
    all_goals
     intro xF wz hR hd K hK
     first | simp only [← hAF, Act.put, setIfInBounds_toArray, set_cons_zero, set_cons_succ] at hK ⊢ | simp only [← hAF, Act.put] at hK ⊢
     clear hAF
     try simp only [Nat.zero_add, Nat.reduceAdd] at hK ⊢
    ·
     clear hd
     obtain hbR := id hR
     rw [if_pos (by rfl)]
     go_simp
     exact hK.out _ _ (Below.refl _ _) (rfl) (fun _ _ _ => ⟨trivial, trivial⟩)
    ·
     have dd0 := hd 0 (by kernel_rfl)
     clear hd
     try generalize xF 0 = yy0 at *
     obtain rfl := dd0
     obtain hbR := id hR
     rw [if_pos (by rfl)]
     go_simp
     exact hK.out _ _ (Below.refl _ _) (rfl) (fun _ _ _ => ⟨trivial, trivial⟩)
    ·
     have dd1 := hd 1 (by kernel_rfl)
     clear hd
     try generalize xF 1 = yy1 at *
     obtain rfl := dd1
     obtain hbR := id hR
     have hxa := (hbR.block q (lt_of_block Y0.out)).trans Y0.out
     have c9 := boxc hxa 2 _ rfl
     clear hxa
     rw [if_pos (by rfl)]
     go_simp
     exact hK.out _ _ (Below.refl _ _) (rfl) (fun _ _ _ => ⟨trivial, trivial⟩)
    ·
     clear hd
     obtain hbR := id hR
     rw [if_pos (by rfl)]
     go_simp
     exact hK.out _ _ (Below.refl _ _) (rfl) (fun _ _ _ => ⟨trivial, trivial⟩)
    ·
     have dd3 := hd 3 (by kernel_rfl)
     clear hd
     try generalize xF 3 = yy3 at *
     obtain rfl := dd3
     obtain hbR := id hR
     rw [if_pos (by rfl)]
     go_simp
     exact hK.out _ _ (Below.refl _ _) (rfl) (fun _ _ _ => ⟨trivial, trivial⟩)
    ·
     have dd4 := hd 4 (by kernel_rfl)
     clear hd
     try generalize xF 4 = yy4 at *
     obtain rfl := dd4
     obtain hbR := id hR
     have hxa := (hbR.block (q + 1) (lt_of_block Y1.out)).trans Y1.out
     have c9 := boxc hxa 2 _ rfl
     clear hxa
     rw [if_pos (by rfl)]
     go_simp
     exact hK.out _ _ (Below.refl _ _) (rfl) (fun _ _ _ => ⟨trivial, trivial⟩)
    ·
     have dd2 := hd 2 (by kernel_rfl)
     have dd5 := hd 5 (by kernel_rfl)
     clear hd
     try generalize xF 2 = yy2 at *
     try generalize xF 5 = yy5 at *
     obtain rfl := dd2
     obtain rfl := dd5
     obtain hbR := id hR
     rw [if_pos (by rfl)]
     go_simp
     exact hK.out _ _ (Below.refl _ _) (rfl) (fun _ _ _ => ⟨trivial, trivial⟩)
    ·
     have dd0 := hd 0 (by kernel_rfl)
     clear hd
     try generalize xF 0 = yy0 at *
     obtain rfl := dd0
     obtain hbR := id hR
     rw [if_pos (by rfl)]
     go_simp
     exact hK.out _ _ (Below.refl _ _) (rfl) (fun _ _ _ => ⟨trivial, trivial⟩)
   intro xF wz hR hF hP
   clear hP
   have dd0 := hF 0 (by omega) (by decide)
   have dd1 := hF 1 (by omega) (by decide)
   have dd2 := hF 2 (by omega) (by decide)
   have dd3 := hF 3 (by omega) (by decide)
   have dd4 := hF 4 (by omega) (by decide)
   have dd5 := hF 5 (by omega) (by decide)
   have dd6 := hF 6 (by omega) (by decide)
   have dd7 := hF 7 (by omega) (by decide)
   clear hF
   simp only [take_succ_cons, take_zero, drop_succ_cons, drop_zero, fillOf, Act.put, setIfInBounds_toArray, set_cons_zero, set_cons_succ, Nat.reduceAdd, Nat.zero_add]
   try generalize xF 0 = yy0 at *
   try generalize xF 1 = yy1 at *
   try generalize xF 2 = yy2 at *
   try generalize xF 3 = yy3 at *
   try generalize xF 4 = yy4 at *
   try generalize xF 5 = yy5 at *
   try generalize xF 6 = yy6 at *
   try generalize xF 7 = yy7 at *
   clear xF
   obtain rfl := dd0
   obtain rfl := dd1
   obtain rfl := dd2
   obtain rfl := dd3
   obtain rfl := dd4
   obtain rfl := dd5
   obtain rfl := dd6
   obtain rfl := dd7
   have hRE := Lib.hid hR
   clear hR
   have z0 := (hRE.out.block q (lt_of_block Y0.out)).trans Y0.out
   have z1 := Lib.hid ((hRE.out.block _ (lt_of_block Y1.out)).trans Y1.out)
   have z2 := Lib.hid ((hRE.out.block _ (lt_of_block Y2.out)).trans Y2.out)
   have bz := HB.out.trans (hRE.out.mono HB.out.size)
   have ff := boxf z0 2
   have cc := boxc z0 2 _ rfl
   have HN : Hid ((wz.setCell ⟨q, 2, none⟩ (.int .u64 (bits .or .u64 (x.c : Int) (y.c : Int)))).heap[q]? = some (.cells #[.int .u64 (unK x y 3).a, .int .u64 (unK x y 3).b, .int .u64 (unK x y 3).c, .int .u64 (unK x y 3).d] 24 (0, 0))) := by
    show _ = _
    rw [HEV.out]
    exact heap_setCell_same wz q 2 _ _ _ z0
   have HO : Hid (Below w.heap.size w (wz.setCell ⟨q, 2, none⟩ (.int .u64 (bits .or .u64 (x.c : Int) (y.c : Int)))) ∧ (wz.setCell ⟨q, 2, none⟩ (.int .u64 (bits .or .u64 (x.c : Int) (y.c : Int)))).heap[q + 1]? = some (.cells #[.int .u64 y.a, .int .u64 y.b, .int .u64 y.c, .int .u64 y.d] 24 (0, 0)) ∧ (wz.setCell ⟨q, 2, none⟩ (.int .u64 (bits .or .u64 (x.c : Int) (y.c : Int)))).heap[q + 2]? = some (.cells #[.int .u64 0, .int .u64 0, .int .u64 0, .int .u64 0] 24 (0, 0))) := by
    have kx : KX q wz (wz.setCell ⟨q, 2, none⟩ (.int .u64 (bits .or .u64 (x.c : Int) (y.c : Int)))) := KX.cell
    refine ⟨bz.trans ⟨kx.1.1, kx.1.2.1, kx.1.2.2, kx.2.1, fun j hj => kx.2.2 j (by have := bz.size; omega) (by have := HQ.out; omega)⟩, (kx.2.2 _ (lt_of_block z1.out) (by omega)).trans z1.out, (kx.2.2 _ (lt_of_block z2.out) (by omega)).trans z2.out⟩
   clear z0 bz
   go_wp2
   go_roundw
   case rel => exact ⟨3, by go_num, by omega, HO.out.1, HN.out, HO.out.2.1, HO.out.2.2⟩
   case measure => simp [intOf]
  ·
   have Y0 : Hid (wr.heap[q]? = some (.cells #[.int .u64 ((x.a ||| y.a : Nat) : Int), .int .u64 ((x.b ||| y.b : Nat) : Int), .int .u64 ((x.c ||| y.c : Nat) : Int), .int .u64 (x.d : Int)] 24 (0, 0))) := y0
   have EV : bits .or .u64 (x.d : Int) (y.d : Int) = ((x.d ||| y.d : Nat) : Int) := u64_or _ _ OX.out.2.2.2 OY.out.2.2.2
   have HEV := Lib.hid EV
   clear y0 EV hk
   go_wp2
   refine wp_flow 8 (fun _ => 1000) (fun ww => Below wr.heap.size wr ww) (fun _ w w' => (fun (w w' : World) => RowKit.Below w.heap.size w w') w w') (fun kF vF wF => match kF with | 0 => (vF = .int .i64 3) | 1 => (vF = .pointer (some ⟨q, 3, none⟩)) | 2 => (vF = .int .u64 (x.d : Int)) | 3 => (vF = .int .i64 3) | 4 => (vF = .pointer (some ⟨q + 1, 3, none⟩)) | 5 => (vF = .int .u64 (y.d : Int)) | 6 => (vF = .int .u64 (bits .or .u64 (x.d : Int) (y.d : Int))) | 7 => (vF = .pointer (some ⟨q, 3, none⟩)) | _ => True) (fun _ _ _ _ => True) (by kernel_rfl) (by kernel_rfl) ?_ ?_ ?_ ?_ ?_
   ·
    exact (Below.refl _ _).drew
   ·
    intro iF wF1 wF2 hR hT; exact hR.trans (Below.mono hT (Below.size hR))
   ·
    intro kF hkF iF hiF hne hdd hanc hdan vF wF1 wF2 h hT
    rcases (by omega : kF = 0 ∨ kF = 1 ∨ kF = 2 ∨ kF = 3 ∨ kF = 4 ∨ kF = 5 ∨ kF = 6 ∨ kF = 7) with rfl | rfl | rfl | rfl | rfl | rfl | rfl | rfl
    iterate 8 exact h
   ·
    generalize hAF : fillOf _ _ _ = AF
    replace hAF := fun x => congrFun hAF x
    simp only [take_succ_cons, take_zero, fillOf, Act.put, setIfInBounds_toArray, set_cons_zero, set_cons_succ, Nat.reduceAdd, Nat.zero_add] at hAF
    refine .cons ?_ (.cons ?_ (.cons ?_ (.cons ?_ (.cons ?_ (.cons ?_ (.cons ?_ (.cons ?_ (.nil))))))))
    all_goals
     intro xF wz hR hd K hK
     first | simp only [← hAF, Act.put, setIfInBounds_toArray, set_cons_zero, set_cons_succ] at hK ⊢ | simp only [← hAF, Act.put] at hK ⊢
     clear hAF
     try simp only [Nat.zero_add, Nat.reduceAdd] at hK ⊢
    ·
     clear hd
     obtain hbR := id hR
     rw [if_pos (by rfl)]
     go_simp
     exact hK.out _ _ (Below.refl _ _) (rfl) (fun _ _ _ => ⟨trivial, trivial⟩)
    ·
     have dd0 := hd 0 (by kernel_rfl)
     clear hd
     try generalize xF 0 = yy0 at *
     obtain rfl := dd0
     obtain hbR := id hR
     rw [if_pos (by rfl)]
     go_simp
     exact hK.out _ _ (Below.refl _ _) (rfl) (fun _ _ _ => ⟨trivial, trivial⟩)
    ·
     have dd1 := hd 1 (by kernel_rfl)
     clear hd
     try generalize xF 1 = yy1 at *
     obtain rfl := dd1
     obtain hbR := id hR
     have hxa := (hbR.block q (lt_of_block Y0.out)).trans Y0.out
     have c9 := boxc hxa 3 _ rfl
     clear hxa
     rw [if_pos (by rfl)]
     go_simp
     exact hK.out _ _ (Below.refl _ _) (rfl) (fun _ _ _ => ⟨trivial, trivial⟩)
    ·
     clear hd
     obtain hbR := id hR
     rw [if_pos (by rfl)]
     go_simp
     exact hK.out _ _ (Below.refl _ _) (rfl) (fun _ _ _ => ⟨trivial, trivial⟩)
    ·
     have dd3 := hd 3 (by kernel_rfl)
     clear hd
     try generalize xF 3 = yy3 at *
     obtain rfl := dd3
     obtain hbR := id hR
     rw [if_pos (by rfl)]
     go_simp
     exact hK.out _ _ (Below.refl _ _) (rfl) (fun _ _ _ => ⟨trivial, trivial⟩)
    ·
     have dd4 := hd 4 (by kernel_rfl)
     clear hd
     try generalize xF 4 = yy4 at *
     obtain rfl := dd4
     obtain hbR := id hR
     have hxa := (hbR.block (q + 1) (lt_of_block Y1.out)).trans Y1.out
     have c9 := boxc hxa 3 _ rfl
     clear hxa
     rw [if_pos (by rfl)]
     go_simp
     exact hK.out _ _ (Below.refl _ _) (rfl) (fun _ _ _ => ⟨trivial, trivial⟩)
    ·
     have dd2 := hd 2 (by kernel_rfl)
     have dd5 := hd 5 (by kernel_rfl)
     clear hd
     try generalize xF 2 = yy2 at *
     try generalize xF 5 = yy5 at *
     obtain rfl := dd2
     obtain rfl := dd5
     obtain hbR := id hR
     rw [if_pos (by rfl)]
     go_simp
     exact hK.out _ _ (Below.refl _ _) (rfl) (fun _ _ _ => ⟨trivial, trivial⟩)
    ·
     have dd0 := hd 0 (by kernel_rfl)
     clear hd
     try generalize xF 0 = yy0 at *
     obtain rfl := dd0
     obtain hbR := id hR
     rw [if_pos (by rfl)]
     go_simp
     exact hK.out _ _ (Below.refl _ _) (rfl) (fun _ _ _ => ⟨trivial, trivial⟩)
   intro xF wz hR hF hP
   clear hP
   have dd0 := hF 0 (by omega) (by decide)
   have dd1 := hF 1 (by omega) (by decide)
   have dd2 := hF 2 (by omega) (by decide)
   have dd3 := hF 3 (by omega) (by decide)
   have dd4 := hF 4 (by omega) (by decide)
   have dd5 := hF 5 (by omega) (by decide)
   have dd6 := hF 6 (by omega) (by decide)
   have dd7 := hF 7 (by omega) (by decide)
   clear hF
   simp only [take_succ_cons, take_zero, drop_succ_cons, drop_zero, fillOf, Act.put, setIfInBounds_toArray, set_cons_zero, set_cons_succ, Nat.reduceAdd, Nat.zero_add]
   try generalize xF 0 = yy0 at *
   try generalize xF 1 = yy1 at *
   try generalize xF 2 = yy2 at *
   try generalize xF 3 = yy3 at *
   try generalize xF 4 = yy4 at *
   try generalize xF 5 = yy5 at *
   try generalize xF 6 = yy6 at *
   try generalize xF 7 = yy7 at *
   clear xF
   obtain rfl := dd0
   obtain rfl := dd1
   obtain rfl := dd2
   obtain rfl := dd3
   obtain rfl := dd4
   obtain rfl := dd5
   obtain rfl := dd6
   obtain rfl := dd7
   have hRE := Lib.hid hR
   clear hR
   have z0 := (hRE.out.block q (lt_of_block Y0.out)).trans Y0.out
   have z1 := Lib.hid ((hRE.out.block _ (lt_of_block Y1.out)).trans Y1.out)
   have z2 := Lib.hid ((hRE.out.block _ (lt_of_block Y2.out)).trans Y2.out)
   have bz := HB.out.trans (hRE.out.mono HB.out.size)
   have ff := boxf z0 3
   have cc := boxc z0 3 _ rfl
   have HN : Hid ((wz.setCell ⟨q, 3, none⟩ (.int .u64 (bits .or .u64 (x.d : Int) (y.d : Int)))).heap[q]? = some (.cells #[.int .u64 (unK x y 4).a, .int .u64 (unK x y 4).b, .int .u64 (unK x y 4).c, .int .u64 (unK x y 4).d] 24 (0, 0))) := by
    show _ = _
    rw [HEV.out]
    exact heap_setCell_same wz q 3 _ _ _ z0
   have HO : Hid (Below w.heap.size w (wz.setCell ⟨q, 3, none⟩ (.int .u64 (bits .or .u64 (x.d : Int) (y.d : Int)))) ∧ (wz.setCell ⟨q, 3, none⟩ (.int .u64 (bits .or .u64 (x.d : Int) (y.d : Int)))).heap[q + 1]? = some (.cells #[.int .u64 y.a, .int .u64 y.b, .int .u64 y.c, .int .u64 y.d] 24 (0, 0)) ∧ (wz.setCell ⟨q, 3, none⟩ (.int .u64 (bits .or .u64 (x.d : Int) (y.d : Int)))).heap[q + 2]? = some (.cells #[.int .u64 0, .int .u64 0, .int .u64 0, .int .u64 0] 24 (0, 0))) := by
    have kx : KX q wz (wz.setCell ⟨q, 3, none⟩ (.int .u64 (bits .or .u64 (x.d : Int) (y.d : Int)))) := KX.cell
    refine ⟨bz.trans ⟨kx.1.1, kx.1.2.1, kx.1.2.2, kx.2.1, fun j hj => kx.2.2 j (by have := bz.size; omega) (by have := HQ.out; omega)⟩, (kx.2.2 _ (lt_of_block z1.out) (by omega)).trans z1.out, (kx.2.2 _ (lt_of_block z2.out) (by omega)).trans z2.out⟩
   clear z0 bz
   go_wp2
   go_roundw
   case rel => exact ⟨4, by go_num, by omega, HO.out.1, HN.out, HO.out.2.1, HO.out.2.2⟩
   case measure => simp [intOf]
  ·
   have Y0 : wr.heap[q]? = some (.cells #[.int .u64 (x.or y).a, .int .u64 (x.or y).b, .int .u64 (x.or y).c, .int .u64 (x.or y).d] 24 (0, 0)) := y0
   have c0 := boxc Y0 0 _ rfl
   have c1 := boxc Y0 1 _ rfl
   have c2 := boxc Y0 2 _ rfl
   have c3 := boxc Y0 3 _ rfl
   have xx := Y2.out
   clear y0 hk
   go_wp2_with ((with_reducible show wpList _ _ _ (Oper.mk _ (Op.store 24 (.tmp 4) _) _ _ _ _ :: _) _ _); refine wpList_store_row rfl 24 (.tmp 4) _ rfl (q + 2) #[.int .u64 (x.or y).a, .int .u64 (x.or y).b, .int .u64 (x.or y).c, .int .u64 (x.or y).d] rfl rfl 24 #[.int .u64 0, .int .u64 0, .int .u64 0, .int .u64 0] xx clsize rfl (by simp [Value.oneCell']) ?_)
   have cc := setRow_heap _ (q + 2) _ #[.int .u64 (x.or y).a, .int .u64 (x.or y).b, .int .u64 (x.or y).c, .int .u64 (x.or y).d] _ _ xx
   have bb := below_setRow HB.out (g := q + 2) (by have := HQ.out; omega) #[.int .u64 (x.or y).a, .int .u64 (x.or y).b, .int .u64 (x.or y).c, .int .u64 (x.or y).d]
   obtain ⟨w9, h9⟩ : ∃ W, W = World.setRow wr (q + 2) #[.int .u64 (x.or y).a, .int .u64 (x.or y).b, .int .u64 (x.or y).c, .int .u64 (x.or y).d] := ⟨_, rfl⟩
   rw [← h9] at cc bb ⊢
   clear h9 c0 c1 c2 c3 xx Y0
   have k0 := boxc cc 0 _ rfl
   have k1 := boxc cc 1 _ rfl
   have k2 := boxc cc 2 _ rfl
   have k3 := boxc cc 3 _ rfl
   refine bodyPost_ret (v := .agg #[.int .u64 (x.or y).a, .int .u64 (x.or y).b, .int .u64 (x.or y).c, .int .u64 (x.or y).d]) (by simp [results, Try.results75, go_sem, k0, k1, k2, k3]) rfl ⟨rfl, bb⟩
end Go.Proofs.Ytmfgplbfojnkdaa
namespace Go.Proofs.Ytmfgplbfojnkdaa
open Go cl rx
theorem one_ok (c : Nat) (hc : c < 256) : (Cls.one c).ok := by
 have hp : ∀ k : Nat, k < 64 → 2 ^ k < 18446744073709551616 := fun k hk => Nat.pow_lt_pow_right (a := 2) (m := k) (n := 64) (by decide) hk
 have h0 : (0 : Nat) < 18446744073709551616 := by decide
 unfold Cls.one Cls.ok
 split
 ·
  exact ⟨hp _ (by omega), h0, h0, h0⟩
 ·
  split
  ·
   exact ⟨h0, hp _ (by omega), h0, h0⟩
  ·
   split
   ·
    exact ⟨h0, h0, hp _ (by omega), h0⟩
   ·
    exact ⟨h0, h0, h0, hp _ (by omega)⟩
theorem or_ok {x y : Cls} (hx : x.ok) (hy : y.ok) : (x.or y).ok :=
 ⟨Nat.or_lt_two_pow (n := 64) hx.1 hy.1, Nat.or_lt_two_pow (n := 64) hx.2.1 hy.2.1, Nat.or_lt_two_pow (n := 64) hx.2.2.1 hy.2.2.1, Nat.or_lt_two_pow (n := 64) hx.2.2.2 hy.2.2.2⟩
end Go.Proofs.Ytmfgplbfojnkdaa
namespace Go.Proofs.Ytmfgplbfojnkdaa
open Go Go.RowKit Go.ChangeShapes cl rx
open rf
theorem span_ok : ∀ (n c : Nat) (x : Cls), c + n ≤ 256 → x.ok → (spanF n c x).ok
 | 0, _, _, _, h => h
 | n + 1, c, x, hc, h => span_ok n (c + 1) _ (by omega) (or_ok h (one_ok c (by omega)))
set_option maxHeartbeats 6400000 in
set_option maxRecDepth 100000 in
theorem rx_span (a b : Nat) (w : World) (ha : a < 256) (hb : b < 256) : Calls Try.prog 77 #[.int .u8 a, .int .u8 b] w (fun e w' => e = .returned (.agg #[.int .u64 (span a b).a, .int .u64 (span a b).b, .int .u64 (span a b).c, .int .u64 (span a b).d]) ∧ Below w.heap.size w w') := by
 obtain ⟨q, hq⟩ : ∃ q, q = w.heap.size := ⟨_, rfl⟩
 obtain ⟨W3, hW3⟩ : ∃ W, W = (w.alloc (.cells #[.int .u64 0, .int .u64 0, .int .u64 0, .int .u64 0] 24)).alloc (.cells #[.int .u64 0, .int .u64 0, .int .u64 0, .int .u64 0] 24) := ⟨_, rfl⟩
 have hs1 : (w.alloc (.cells #[.int .u64 0, .int .u64 0, .int .u64 0, .int .u64 0] 24)).heap.size = q + 1 := by rw [World.size_alloc, hq]
 have b1 : Below w.heap.size w (w.alloc (.cells #[.int .u64 0, .int .u64 0, .int .u64 0, .int .u64 0] 24)) := below1
 have b3 : Below w.heap.size w W3 := by rw [hW3]; exact b1.trans (below1.mono b1.size)
 have x0 : W3.heap[q]? = some (.cells #[.int .u64 0, .int .u64 0, .int .u64 0, .int .u64 0] 24 (0, 0)) := by
  rw [hW3]
  refine (below1.block q (by omega)).trans ?_
  rw [hq]; exact heap_alloc_new _ _
 have x1 : W3.heap[q + 1]? = some (.cells #[.int .u64 Cls.zero.a, .int .u64 Cls.zero.b, .int .u64 Cls.zero.c, .int .u64 Cls.zero.d] 24 (0, 0)) := by
  rw [hW3, ← hs1]; exact heap_alloc_new _ _
 obtain ⟨A, hA⟩ : ∃ A, A = span a b := ⟨_, rfl⟩
 rw [← hA]
 have HA := Lib.hid hA
 have B3 := Lib.hid b3
 have X0 := Lib.hid x0
 have X1 := Lib.hid x1
 have HQ := Lib.hid hq
 have HW3 := Lib.hid hW3
 clear hs1 b1 b3 x0 x1 hq hW3 hA
 go_enter Try.func77, Try.ntmps77
 go_wp2
 rw [← HW3.out]
 rw [← HQ.out]
 go_loopw [6, 14] (fun i _ wr => ∃ (c : Nat) (x : Cls), i = .int .i64 c ∧ c ≤ 256 ∧ Hid (x.ok) ∧ Hid (spanF (b + 1 - c) c x = A) ∧ Below w.heap.size w wr ∧ Hid (wr.heap[q]? = some (.cells #[.int .u64 0, .int .u64 0, .int .u64 0, .int .u64 0] 24 (0, 0))) ∧ Hid (wr.heap[q + 1]? = some (.cells #[.int .u64 x.a, .int .u64 x.b, .int .u64 x.c, .int .u64 x.d] 24 (0, 0)))) (fun i _ _ => 256 - (intOf i).toNat)
 case atStart => exact ⟨a, Cls.zero, rfl, by omega, by show Cls.ok _; unfold Cls.ok; decide, by show _ = _; rw [HA.out]; rfl, B3.out, X0.out, X1.out⟩
 case round =>
  obtain ⟨c, x, rfl, hc, OX, HE, hbl, Y0, Y1⟩ := hrel
  have HB := Lib.hid hbl
  clear hbl B3 X0 X1 HA
  by_cases hlt : c ≤ b
  ·
   have hci : (c : Int) ≤ (b : Int) := by omega
   have hc2 : c < 256 := by omega
   have HCW : Hid (IntKind.u8.wrap (c : Int) = (c : Int)) := by show _ = _; simp [IntKind.wrap, IntKind.signed, IntKind.bits]; omega
   have HSG : Hid (∀ W, Calls Try.prog 73 #[.int .u8 (c : Int)] W (fun e w' => e = .returned (.agg #[.int .u64 (Cls.one c).a, .int .u64 (Cls.one c).b, .int .u64 (Cls.one c).c, .int .u64 (Cls.one c).d]) ∧ Below W.heap.size W w')) := fun W => rx_single c W hc2
   have HUN : Hid (∀ W, Calls Try.prog 75 #[.agg #[.int .u64 x.a, .int .u64 x.b, .int .u64 x.c, .int .u64 x.d], .agg #[.int .u64 (Cls.one c).a, .int .u64 (Cls.one c).b, .int .u64 (Cls.one c).c, .int .u64 (Cls.one c).d]] W (fun e w' => e = .returned (.agg #[.int .u64 (x.or (Cls.one c)).a, .int .u64 (x.or (Cls.one c)).b, .int .u64 (x.or (Cls.one c)).c, .int .u64 (x.or (Cls.one c)).d]) ∧ Below W.heap.size W w')) := fun W => rx_union x (Cls.one c) W OX.out (one_ok c hc2)
   have ON : Hid ((x.or (Cls.one c)).ok) := or_ok OX.out (one_ok c hc2)
   have HE2 : Hid (spanF (b + 1 - (c + 1)) (c + 1) (x.or (Cls.one c)) = A) := by
    show _ = _
    rw [← HE.out, show b + 1 - c = (b + 1 - (c + 1)) + 1 by omega]
    rfl
   obtain ⟨y, hy⟩ : ∃ y, y = x.or (Cls.one c) := ⟨_, rfl⟩
   obtain ⟨z, hz⟩ : ∃ z, z = Cls.one c := ⟨_, rfl⟩
   clear hlt
   go_wp2
   refine wp_flow 5 (fun _ => 1000) (fun ww => Below wr.heap.size wr ww) (fun _ w w' => (fun (w w' : World) => RowKit.Below w.heap.size w w') w w') (fun kF vF wF => match kF with | 0 => (vF = .agg #[.int .u64 x.a, .int .u64 x.b, .int .u64 x.c, .int .u64 x.d]) | 1 => (vF = .int .i64 (c : Int)) | 2 => (vF = .int .u8 (c : Int)) | 3 => (vF = .agg #[.int .u64 (Cls.one c).a, .int .u64 (Cls.one c).b, .int .u64 (Cls.one c).c, .int .u64 (Cls.one c).d]) | 4 => (vF = .agg #[.int .u64 (x.or (Cls.one c)).a, .int .u64 (x.or (Cls.one c)).b, .int .u64 (x.or (Cls.one c)).c, .int .u64 (x.or (Cls.one c)).d]) | _ => True) (fun _ _ _ _ => True) (by kernel_rfl) (by kernel_rfl) ?_ ?_ ?_ ?_ ?_
   ·
    exact (Below.refl _ _).drew
   ·
    intro iF wF1 wF2 hR hT; exact hR.trans (Below.mono hT (Below.size hR))
   ·
    intro kF hkF iF hiF hne hdd hanc hdan vF wF1 wF2 h hT
    rcases (by omega : kF = 0 ∨ kF = 1 ∨ kF = 2 ∨ kF = 3 ∨ kF = 4) with rfl | rfl | rfl | rfl | rfl
    iterate 5 exact h
   ·
    generalize hAF : fillOf _ _ _ = AF
    replace hAF := fun x => congrFun hAF x
    simp only [take_succ_cons, take_zero, fillOf, Act.put, setIfInBounds_toArray, set_cons_zero, set_cons_succ, Nat.reduceAdd, Nat.zero_add] at hAF
    refine .cons ?_ (.cons ?_ (.cons ?_ (.cons ?_ (.cons ?_ (.nil)))))
    all_goals
     intro xF wz hR hd K hK
     first | simp only [← hAF, Act.put, setIfInBounds_toArray, set_cons_zero, set_cons_succ] at hK ⊢ | simp only [← hAF, Act.put] at hK ⊢
     clear hAF
     try simp only [Nat.zero_add, Nat.reduceAdd] at hK ⊢
    ·
     clear hd
     obtain hbR := id hR
     have hxa := (hbR.block _ (lt_of_block Y1.out)).trans Y1.out
     have c90 := boxc hxa 0 _ rfl
     have c91 := boxc hxa 1 _ rfl
     have c92 := boxc hxa 2 _ rfl
     have c93 := boxc hxa 3 _ rfl
     clear hxa
     rw [if_pos (by rfl)]
     go_simp
     exact hK.out _ _ (Below.refl _ _) (rfl) (fun _ _ _ => ⟨trivial, trivial⟩)
    ·
     clear hd
     obtain hbR := id hR
     rw [if_pos (by rfl)]
     go_simp
     exact hK.out _ _ (Below.refl _ _) (rfl) (fun _ _ _ => ⟨trivial, trivial⟩)
    ·
     have dd1 := hd 1 (by kernel_rfl)
     clear hd
     try generalize xF 1 = yy1 at *
     obtain rfl := dd1
     obtain hbR := id hR
     have hcw := HCW.out
     rw [if_pos (by rfl)]
     go_simp
     exact hK.out _ _ (Below.refl _ _) (rfl) (fun _ _ _ => ⟨trivial, trivial⟩)
    ·
     have dd2 := hd 2 (by kernel_rfl)
     clear hd
     try generalize xF 2 = yy2 at *
     obtain rfl := dd2
     obtain hbR := id hR
     rw [if_pos (by rfl)]
     go_simp
     (go_at_call 73; (with_reducible refine (HSG.out _).mono ?_); rintro e wK ⟨rfl, hbK⟩)
     try go_wp2_with fail
     exact hK.out _ _ (hbK) (rfl) (fun _ _ _ => ⟨trivial, trivial⟩)
    ·
     have dd0 := hd 0 (by kernel_rfl)
     have dd3 := hd 3 (by kernel_rfl)
     clear hd
     try generalize xF 0 = yy0 at *
     try generalize xF 3 = yy3 at *
     obtain rfl := dd0
     obtain rfl := dd3
     obtain hbR := id hR
     rw [if_pos (by rfl)]
     go_simp
     (go_at_call 75; (with_reducible refine (HUN.out _).mono ?_); rintro e wK ⟨rfl, hbK⟩)
     try go_wp2_with fail
     exact hK.out _ _ (hbK) (rfl) (fun _ _ _ => ⟨trivial, trivial⟩)
   intro xF wz hR hF hP
   clear hP
   have dd0 := hF 0 (by omega) (by decide)
   have dd1 := hF 1 (by omega) (by decide)
   have dd2 := hF 2 (by omega) (by decide)
   have dd3 := hF 3 (by omega) (by decide)
   have dd4 := hF 4 (by omega) (by decide)
   clear hF
   simp only [take_succ_cons, take_zero, drop_succ_cons, drop_zero, fillOf, Act.put, setIfInBounds_toArray, set_cons_zero, set_cons_succ, Nat.reduceAdd, Nat.zero_add]
   try generalize xF 0 = yy0 at *
   try generalize xF 1 = yy1 at *
   try generalize xF 2 = yy2 at *
   try generalize xF 3 = yy3 at *
   try generalize xF 4 = yy4 at *
   clear xF
   obtain rfl := dd0
   obtain rfl := dd1
   obtain rfl := dd2
   obtain rfl := dd3
   obtain rfl := dd4
   have hRE := Lib.hid hR
   clear hR
   have z1 := (hRE.out.block _ (lt_of_block Y1.out)).trans Y1.out
   have z0 := Lib.hid ((hRE.out.block _ (lt_of_block Y0.out)).trans Y0.out)
   have bz := HB.out.trans (hRE.out.mono HB.out.size)
   go_wp2_with ((with_reducible show wpList _ _ _ (Oper.mk _ (Op.store 24 (.tmp 5) _) _ _ _ _ :: _) _ _); refine wpList_store_row rfl 24 (.tmp 5) _ rfl (q + 1) #[.int .u64 (x.or (Cls.one c)).a, .int .u64 (x.or (Cls.one c)).b, .int .u64 (x.or (Cls.one c)).c, .int .u64 (x.or (Cls.one c)).d] rfl rfl 24 #[.int .u64 x.a, .int .u64 x.b, .int .u64 x.c, .int .u64 x.d] z1 clsize rfl (by simp [Value.oneCell']) ?_)
   have cc := Lib.hid (setRow_heap _ (q + 1) _ #[.int .u64 (x.or (Cls.one c)).a, .int .u64 (x.or (Cls.one c)).b, .int .u64 (x.or (Cls.one c)).c, .int .u64 (x.or (Cls.one c)).d] _ _ z1)
   have bb := Lib.hid (below_setRow bz (g := q + 1) (by have := HQ.out; omega) #[.int .u64 (x.or (Cls.one c)).a, .int .u64 (x.or (Cls.one c)).b, .int .u64 (x.or (Cls.one c)).c, .int .u64 (x.or (Cls.one c)).d])
   have zz := Lib.hid ((setRow_other wz (q + 1) q #[.int .u64 (x.or (Cls.one c)).a, .int .u64 (x.or (Cls.one c)).b, .int .u64 (x.or (Cls.one c)).c, .int .u64 (x.or (Cls.one c)).d] (by omega)).trans z0.out)
   obtain ⟨w9, h9⟩ : ∃ W, W = World.setRow wz (q + 1) #[.int .u64 (x.or (Cls.one c)).a, .int .u64 (x.or (Cls.one c)).b, .int .u64 (x.or (Cls.one c)).c, .int .u64 (x.or (Cls.one c)).d] := ⟨_, rfl⟩
   rw [← h9] at cc bb zz ⊢
   clear h9 z1 z0 bz
   go_wp2
   go_roundw
   case rel => exact ⟨c + 1, _, by go_num, hc2, ON, HE2, bb.out, zz, cc⟩
   case measure => simp [intOf]; omega
  ·
   have hci : ¬ (c : Int) ≤ (b : Int) := by omega
   have HX : Hid (x = A) := by
    show _ = _
    rw [← HE.out, show b + 1 - c = 0 by omega]
    rfl
   have yy := Y1.out
   rw [HX.out] at yy
   have c0 := boxc yy 0 _ rfl
   have c1 := boxc yy 1 _ rfl
   have c2 := boxc yy 2 _ rfl
   have c3 := boxc yy 3 _ rfl
   have xx := Y0.out
   clear hlt hc
   go_wp2_with ((with_reducible show wpList _ _ _ (Oper.mk _ (Op.store 24 (.tmp 4) _) _ _ _ _ :: _) _ _); refine wpList_store_row rfl 24 (.tmp 4) _ rfl (q) #[.int .u64 A.a, .int .u64 A.b, .int .u64 A.c, .int .u64 A.d] rfl rfl 24 #[.int .u64 0, .int .u64 0, .int .u64 0, .int .u64 0] xx clsize rfl (by simp [Value.oneCell']) ?_)
   have cc := setRow_heap _ q _ #[.int .u64 A.a, .int .u64 A.b, .int .u64 A.c, .int .u64 A.d] _ _ xx
   have bb := below_setRow HB.out (g := q) (by have := HQ.out; omega) #[.int .u64 A.a, .int .u64 A.b, .int .u64 A.c, .int .u64 A.d]
   obtain ⟨w9, h9⟩ : ∃ W, W = World.setRow wr q #[.int .u64 A.a, .int .u64 A.b, .int .u64 A.c, .int .u64 A.d] := ⟨_, rfl⟩
   rw [← h9] at cc bb ⊢
   clear h9 c0 c1 c2 c3 xx yy
   have k0 := boxc cc 0 _ rfl
   have k1 := boxc cc 1 _ rfl
   have k2 := boxc cc 2 _ rfl
   have k3 := boxc cc 3 _ rfl
   refine bodyPost_ret (v := .agg #[.int .u64 A.a, .int .u64 A.b, .int .u64 A.c, .int .u64 A.d]) (by simp [results, Try.results77, go_sem, k0, k1, k2, k3]) rfl ⟨rfl, bb⟩
end Go.Proofs.Ytmfgplbfojnkdaa
