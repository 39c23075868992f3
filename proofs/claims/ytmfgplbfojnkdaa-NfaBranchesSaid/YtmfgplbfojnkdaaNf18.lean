/- texts put together: RfGrp. -/
import Derived.Test.YtmfgplbfojnkdaaNf10
import Derived.Test.YtmfgplbfojnkdaaNf17
namespace Go.Proofs.Ytmfgplbfojnkdaa
open Go Go.RowKit Go.ChangeShapes cl rx
open rf
set_option maxHeartbeats 6400000 in
set_option maxRecDepth 100000 in
theorem rf_group0 (d q : Nat) (S : ByteArray) (dp : Int) (t : T) (a : Nat) (w : World) (h : RdT q S dp t w) (hdp : dp = 12) : Calls Try.prog 67 #[.pointer (some ⟨q, 0, none⟩), .int .i64 a] w (RfA (d + 1) q S dp (rf.group (kit.bytes S) 0 a t) w) := by
 have HF : Hid (∀ (W : World), RdT q S dp t W → Calls Try.prog 55 #[.pointer (some ⟨q, 0, none⟩), .int .i64 (a : Int), .int .i64 11] W (fun e w' => e = .returned (.tuple #[]) ∧ RKT q S dp (t.fail a 11) W w')) := fun W hW => rf_fail q S dp t a 11 W hW
 obtain ⟨r, hr⟩ : ∃ r, r = rf.group (kit.bytes S) 0 a t := ⟨_, rfl⟩
 rw [← hr]
 have HV : Hid (r = (Pat.zero, t.fail a 11)) := hr
 obtain ⟨q1, hq1⟩ : ∃ q1, q1 = w.heap.size := ⟨_, rfl⟩
 have hqq : q < q1 := by rw [hq1]; exact lt_of_block h
 obtain ⟨W3, hW3⟩ : ∃ W, W = w.alloc (.cells #[.int .i64 0, .int .u64 0, .int .u64 0, .int .u64 0, .int .u64 0, .slice none 0 0, .int .i64 0, .int .i64 0] 27) := ⟨_, rfl⟩
 have b3 : Below w.heap.size w W3 := by rw [hW3]; exact below1
 have R3 := Lib.hid (h.next b3)
 have K3 := Lib.hid (KX.of (q := q) b3)
 have Z3 : Hid (W3.heap[q1]? = some (.cells #[.int .i64 0, .int .u64 0, .int .u64 0, .int .u64 0, .int .u64 0, .slice none 0 0, .int .i64 0, .int .i64 0] 27)) := by show _ = _; rw [hW3, hq1]; exact heap_alloc_new _ _
 have HW3 := Lib.hid hW3
 have HQ1 := Lib.hid hq1
 have HQQ := Lib.hid hqq
 clear hq1 hqq hW3 b3
 have c2 := boxc R3.out.box 2 _ rfl
 have c2w := boxc h.box 2 _ rfl
 rw [HW3.out] at c2
 have hb : (dp == 12) = true := beq_iff_eq.2 hdp
 clear h hr hdp
 go_enter Try.func67, Try.ntmps67
 go_wp2_with fail
 rw [← HW3.out, ← HQ1.out]
 clear c2 c2w
 (with_reducible refine (HF.out _ R3.out).mono ?_)
 rintro e4 w4 ⟨rfl, r4, k4⟩
 have R4 := Lib.hid r4
 have K4 := Lib.hid (K3.out.trans k4)
 have Z4 := Lib.hid ((k4.2.2 q1 (lt_of_block Z3.out) (by have := HQQ.out; omega)).trans Z3.out)
 clear r4 k4
 go_wp2_with ((with_reducible show wpList _ _ _ (Oper.mk _ (Op.store 27 (.tmp 4) _) _ _ _ _ :: _) _ _); refine wpList_store_row rfl 27 (.tmp 4) _ rfl (q1) #[.int .i64 0, .int .u64 0, .int .u64 0, .int .u64 0, .int .u64 0, .slice none 0 0, .int .i64 0, .int .i64 0] rfl rfl 27 #[.int .i64 0, .int .u64 0, .int .u64 0, .int .u64 0, .int .u64 0, .slice none 0 0, .int .i64 0, .int .i64 0] Z4.out rsize rfl (by simp [Value.oneCell']) ?_)
 have cc := setRow_heap _ q1 _ #[.int .i64 0, .int .u64 0, .int .u64 0, .int .u64 0, .int .u64 0, .slice none 0 0, .int .i64 0, .int .i64 0] _ _ Z4.out
 have rr : RdT q S dp _ (World.setRow w4 q1 #[.int .i64 0, .int .u64 0, .int .u64 0, .int .u64 0, .int .u64 0, .slice none 0 0, .int .i64 0, .int .i64 0]) := R4.out.keep KX.row (by have := HQQ.out; omega)
 have kk : KX q w (World.setRow w4 q1 #[.int .i64 0, .int .u64 0, .int .u64 0, .int .u64 0, .int .u64 0, .slice none 0 0, .int .i64 0, .int .i64 0]) := K4.out.trans' KX.row (by have := HQ1.out; omega)
 have ff : Fre w.heap.size (World.setRow w4 q1 #[.int .i64 0, .int .u64 0, .int .u64 0, .int .u64 0, .int .u64 0, .slice none 0 0, .int .i64 0, .int .i64 0]) (fun W => rxR (d + 1) W W.heap.size [.int .i64 0, .int .u64 0, .int .u64 0, .int .u64 0, .int .u64 0, .slice none 0 0, .int .i64 0, .int .i64 0] Pat.zero) := fun W _ _ => ⟨none, 0, 0, rfl, RowsAt.nil _ _⟩
 obtain ⟨w99, h99⟩ : ∃ W, W = World.setRow w4 q1 #[.int .i64 0, .int .u64 0, .int .u64 0, .int .u64 0, .int .u64 0, .slice none 0 0, .int .i64 0, .int .i64 0] := ⟨_, rfl⟩
 rw [← h99] at cc rr kk ff ⊢
 clear h99
 have k0 := boxc cc 0 _ rfl
 have k1 := boxc cc 1 _ rfl
 have k2 := boxc cc 2 _ rfl
 have k3 := boxc cc 3 _ rfl
 have k4 := boxc cc 4 _ rfl
 have k5 := boxc cc 5 _ rfl
 have k6 := boxc cc 6 _ rfl
 have k7 := boxc cc 7 _ rfl
 refine bodyPost_ret (v := .agg #[.int .i64 0, .int .u64 0, .int .u64 0, .int .u64 0, .int .u64 0, .slice none 0 0, .int .i64 0, .int .i64 0]) (by simp [results, Try.results67, go_sem, k0, k1, k2, k3, k4, k5, k6, k7]) rfl ?_
 show RfA _ _ _ _ _ _ _ _
 rw [HV.out]
 exact ⟨[.int .i64 0, .int .u64 0, .int .u64 0, .int .u64 0, .int .u64 0, .slice none 0 0, .int .i64 0, .int .i64 0], rfl, ff, rr, kk⟩
set_option maxHeartbeats 12800000 in
set_option maxRecDepth 100000 in
theorem rf_group1 (n d q : Nat) (S : ByteArray) (dp : Int) (t : T) (a : Nat) (w : World) (h : RdT q S dp t w) (hS : S.size ≤ 60) (hdp : 0 ≤ dp ∧ dp < 12)
  (HR0 : ∀ W, RdT q S (dp + 1) t W → Calls Try.prog 54 #[.pointer (some ⟨q, 0, none⟩)] W (RfA (d + 1) q S (dp + 1) (rf.rows (kit.bytes S) (once (kit.bytes S) n) t) W)) : Calls Try.prog 67 #[.pointer (some ⟨q, 0, none⟩), .int .i64 a] w (RfA (d + 1) q S dp (rf.group (kit.bytes S) (n + 1) a t) w) := by
 obtain ⟨x, t1, hrw⟩ : ∃ x t1, rf.rows (kit.bytes S) (once (kit.bytes S) n) t = (x, t1) := ⟨_, _, rfl⟩
 rw [hrw] at HR0
 have HRW := Lib.hid HR0
 have HF : Hid (∀ (t' : T) (W : World), RdT q S (dp + 1) t' W → Calls Try.prog 55 #[.pointer (some ⟨q, 0, none⟩), .int .i64 (a : Int), .int .i64 9] W (fun e w' => e = .returned (.tuple #[]) ∧ RKT q S (dp + 1) (t'.fail a 9) W w')) := fun t' W hW => rf_fail q S (dp + 1) t' a 9 W hW
 obtain ⟨m, t2, hm⟩ : ∃ b t', rf.meets (kit.bytes S) 41 t1 = (b, t') := ⟨_, _, rfl⟩
 have HM : Hid (∀ W, RdT q S (dp + 1) t1 W → Calls Try.prog 61 #[.pointer (some ⟨q, 0, none⟩), .int .u8 41] W (fun e w' => e = .returned (.bool m) ∧ RKT q S (dp + 1) t2 W w')) := fun W hW => by have h := rf_meets q S (dp + 1) t1 41 W hW hS; rw [hm] at h; exact h
 obtain ⟨r, hr⟩ : ∃ r, r = rf.group (kit.bytes S) (n + 1) a t := ⟨_, rfl⟩
 rw [← hr]
 have HRE : Hid (r = (x, if m = true then t2 else t2.fail a 9)) := by
  show _ = _
  rw [hr]
  unfold rf.group
  simp only [hrw, hm]
 obtain ⟨q1, hq1⟩ : ∃ q1, q1 = w.heap.size := ⟨_, rfl⟩
 have hqq : q < q1 := by rw [hq1]; exact lt_of_block h
 obtain ⟨W3, hW3⟩ : ∃ W, W = w.alloc (.cells #[.int .i64 0, .int .u64 0, .int .u64 0, .int .u64 0, .int .u64 0, .slice none 0 0, .int .i64 0, .int .i64 0] 27) := ⟨_, rfl⟩
 have b3 : Below w.heap.size w W3 := by rw [hW3]; exact below1
 have R3 := Lib.hid (h.next b3)
 have K3 := Lib.hid (KX.of (q := q) b3)
 have Z3 : Hid (W3.heap[q1]? = some (.cells #[.int .i64 0, .int .u64 0, .int .u64 0, .int .u64 0, .int .u64 0, .slice none 0 0, .int .i64 0, .int .i64 0] 27)) := by show _ = _; rw [hW3, hq1]; exact heap_alloc_new _ _
 have HW3 := Lib.hid hW3
 have HQ1 := Lib.hid hq1
 have HQQ := Lib.hid hqq
 clear hq1 hqq hW3 b3
 have x3 := R3.out.box
 have c2 := boxc x3 2 _ rfl
 have c2w := boxc h.box 2 _ rfl
 have f2 := boxf x3 2
 have f2w := boxf h.box 2
 have x4 : RdT q S (dp + 1) t (W3.setCell ⟨q, 2, none⟩ (.int .i64 (dp + 1))) := heap_setCell_same W3 q 2 _ _ _ x3
 have z4 : (W3.setCell ⟨q, 2, none⟩ (.int .i64 (dp + 1))).heap[q1]? = _ := (heap_setCell_other _ _ _ _ (by show q1 ≠ q; have := HQQ.out; omega)).trans Z3.out
 rw [HW3.out] at c2 f2
 obtain ⟨W4, hW4⟩ : ∃ W, W = W3.setCell ⟨q, 2, none⟩ (.int .i64 (dp + 1)) := ⟨_, rfl⟩
 rw [← hW4] at x4 z4
 have R4 := Lib.hid x4
 have Z4 := Lib.hid z4
 have K4 : Hid (KX q w W4) := by show KX q w W4; rw [hW4]; exact K3.out.trans KX.cell
 have HW4 : Hid (W4 = (w.alloc (.cells #[.int .i64 0, .int .u64 0, .int .u64 0, .int .u64 0, .int .u64 0, .slice none 0 0, .int .i64 0, .int .i64 0] 27)).setCell ⟨q, 2, none⟩ (.int .i64 (dp + 1))) := by show _ = _; rw [hW4, HW3.out]
 have HQ4 : Hid (q < W4.heap.size) := lt_of_block R4.out
 have H14 : Hid (q1 < W4.heap.size) := lt_of_block Z4.out
 have HB4 : Hid (w.heap.size ≤ W4.heap.size) := K4.out.2.1
 have hb : (dp == 12) = false := beq_eq_false_iff_ne.2 (by omega)
 obtain ⟨hd0, hd1⟩ := hdp
 clear h hr hrw HR0 x3 x4 z4 hW4
 cases m with
 | true =>
  have HV : Hid (r = (x, t2)) := HRE.out
  clear hm
  go_enter Try.func67, Try.ntmps67
  go_wp2_with fail
  rw [← HW4.out, ← HQ1.out]
  clear c2 c2w f2 f2w
  (with_reducible refine (HRW.out _ R4.out).mono ?_)
  rintro e5 w5 ⟨c, rfl, f5, r5, k5⟩
  obtain ⟨ko, kn, kc, rfl⟩ := rx_form f5.at
  have R5 := Lib.hid r5
  have K5 := Lib.hid (K4.out.trans k5)
  have Z5 := Lib.hid ((k5.2.2 q1 H14.out (by have := HQQ.out; omega)).trans Z4.out)
  have HF5 := Lib.hid f5
  clear r5 k5 f5
  go_wp2_with fail
  obtain ⟨q2, hq6⟩ : ∃ z, z = w5.heap.size := ⟨_, rfl⟩
  obtain ⟨w6, hw6⟩ : ∃ W, W = w5.alloc (.cells #[.int .i64 x.k, .int .u64 x.cl.a, .int .u64 x.cl.b, .int .u64 x.cl.c, .int .u64 x.cl.d, .slice ko kn kc, .int .i64 x.mn, .int .i64 x.mx] 27) := ⟨_, rfl⟩
  have b6 : Below w5.heap.size w5 w6 := by rw [hw6]; exact below1
  have R6 := Lib.hid (R5.out.next b6)
  have K6 := Lib.hid (K5.out.next b6)
  have X6 : Hid (w6.heap[q2]? = some (.cells #[.int .i64 x.k, .int .u64 x.cl.a, .int .u64 x.cl.b, .int .u64 x.cl.c, .int .u64 x.cl.d, .slice ko kn kc, .int .i64 x.mn, .int .i64 x.mx] 27)) := by show _ = _; rw [hw6, hq6]; exact heap_alloc_new _ _
  have HQX : Hid (q < q2) := by show _ < _; rw [hq6]; exact lt_of_block R5.out
  have Z6 := Lib.hid ((b6.block _ (lt_of_block Z5.out)).trans Z5.out)
  have HW6 := Lib.hid hw6
  have HQE6 := Lib.hid hq6
  have F6 := Lib.hid (FreA.next HF5.out b6)
  clear b6 hw6 hq6
  rw [← HW6.out, ← HQE6.out]
  (with_reducible refine (HM.out _ R6.out).mono ?_)
  rintro e7 w7 ⟨rfl, r7, k7⟩
  have R7 := Lib.hid r7
  have K7 := Lib.hid (K6.out.trans k7)
  have Z7 := Lib.hid ((k7.2.2 q1 (lt_of_block Z6.out) (by have := HQQ.out; omega)).trans Z6.out)
  have X7 := Lib.hid ((k7.2.2 q2 (lt_of_block X6.out) (by have := HQX.out; omega)).trans X6.out)
  have F7 := Lib.hid (Fre.kx F6.out k7 HQ4.out)
  clear r7 k7
  have c2 := boxc R7.out.box 2 _ rfl
  have f2 := boxf R7.out.box 2
  have XP : (w7.setCell ⟨q, 2, none⟩ (.int .i64 dp)).heap[q2]? = _ := (heap_setCell_other _ _ _ _ (by show q2 ≠ q; have := HQX.out; omega)).trans X7.out
  have ZP : (w7.setCell ⟨q, 2, none⟩ (.int .i64 dp)).heap[q1]? = _ := (heap_setCell_other _ _ _ _ (by show q1 ≠ q; have := HQQ.out; omega)).trans Z7.out
  have l0 := boxc XP 0 _ rfl
  have l1 := boxc XP 1 _ rfl
  have l2 := boxc XP 2 _ rfl
  have l3 := boxc XP 3 _ rfl
  have l4 := boxc XP 4 _ rfl
  have l5 := boxc XP 5 _ rfl
  have l6 := boxc XP 6 _ rfl
  have l7 := boxc XP 7 _ rfl
  go_wp2_with ((with_reducible show wpList _ _ _ (Oper.mk _ (Op.store 27 (.tmp 4) _) _ _ _ _ :: _) _ _); refine wpList_store_row rfl 27 (.tmp 4) _ rfl (q1) #[.int .i64 x.k, .int .u64 x.cl.a, .int .u64 x.cl.b, .int .u64 x.cl.c, .int .u64 x.cl.d, .slice ko kn kc, .int .i64 x.mn, .int .i64 x.mx] rfl rfl 27 #[.int .i64 0, .int .u64 0, .int .u64 0, .int .u64 0, .int .u64 0, .slice none 0 0, .int .i64 0, .int .i64 0] ZP rsize rfl (by simp [Value.oneCell']) ?_)
  have RN : RdT q S dp t2 (w7.setCell ⟨q, 2, none⟩ (.int .i64 dp)) := heap_setCell_same w7 q 2 _ _ _ R7.out.box
  have KN : KX q w (w7.setCell ⟨q, 2, none⟩ (.int .i64 dp)) := K7.out.trans KX.cell
  have FN : Fre W4.heap.size (w7.setCell ⟨q, 2, none⟩ (.int .i64 dp)) _ := Fre.kx F7.out (KX.cell (q := q) (i := 2) (u := .int .i64 dp)) HQ4.out
  obtain ⟨w8, hw8⟩ : ∃ W, W = w7.setCell ⟨q, 2, none⟩ (.int .i64 dp) := ⟨_, rfl⟩
  clear c2 f2 XP l0 l1 l2 l3 l4 l5 l6 l7
  rw [← hw8] at RN KN FN ZP ⊢
  have R8 := Lib.hid RN
  have K8 := Lib.hid KN
  have F8 := Lib.hid FN
  have Z8 := Lib.hid ZP
  clear RN KN FN ZP hw8
  have cc := setRow_heap _ q1 _ #[.int .i64 x.k, .int .u64 x.cl.a, .int .u64 x.cl.b, .int .u64 x.cl.c, .int .u64 x.cl.d, .slice ko kn kc, .int .i64 x.mn, .int .i64 x.mx] _ _ Z8.out
  have rr : RdT q S dp _ (World.setRow w8 q1 #[.int .i64 x.k, .int .u64 x.cl.a, .int .u64 x.cl.b, .int .u64 x.cl.c, .int .u64 x.cl.d, .slice ko kn kc, .int .i64 x.mn, .int .i64 x.mx]) := R8.out.keep KX.row (by have := HQQ.out; omega)
  have kk : KX q w (World.setRow w8 q1 #[.int .i64 x.k, .int .u64 x.cl.a, .int .u64 x.cl.b, .int .u64 x.cl.c, .int .u64 x.cl.d, .slice ko kn kc, .int .i64 x.mn, .int .i64 x.mx]) := K8.out.trans' KX.row (by have := HQ1.out; omega)
  have ff : Fre w.heap.size (World.setRow w8 q1 #[.int .i64 x.k, .int .u64 x.cl.a, .int .u64 x.cl.b, .int .u64 x.cl.c, .int .u64 x.cl.d, .slice ko kn kc, .int .i64 x.mn, .int .i64 x.mx]) (fun W => rxR (d + 1) W W.heap.size [.int .i64 x.k, .int .u64 x.cl.a, .int .u64 x.cl.b, .int .u64 x.cl.c, .int .u64 x.cl.d, .slice ko kn kc, .int .i64 x.mn, .int .i64 x.mx] x) := FreA.low (Fre.kx F8.out KX.row H14.out) HB4.out
  obtain ⟨w99, h99⟩ : ∃ W, W = World.setRow w8 q1 #[.int .i64 x.k, .int .u64 x.cl.a, .int .u64 x.cl.b, .int .u64 x.cl.c, .int .u64 x.cl.d, .slice ko kn kc, .int .i64 x.mn, .int .i64 x.mx] := ⟨_, rfl⟩
  rw [← h99] at cc rr kk ff ⊢
  clear h99
  have k0 := boxc cc 0 _ rfl
  have k1 := boxc cc 1 _ rfl
  have k2 := boxc cc 2 _ rfl
  have k3 := boxc cc 3 _ rfl
  have k4 := boxc cc 4 _ rfl
  have k5 := boxc cc 5 _ rfl
  have k6 := boxc cc 6 _ rfl
  have k7 := boxc cc 7 _ rfl
  refine bodyPost_ret (v := .agg #[.int .i64 x.k, .int .u64 x.cl.a, .int .u64 x.cl.b, .int .u64 x.cl.c, .int .u64 x.cl.d, .slice ko kn kc, .int .i64 x.mn, .int .i64 x.mx]) (by simp [results, Try.results67, go_sem, k0, k1, k2, k3, k4, k5, k6, k7]) rfl ?_
  show RfA _ _ _ _ _ _ _ _
  rw [HV.out]
  exact ⟨[.int .i64 x.k, .int .u64 x.cl.a, .int .u64 x.cl.b, .int .u64 x.cl.c, .int .u64 x.cl.d, .slice ko kn kc, .int .i64 x.mn, .int .i64 x.mx], rfl, ff, rr, kk⟩
 | false =>
  have HV : Hid (r = (x, t2.fail a 9)) := HRE.out
  clear hm
  go_enter Try.func67, Try.ntmps67
  go_wp2_with fail
  rw [← HW4.out, ← HQ1.out]
  clear c2 c2w f2 f2w
  (with_reducible refine (HRW.out _ R4.out).mono ?_)
  rintro e5 w5 ⟨c, rfl, f5, r5, k5⟩
  obtain ⟨ko, kn, kc, rfl⟩ := rx_form f5.at
  have R5 := Lib.hid r5
  have K5 := Lib.hid (K4.out.trans k5)
  have Z5 := Lib.hid ((k5.2.2 q1 H14.out (by have := HQQ.out; omega)).trans Z4.out)
  have HF5 := Lib.hid f5
  clear r5 k5 f5
  go_wp2_with fail
  obtain ⟨q2, hq6⟩ : ∃ z, z = w5.heap.size := ⟨_, rfl⟩
  obtain ⟨w6, hw6⟩ : ∃ W, W = w5.alloc (.cells #[.int .i64 x.k, .int .u64 x.cl.a, .int .u64 x.cl.b, .int .u64 x.cl.c, .int .u64 x.cl.d, .slice ko kn kc, .int .i64 x.mn, .int .i64 x.mx] 27) := ⟨_, rfl⟩
  have b6 : Below w5.heap.size w5 w6 := by rw [hw6]; exact below1
  have R6 := Lib.hid (R5.out.next b6)
  have K6 := Lib.hid (K5.out.next b6)
  have X6 : Hid (w6.heap[q2]? = some (.cells #[.int .i64 x.k, .int .u64 x.cl.a, .int .u64 x.cl.b, .int .u64 x.cl.c, .int .u64 x.cl.d, .slice ko kn kc, .int .i64 x.mn, .int .i64 x.mx] 27)) := by show _ = _; rw [hw6, hq6]; exact heap_alloc_new _ _
  have HQX : Hid (q < q2) := by show _ < _; rw [hq6]; exact lt_of_block R5.out
  have Z6 := Lib.hid ((b6.block _ (lt_of_block Z5.out)).trans Z5.out)
  have HW6 := Lib.hid hw6
  have HQE6 := Lib.hid hq6
  have F6 := Lib.hid (FreA.next HF5.out b6)
  clear b6 hw6 hq6
  rw [← HW6.out, ← HQE6.out]
  (with_reducible refine (HM.out _ R6.out).mono ?_)
  rintro e7 w7 ⟨rfl, r7, k7⟩
  have R7 := Lib.hid r7
  have K7 := Lib.hid (K6.out.trans k7)
  have Z7 := Lib.hid ((k7.2.2 q1 (lt_of_block Z6.out) (by have := HQQ.out; omega)).trans Z6.out)
  have X7 := Lib.hid ((k7.2.2 q2 (lt_of_block X6.out) (by have := HQX.out; omega)).trans X6.out)
  have F7 := Lib.hid (Fre.kx F6.out k7 HQ4.out)
  clear r7 k7
  go_wp2_with fail
  (with_reducible refine (HF.out _ _ R7.out).mono ?_)
  rintro e8 w8 ⟨rfl, r8, k8⟩
  have R8 := Lib.hid r8
  have K8 := Lib.hid (K7.out.trans k8)
  have Z8 := Lib.hid ((k8.2.2 q1 (lt_of_block Z7.out) (by have := HQQ.out; omega)).trans Z7.out)
  have X8 := Lib.hid ((k8.2.2 q2 (lt_of_block X7.out) (by have := HQX.out; omega)).trans X7.out)
  have F8 := Lib.hid (Fre.kx F7.out k8 HQ4.out)
  clear r8 k8
  have c2 := boxc R8.out.box 2 _ rfl
  have f2 := boxf R8.out.box 2
  have XP : (w8.setCell ⟨q, 2, none⟩ (.int .i64 dp)).heap[q2]? = _ := (heap_setCell_other _ _ _ _ (by show q2 ≠ q; have := HQX.out; omega)).trans X8.out
  have ZP : (w8.setCell ⟨q, 2, none⟩ (.int .i64 dp)).heap[q1]? = _ := (heap_setCell_other _ _ _ _ (by show q1 ≠ q; have := HQQ.out; omega)).trans Z8.out
  have l0 := boxc XP 0 _ rfl
  have l1 := boxc XP 1 _ rfl
  have l2 := boxc XP 2 _ rfl
  have l3 := boxc XP 3 _ rfl
  have l4 := boxc XP 4 _ rfl
  have l5 := boxc XP 5 _ rfl
  have l6 := boxc XP 6 _ rfl
  have l7 := boxc XP 7 _ rfl
  go_wp2_with ((with_reducible show wpList _ _ _ (Oper.mk _ (Op.store 27 (.tmp 4) _) _ _ _ _ :: _) _ _); refine wpList_store_row rfl 27 (.tmp 4) _ rfl (q1) #[.int .i64 x.k, .int .u64 x.cl.a, .int .u64 x.cl.b, .int .u64 x.cl.c, .int .u64 x.cl.d, .slice ko kn kc, .int .i64 x.mn, .int .i64 x.mx] rfl rfl 27 #[.int .i64 0, .int .u64 0, .int .u64 0, .int .u64 0, .int .u64 0, .slice none 0 0, .int .i64 0, .int .i64 0] ZP rsize rfl (by simp [Value.oneCell']) ?_)
  have RN : RdT q S dp (t2.fail a 9) (w8.setCell ⟨q, 2, none⟩ (.int .i64 dp)) := heap_setCell_same w8 q 2 _ _ _ R8.out.box
  have KN : KX q w (w8.setCell ⟨q, 2, none⟩ (.int .i64 dp)) := K8.out.trans KX.cell
  have FN : Fre W4.heap.size (w8.setCell ⟨q, 2, none⟩ (.int .i64 dp)) _ := Fre.kx F8.out (KX.cell (q := q) (i := 2) (u := .int .i64 dp)) HQ4.out
  obtain ⟨w9, hw9⟩ : ∃ W, W = w8.setCell ⟨q, 2, none⟩ (.int .i64 dp) := ⟨_, rfl⟩
  clear c2 f2 XP l0 l1 l2 l3 l4 l5 l6 l7
  rw [← hw9] at RN KN FN ZP ⊢
  have R9 := Lib.hid RN
  have K9 := Lib.hid KN
  have F9 := Lib.hid FN
  have Z9 := Lib.hid ZP
  clear RN KN FN ZP hw9
  have cc := setRow_heap _ q1 _ #[.int .i64 x.k, .int .u64 x.cl.a, .int .u64 x.cl.b, .int .u64 x.cl.c, .int .u64 x.cl.d, .slice ko kn kc, .int .i64 x.mn, .int .i64 x.mx] _ _ Z9.out
  have rr : RdT q S dp _ (World.setRow w9 q1 #[.int .i64 x.k, .int .u64 x.cl.a, .int .u64 x.cl.b, .int .u64 x.cl.c, .int .u64 x.cl.d, .slice ko kn kc, .int .i64 x.mn, .int .i64 x.mx]) := R9.out.keep KX.row (by have := HQQ.out; omega)
  have kk : KX q w (World.setRow w9 q1 #[.int .i64 x.k, .int .u64 x.cl.a, .int .u64 x.cl.b, .int .u64 x.cl.c, .int .u64 x.cl.d, .slice ko kn kc, .int .i64 x.mn, .int .i64 x.mx]) := K9.out.trans' KX.row (by have := HQ1.out; omega)
  have ff : Fre w.heap.size (World.setRow w9 q1 #[.int .i64 x.k, .int .u64 x.cl.a, .int .u64 x.cl.b, .int .u64 x.cl.c, .int .u64 x.cl.d, .slice ko kn kc, .int .i64 x.mn, .int .i64 x.mx]) (fun W => rxR (d + 1) W W.heap.size [.int .i64 x.k, .int .u64 x.cl.a, .int .u64 x.cl.b, .int .u64 x.cl.c, .int .u64 x.cl.d, .slice ko kn kc, .int .i64 x.mn, .int .i64 x.mx] x) := FreA.low (Fre.kx F9.out KX.row H14.out) HB4.out
  obtain ⟨w99, h99⟩ : ∃ W, W = World.setRow w9 q1 #[.int .i64 x.k, .int .u64 x.cl.a, .int .u64 x.cl.b, .int .u64 x.cl.c, .int .u64 x.cl.d, .slice ko kn kc, .int .i64 x.mn, .int .i64 x.mx] := ⟨_, rfl⟩
  rw [← h99] at cc rr kk ff ⊢
  clear h99
  have k0 := boxc cc 0 _ rfl
  have k1 := boxc cc 1 _ rfl
  have k2 := boxc cc 2 _ rfl
  have k3 := boxc cc 3 _ rfl
  have k4 := boxc cc 4 _ rfl
  have k5 := boxc cc 5 _ rfl
  have k6 := boxc cc 6 _ rfl
  have k7 := boxc cc 7 _ rfl
  refine bodyPost_ret (v := .agg #[.int .i64 x.k, .int .u64 x.cl.a, .int .u64 x.cl.b, .int .u64 x.cl.c, .int .u64 x.cl.d, .slice ko kn kc, .int .i64 x.mn, .int .i64 x.mx]) (by simp [results, Try.results67, go_sem, k0, k1, k2, k3, k4, k5, k6, k7]) rfl ?_
  show RfA _ _ _ _ _ _ _ _
  rw [HV.out]
  exact ⟨[.int .i64 x.k, .int .u64 x.cl.a, .int .u64 x.cl.b, .int .u64 x.cl.c, .int .u64 x.cl.d, .slice ko kn kc, .int .i64 x.mn, .int .i64 x.mx], rfl, ff, rr, kk⟩
end Go.Proofs.Ytmfgplbfojnkdaa
