/- texts put together: RfPrt. -/
import Derived.Test.YtmfgplbfojnkdaaNf11
import Derived.Test.YtmfgplbfojnkdaaNf19
namespace Go.Proofs.Ytmfgplbfojnkdaa
open Go Go.RowKit Go.ChangeShapes cl rx
open rf
set_option maxHeartbeats 6400000 in
set_option maxRecDepth 100000 in
theorem rf_part (d q : Nat) (S : ByteArray) (dp : Int) (O : T → Pat × T) (t : T) (w : World) (h : RdT q S dp t w) (hS : S.size ≤ 60) (hp : t.p < S.size) (HO0 : ∀ (t : T) (W : World), t.p < S.size → RdT q S dp t W → Calls Try.prog 65 #[.pointer (some ⟨q, 0, none⟩)] W (RfA (d + 1) q S dp (O t) W)) : Calls Try.prog 64 #[.pointer (some ⟨q, 0, none⟩)] w (RfA (d + 2) q S dp (rf.part (kit.bytes S) O t) w) := by
 have HOn : Hid (∀ W, RdT q S dp t W → Calls Try.prog 65 #[.pointer (some ⟨q, 0, none⟩)] W (RfA (d + 1) q S dp (O t) W)) := fun W hW => HO0 t W hp hW
 unfold rf.part
 obtain ⟨x, t1, hr⟩ : ∃ x t1, O t = (x, t1) := ⟨_, _, rfl⟩
 rw [hr] at HOn ⊢
 simp only
 have HOf : Hid (∀ W, RdT q S dp t1 W → Calls Try.prog 66 #[.pointer (some ⟨q, 0, none⟩)] W (fun e w' => e = .returned (.tuple #[.int .i64 (rf.often (kit.bytes S) t1).1.1, .int .i64 (rf.often (kit.bytes S) t1).1.2.1, .bool (rf.often (kit.bytes S) t1).1.2.2]) ∧ RKT q S dp (rf.often (kit.bytes S) t1).2 W w')) := fun W hW => rf_often q S dp t1 W hW hS
 obtain ⟨oa, ob, ok, t2, ho⟩ : ∃ oa ob ok t2, rf.often (kit.bytes S) t1 = ((oa, ob, ok), t2) := ⟨_, _, _, _, rfl⟩
 rw [ho] at HOf ⊢
 simp only at HOf ⊢
 obtain ⟨q1, hq1⟩ : ∃ q1, q1 = w.heap.size := ⟨_, rfl⟩
 have hqq : q < q1 := by rw [hq1]; exact lt_of_block h
 obtain ⟨W3, hW3⟩ : ∃ W, W = w.alloc (.cells #[.int .i64 0, .int .u64 0, .int .u64 0, .int .u64 0, .int .u64 0, .slice none 0 0, .int .i64 0, .int .i64 0] 27) := ⟨_, rfl⟩
 have b3 : Below w.heap.size w W3 := by rw [hW3]; exact below1
 have R3 := Lib.hid (h.next b3)
 have K3 := Lib.hid (KX.of (q := q) b3)
 have Z3 : Hid (W3.heap[q1]? = some (.cells #[.int .i64 0, .int .u64 0, .int .u64 0, .int .u64 0, .int .u64 0, .slice none 0 0, .int .i64 0, .int .i64 0] 27)) := by show _ = _; rw [hW3, hq1]; exact heap_alloc_new _ _
 have HW3 := Lib.hid hW3
 have HQ1 := Lib.hid hq1
 have HQQ := Lib.hid hqq
 have HQ3 : Hid (q < W3.heap.size) := lt_of_block R3.out
 have H13 : Hid (q1 < W3.heap.size) := lt_of_block Z3.out
 have HB3 : Hid (w.heap.size ≤ W3.heap.size) := b3.size
 clear h hr ho hq1 hqq hW3 b3 hp hS
 cases ok with
 | false =>
  have HMN : many x (oa, ob, false) = x := rfl
  rw [HMN]
  clear HMN
  go_enter Try.func64, Try.ntmps64
  go_wp2_with fail
  rw [← HW3.out, ← HQ1.out]
  (with_reducible refine (HOn.out _ R3.out).mono ?_)
  rintro e4 w4 ⟨c, rfl, f4, r4, k4⟩
  obtain ⟨ko, kn, kc, rfl⟩ := rx_form f4.at
  obtain ⟨q2, hq2⟩ : ∃ q2, q2 = w4.heap.size := ⟨_, rfl⟩
  obtain ⟨W5, hW5⟩ : ∃ W, W = w4.alloc (.cells #[.int .i64 x.k, .int .u64 x.cl.a, .int .u64 x.cl.b, .int .u64 x.cl.c, .int .u64 x.cl.d, .slice ko kn kc, .int .i64 x.mn, .int .i64 x.mx] 27) := ⟨_, rfl⟩
  have b5 : Below w4.heap.size w4 W5 := by rw [hW5]; exact below1
  have R5 := Lib.hid (r4.next b5)
  have K5 := Lib.hid (K3.out.trans (k4.next b5))
  have F5 := Lib.hid (FreA.next f4 b5)
  have Z5 := Lib.hid ((b5.block q1 (by have := k4.2.1; have := lt_of_block Z3.out; omega)).trans ((k4.2.2 q1 (lt_of_block Z3.out) (by have := HQQ.out; omega)).trans Z3.out))
  have X5 : Hid (W5.heap[q2]? = some (.cells #[.int .i64 x.k, .int .u64 x.cl.a, .int .u64 x.cl.b, .int .u64 x.cl.c, .int .u64 x.cl.d, .slice ko kn kc, .int .i64 x.mn, .int .i64 x.mx] 27)) := by show _ = _; rw [hW5, hq2]; exact heap_alloc_new _ _
  have HQ2 : Hid (q < q2) := by show _ < _; rw [hq2]; exact lt_of_block r4
  have HB35 : Hid (W3.heap.size ≤ W5.heap.size) := Nat.le_trans k4.2.1 b5.size
  have HW5 := Lib.hid hW5
  have HQ2E := Lib.hid hq2
  clear f4 r4 k4 b5 hW5 hq2
  go_wp2_with fail
  rw [← HW5.out, ← HQ2E.out]
  (with_reducible refine (HOf.out _ R5.out).mono ?_)
  rintro e6 w6 ⟨rfl, r6, k6⟩
  have R6 := Lib.hid r6
  have HB36 : Hid (W3.heap.size ≤ w6.heap.size) := Nat.le_trans HB35.out k6.2.1
  have K6 := Lib.hid (K5.out.trans k6)
  have F6 := Lib.hid (Fre.kx F5.out k6 HQ3.out)
  have Z6 := Lib.hid ((k6.2.2 q1 (lt_of_block Z5.out) (by have := HQQ.out; omega)).trans Z5.out)
  have X6 := (k6.2.2 q2 (lt_of_block X5.out) (by have := HQ2.out; omega)).trans X5.out
  have d0 := boxc X6 0 _ rfl
  have d1 := boxc X6 1 _ rfl
  have d2 := boxc X6 2 _ rfl
  have d3 := boxc X6 3 _ rfl
  have d4 := boxc X6 4 _ rfl
  have d5 := boxc X6 5 _ rfl
  have d6 := boxc X6 6 _ rfl
  have d7 := boxc X6 7 _ rfl
  clear r6 k6 X6
  obtain ⟨wz, rfl⟩ : ∃ W, W = w6 := ⟨_, rfl⟩
  have R9 := R6
  have K9 := K6
  have ZZ := Z6
  clear R6 K6 Z6
  go_wp2_with ((with_reducible show wpList _ _ _ (Oper.mk _ (Op.store 27 (.tmp 2) _) _ _ _ _ :: _) _ _); refine wpList_store_row rfl 27 (.tmp 2) _ rfl (q1) #[.int .i64 x.k, .int .u64 x.cl.a, .int .u64 x.cl.b, .int .u64 x.cl.c, .int .u64 x.cl.d, .slice ko kn kc, .int .i64 x.mn, .int .i64 x.mx] rfl rfl 27 #[.int .i64 0, .int .u64 0, .int .u64 0, .int .u64 0, .int .u64 0, .slice none 0 0, .int .i64 0, .int .i64 0] ZZ.out rsize rfl (by simp [Value.oneCell']) ?_)
  have cc := setRow_heap _ q1 _ #[.int .i64 x.k, .int .u64 x.cl.a, .int .u64 x.cl.b, .int .u64 x.cl.c, .int .u64 x.cl.d, .slice ko kn kc, .int .i64 x.mn, .int .i64 x.mx] _ _ ZZ.out
  have rr : RdT q S dp _ (World.setRow wz q1 #[.int .i64 x.k, .int .u64 x.cl.a, .int .u64 x.cl.b, .int .u64 x.cl.c, .int .u64 x.cl.d, .slice ko kn kc, .int .i64 x.mn, .int .i64 x.mx]) := R9.out.keep KX.row (by have := HQQ.out; omega)
  have kk : KX q w (World.setRow wz q1 #[.int .i64 x.k, .int .u64 x.cl.a, .int .u64 x.cl.b, .int .u64 x.cl.c, .int .u64 x.cl.d, .slice ko kn kc, .int .i64 x.mn, .int .i64 x.mx]) := K9.out.trans' KX.row (by have := HQ1.out; omega)
  have ff : Fre w.heap.size (World.setRow wz q1 #[.int .i64 x.k, .int .u64 x.cl.a, .int .u64 x.cl.b, .int .u64 x.cl.c, .int .u64 x.cl.d, .slice ko kn kc, .int .i64 x.mn, .int .i64 x.mx]) (fun W => rxR (d + 2) W W.heap.size [.int .i64 x.k, .int .u64 x.cl.a, .int .u64 x.cl.b, .int .u64 x.cl.c, .int .u64 x.cl.d, .slice ko kn kc, .int .i64 x.mn, .int .i64 x.mx] x) := FreA.low (Fre.kx (FreA.imp F6.out (fun W h => rxR_up (d + 1) _ _ _ _ h)) KX.row H13.out) HB3.out
  obtain ⟨w9, h9⟩ : ∃ W, W = World.setRow wz q1 #[.int .i64 x.k, .int .u64 x.cl.a, .int .u64 x.cl.b, .int .u64 x.cl.c, .int .u64 x.cl.d, .slice ko kn kc, .int .i64 x.mn, .int .i64 x.mx] := ⟨_, rfl⟩
  rw [← h9] at cc rr kk ff ⊢
  clear h9
  have k0 := boxc cc 0 _ rfl
  have k1 := boxc cc 1 _ rfl
  have k2 := boxc cc 2 _ rfl
  have k3 := boxc cc 3 _ rfl
  have k4 := boxc cc 4 _ rfl
  have k5 := boxc cc 5 _ rfl
  have k6 := boxc cc 6 _ rfl
  have k7 := boxc cc 7 _ rfl
  refine bodyPost_ret (v := .agg #[.int .i64 x.k, .int .u64 x.cl.a, .int .u64 x.cl.b, .int .u64 x.cl.c, .int .u64 x.cl.d, .slice ko kn kc, .int .i64 x.mn, .int .i64 x.mx]) (by simp [results, Try.results64, go_sem, k0, k1, k2, k3, k4, k5, k6, k7]) rfl ?_
  exact ⟨[.int .i64 x.k, .int .u64 x.cl.a, .int .u64 x.cl.b, .int .u64 x.cl.c, .int .u64 x.cl.d, .slice ko kn kc, .int .i64 x.mn, .int .i64 x.mx], rfl, ff, rr, kk⟩
 | true =>
  by_cases g1 : oa = 1 ∧ ob = 1
  ·
   have HMN : many x (oa, ob, true) = x := by unfold many; simp [g1]
   rw [HMN]
   have h1a : oa = 1 := g1.1
   have h1b : ob = 1 := g1.2
   subst h1a
   subst h1b
   clear HMN g1
   go_enter Try.func64, Try.ntmps64
   go_wp2_with fail
   rw [← HW3.out, ← HQ1.out]
   (with_reducible refine (HOn.out _ R3.out).mono ?_)
   rintro e4 w4 ⟨c, rfl, f4, r4, k4⟩
   obtain ⟨ko, kn, kc, rfl⟩ := rx_form f4.at
   obtain ⟨q2, hq2⟩ : ∃ q2, q2 = w4.heap.size := ⟨_, rfl⟩
   obtain ⟨W5, hW5⟩ : ∃ W, W = w4.alloc (.cells #[.int .i64 x.k, .int .u64 x.cl.a, .int .u64 x.cl.b, .int .u64 x.cl.c, .int .u64 x.cl.d, .slice ko kn kc, .int .i64 x.mn, .int .i64 x.mx] 27) := ⟨_, rfl⟩
   have b5 : Below w4.heap.size w4 W5 := by rw [hW5]; exact below1
   have R5 := Lib.hid (r4.next b5)
   have K5 := Lib.hid (K3.out.trans (k4.next b5))
   have F5 := Lib.hid (FreA.next f4 b5)
   have Z5 := Lib.hid ((b5.block q1 (by have := k4.2.1; have := lt_of_block Z3.out; omega)).trans ((k4.2.2 q1 (lt_of_block Z3.out) (by have := HQQ.out; omega)).trans Z3.out))
   have X5 : Hid (W5.heap[q2]? = some (.cells #[.int .i64 x.k, .int .u64 x.cl.a, .int .u64 x.cl.b, .int .u64 x.cl.c, .int .u64 x.cl.d, .slice ko kn kc, .int .i64 x.mn, .int .i64 x.mx] 27)) := by show _ = _; rw [hW5, hq2]; exact heap_alloc_new _ _
   have HQ2 : Hid (q < q2) := by show _ < _; rw [hq2]; exact lt_of_block r4
   have HB35 : Hid (W3.heap.size ≤ W5.heap.size) := Nat.le_trans k4.2.1 b5.size
   have HW5 := Lib.hid hW5
   have HQ2E := Lib.hid hq2
   clear f4 r4 k4 b5 hW5 hq2
   go_wp2_with fail
   rw [← HW5.out, ← HQ2E.out]
   (with_reducible refine (HOf.out _ R5.out).mono ?_)
   rintro e6 w6 ⟨rfl, r6, k6⟩
   have R6 := Lib.hid r6
   have HB36 : Hid (W3.heap.size ≤ w6.heap.size) := Nat.le_trans HB35.out k6.2.1
   have K6 := Lib.hid (K5.out.trans k6)
   have F6 := Lib.hid (Fre.kx F5.out k6 HQ3.out)
   have Z6 := Lib.hid ((k6.2.2 q1 (lt_of_block Z5.out) (by have := HQQ.out; omega)).trans Z5.out)
   have X6 := (k6.2.2 q2 (lt_of_block X5.out) (by have := HQ2.out; omega)).trans X5.out
   have d0 := boxc X6 0 _ rfl
   have d1 := boxc X6 1 _ rfl
   have d2 := boxc X6 2 _ rfl
   have d3 := boxc X6 3 _ rfl
   have d4 := boxc X6 4 _ rfl
   have d5 := boxc X6 5 _ rfl
   have d6 := boxc X6 6 _ rfl
   have d7 := boxc X6 7 _ rfl
   clear r6 k6 X6
   obtain ⟨wz, rfl⟩ : ∃ W, W = w6 := ⟨_, rfl⟩
   have R9 := R6
   have K9 := K6
   have ZZ := Z6
   clear R6 K6 Z6
   go_wp2_with ((with_reducible show wpList _ _ _ (Oper.mk _ (Op.store 27 (.tmp 2) _) _ _ _ _ :: _) _ _); refine wpList_store_row rfl 27 (.tmp 2) _ rfl (q1) #[.int .i64 x.k, .int .u64 x.cl.a, .int .u64 x.cl.b, .int .u64 x.cl.c, .int .u64 x.cl.d, .slice ko kn kc, .int .i64 x.mn, .int .i64 x.mx] rfl rfl 27 #[.int .i64 0, .int .u64 0, .int .u64 0, .int .u64 0, .int .u64 0, .slice none 0 0, .int .i64 0, .int .i64 0] ZZ.out rsize rfl (by simp [Value.oneCell']) ?_)
   have cc := setRow_heap _ q1 _ #[.int .i64 x.k, .int .u64 x.cl.a, .int .u64 x.cl.b, .int .u64 x.cl.c, .int .u64 x.cl.d, .slice ko kn kc, .int .i64 x.mn, .int .i64 x.mx] _ _ ZZ.out
   have rr : RdT q S dp _ (World.setRow wz q1 #[.int .i64 x.k, .int .u64 x.cl.a, .int .u64 x.cl.b, .int .u64 x.cl.c, .int .u64 x.cl.d, .slice ko kn kc, .int .i64 x.mn, .int .i64 x.mx]) := R9.out.keep KX.row (by have := HQQ.out; omega)
   have kk : KX q w (World.setRow wz q1 #[.int .i64 x.k, .int .u64 x.cl.a, .int .u64 x.cl.b, .int .u64 x.cl.c, .int .u64 x.cl.d, .slice ko kn kc, .int .i64 x.mn, .int .i64 x.mx]) := K9.out.trans' KX.row (by have := HQ1.out; omega)
   have ff : Fre w.heap.size (World.setRow wz q1 #[.int .i64 x.k, .int .u64 x.cl.a, .int .u64 x.cl.b, .int .u64 x.cl.c, .int .u64 x.cl.d, .slice ko kn kc, .int .i64 x.mn, .int .i64 x.mx]) (fun W => rxR (d + 2) W W.heap.size [.int .i64 x.k, .int .u64 x.cl.a, .int .u64 x.cl.b, .int .u64 x.cl.c, .int .u64 x.cl.d, .slice ko kn kc, .int .i64 x.mn, .int .i64 x.mx] x) := FreA.low (Fre.kx (FreA.imp F6.out (fun W h => rxR_up (d + 1) _ _ _ _ h)) KX.row H13.out) HB3.out
   obtain ⟨w9, h9⟩ : ∃ W, W = World.setRow wz q1 #[.int .i64 x.k, .int .u64 x.cl.a, .int .u64 x.cl.b, .int .u64 x.cl.c, .int .u64 x.cl.d, .slice ko kn kc, .int .i64 x.mn, .int .i64 x.mx] := ⟨_, rfl⟩
   rw [← h9] at cc rr kk ff ⊢
   clear h9
   have k0 := boxc cc 0 _ rfl
   have k1 := boxc cc 1 _ rfl
   have k2 := boxc cc 2 _ rfl
   have k3 := boxc cc 3 _ rfl
   have k4 := boxc cc 4 _ rfl
   have k5 := boxc cc 5 _ rfl
   have k6 := boxc cc 6 _ rfl
   have k7 := boxc cc 7 _ rfl
   refine bodyPost_ret (v := .agg #[.int .i64 x.k, .int .u64 x.cl.a, .int .u64 x.cl.b, .int .u64 x.cl.c, .int .u64 x.cl.d, .slice ko kn kc, .int .i64 x.mn, .int .i64 x.mx]) (by simp [results, Try.results64, go_sem, k0, k1, k2, k3, k4, k5, k6, k7]) rfl ?_
   exact ⟨[.int .i64 x.k, .int .u64 x.cl.a, .int .u64 x.cl.b, .int .u64 x.cl.c, .int .u64 x.cl.d, .slice ko kn kc, .int .i64 x.mn, .int .i64 x.mx], rfl, ff, rr, kk⟩
  ·
   have HMN : many x (oa, ob, true) = .mk 5 .zero [x] oa ob := by unfold many; simp [g1]
   rw [HMN]
   by_cases ga : oa = 1
   ·
    have gb : ¬ ob = 1 := fun e => g1 ⟨ga, e⟩
    have ga2 : (oa == 1) = true := by simp [ga]
    have HGA := Lib.hid ga
    clear HMN g1 ga
    go_enter Try.func64, Try.ntmps64
    go_wp2_with fail
    rw [← HW3.out, ← HQ1.out]
    (with_reducible refine (HOn.out _ R3.out).mono ?_)
    rintro e4 w4 ⟨c, rfl, f4, r4, k4⟩
    obtain ⟨ko, kn, kc, rfl⟩ := rx_form f4.at
    obtain ⟨q2, hq2⟩ : ∃ q2, q2 = w4.heap.size := ⟨_, rfl⟩
    obtain ⟨W5, hW5⟩ : ∃ W, W = w4.alloc (.cells #[.int .i64 x.k, .int .u64 x.cl.a, .int .u64 x.cl.b, .int .u64 x.cl.c, .int .u64 x.cl.d, .slice ko kn kc, .int .i64 x.mn, .int .i64 x.mx] 27) := ⟨_, rfl⟩
    have b5 : Below w4.heap.size w4 W5 := by rw [hW5]; exact below1
    have R5 := Lib.hid (r4.next b5)
    have K5 := Lib.hid (K3.out.trans (k4.next b5))
    have F5 := Lib.hid (FreA.next f4 b5)
    have Z5 := Lib.hid ((b5.block q1 (by have := k4.2.1; have := lt_of_block Z3.out; omega)).trans ((k4.2.2 q1 (lt_of_block Z3.out) (by have := HQQ.out; omega)).trans Z3.out))
    have X5 : Hid (W5.heap[q2]? = some (.cells #[.int .i64 x.k, .int .u64 x.cl.a, .int .u64 x.cl.b, .int .u64 x.cl.c, .int .u64 x.cl.d, .slice ko kn kc, .int .i64 x.mn, .int .i64 x.mx] 27)) := by show _ = _; rw [hW5, hq2]; exact heap_alloc_new _ _
    have HQ2 : Hid (q < q2) := by show _ < _; rw [hq2]; exact lt_of_block r4
    have HB35 : Hid (W3.heap.size ≤ W5.heap.size) := Nat.le_trans k4.2.1 b5.size
    have HW5 := Lib.hid hW5
    have HQ2E := Lib.hid hq2
    clear f4 r4 k4 b5 hW5 hq2
    go_wp2_with fail
    rw [← HW5.out, ← HQ2E.out]
    (with_reducible refine (HOf.out _ R5.out).mono ?_)
    rintro e6 w6 ⟨rfl, r6, k6⟩
    have R6 := Lib.hid r6
    have HB36 : Hid (W3.heap.size ≤ w6.heap.size) := Nat.le_trans HB35.out k6.2.1
    have K6 := Lib.hid (K5.out.trans k6)
    have F6 := Lib.hid (Fre.kx F5.out k6 HQ3.out)
    have Z6 := Lib.hid ((k6.2.2 q1 (lt_of_block Z5.out) (by have := HQQ.out; omega)).trans Z5.out)
    have X6 := (k6.2.2 q2 (lt_of_block X5.out) (by have := HQ2.out; omega)).trans X5.out
    have d0 := boxc X6 0 _ rfl
    have d1 := boxc X6 1 _ rfl
    have d2 := boxc X6 2 _ rfl
    have d3 := boxc X6 3 _ rfl
    have d4 := boxc X6 4 _ rfl
    have d5 := boxc X6 5 _ rfl
    have d6 := boxc X6 6 _ rfl
    have d7 := boxc X6 7 _ rfl
    clear r6 k6 X6
    obtain ⟨g, hg⟩ : ∃ g, g = w6.heap.size := ⟨_, rfl⟩
    obtain ⟨wz, hwz⟩ : ∃ W, W = w6.alloc (.cells #[.int .i64 x.k, .int .u64 x.cl.a, .int .u64 x.cl.b, .int .u64 x.cl.c, .int .u64 x.cl.d, .slice ko kn kc, .int .i64 x.mn, .int .i64 x.mx] 27) := ⟨_, rfl⟩
    have bz : Below w6.heap.size w6 wz := by rw [hwz]; exact below1
    have R9 := Lib.hid (R6.out.next bz)
    have K9 := Lib.hid (K6.out.next bz)
    have ZZ := Lib.hid ((bz.block _ (lt_of_block Z6.out)).trans Z6.out)
    have HS6 := HB36
    have FR : Hid (Fre W3.heap.size wz (fun V => RowsAt 8 (rxR (d + 1)) V V.heap.size (.slice (some ⟨g, 0, none⟩) 1 1) [x])) := by
     have h := rows_one (T := 27) F6.out rfl HS6.out
     rw [hg, hwz]; exact h
    have HZW := Lib.hid hwz
    have HGG := Lib.hid hg
    clear bz hwz hg
    go_wp2_with ((with_reducible show wpList _ _ _ (Oper.mk _ (Op.store 27 (.tmp 2) _) _ _ _ _ :: _) _ _); rw [← HZW.out, ← HGG.out]; refine wpList_store_row rfl 27 (.tmp 2) _ rfl (q1) #[.int .i64 5, .int .u64 0, .int .u64 0, .int .u64 0, .int .u64 0, .slice (some ⟨g, 0, none⟩) 1 1, .int .i64 oa, .int .i64 ob] rfl rfl 27 #[.int .i64 0, .int .u64 0, .int .u64 0, .int .u64 0, .int .u64 0, .slice none 0 0, .int .i64 0, .int .i64 0] ZZ.out rsize rfl (by simp [Value.oneCell']) ?_)
    have cc := setRow_heap _ q1 _ #[.int .i64 5, .int .u64 0, .int .u64 0, .int .u64 0, .int .u64 0, .slice (some ⟨g, 0, none⟩) 1 1, .int .i64 oa, .int .i64 ob] _ _ ZZ.out
    have rr : RdT q S dp _ (World.setRow wz q1 #[.int .i64 5, .int .u64 0, .int .u64 0, .int .u64 0, .int .u64 0, .slice (some ⟨g, 0, none⟩) 1 1, .int .i64 oa, .int .i64 ob]) := R9.out.keep KX.row (by have := HQQ.out; omega)
    have kk : KX q w (World.setRow wz q1 #[.int .i64 5, .int .u64 0, .int .u64 0, .int .u64 0, .int .u64 0, .slice (some ⟨g, 0, none⟩) 1 1, .int .i64 oa, .int .i64 ob]) := K9.out.trans' KX.row (by have := HQ1.out; omega)
    have ff : Fre w.heap.size (World.setRow wz q1 #[.int .i64 5, .int .u64 0, .int .u64 0, .int .u64 0, .int .u64 0, .slice (some ⟨g, 0, none⟩) 1 1, .int .i64 oa, .int .i64 ob]) (fun W => rxR (d + 2) W W.heap.size [.int .i64 5, .int .u64 0, .int .u64 0, .int .u64 0, .int .u64 0, .slice (some ⟨g, 0, none⟩) 1 1, .int .i64 oa, .int .i64 ob] (.mk 5 .zero [x] oa ob)) := FreA.low (Fre.kx (FreA.imp FR.out (fun W h => ⟨_, _, _, rfl, h⟩)) KX.row H13.out) HB3.out
    obtain ⟨w9, h9⟩ : ∃ W, W = World.setRow wz q1 #[.int .i64 5, .int .u64 0, .int .u64 0, .int .u64 0, .int .u64 0, .slice (some ⟨g, 0, none⟩) 1 1, .int .i64 oa, .int .i64 ob] := ⟨_, rfl⟩
    rw [← h9] at cc rr kk ff ⊢
    clear h9
    have k0 := boxc cc 0 _ rfl
    have k1 := boxc cc 1 _ rfl
    have k2 := boxc cc 2 _ rfl
    have k3 := boxc cc 3 _ rfl
    have k4 := boxc cc 4 _ rfl
    have k5 := boxc cc 5 _ rfl
    have k6 := boxc cc 6 _ rfl
    have k7 := boxc cc 7 _ rfl
    refine bodyPost_ret (v := .agg #[.int .i64 5, .int .u64 0, .int .u64 0, .int .u64 0, .int .u64 0, .slice (some ⟨g, 0, none⟩) 1 1, .int .i64 oa, .int .i64 ob]) (by simp [results, Try.results64, go_sem, k0, k1, k2, k3, k4, k5, k6, k7]) rfl ?_
    exact ⟨[.int .i64 5, .int .u64 0, .int .u64 0, .int .u64 0, .int .u64 0, .slice (some ⟨g, 0, none⟩) 1 1, .int .i64 oa, .int .i64 ob], rfl, ff, rr, kk⟩
   ·
    clear HMN g1
    go_enter Try.func64, Try.ntmps64
    go_wp2_with fail
    rw [← HW3.out, ← HQ1.out]
    (with_reducible refine (HOn.out _ R3.out).mono ?_)
    rintro e4 w4 ⟨c, rfl, f4, r4, k4⟩
    obtain ⟨ko, kn, kc, rfl⟩ := rx_form f4.at
    obtain ⟨q2, hq2⟩ : ∃ q2, q2 = w4.heap.size := ⟨_, rfl⟩
    obtain ⟨W5, hW5⟩ : ∃ W, W = w4.alloc (.cells #[.int .i64 x.k, .int .u64 x.cl.a, .int .u64 x.cl.b, .int .u64 x.cl.c, .int .u64 x.cl.d, .slice ko kn kc, .int .i64 x.mn, .int .i64 x.mx] 27) := ⟨_, rfl⟩
    have b5 : Below w4.heap.size w4 W5 := by rw [hW5]; exact below1
    have R5 := Lib.hid (r4.next b5)
    have K5 := Lib.hid (K3.out.trans (k4.next b5))
    have F5 := Lib.hid (FreA.next f4 b5)
    have Z5 := Lib.hid ((b5.block q1 (by have := k4.2.1; have := lt_of_block Z3.out; omega)).trans ((k4.2.2 q1 (lt_of_block Z3.out) (by have := HQQ.out; omega)).trans Z3.out))
    have X5 : Hid (W5.heap[q2]? = some (.cells #[.int .i64 x.k, .int .u64 x.cl.a, .int .u64 x.cl.b, .int .u64 x.cl.c, .int .u64 x.cl.d, .slice ko kn kc, .int .i64 x.mn, .int .i64 x.mx] 27)) := by show _ = _; rw [hW5, hq2]; exact heap_alloc_new _ _
    have HQ2 : Hid (q < q2) := by show _ < _; rw [hq2]; exact lt_of_block r4
    have HB35 : Hid (W3.heap.size ≤ W5.heap.size) := Nat.le_trans k4.2.1 b5.size
    have HW5 := Lib.hid hW5
    have HQ2E := Lib.hid hq2
    clear f4 r4 k4 b5 hW5 hq2
    go_wp2_with fail
    rw [← HW5.out, ← HQ2E.out]
    (with_reducible refine (HOf.out _ R5.out).mono ?_)
    rintro e6 w6 ⟨rfl, r6, k6⟩
    have R6 := Lib.hid r6
    have HB36 : Hid (W3.heap.size ≤ w6.heap.size) := Nat.le_trans HB35.out k6.2.1
    have K6 := Lib.hid (K5.out.trans k6)
    have F6 := Lib.hid (Fre.kx F5.out k6 HQ3.out)
    have Z6 := Lib.hid ((k6.2.2 q1 (lt_of_block Z5.out) (by have := HQQ.out; omega)).trans Z5.out)
    have X6 := (k6.2.2 q2 (lt_of_block X5.out) (by have := HQ2.out; omega)).trans X5.out
    have d0 := boxc X6 0 _ rfl
    have d1 := boxc X6 1 _ rfl
    have d2 := boxc X6 2 _ rfl
    have d3 := boxc X6 3 _ rfl
    have d4 := boxc X6 4 _ rfl
    have d5 := boxc X6 5 _ rfl
    have d6 := boxc X6 6 _ rfl
    have d7 := boxc X6 7 _ rfl
    clear r6 k6 X6
    obtain ⟨g, hg⟩ : ∃ g, g = w6.heap.size := ⟨_, rfl⟩
    obtain ⟨wz, hwz⟩ : ∃ W, W = w6.alloc (.cells #[.int .i64 x.k, .int .u64 x.cl.a, .int .u64 x.cl.b, .int .u64 x.cl.c, .int .u64 x.cl.d, .slice ko kn kc, .int .i64 x.mn, .int .i64 x.mx] 27) := ⟨_, rfl⟩
    have bz : Below w6.heap.size w6 wz := by rw [hwz]; exact below1
    have R9 := Lib.hid (R6.out.next bz)
    have K9 := Lib.hid (K6.out.next bz)
    have ZZ := Lib.hid ((bz.block _ (lt_of_block Z6.out)).trans Z6.out)
    have HS6 := HB36
    have FR : Hid (Fre W3.heap.size wz (fun V => RowsAt 8 (rxR (d + 1)) V V.heap.size (.slice (some ⟨g, 0, none⟩) 1 1) [x])) := by
     have h := rows_one (T := 27) F6.out rfl HS6.out
     rw [hg, hwz]; exact h
    have HZW := Lib.hid hwz
    have HGG := Lib.hid hg
    clear bz hwz hg
    go_wp2_with ((with_reducible show wpList _ _ _ (Oper.mk _ (Op.store 27 (.tmp 2) _) _ _ _ _ :: _) _ _); rw [← HZW.out, ← HGG.out]; refine wpList_store_row rfl 27 (.tmp 2) _ rfl (q1) #[.int .i64 5, .int .u64 0, .int .u64 0, .int .u64 0, .int .u64 0, .slice (some ⟨g, 0, none⟩) 1 1, .int .i64 oa, .int .i64 ob] rfl rfl 27 #[.int .i64 0, .int .u64 0, .int .u64 0, .int .u64 0, .int .u64 0, .slice none 0 0, .int .i64 0, .int .i64 0] ZZ.out rsize rfl (by simp [Value.oneCell']) ?_)
    have cc := setRow_heap _ q1 _ #[.int .i64 5, .int .u64 0, .int .u64 0, .int .u64 0, .int .u64 0, .slice (some ⟨g, 0, none⟩) 1 1, .int .i64 oa, .int .i64 ob] _ _ ZZ.out
    have rr : RdT q S dp _ (World.setRow wz q1 #[.int .i64 5, .int .u64 0, .int .u64 0, .int .u64 0, .int .u64 0, .slice (some ⟨g, 0, none⟩) 1 1, .int .i64 oa, .int .i64 ob]) := R9.out.keep KX.row (by have := HQQ.out; omega)
    have kk : KX q w (World.setRow wz q1 #[.int .i64 5, .int .u64 0, .int .u64 0, .int .u64 0, .int .u64 0, .slice (some ⟨g, 0, none⟩) 1 1, .int .i64 oa, .int .i64 ob]) := K9.out.trans' KX.row (by have := HQ1.out; omega)
    have ff : Fre w.heap.size (World.setRow wz q1 #[.int .i64 5, .int .u64 0, .int .u64 0, .int .u64 0, .int .u64 0, .slice (some ⟨g, 0, none⟩) 1 1, .int .i64 oa, .int .i64 ob]) (fun W => rxR (d + 2) W W.heap.size [.int .i64 5, .int .u64 0, .int .u64 0, .int .u64 0, .int .u64 0, .slice (some ⟨g, 0, none⟩) 1 1, .int .i64 oa, .int .i64 ob] (.mk 5 .zero [x] oa ob)) := FreA.low (Fre.kx (FreA.imp FR.out (fun W h => ⟨_, _, _, rfl, h⟩)) KX.row H13.out) HB3.out
    obtain ⟨w9, h9⟩ : ∃ W, W = World.setRow wz q1 #[.int .i64 5, .int .u64 0, .int .u64 0, .int .u64 0, .int .u64 0, .slice (some ⟨g, 0, none⟩) 1 1, .int .i64 oa, .int .i64 ob] := ⟨_, rfl⟩
    rw [← h9] at cc rr kk ff ⊢
    clear h9
    have k0 := boxc cc 0 _ rfl
    have k1 := boxc cc 1 _ rfl
    have k2 := boxc cc 2 _ rfl
    have k3 := boxc cc 3 _ rfl
    have k4 := boxc cc 4 _ rfl
    have k5 := boxc cc 5 _ rfl
    have k6 := boxc cc 6 _ rfl
    have k7 := boxc cc 7 _ rfl
    refine bodyPost_ret (v := .agg #[.int .i64 5, .int .u64 0, .int .u64 0, .int .u64 0, .int .u64 0, .slice (some ⟨g, 0, none⟩) 1 1, .int .i64 oa, .int .i64 ob]) (by simp [results, Try.results64, go_sem, k0, k1, k2, k3, k4, k5, k6, k7]) rfl ?_
    exact ⟨[.int .i64 5, .int .u64 0, .int .u64 0, .int .u64 0, .int .u64 0, .slice (some ⟨g, 0, none⟩) 1 1, .int .i64 oa, .int .i64 ob], rfl, ff, rr, kk⟩
end Go.Proofs.Ytmfgplbfojnkdaa
