/- texts put together: RfMem. -/
import Derived.Test.YtmfgplbfojnkdaaNf14
namespace Go.Proofs.Ytmfgplbfojnkdaa
open Go Go.RowKit Go.ChangeShapes cl rx
open rf
set_option maxHeartbeats 12800000 in
set_option maxRecDepth 100000 in
theorem rf_member (q : Nat) (S : ByteArray) (dp : Int) (t : T) (w : World) (h : RdT q S dp t w) (hS : S.size ≤ 60) (hp : t.p < S.size) : Calls Try.prog 76 #[.pointer (some ⟨q, 0, none⟩)] w (fun e w' => e = .returned (.agg #[.int .u64 (rf.member (kit.bytes S) t).1.a, .int .u64 (rf.member (kit.bytes S) t).1.b, .int .u64 (rf.member (kit.bytes S) t).1.c, .int .u64 (rf.member (kit.bytes S) t).1.d]) ∧ RKT q S dp (rf.member (kit.bytes S) t).2 w w') := by
 have hby : ∀ c ∈ kit.bytes S, c < 256 := kit.bytes_lt S
 have hlen : (kit.bytes S).length = S.size := by simp [kit.bytes]
 obtain ⟨r, hr⟩ : ∃ r, r = rf.member (kit.bytes S) t := ⟨_, rfl⟩
 rw [← hr]
 obtain ⟨x, n, o, t1, hs1⟩ : ∃ x n o t1, rf.single (kit.bytes S) t = ((x, n, o), t1) := ⟨_, _, _, _, rfl⟩
 have hn : n < 256 := by have h := (single_ok hby t).2; rw [hs1] at h; exact h
 have HS1 : Hid (∀ W, RdT q S dp t W → Calls Try.prog 81 #[.pointer (some ⟨q, 0, none⟩)] W (fun e w' => e = .returned (.tuple #[.agg #[.int .u64 x.a, .int .u64 x.b, .int .u64 x.c, .int .u64 x.d], .int .u8 (n : Int), .bool o]) ∧ RKT q S dp t1 W w')) := fun W hW => by have h := rf_single q S dp t W hW hS hp; rw [hs1] at h; exact h
 have HM : Hid (∀ (c : Nat) (t : T) (W : World), RdT q S dp t W → Calls Try.prog 61 #[.pointer (some ⟨q, 0, none⟩), .int .u8 (c : Int)] W (fun e w' => e = .returned (.bool (rf.meets (kit.bytes S) c t).1) ∧ RKT q S dp (rf.meets (kit.bytes S) c t).2 W w')) := fun c t W hW => rf_meets q S dp t c W hW hS
 have HF : Hid (∀ (t' : T) (W : World), RdT q S dp t' W → Calls Try.prog 55 #[.pointer (some ⟨q, 0, none⟩), .int .i64 (t.p : Int), .int .i64 9] W (fun e w' => e = .returned (.tuple #[]) ∧ RKT q S dp (t'.fail t.p 9) W w')) := fun t' W hW => rf_fail q S dp t' t.p 9 W hW
 obtain ⟨q1, hq1⟩ : ∃ q1, q1 = w.heap.size := ⟨_, rfl⟩
 have hqq : q < q1 := by rw [hq1]; exact lt_of_block h
 obtain ⟨W3, hW3⟩ : ∃ W, W = w.alloc (.cells #[.int .u64 0, .int .u64 0, .int .u64 0, .int .u64 0] 24) := ⟨_, rfl⟩
 have b3 : Below w.heap.size w W3 := by rw [hW3]; exact below1
 have R3 := Lib.hid (h.next b3)
 have K3 := Lib.hid (KX.of (q := q) b3)
 have Z3 : Hid (W3.heap[q1]? = some (.cells #[.int .u64 0, .int .u64 0, .int .u64 0, .int .u64 0] 24)) := by show _ = _; rw [hW3, hq1]; exact heap_alloc_new _ _
 have HW3 := Lib.hid hW3
 have HQ1 := Lib.hid hq1
 have HQQ := Lib.hid hqq
 clear hq1 hqq hW3 b3
 have c1 := boxc R3.out.box 1 _ rfl
 have c1w := boxc h.box 1 _ rfl
 rw [HW3.out] at c1
 clear h
 cases o with
 | false =>
  have HV : Hid (r = (x, t1)) := by show _ = _; rw [hr]; simp [rf.member, hs1]
  clear hr
  go_enter Try.func76, Try.ntmps76
  go_wp2_with fail
  rw [← HW3.out, ← HQ1.out]
  (with_reducible refine (HS1.out _ R3.out).mono ?_)
  rintro e4 w4 ⟨rfl, r4, k4⟩
  have R4 := Lib.hid r4
  have K4 := Lib.hid (K3.out.trans k4)
  have Z4 := Lib.hid ((k4.2.2 q1 (lt_of_block Z3.out) (by have := HQQ.out; omega)).trans Z3.out)
  clear r4 k4
  obtain ⟨q2, hq5⟩ : ∃ z, z = w4.heap.size := ⟨_, rfl⟩
  obtain ⟨w5, hw5⟩ : ∃ W, W = w4.alloc (.cells #[.int .u64 x.a, .int .u64 x.b, .int .u64 x.c, .int .u64 x.d] 24) := ⟨_, rfl⟩
  have b5 : Below w4.heap.size w4 w5 := by rw [hw5]; exact below1
  have R5 := Lib.hid (R4.out.next b5)
  have K5 := Lib.hid (K4.out.next b5)
  have X5 : Hid (w5.heap[q2]? = some (.cells #[.int .u64 x.a, .int .u64 x.b, .int .u64 x.c, .int .u64 x.d] 24)) := by show _ = _; rw [hw5, hq5]; exact heap_alloc_new _ _
  have HQX : Hid (q < q2) := by show _ < _; rw [hq5]; exact lt_of_block R4.out
  have Z5 := Lib.hid ((b5.block _ (lt_of_block Z4.out)).trans Z4.out)
  have HW5 := Lib.hid hw5
  have HQE5 := Lib.hid hq5
  clear b5 hw5 hq5
  clear c1 c1w
  go_wp2_with ((with_reducible show wpList _ _ _ (Oper.mk _ (Op.store 24 (.tmp 2) _) _ _ _ _ :: _) _ _); rw [← HW5.out, ← HQE5.out]; refine wpList_store_row rfl 24 (.tmp 2) _ rfl (q1) #[.int .u64 x.a, .int .u64 x.b, .int .u64 x.c, .int .u64 x.d] rfl rfl 24 #[.int .u64 0, .int .u64 0, .int .u64 0, .int .u64 0] Z5.out clsize rfl (by simp [Value.oneCell']) ?_)
  have cc := setRow_heap _ q1 _ #[.int .u64 x.a, .int .u64 x.b, .int .u64 x.c, .int .u64 x.d] _ _ Z5.out
  have rr : RdT q S dp _ (World.setRow w5 q1 #[.int .u64 x.a, .int .u64 x.b, .int .u64 x.c, .int .u64 x.d]) := R5.out.keep KX.row (by have := HQQ.out; omega)
  have kk : KX q w (World.setRow w5 q1 #[.int .u64 x.a, .int .u64 x.b, .int .u64 x.c, .int .u64 x.d]) := K5.out.trans' KX.row (by have := HQ1.out; omega)
  obtain ⟨w99, h99⟩ : ∃ W, W = World.setRow w5 q1 #[.int .u64 x.a, .int .u64 x.b, .int .u64 x.c, .int .u64 x.d] := ⟨_, rfl⟩
  rw [← h99] at cc rr kk ⊢
  clear h99
  have k0 := boxc cc 0 _ rfl
  have k1 := boxc cc 1 _ rfl
  have k2 := boxc cc 2 _ rfl
  have k3 := boxc cc 3 _ rfl
  refine bodyPost_ret (v := .agg #[.int .u64 x.a, .int .u64 x.b, .int .u64 x.c, .int .u64 x.d]) (by simp [results, Try.results76, go_sem, k0, k1, k2, k3]) rfl ⟨by rw [HV.out]; try rfl, by rw [HV.out]; exact rr, kk⟩
 | true =>
  obtain ⟨b2, t2, hm2⟩ : ∃ b t', rf.meets (kit.bytes S) 45 t1 = (b, t') := ⟨_, _, rfl⟩
  have HM2 : Hid (∀ W, RdT q S dp t1 W → Calls Try.prog 61 #[.pointer (some ⟨q, 0, none⟩), .int .u8 45] W (fun e w' => e = .returned (.bool b2) ∧ RKT q S dp t2 W w')) := fun W hW => by have h := HM.out 45 t1 W hW; rw [hm2] at h; exact h
  cases b2 with
  | false =>
   have HV : Hid (r = (x, t2)) := by show _ = _; rw [hr]; simp [rf.member, hs1, hm2]
   clear hr
   go_enter Try.func76, Try.ntmps76
   go_wp2_with fail
   rw [← HW3.out, ← HQ1.out]
   (with_reducible refine (HS1.out _ R3.out).mono ?_)
   rintro e4 w4 ⟨rfl, r4, k4⟩
   have R4 := Lib.hid r4
   have K4 := Lib.hid (K3.out.trans k4)
   have Z4 := Lib.hid ((k4.2.2 q1 (lt_of_block Z3.out) (by have := HQQ.out; omega)).trans Z3.out)
   clear r4 k4
   go_wp2_with fail
   obtain ⟨q2, hq5⟩ : ∃ z, z = w4.heap.size := ⟨_, rfl⟩
   obtain ⟨w5, hw5⟩ : ∃ W, W = w4.alloc (.cells #[.int .u64 x.a, .int .u64 x.b, .int .u64 x.c, .int .u64 x.d] 24) := ⟨_, rfl⟩
   have b5 : Below w4.heap.size w4 w5 := by rw [hw5]; exact below1
   have R5 := Lib.hid (R4.out.next b5)
   have K5 := Lib.hid (K4.out.next b5)
   have X5 : Hid (w5.heap[q2]? = some (.cells #[.int .u64 x.a, .int .u64 x.b, .int .u64 x.c, .int .u64 x.d] 24)) := by show _ = _; rw [hw5, hq5]; exact heap_alloc_new _ _
   have HQX : Hid (q < q2) := by show _ < _; rw [hq5]; exact lt_of_block R4.out
   have Z5 := Lib.hid ((b5.block _ (lt_of_block Z4.out)).trans Z4.out)
   have HW5 := Lib.hid hw5
   have HQE5 := Lib.hid hq5
   clear b5 hw5 hq5
   rw [← HW5.out, ← HQE5.out]
   clear c1 c1w
   (with_reducible refine (HM2.out _ R5.out).mono ?_)
   rintro e6 w6 ⟨rfl, r6, k6⟩
   have R6 := Lib.hid r6
   have K6 := Lib.hid (K5.out.trans k6)
   have Z6 := Lib.hid ((k6.2.2 q1 (lt_of_block Z5.out) (by have := HQQ.out; omega)).trans Z5.out)
   have X6 := Lib.hid ((k6.2.2 q2 (lt_of_block X5.out) (by have := HQX.out; omega)).trans X5.out)
   clear r6 k6
   have l0 := boxc X6.out 0 _ rfl
   have l1 := boxc X6.out 1 _ rfl
   have l2 := boxc X6.out 2 _ rfl
   have l3 := boxc X6.out 3 _ rfl
   go_wp2_with ((with_reducible show wpList _ _ _ (Oper.mk _ (Op.store 24 (.tmp 2) _) _ _ _ _ :: _) _ _); refine wpList_store_row rfl 24 (.tmp 2) _ rfl (q1) #[.int .u64 x.a, .int .u64 x.b, .int .u64 x.c, .int .u64 x.d] rfl rfl 24 #[.int .u64 0, .int .u64 0, .int .u64 0, .int .u64 0] Z6.out clsize rfl (by simp [Value.oneCell']) ?_)
   have cc := setRow_heap _ q1 _ #[.int .u64 x.a, .int .u64 x.b, .int .u64 x.c, .int .u64 x.d] _ _ Z6.out
   have rr : RdT q S dp _ (World.setRow w6 q1 #[.int .u64 x.a, .int .u64 x.b, .int .u64 x.c, .int .u64 x.d]) := R6.out.keep KX.row (by have := HQQ.out; omega)
   have kk : KX q w (World.setRow w6 q1 #[.int .u64 x.a, .int .u64 x.b, .int .u64 x.c, .int .u64 x.d]) := K6.out.trans' KX.row (by have := HQ1.out; omega)
   obtain ⟨w99, h99⟩ : ∃ W, W = World.setRow w6 q1 #[.int .u64 x.a, .int .u64 x.b, .int .u64 x.c, .int .u64 x.d] := ⟨_, rfl⟩
   rw [← h99] at cc rr kk ⊢
   clear h99
   have k0 := boxc cc 0 _ rfl
   have k1 := boxc cc 1 _ rfl
   have k2 := boxc cc 2 _ rfl
   have k3 := boxc cc 3 _ rfl
   refine bodyPost_ret (v := .agg #[.int .u64 x.a, .int .u64 x.b, .int .u64 x.c, .int .u64 x.d]) (by simp [results, Try.results76, go_sem, k0, k1, k2, k3]) rfl ⟨by rw [HV.out]; try rfl, by rw [HV.out]; exact rr, kk⟩
  | true =>
   have HNX := Lib.hid (fun W hW => rf_next q S dp t2 W hW hS)
   obtain ⟨z, hz⟩ : ∃ z, z = rf.nxt (kit.bytes S) t2 := ⟨_, rfl⟩
   rw [← hz] at HNX
   cases z with
   | none =>
    simp only [Option.getD_none, Option.isSome_none] at HNX
    have HV : Hid (r = (x, t2.fail t.p 9)) := by show _ = _; rw [hr]; simp [rf.member, hs1, hm2, ← hz]
    clear hr hz
    go_enter Try.func76, Try.ntmps76
    go_wp2_with fail
    rw [← HW3.out, ← HQ1.out]
    (with_reducible refine (HS1.out _ R3.out).mono ?_)
    rintro e4 w4 ⟨rfl, r4, k4⟩
    have R4 := Lib.hid r4
    have K4 := Lib.hid (K3.out.trans k4)
    have Z4 := Lib.hid ((k4.2.2 q1 (lt_of_block Z3.out) (by have := HQQ.out; omega)).trans Z3.out)
    clear r4 k4
    go_wp2_with fail
    obtain ⟨q2, hq5⟩ : ∃ z, z = w4.heap.size := ⟨_, rfl⟩
    obtain ⟨w5, hw5⟩ : ∃ W, W = w4.alloc (.cells #[.int .u64 x.a, .int .u64 x.b, .int .u64 x.c, .int .u64 x.d] 24) := ⟨_, rfl⟩
    have b5 : Below w4.heap.size w4 w5 := by rw [hw5]; exact below1
    have R5 := Lib.hid (R4.out.next b5)
    have K5 := Lib.hid (K4.out.next b5)
    have X5 : Hid (w5.heap[q2]? = some (.cells #[.int .u64 x.a, .int .u64 x.b, .int .u64 x.c, .int .u64 x.d] 24)) := by show _ = _; rw [hw5, hq5]; exact heap_alloc_new _ _
    have HQX : Hid (q < q2) := by show _ < _; rw [hq5]; exact lt_of_block R4.out
    have Z5 := Lib.hid ((b5.block _ (lt_of_block Z4.out)).trans Z4.out)
    have HW5 := Lib.hid hw5
    have HQE5 := Lib.hid hq5
    clear b5 hw5 hq5
    rw [← HW5.out, ← HQE5.out]
    clear c1 c1w
    (with_reducible refine (HM2.out _ R5.out).mono ?_)
    rintro e6 w6 ⟨rfl, r6, k6⟩
    have R6 := Lib.hid r6
    have K6 := Lib.hid (K5.out.trans k6)
    have Z6 := Lib.hid ((k6.2.2 q1 (lt_of_block Z5.out) (by have := HQQ.out; omega)).trans Z5.out)
    have X6 := Lib.hid ((k6.2.2 q2 (lt_of_block X5.out) (by have := HQX.out; omega)).trans X5.out)
    clear r6 k6
    go_wp2_with fail
    (with_reducible refine (HNX.out _ R6.out).mono ?_)
    rintro e7 w7 ⟨rfl, b7⟩
    have R7 := Lib.hid (R6.out.next b7)
    have K7 := Lib.hid (K6.out.next b7)
    have Z7 := Lib.hid ((b7.block _ (lt_of_block Z6.out)).trans Z6.out)
    have X7 := Lib.hid ((b7.block _ (lt_of_block X6.out)).trans X6.out)
    clear b7
    go_wp2_with fail
    (with_reducible refine (HF.out t2 _ R7.out).mono ?_)
    rintro e8 w8 ⟨rfl, r8, k8⟩
    have R8 := Lib.hid r8
    have K8 := Lib.hid (K7.out.trans k8)
    have Z8 := Lib.hid ((k8.2.2 q1 (lt_of_block Z7.out) (by have := HQQ.out; omega)).trans Z7.out)
    have X8 := Lib.hid ((k8.2.2 q2 (lt_of_block X7.out) (by have := HQX.out; omega)).trans X7.out)
    clear r8 k8
    have l0 := boxc X8.out 0 _ rfl
    have l1 := boxc X8.out 1 _ rfl
    have l2 := boxc X8.out 2 _ rfl
    have l3 := boxc X8.out 3 _ rfl
    go_wp2_with ((with_reducible show wpList _ _ _ (Oper.mk _ (Op.store 24 (.tmp 2) _) _ _ _ _ :: _) _ _); refine wpList_store_row rfl 24 (.tmp 2) _ rfl (q1) #[.int .u64 x.a, .int .u64 x.b, .int .u64 x.c, .int .u64 x.d] rfl rfl 24 #[.int .u64 0, .int .u64 0, .int .u64 0, .int .u64 0] Z8.out clsize rfl (by simp [Value.oneCell']) ?_)
    have cc := setRow_heap _ q1 _ #[.int .u64 x.a, .int .u64 x.b, .int .u64 x.c, .int .u64 x.d] _ _ Z8.out
    have rr : RdT q S dp _ (World.setRow w8 q1 #[.int .u64 x.a, .int .u64 x.b, .int .u64 x.c, .int .u64 x.d]) := R8.out.keep KX.row (by have := HQQ.out; omega)
    have kk : KX q w (World.setRow w8 q1 #[.int .u64 x.a, .int .u64 x.b, .int .u64 x.c, .int .u64 x.d]) := K8.out.trans' KX.row (by have := HQ1.out; omega)
    obtain ⟨w99, h99⟩ : ∃ W, W = World.setRow w8 q1 #[.int .u64 x.a, .int .u64 x.b, .int .u64 x.c, .int .u64 x.d] := ⟨_, rfl⟩
    rw [← h99] at cc rr kk ⊢
    clear h99
    have k0 := boxc cc 0 _ rfl
    have k1 := boxc cc 1 _ rfl
    have k2 := boxc cc 2 _ rfl
    have k3 := boxc cc 3 _ rfl
    refine bodyPost_ret (v := .agg #[.int .u64 x.a, .int .u64 x.b, .int .u64 x.c, .int .u64 x.d]) (by simp [results, Try.results76, go_sem, k0, k1, k2, k3]) rfl ⟨by rw [HV.out]; try rfl, by rw [HV.out]; exact rr, kk⟩
   | some c =>
    obtain ⟨_, hpl, hc⟩ := rf_nxt_lt hz.symm
    simp only [Option.getD_some, Option.isSome_some] at HNX
    by_cases h93 : c = 93
    ·
     have b93 : ((c : Int) == 93) = true := by simp [h93]
     have HV : Hid (r = (x, t2.fail t.p 9)) := by show _ = _; rw [hr]; simp [rf.member, hs1, hm2, ← hz, h93]
     clear hr hz h93
     go_enter Try.func76, Try.ntmps76
     go_wp2_with fail
     rw [← HW3.out, ← HQ1.out]
     (with_reducible refine (HS1.out _ R3.out).mono ?_)
     rintro e4 w4 ⟨rfl, r4, k4⟩
     have R4 := Lib.hid r4
     have K4 := Lib.hid (K3.out.trans k4)
     have Z4 := Lib.hid ((k4.2.2 q1 (lt_of_block Z3.out) (by have := HQQ.out; omega)).trans Z3.out)
     clear r4 k4
     go_wp2_with fail
     obtain ⟨q2, hq5⟩ : ∃ z, z = w4.heap.size := ⟨_, rfl⟩
     obtain ⟨w5, hw5⟩ : ∃ W, W = w4.alloc (.cells #[.int .u64 x.a, .int .u64 x.b, .int .u64 x.c, .int .u64 x.d] 24) := ⟨_, rfl⟩
     have b5 : Below w4.heap.size w4 w5 := by rw [hw5]; exact below1
     have R5 := Lib.hid (R4.out.next b5)
     have K5 := Lib.hid (K4.out.next b5)
     have X5 : Hid (w5.heap[q2]? = some (.cells #[.int .u64 x.a, .int .u64 x.b, .int .u64 x.c, .int .u64 x.d] 24)) := by show _ = _; rw [hw5, hq5]; exact heap_alloc_new _ _
     have HQX : Hid (q < q2) := by show _ < _; rw [hq5]; exact lt_of_block R4.out
     have Z5 := Lib.hid ((b5.block _ (lt_of_block Z4.out)).trans Z4.out)
     have HW5 := Lib.hid hw5
     have HQE5 := Lib.hid hq5
     clear b5 hw5 hq5
     rw [← HW5.out, ← HQE5.out]
     clear c1 c1w
     (with_reducible refine (HM2.out _ R5.out).mono ?_)
     rintro e6 w6 ⟨rfl, r6, k6⟩
     have R6 := Lib.hid r6
     have K6 := Lib.hid (K5.out.trans k6)
     have Z6 := Lib.hid ((k6.2.2 q1 (lt_of_block Z5.out) (by have := HQQ.out; omega)).trans Z5.out)
     have X6 := Lib.hid ((k6.2.2 q2 (lt_of_block X5.out) (by have := HQX.out; omega)).trans X5.out)
     clear r6 k6
     go_wp2_with fail
     (with_reducible refine (HNX.out _ R6.out).mono ?_)
     rintro e7 w7 ⟨rfl, b7⟩
     have R7 := Lib.hid (R6.out.next b7)
     have K7 := Lib.hid (K6.out.next b7)
     have Z7 := Lib.hid ((b7.block _ (lt_of_block Z6.out)).trans Z6.out)
     have X7 := Lib.hid ((b7.block _ (lt_of_block X6.out)).trans X6.out)
     clear b7
     go_wp2_with fail
     (with_reducible refine (HF.out t2 _ R7.out).mono ?_)
     rintro e8 w8 ⟨rfl, r8, k8⟩
     have R8 := Lib.hid r8
     have K8 := Lib.hid (K7.out.trans k8)
     have Z8 := Lib.hid ((k8.2.2 q1 (lt_of_block Z7.out) (by have := HQQ.out; omega)).trans Z7.out)
     have X8 := Lib.hid ((k8.2.2 q2 (lt_of_block X7.out) (by have := HQX.out; omega)).trans X7.out)
     clear r8 k8
     have l0 := boxc X8.out 0 _ rfl
     have l1 := boxc X8.out 1 _ rfl
     have l2 := boxc X8.out 2 _ rfl
     have l3 := boxc X8.out 3 _ rfl
     go_wp2_with ((with_reducible show wpList _ _ _ (Oper.mk _ (Op.store 24 (.tmp 2) _) _ _ _ _ :: _) _ _); refine wpList_store_row rfl 24 (.tmp 2) _ rfl (q1) #[.int .u64 x.a, .int .u64 x.b, .int .u64 x.c, .int .u64 x.d] rfl rfl 24 #[.int .u64 0, .int .u64 0, .int .u64 0, .int .u64 0] Z8.out clsize rfl (by simp [Value.oneCell']) ?_)
     have cc := setRow_heap _ q1 _ #[.int .u64 x.a, .int .u64 x.b, .int .u64 x.c, .int .u64 x.d] _ _ Z8.out
     have rr : RdT q S dp _ (World.setRow w8 q1 #[.int .u64 x.a, .int .u64 x.b, .int .u64 x.c, .int .u64 x.d]) := R8.out.keep KX.row (by have := HQQ.out; omega)
     have kk : KX q w (World.setRow w8 q1 #[.int .u64 x.a, .int .u64 x.b, .int .u64 x.c, .int .u64 x.d]) := K8.out.trans' KX.row (by have := HQ1.out; omega)
     obtain ⟨w99, h99⟩ : ∃ W, W = World.setRow w8 q1 #[.int .u64 x.a, .int .u64 x.b, .int .u64 x.c, .int .u64 x.d] := ⟨_, rfl⟩
     rw [← h99] at cc rr kk ⊢
     clear h99
     have k0 := boxc cc 0 _ rfl
     have k1 := boxc cc 1 _ rfl
     have k2 := boxc cc 2 _ rfl
     have k3 := boxc cc 3 _ rfl
     refine bodyPost_ret (v := .agg #[.int .u64 x.a, .int .u64 x.b, .int .u64 x.c, .int .u64 x.d]) (by simp [results, Try.results76, go_sem, k0, k1, k2, k3]) rfl ⟨by rw [HV.out]; try rfl, by rw [HV.out]; exact rr, kk⟩
    have b93 : ((c : Int) == 93) = false := beq_eq_false_iff_ne.2 (by omega)
    obtain ⟨y, m, o3, t3, hs3⟩ : ∃ x n o t1, rf.single (kit.bytes S) t2 = ((x, n, o), t1) := ⟨_, _, _, _, rfl⟩
    have hm : m < 256 := by have h := (single_ok hby t2).2; rw [hs3] at h; exact h
    have HS3 : Hid (∀ W, RdT q S dp t2 W → Calls Try.prog 81 #[.pointer (some ⟨q, 0, none⟩)] W (fun e w' => e = .returned (.tuple #[.agg #[.int .u64 y.a, .int .u64 y.b, .int .u64 y.c, .int .u64 y.d], .int .u8 (m : Int), .bool o3]) ∧ RKT q S dp t3 W w')) := fun W hW => by have h := rf_single q S dp t2 W hW hS hpl; rw [hs3] at h; exact h
    have HSP : Hid (∀ W, Calls Try.prog 77 #[.int .u8 (n : Int), .int .u8 (m : Int)] W (fun e w' => e = .returned (.agg #[.int .u64 (span n m).a, .int .u64 (span n m).b, .int .u64 (span n m).c, .int .u64 (span n m).d]) ∧ Below W.heap.size W w')) := fun W => rx_span n m W hn hm
    cases o3 with
    | false =>
     have HV : Hid (r = (x, t3.fail t.p 9)) := by show _ = _; rw [hr]; simp [rf.member, hs1, hm2, ← hz, h93, hs3]
     clear hr hz h93
     go_enter Try.func76, Try.ntmps76
     go_wp2_with fail
     rw [← HW3.out, ← HQ1.out]
     (with_reducible refine (HS1.out _ R3.out).mono ?_)
     rintro e4 w4 ⟨rfl, r4, k4⟩
     have R4 := Lib.hid r4
     have K4 := Lib.hid (K3.out.trans k4)
     have Z4 := Lib.hid ((k4.2.2 q1 (lt_of_block Z3.out) (by have := HQQ.out; omega)).trans Z3.out)
     clear r4 k4
     go_wp2_with fail
     obtain ⟨q2, hq5⟩ : ∃ z, z = w4.heap.size := ⟨_, rfl⟩
     obtain ⟨w5, hw5⟩ : ∃ W, W = w4.alloc (.cells #[.int .u64 x.a, .int .u64 x.b, .int .u64 x.c, .int .u64 x.d] 24) := ⟨_, rfl⟩
     have b5 : Below w4.heap.size w4 w5 := by rw [hw5]; exact below1
     have R5 := Lib.hid (R4.out.next b5)
     have K5 := Lib.hid (K4.out.next b5)
     have X5 : Hid (w5.heap[q2]? = some (.cells #[.int .u64 x.a, .int .u64 x.b, .int .u64 x.c, .int .u64 x.d] 24)) := by show _ = _; rw [hw5, hq5]; exact heap_alloc_new _ _
     have HQX : Hid (q < q2) := by show _ < _; rw [hq5]; exact lt_of_block R4.out
     have Z5 := Lib.hid ((b5.block _ (lt_of_block Z4.out)).trans Z4.out)
     have HW5 := Lib.hid hw5
     have HQE5 := Lib.hid hq5
     clear b5 hw5 hq5
     rw [← HW5.out, ← HQE5.out]
     clear c1 c1w
     (with_reducible refine (HM2.out _ R5.out).mono ?_)
     rintro e6 w6 ⟨rfl, r6, k6⟩
     have R6 := Lib.hid r6
     have K6 := Lib.hid (K5.out.trans k6)
     have Z6 := Lib.hid ((k6.2.2 q1 (lt_of_block Z5.out) (by have := HQQ.out; omega)).trans Z5.out)
     have X6 := Lib.hid ((k6.2.2 q2 (lt_of_block X5.out) (by have := HQX.out; omega)).trans X5.out)
     clear r6 k6
     go_wp2_with fail
     (with_reducible refine (HNX.out _ R6.out).mono ?_)
     rintro e7 w7 ⟨rfl, b7⟩
     have R7 := Lib.hid (R6.out.next b7)
     have K7 := Lib.hid (K6.out.next b7)
     have Z7 := Lib.hid ((b7.block _ (lt_of_block Z6.out)).trans Z6.out)
     have X7 := Lib.hid ((b7.block _ (lt_of_block X6.out)).trans X6.out)
     clear b7
     go_wp2_with fail
     (with_reducible refine (HS3.out _ R7.out).mono ?_)
     rintro e8 w8 ⟨rfl, r8, k8⟩
     have R8 := Lib.hid r8
     have K8 := Lib.hid (K7.out.trans k8)
     have Z8 := Lib.hid ((k8.2.2 q1 (lt_of_block Z7.out) (by have := HQQ.out; omega)).trans Z7.out)
     have X8 := Lib.hid ((k8.2.2 q2 (lt_of_block X7.out) (by have := HQX.out; omega)).trans X7.out)
     clear r8 k8
     go_wp2_with fail
     obtain ⟨q3, hq9⟩ : ∃ z, z = w8.heap.size := ⟨_, rfl⟩
     obtain ⟨w9, hw9⟩ : ∃ W, W = w8.alloc (.cells #[.int .u64 y.a, .int .u64 y.b, .int .u64 y.c, .int .u64 y.d] 24) := ⟨_, rfl⟩
     have b9 : Below w8.heap.size w8 w9 := by rw [hw9]; exact below1
     have R9 := Lib.hid (R8.out.next b9)
     have K9 := Lib.hid (K8.out.next b9)
     have Y9 : Hid (w9.heap[q3]? = some (.cells #[.int .u64 y.a, .int .u64 y.b, .int .u64 y.c, .int .u64 y.d] 24)) := by show _ = _; rw [hw9, hq9]; exact heap_alloc_new _ _
     have HQY : Hid (q < q3) := by show _ < _; rw [hq9]; exact lt_of_block R8.out
     have Z9 := Lib.hid ((b9.block _ (lt_of_block Z8.out)).trans Z8.out)
     have X9 := Lib.hid ((b9.block _ (lt_of_block X8.out)).trans X8.out)
     have HW9 := Lib.hid hw9
     have HQE9 := Lib.hid hq9
     clear b9 hw9 hq9
     rw [← HW9.out]
     (with_reducible refine (HF.out t3 _ R9.out).mono ?_)
     rintro e10 w10 ⟨rfl, r10, k10⟩
     have R10 := Lib.hid r10
     have K10 := Lib.hid (K9.out.trans k10)
     have Z10 := Lib.hid ((k10.2.2 q1 (lt_of_block Z9.out) (by have := HQQ.out; omega)).trans Z9.out)
     have X10 := Lib.hid ((k10.2.2 q2 (lt_of_block X9.out) (by have := HQX.out; omega)).trans X9.out)
     clear r10 k10
     have l0 := boxc X10.out 0 _ rfl
     have l1 := boxc X10.out 1 _ rfl
     have l2 := boxc X10.out 2 _ rfl
     have l3 := boxc X10.out 3 _ rfl
     go_wp2_with ((with_reducible show wpList _ _ _ (Oper.mk _ (Op.store 24 (.tmp 2) _) _ _ _ _ :: _) _ _); refine wpList_store_row rfl 24 (.tmp 2) _ rfl (q1) #[.int .u64 x.a, .int .u64 x.b, .int .u64 x.c, .int .u64 x.d] rfl rfl 24 #[.int .u64 0, .int .u64 0, .int .u64 0, .int .u64 0] Z10.out clsize rfl (by simp [Value.oneCell']) ?_)
     have cc := setRow_heap _ q1 _ #[.int .u64 x.a, .int .u64 x.b, .int .u64 x.c, .int .u64 x.d] _ _ Z10.out
     have rr : RdT q S dp _ (World.setRow w10 q1 #[.int .u64 x.a, .int .u64 x.b, .int .u64 x.c, .int .u64 x.d]) := R10.out.keep KX.row (by have := HQQ.out; omega)
     have kk : KX q w (World.setRow w10 q1 #[.int .u64 x.a, .int .u64 x.b, .int .u64 x.c, .int .u64 x.d]) := K10.out.trans' KX.row (by have := HQ1.out; omega)
     obtain ⟨w99, h99⟩ : ∃ W, W = World.setRow w10 q1 #[.int .u64 x.a, .int .u64 x.b, .int .u64 x.c, .int .u64 x.d] := ⟨_, rfl⟩
     rw [← h99] at cc rr kk ⊢
     clear h99
     have k0 := boxc cc 0 _ rfl
     have k1 := boxc cc 1 _ rfl
     have k2 := boxc cc 2 _ rfl
     have k3 := boxc cc 3 _ rfl
     refine bodyPost_ret (v := .agg #[.int .u64 x.a, .int .u64 x.b, .int .u64 x.c, .int .u64 x.d]) (by simp [results, Try.results76, go_sem, k0, k1, k2, k3]) rfl ⟨by rw [HV.out]; try rfl, by rw [HV.out]; exact rr, kk⟩
    | true =>
     by_cases hnm : m < n
     ·
      have inm : (m : Int) < (n : Int) := by omega
      have HV : Hid (r = (x, t3.fail t.p 9)) := by show _ = _; rw [hr]; simp [rf.member, hs1, hm2, ← hz, h93, hs3, hnm]
      clear hr hz h93 hnm
      go_enter Try.func76, Try.ntmps76
      go_wp2_with fail
      rw [← HW3.out, ← HQ1.out]
      (with_reducible refine (HS1.out _ R3.out).mono ?_)
      rintro e4 w4 ⟨rfl, r4, k4⟩
      have R4 := Lib.hid r4
      have K4 := Lib.hid (K3.out.trans k4)
      have Z4 := Lib.hid ((k4.2.2 q1 (lt_of_block Z3.out) (by have := HQQ.out; omega)).trans Z3.out)
      clear r4 k4
      go_wp2_with fail
      obtain ⟨q2, hq5⟩ : ∃ z, z = w4.heap.size := ⟨_, rfl⟩
      obtain ⟨w5, hw5⟩ : ∃ W, W = w4.alloc (.cells #[.int .u64 x.a, .int .u64 x.b, .int .u64 x.c, .int .u64 x.d] 24) := ⟨_, rfl⟩
      have b5 : Below w4.heap.size w4 w5 := by rw [hw5]; exact below1
      have R5 := Lib.hid (R4.out.next b5)
      have K5 := Lib.hid (K4.out.next b5)
      have X5 : Hid (w5.heap[q2]? = some (.cells #[.int .u64 x.a, .int .u64 x.b, .int .u64 x.c, .int .u64 x.d] 24)) := by show _ = _; rw [hw5, hq5]; exact heap_alloc_new _ _
      have HQX : Hid (q < q2) := by show _ < _; rw [hq5]; exact lt_of_block R4.out
      have Z5 := Lib.hid ((b5.block _ (lt_of_block Z4.out)).trans Z4.out)
      have HW5 := Lib.hid hw5
      have HQE5 := Lib.hid hq5
      clear b5 hw5 hq5
      rw [← HW5.out, ← HQE5.out]
      clear c1 c1w
      (with_reducible refine (HM2.out _ R5.out).mono ?_)
      rintro e6 w6 ⟨rfl, r6, k6⟩
      have R6 := Lib.hid r6
      have K6 := Lib.hid (K5.out.trans k6)
      have Z6 := Lib.hid ((k6.2.2 q1 (lt_of_block Z5.out) (by have := HQQ.out; omega)).trans Z5.out)
      have X6 := Lib.hid ((k6.2.2 q2 (lt_of_block X5.out) (by have := HQX.out; omega)).trans X5.out)
      clear r6 k6
      go_wp2_with fail
      (with_reducible refine (HNX.out _ R6.out).mono ?_)
      rintro e7 w7 ⟨rfl, b7⟩
      have R7 := Lib.hid (R6.out.next b7)
      have K7 := Lib.hid (K6.out.next b7)
      have Z7 := Lib.hid ((b7.block _ (lt_of_block Z6.out)).trans Z6.out)
      have X7 := Lib.hid ((b7.block _ (lt_of_block X6.out)).trans X6.out)
      clear b7
      go_wp2_with fail
      (with_reducible refine (HS3.out _ R7.out).mono ?_)
      rintro e8 w8 ⟨rfl, r8, k8⟩
      have R8 := Lib.hid r8
      have K8 := Lib.hid (K7.out.trans k8)
      have Z8 := Lib.hid ((k8.2.2 q1 (lt_of_block Z7.out) (by have := HQQ.out; omega)).trans Z7.out)
      have X8 := Lib.hid ((k8.2.2 q2 (lt_of_block X7.out) (by have := HQX.out; omega)).trans X7.out)
      clear r8 k8
      go_wp2_with fail
      obtain ⟨q3, hq9⟩ : ∃ z, z = w8.heap.size := ⟨_, rfl⟩
      obtain ⟨w9, hw9⟩ : ∃ W, W = w8.alloc (.cells #[.int .u64 y.a, .int .u64 y.b, .int .u64 y.c, .int .u64 y.d] 24) := ⟨_, rfl⟩
      have b9 : Below w8.heap.size w8 w9 := by rw [hw9]; exact below1
      have R9 := Lib.hid (R8.out.next b9)
      have K9 := Lib.hid (K8.out.next b9)
      have Y9 : Hid (w9.heap[q3]? = some (.cells #[.int .u64 y.a, .int .u64 y.b, .int .u64 y.c, .int .u64 y.d] 24)) := by show _ = _; rw [hw9, hq9]; exact heap_alloc_new _ _
      have HQY : Hid (q < q3) := by show _ < _; rw [hq9]; exact lt_of_block R8.out
      have Z9 := Lib.hid ((b9.block _ (lt_of_block Z8.out)).trans Z8.out)
      have X9 := Lib.hid ((b9.block _ (lt_of_block X8.out)).trans X8.out)
      have HW9 := Lib.hid hw9
      have HQE9 := Lib.hid hq9
      clear b9 hw9 hq9
      rw [← HW9.out]
      (with_reducible refine (HF.out t3 _ R9.out).mono ?_)
      rintro e10 w10 ⟨rfl, r10, k10⟩
      have R10 := Lib.hid r10
      have K10 := Lib.hid (K9.out.trans k10)
      have Z10 := Lib.hid ((k10.2.2 q1 (lt_of_block Z9.out) (by have := HQQ.out; omega)).trans Z9.out)
      have X10 := Lib.hid ((k10.2.2 q2 (lt_of_block X9.out) (by have := HQX.out; omega)).trans X9.out)
      clear r10 k10
      have l0 := boxc X10.out 0 _ rfl
      have l1 := boxc X10.out 1 _ rfl
      have l2 := boxc X10.out 2 _ rfl
      have l3 := boxc X10.out 3 _ rfl
      go_wp2_with ((with_reducible show wpList _ _ _ (Oper.mk _ (Op.store 24 (.tmp 2) _) _ _ _ _ :: _) _ _); refine wpList_store_row rfl 24 (.tmp 2) _ rfl (q1) #[.int .u64 x.a, .int .u64 x.b, .int .u64 x.c, .int .u64 x.d] rfl rfl 24 #[.int .u64 0, .int .u64 0, .int .u64 0, .int .u64 0] Z10.out clsize rfl (by simp [Value.oneCell']) ?_)
      have cc := setRow_heap _ q1 _ #[.int .u64 x.a, .int .u64 x.b, .int .u64 x.c, .int .u64 x.d] _ _ Z10.out
      have rr : RdT q S dp _ (World.setRow w10 q1 #[.int .u64 x.a, .int .u64 x.b, .int .u64 x.c, .int .u64 x.d]) := R10.out.keep KX.row (by have := HQQ.out; omega)
      have kk : KX q w (World.setRow w10 q1 #[.int .u64 x.a, .int .u64 x.b, .int .u64 x.c, .int .u64 x.d]) := K10.out.trans' KX.row (by have := HQ1.out; omega)
      obtain ⟨w99, h99⟩ : ∃ W, W = World.setRow w10 q1 #[.int .u64 x.a, .int .u64 x.b, .int .u64 x.c, .int .u64 x.d] := ⟨_, rfl⟩
      rw [← h99] at cc rr kk ⊢
      clear h99
      have k0 := boxc cc 0 _ rfl
      have k1 := boxc cc 1 _ rfl
      have k2 := boxc cc 2 _ rfl
      have k3 := boxc cc 3 _ rfl
      refine bodyPost_ret (v := .agg #[.int .u64 x.a, .int .u64 x.b, .int .u64 x.c, .int .u64 x.d]) (by simp [results, Try.results76, go_sem, k0, k1, k2, k3]) rfl ⟨by rw [HV.out]; try rfl, by rw [HV.out]; exact rr, kk⟩
     ·
      have inm : ¬ (m : Int) < (n : Int) := by omega
      have HV : Hid (r = (span n m, t3)) := by show _ = _; rw [hr]; simp [rf.member, hs1, hm2, ← hz, h93, hs3, hnm]
      clear hr hz h93 hnm
      go_enter Try.func76, Try.ntmps76
      go_wp2_with fail
      rw [← HW3.out, ← HQ1.out]
      (with_reducible refine (HS1.out _ R3.out).mono ?_)
      rintro e4 w4 ⟨rfl, r4, k4⟩
      have R4 := Lib.hid r4
      have K4 := Lib.hid (K3.out.trans k4)
      have Z4 := Lib.hid ((k4.2.2 q1 (lt_of_block Z3.out) (by have := HQQ.out; omega)).trans Z3.out)
      clear r4 k4
      go_wp2_with fail
      obtain ⟨q2, hq5⟩ : ∃ z, z = w4.heap.size := ⟨_, rfl⟩
      obtain ⟨w5, hw5⟩ : ∃ W, W = w4.alloc (.cells #[.int .u64 x.a, .int .u64 x.b, .int .u64 x.c, .int .u64 x.d] 24) := ⟨_, rfl⟩
      have b5 : Below w4.heap.size w4 w5 := by rw [hw5]; exact below1
      have R5 := Lib.hid (R4.out.next b5)
      have K5 := Lib.hid (K4.out.next b5)
      have X5 : Hid (w5.heap[q2]? = some (.cells #[.int .u64 x.a, .int .u64 x.b, .int .u64 x.c, .int .u64 x.d] 24)) := by show _ = _; rw [hw5, hq5]; exact heap_alloc_new _ _
      have HQX : Hid (q < q2) := by show _ < _; rw [hq5]; exact lt_of_block R4.out
      have Z5 := Lib.hid ((b5.block _ (lt_of_block Z4.out)).trans Z4.out)
      have HW5 := Lib.hid hw5
      have HQE5 := Lib.hid hq5
      clear b5 hw5 hq5
      rw [← HW5.out, ← HQE5.out]
      clear c1 c1w
      (with_reducible refine (HM2.out _ R5.out).mono ?_)
      rintro e6 w6 ⟨rfl, r6, k6⟩
      have R6 := Lib.hid r6
      have K6 := Lib.hid (K5.out.trans k6)
      have Z6 := Lib.hid ((k6.2.2 q1 (lt_of_block Z5.out) (by have := HQQ.out; omega)).trans Z5.out)
      have X6 := Lib.hid ((k6.2.2 q2 (lt_of_block X5.out) (by have := HQX.out; omega)).trans X5.out)
      clear r6 k6
      go_wp2_with fail
      (with_reducible refine (HNX.out _ R6.out).mono ?_)
      rintro e7 w7 ⟨rfl, b7⟩
      have R7 := Lib.hid (R6.out.next b7)
      have K7 := Lib.hid (K6.out.next b7)
      have Z7 := Lib.hid ((b7.block _ (lt_of_block Z6.out)).trans Z6.out)
      have X7 := Lib.hid ((b7.block _ (lt_of_block X6.out)).trans X6.out)
      clear b7
      go_wp2_with fail
      (with_reducible refine (HS3.out _ R7.out).mono ?_)
      rintro e8 w8 ⟨rfl, r8, k8⟩
      have R8 := Lib.hid r8
      have K8 := Lib.hid (K7.out.trans k8)
      have Z8 := Lib.hid ((k8.2.2 q1 (lt_of_block Z7.out) (by have := HQQ.out; omega)).trans Z7.out)
      have X8 := Lib.hid ((k8.2.2 q2 (lt_of_block X7.out) (by have := HQX.out; omega)).trans X7.out)
      clear r8 k8
      go_wp2_with fail
      obtain ⟨q3, hq9⟩ : ∃ z, z = w8.heap.size := ⟨_, rfl⟩
      obtain ⟨w9, hw9⟩ : ∃ W, W = w8.alloc (.cells #[.int .u64 y.a, .int .u64 y.b, .int .u64 y.c, .int .u64 y.d] 24) := ⟨_, rfl⟩
      have b9 : Below w8.heap.size w8 w9 := by rw [hw9]; exact below1
      have R9 := Lib.hid (R8.out.next b9)
      have K9 := Lib.hid (K8.out.next b9)
      have Y9 : Hid (w9.heap[q3]? = some (.cells #[.int .u64 y.a, .int .u64 y.b, .int .u64 y.c, .int .u64 y.d] 24)) := by show _ = _; rw [hw9, hq9]; exact heap_alloc_new _ _
      have HQY : Hid (q < q3) := by show _ < _; rw [hq9]; exact lt_of_block R8.out
      have Z9 := Lib.hid ((b9.block _ (lt_of_block Z8.out)).trans Z8.out)
      have X9 := Lib.hid ((b9.block _ (lt_of_block X8.out)).trans X8.out)
      have HW9 := Lib.hid hw9
      have HQE9 := Lib.hid hq9
      clear b9 hw9 hq9
      rw [← HW9.out]
      (with_reducible refine (HSP.out _).mono ?_)
      rintro e10 w10 ⟨rfl, b10⟩
      have R10 := Lib.hid (R9.out.next b10)
      have K10 := Lib.hid (K9.out.next b10)
      have Z10 := Lib.hid ((b10.block _ (lt_of_block Z9.out)).trans Z9.out)
      clear b10
      go_wp2_with ((with_reducible show wpList _ _ _ (Oper.mk _ (Op.store 24 (.tmp 2) _) _ _ _ _ :: _) _ _); refine wpList_store_row rfl 24 (.tmp 2) _ rfl (q1) #[.int .u64 (span n m).a, .int .u64 (span n m).b, .int .u64 (span n m).c, .int .u64 (span n m).d] rfl rfl 24 #[.int .u64 0, .int .u64 0, .int .u64 0, .int .u64 0] Z10.out clsize rfl (by simp [Value.oneCell']) ?_)
      have cc := setRow_heap _ q1 _ #[.int .u64 (span n m).a, .int .u64 (span n m).b, .int .u64 (span n m).c, .int .u64 (span n m).d] _ _ Z10.out
      have rr : RdT q S dp _ (World.setRow w10 q1 #[.int .u64 (span n m).a, .int .u64 (span n m).b, .int .u64 (span n m).c, .int .u64 (span n m).d]) := R10.out.keep KX.row (by have := HQQ.out; omega)
      have kk : KX q w (World.setRow w10 q1 #[.int .u64 (span n m).a, .int .u64 (span n m).b, .int .u64 (span n m).c, .int .u64 (span n m).d]) := K10.out.trans' KX.row (by have := HQ1.out; omega)
      obtain ⟨w99, h99⟩ : ∃ W, W = World.setRow w10 q1 #[.int .u64 (span n m).a, .int .u64 (span n m).b, .int .u64 (span n m).c, .int .u64 (span n m).d] := ⟨_, rfl⟩
      rw [← h99] at cc rr kk ⊢
      clear h99
      have k0 := boxc cc 0 _ rfl
      have k1 := boxc cc 1 _ rfl
      have k2 := boxc cc 2 _ rfl
      have k3 := boxc cc 3 _ rfl
      refine bodyPost_ret (v := .agg #[.int .u64 (span n m).a, .int .u64 (span n m).b, .int .u64 (span n m).c, .int .u64 (span n m).d]) (by simp [results, Try.results76, go_sem, k0, k1, k2, k3]) rfl ⟨by rw [HV.out]; try rfl, by rw [HV.out]; exact rr, kk⟩
end Go.Proofs.Ytmfgplbfojnkdaa
