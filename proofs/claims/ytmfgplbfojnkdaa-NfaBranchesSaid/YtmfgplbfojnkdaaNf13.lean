/- texts put together: RfEsc, RfOk. -/
import Derived.Test.YtmfgplbfojnkdaaNf10
import Derived.Test.YtmfgplbfojnkdaaNf12
namespace Go.Proofs.Ytmfgplbfojnkdaa
open Go Go.RowKit Go.ChangeShapes cl rx
open rf
theorem RKT.step {q : Nat} {S : ByteArray} {dp : Int} {t : T} {W : World} (h : RdT q S dp t W) : RKT q S dp t.fwd W (W.setCell ⟨q, 1, none⟩ (.int .i64 ((t.p : Int) + 1))) := ⟨heap_setCell_same W q 1 _ _ _ h.box, KX.cell⟩
theorem dig_le {c : Nat} : -1 ≤ dig c ∧ dig c ≤ 15 := by
 unfold dig
 split
 ·
  omega
 ·
  split <;> omega
theorem span_ok' (a b : Nat) (hb : b < 256) (hab : a ≤ b) : (span a b).ok := span_ok _ _ _ (by omega) (by unfold Cls.ok; decide)
set_option maxHeartbeats 12800000 in
set_option maxRecDepth 100000 in
theorem rf_escape (q : Nat) (S : ByteArray) (dp : Int) (t : T) (a : Nat) (w : World) (h : RdT q S dp t w) (hS : S.size ≤ 60) : Calls Try.prog 70 #[.pointer (some ⟨q, 0, none⟩), .int .i64 a] w (fun e w' => e = .returned (.tuple #[.agg #[.int .u64 (rf.escape (kit.bytes S) a t).1.1.a, .int .u64 (rf.escape (kit.bytes S) a t).1.1.b, .int .u64 (rf.escape (kit.bytes S) a t).1.1.c, .int .u64 (rf.escape (kit.bytes S) a t).1.1.d], .int .u8 ((rf.escape (kit.bytes S) a t).1.2.1 : Nat), .bool (rf.escape (kit.bytes S) a t).1.2.2]) ∧ RKT q S dp (rf.escape (kit.bytes S) a t).2 w w') := by
 have hlen : (kit.bytes S).length = S.size := by simp [kit.bytes]
 have HNX := Lib.hid (fun W hW => rf_next q S dp t W hW hS)
 have HF : Hid (∀ (t : T) (z co : Int) (W : World), RdT q S dp t W → Calls Try.prog 55 #[.pointer (some ⟨q, 0, none⟩), .int .i64 z, .int .i64 co] W (fun e w' => e = .returned (.tuple #[]) ∧ RKT q S dp (t.fail z co) W w')) := fun t z co W hW => rf_fail q S dp t z co W hW
 obtain ⟨r, hr⟩ : ∃ r, r = rf.escape (kit.bytes S) a t := ⟨_, rfl⟩
 rw [← hr]
 obtain ⟨q1, hq1⟩ : ∃ q1, q1 = w.heap.size := ⟨_, rfl⟩
 have hqq : q < q1 := by rw [hq1]; exact lt_of_block h
 obtain ⟨W3, hW3⟩ : ∃ W, W = w.alloc (.cells #[.int .u64 0, .int .u64 0, .int .u64 0, .int .u64 0] 24) := ⟨_, rfl⟩
 have b3 : Below w.heap.size w W3 := by rw [hW3]; exact below1
 have R3 := Lib.hid (h.next b3)
 have K3 := Lib.hid (KX.of (q := q) b3)
 have Z3 : Hid (W3.heap[q1]? = some (.cells #[.int .u64 0, .int .u64 0, .int .u64 0, .int .u64 0] 24)) := by show _ = _; rw [hW3, hq1]; exact heap_alloc_new _ _
 have HW3 := Lib.hid hW3
 have HQ1 := Lib.hid hq1
 have HQQ := Lib.hid hqq
 clear hq1 hqq hW3 b3
 clear h
 obtain ⟨o, ho⟩ : ∃ o, o = rf.nxt (kit.bytes S) t := ⟨_, rfl⟩
 rw [← ho] at HNX
 cases o with
 | none =>
  simp only [Option.getD_none, Option.isSome_none] at HNX
  have HV : Hid (r = ((Cls.zero, 0, false), t.fail a 9)) := by show _ = _; rw [hr]; unfold rf.escape; rw [← ho]
  clear hr ho hlen
  go_enter Try.func70, Try.ntmps70
  go_wp2_with fail
  rw [← HW3.out, ← HQ1.out]
  (with_reducible refine (HNX.out W3 R3.out).mono ?_)
  rintro e4 w4 ⟨rfl, b4⟩
  have R4 := Lib.hid (R3.out.next b4)
  have K4 := Lib.hid (K3.out.next b4)
  have Z4 := Lib.hid ((b4.block _ (lt_of_block Z3.out)).trans Z3.out)
  clear b4
  go_wp2_with fail
  (with_reducible refine (HF.out t a 9 _ R4.out).mono ?_)
  rintro e8 w8 ⟨rfl, r8, k8⟩
  have R8 := Lib.hid r8
  have K8 := Lib.hid (K4.out.trans k8)
  have Z8 := Lib.hid ((k8.2.2 q1 (lt_of_block Z4.out) (by have := HQQ.out; omega)).trans Z4.out)
  clear r8 k8
  go_wp2_with ((with_reducible show wpList _ _ _ (Oper.mk _ (Op.store 24 (.tmp 4) _) _ _ _ _ :: _) _ _); refine wpList_store_row rfl 24 (.tmp 4) _ rfl (q1) #[.int .u64 0, .int .u64 0, .int .u64 0, .int .u64 0] rfl rfl 24 #[.int .u64 0, .int .u64 0, .int .u64 0, .int .u64 0] Z8.out clsize rfl (by simp [Value.oneCell']) ?_)
  have cc := setRow_heap _ q1 _ #[.int .u64 0, .int .u64 0, .int .u64 0, .int .u64 0] _ _ Z8.out
  have rr : RdT q S dp _ (World.setRow w8 q1 #[.int .u64 0, .int .u64 0, .int .u64 0, .int .u64 0]) := R8.out.keep KX.row (by have := HQQ.out; omega)
  have kk : KX q w (World.setRow w8 q1 #[.int .u64 0, .int .u64 0, .int .u64 0, .int .u64 0]) := K8.out.trans' KX.row (by have := HQ1.out; omega)
  obtain ⟨w99, h99⟩ : ∃ W, W = World.setRow w8 q1 #[.int .u64 0, .int .u64 0, .int .u64 0, .int .u64 0] := ⟨_, rfl⟩
  rw [← h99] at cc rr kk ⊢
  clear h99
  have k0 := boxc cc 0 _ rfl
  have k1 := boxc cc 1 _ rfl
  have k2 := boxc cc 2 _ rfl
  have k3 := boxc cc 3 _ rfl
  refine bodyPost_ret (v := .tuple #[.agg #[.int .u64 0, .int .u64 0, .int .u64 0, .int .u64 0], .int .u8 0, .bool false]) (by simp [results, Try.results70, go_sem, k0, k1, k2, k3]) rfl ⟨by rw [HV.out]; try rfl, by rw [HV.out]; exact rr, kk⟩
 | some c =>
  obtain ⟨hco, hpl, hc⟩ := rf_nxt_lt ho.symm
  simp only [Option.getD_some, Option.isSome_some] at HNX
  obtain ⟨sp, hsp⟩ : ∃ b, b = spc c := ⟨_, rfl⟩
  have HSP : Hid (∀ W, Calls Try.prog 72 #[.int .u8 c] W (fun e w' => e = .returned (.bool sp) ∧ w' = W)) := fun W => by rw [hsp]; exact rf_special c W hc
  cases sp with
  | true =>
   have HSG : Hid (∀ W, Calls Try.prog 73 #[.int .u8 c] W (fun e w' => e = .returned (.agg #[.int .u64 (Cls.one c).a, .int .u64 (Cls.one c).b, .int .u64 (Cls.one c).c, .int .u64 (Cls.one c).d]) ∧ Below W.heap.size W w')) := fun W => rx_single c W hc
   have HV : Hid (r = ((Cls.one c, c, true), t.fwd)) := by show _ = _; rw [hr]; unfold rf.escape; rw [← ho]; simp only; rw [if_pos hsp.symm]
   clear hr ho hlen hsp hco
   go_enter Try.func70, Try.ntmps70
   go_wp2_with fail
   rw [← HW3.out, ← HQ1.out]
   (with_reducible refine (HNX.out W3 R3.out).mono ?_)
   rintro e4 w4 ⟨rfl, b4⟩
   have R4 := Lib.hid (R3.out.next b4)
   have K4 := Lib.hid (K3.out.next b4)
   have Z4 := Lib.hid ((b4.block _ (lt_of_block Z3.out)).trans Z3.out)
   clear b4
   have c1 := boxc R4.out.box 1 _ rfl
   have f1 := boxf R4.out.box 1
   go_wp2_with fail
   have hx5 : RKT q S dp t.fwd w4 (w4.setCell ⟨q, 1, none⟩ (.int .i64 ((t.p : Int) + 1))) := RKT.step R4.out
   have hz5 : (w4.setCell ⟨q, 1, none⟩ (.int .i64 ((t.p : Int) + 1))).heap[q1]? = _ := (hx5.2.2.2 q1 (lt_of_block Z4.out) (by have := HQQ.out; omega)).trans Z4.out
   obtain ⟨w5, hw5⟩ : ∃ W, W = w4.setCell ⟨q, 1, none⟩ (.int .i64 ((t.p : Int) + 1)) := ⟨_, rfl⟩
   rw [← hw5] at hx5 hz5 ⊢
   have R5 := Lib.hid hx5.1
   have K5 := Lib.hid (K4.out.trans hx5.2)
   have Z5 := Lib.hid hz5
   clear hx5 hz5 hw5
   clear c1 f1
   (with_reducible refine (HSP.out _).mono ?_)
   rintro e6 w6 ⟨rfl, h6⟩
   obtain rfl := h6.symm
   go_wp2_with fail
   (with_reducible refine (HSG.out _).mono ?_)
   rintro e8 w8 ⟨rfl, b8⟩
   have R8 := Lib.hid (R5.out.next b8)
   have K8 := Lib.hid (K5.out.next b8)
   have Z8 := Lib.hid ((b8.block _ (lt_of_block Z5.out)).trans Z5.out)
   clear b8
   go_wp2_with ((with_reducible show wpList _ _ _ (Oper.mk _ (Op.store 24 (.tmp 4) _) _ _ _ _ :: _) _ _); refine wpList_store_row rfl 24 (.tmp 4) _ rfl (q1) #[.int .u64 (Cls.one c).a, .int .u64 (Cls.one c).b, .int .u64 (Cls.one c).c, .int .u64 (Cls.one c).d] rfl rfl 24 #[.int .u64 0, .int .u64 0, .int .u64 0, .int .u64 0] Z8.out clsize rfl (by simp [Value.oneCell']) ?_)
   have cc := setRow_heap _ q1 _ #[.int .u64 (Cls.one c).a, .int .u64 (Cls.one c).b, .int .u64 (Cls.one c).c, .int .u64 (Cls.one c).d] _ _ Z8.out
   have rr : RdT q S dp _ (World.setRow w8 q1 #[.int .u64 (Cls.one c).a, .int .u64 (Cls.one c).b, .int .u64 (Cls.one c).c, .int .u64 (Cls.one c).d]) := R8.out.keep KX.row (by have := HQQ.out; omega)
   have kk : KX q w (World.setRow w8 q1 #[.int .u64 (Cls.one c).a, .int .u64 (Cls.one c).b, .int .u64 (Cls.one c).c, .int .u64 (Cls.one c).d]) := K8.out.trans' KX.row (by have := HQ1.out; omega)
   obtain ⟨w99, h99⟩ : ∃ W, W = World.setRow w8 q1 #[.int .u64 (Cls.one c).a, .int .u64 (Cls.one c).b, .int .u64 (Cls.one c).c, .int .u64 (Cls.one c).d] := ⟨_, rfl⟩
   rw [← h99] at cc rr kk ⊢
   clear h99
   have k0 := boxc cc 0 _ rfl
   have k1 := boxc cc 1 _ rfl
   have k2 := boxc cc 2 _ rfl
   have k3 := boxc cc 3 _ rfl
   refine bodyPost_ret (v := .tuple #[.agg #[.int .u64 (Cls.one c).a, .int .u64 (Cls.one c).b, .int .u64 (Cls.one c).c, .int .u64 (Cls.one c).d], .int .u8 c, .bool true]) (by simp [results, Try.results70, go_sem, k0, k1, k2, k3]) rfl ⟨by rw [HV.out]; try rfl, by rw [HV.out]; exact rr, kk⟩
  | false =>
   have hspn : ¬ spc c = true := by rw [← hsp]; decide
   have HSPN := Lib.hid hspn
   clear hspn hsp
   by_cases h100 : c = 100
   ·
    have HS1 : Hid (∀ W, Calls Try.prog 77 #[.int .u8 48, .int .u8 57] W (fun e w' => e = .returned (.agg #[.int .u64 (span 48 57).a, .int .u64 (span 48 57).b, .int .u64 (span 48 57).c, .int .u64 (span 48 57).d]) ∧ Below W.heap.size W w')) := fun W => rx_span 48 57 W (by decide) (by decide)
    have hb1 : ((c : Int) == 100) = true := by simp [h100]
    have HV : Hid (r = ((span 48 57, 0, false), t.fwd)) := by show _ = _; rw [hr]; unfold rf.escape; rw [← ho]; simp only; rw [if_neg HSPN.out, if_pos h100]
    clear hr ho hlen hco h100
    go_enter Try.func70, Try.ntmps70
    go_wp2_with fail
    rw [← HW3.out, ← HQ1.out]
    (with_reducible refine (HNX.out W3 R3.out).mono ?_)
    rintro e4 w4 ⟨rfl, b4⟩
    have R4 := Lib.hid (R3.out.next b4)
    have K4 := Lib.hid (K3.out.next b4)
    have Z4 := Lib.hid ((b4.block _ (lt_of_block Z3.out)).trans Z3.out)
    clear b4
    have c1 := boxc R4.out.box 1 _ rfl
    have f1 := boxf R4.out.box 1
    go_wp2_with fail
    have hx5 : RKT q S dp t.fwd w4 (w4.setCell ⟨q, 1, none⟩ (.int .i64 ((t.p : Int) + 1))) := RKT.step R4.out
    have hz5 : (w4.setCell ⟨q, 1, none⟩ (.int .i64 ((t.p : Int) + 1))).heap[q1]? = _ := (hx5.2.2.2 q1 (lt_of_block Z4.out) (by have := HQQ.out; omega)).trans Z4.out
    obtain ⟨w5, hw5⟩ : ∃ W, W = w4.setCell ⟨q, 1, none⟩ (.int .i64 ((t.p : Int) + 1)) := ⟨_, rfl⟩
    rw [← hw5] at hx5 hz5 ⊢
    have R5 := Lib.hid hx5.1
    have K5 := Lib.hid (K4.out.trans hx5.2)
    have Z5 := Lib.hid hz5
    clear hx5 hz5 hw5
    clear c1 f1
    (with_reducible refine (HSP.out _).mono ?_)
    rintro e6 w6 ⟨rfl, h6⟩
    obtain rfl := h6.symm
    go_wp2_with fail
    (with_reducible refine (HS1.out _).mono ?_)
    rintro e8 w8 ⟨rfl, b8⟩
    have R8 := Lib.hid (R5.out.next b8)
    have K8 := Lib.hid (K5.out.next b8)
    have Z8 := Lib.hid ((b8.block _ (lt_of_block Z5.out)).trans Z5.out)
    clear b8
    go_wp2_with ((with_reducible show wpList _ _ _ (Oper.mk _ (Op.store 24 (.tmp 4) _) _ _ _ _ :: _) _ _); refine wpList_store_row rfl 24 (.tmp 4) _ rfl (q1) #[.int .u64 (span 48 57).a, .int .u64 (span 48 57).b, .int .u64 (span 48 57).c, .int .u64 (span 48 57).d] rfl rfl 24 #[.int .u64 0, .int .u64 0, .int .u64 0, .int .u64 0] Z8.out clsize rfl (by simp [Value.oneCell']) ?_)
    have cc := setRow_heap _ q1 _ #[.int .u64 (span 48 57).a, .int .u64 (span 48 57).b, .int .u64 (span 48 57).c, .int .u64 (span 48 57).d] _ _ Z8.out
    have rr : RdT q S dp _ (World.setRow w8 q1 #[.int .u64 (span 48 57).a, .int .u64 (span 48 57).b, .int .u64 (span 48 57).c, .int .u64 (span 48 57).d]) := R8.out.keep KX.row (by have := HQQ.out; omega)
    have kk : KX q w (World.setRow w8 q1 #[.int .u64 (span 48 57).a, .int .u64 (span 48 57).b, .int .u64 (span 48 57).c, .int .u64 (span 48 57).d]) := K8.out.trans' KX.row (by have := HQ1.out; omega)
    obtain ⟨w99, h99⟩ : ∃ W, W = World.setRow w8 q1 #[.int .u64 (span 48 57).a, .int .u64 (span 48 57).b, .int .u64 (span 48 57).c, .int .u64 (span 48 57).d] := ⟨_, rfl⟩
    rw [← h99] at cc rr kk ⊢
    clear h99
    have k0 := boxc cc 0 _ rfl
    have k1 := boxc cc 1 _ rfl
    have k2 := boxc cc 2 _ rfl
    have k3 := boxc cc 3 _ rfl
    refine bodyPost_ret (v := .tuple #[.agg #[.int .u64 (span 48 57).a, .int .u64 (span 48 57).b, .int .u64 (span 48 57).c, .int .u64 (span 48 57).d], .int .u8 0, .bool false]) (by simp [results, Try.results70, go_sem, k0, k1, k2, k3]) rfl ⟨by rw [HV.out]; try rfl, by rw [HV.out]; exact rr, kk⟩
   have hb1 : ((c : Int) == 100) = false := beq_eq_false_iff_ne.2 (by omega)
   by_cases h119 : c = 119
   ·
    have HS1 : Hid (∀ W, Calls Try.prog 77 #[.int .u8 97, .int .u8 122] W (fun e w' => e = .returned (.agg #[.int .u64 (span 97 122).a, .int .u64 (span 97 122).b, .int .u64 (span 97 122).c, .int .u64 (span 97 122).d]) ∧ Below W.heap.size W w')) := fun W => rx_span 97 122 W (by decide) (by decide)
    have HS2 : Hid (∀ W, Calls Try.prog 77 #[.int .u8 65, .int .u8 90] W (fun e w' => e = .returned (.agg #[.int .u64 (span 65 90).a, .int .u64 (span 65 90).b, .int .u64 (span 65 90).c, .int .u64 (span 65 90).d]) ∧ Below W.heap.size W w')) := fun W => rx_span 65 90 W (by decide) (by decide)
    have HS3 : Hid (∀ W, Calls Try.prog 77 #[.int .u8 48, .int .u8 57] W (fun e w' => e = .returned (.agg #[.int .u64 (span 48 57).a, .int .u64 (span 48 57).b, .int .u64 (span 48 57).c, .int .u64 (span 48 57).d]) ∧ Below W.heap.size W w')) := fun W => rx_span 48 57 W (by decide) (by decide)
    have HS4 : Hid (∀ W, Calls Try.prog 73 #[.int .u8 95] W (fun e w' => e = .returned (.agg #[.int .u64 (Cls.one 95).a, .int .u64 (Cls.one 95).b, .int .u64 (Cls.one 95).c, .int .u64 (Cls.one 95).d]) ∧ Below W.heap.size W w')) := fun W => rx_single 95 W (by decide)
    have HU1 : Hid (∀ W, Calls Try.prog 75 #[.agg #[.int .u64 (span 97 122).a, .int .u64 (span 97 122).b, .int .u64 (span 97 122).c, .int .u64 (span 97 122).d], .agg #[.int .u64 (span 65 90).a, .int .u64 (span 65 90).b, .int .u64 (span 65 90).c, .int .u64 (span 65 90).d]] W (fun e w' => e = .returned (.agg #[.int .u64 ((span 97 122).or (span 65 90)).a, .int .u64 ((span 97 122).or (span 65 90)).b, .int .u64 ((span 97 122).or (span 65 90)).c, .int .u64 ((span 97 122).or (span 65 90)).d]) ∧ Below W.heap.size W w')) := fun W => rx_union _ _ W (span_ok' _ _ (by decide) (by decide)) (span_ok' _ _ (by decide) (by decide))
    have HU2 : Hid (∀ W, Calls Try.prog 75 #[.agg #[.int .u64 (span 48 57).a, .int .u64 (span 48 57).b, .int .u64 (span 48 57).c, .int .u64 (span 48 57).d], .agg #[.int .u64 (Cls.one 95).a, .int .u64 (Cls.one 95).b, .int .u64 (Cls.one 95).c, .int .u64 (Cls.one 95).d]] W (fun e w' => e = .returned (.agg #[.int .u64 ((span 48 57).or (Cls.one 95)).a, .int .u64 ((span 48 57).or (Cls.one 95)).b, .int .u64 ((span 48 57).or (Cls.one 95)).c, .int .u64 ((span 48 57).or (Cls.one 95)).d]) ∧ Below W.heap.size W w')) := fun W => rx_union _ _ W (span_ok' _ _ (by decide) (by decide)) (one_ok _ (by decide))
    have HU3 : Hid (∀ W, Calls Try.prog 75 #[.agg #[.int .u64 ((span 97 122).or (span 65 90)).a, .int .u64 ((span 97 122).or (span 65 90)).b, .int .u64 ((span 97 122).or (span 65 90)).c, .int .u64 ((span 97 122).or (span 65 90)).d], .agg #[.int .u64 ((span 48 57).or (Cls.one 95)).a, .int .u64 ((span 48 57).or (Cls.one 95)).b, .int .u64 ((span 48 57).or (Cls.one 95)).c, .int .u64 ((span 48 57).or (Cls.one 95)).d]] W (fun e w' => e = .returned (.agg #[.int .u64 (((span 97 122).or (span 65 90)).or ((span 48 57).or (Cls.one 95))).a, .int .u64 (((span 97 122).or (span 65 90)).or ((span 48 57).or (Cls.one 95))).b, .int .u64 (((span 97 122).or (span 65 90)).or ((span 48 57).or (Cls.one 95))).c, .int .u64 (((span 97 122).or (span 65 90)).or ((span 48 57).or (Cls.one 95))).d]) ∧ Below W.heap.size W w')) := fun W => rx_union _ _ W (or_ok (span_ok' _ _ (by decide) (by decide)) (span_ok' _ _ (by decide) (by decide))) (or_ok (span_ok' _ _ (by decide) (by decide)) (one_ok _ (by decide)))
    have hb2 : ((c : Int) == 119) = true := by simp [h119]
    have HV : Hid (r = (((((span 97 122).or (span 65 90)).or ((span 48 57).or (Cls.one 95))), 0, false), t.fwd)) := by show _ = _; rw [hr]; unfold rf.escape; rw [← ho]; simp only; rw [if_neg HSPN.out, if_neg h100, if_pos h119]; exact rfl
    clear hr ho hlen hco h100 h119
    go_enter Try.func70, Try.ntmps70
    go_wp2_with fail
    rw [← HW3.out, ← HQ1.out]
    (with_reducible refine (HNX.out W3 R3.out).mono ?_)
    rintro e4 w4 ⟨rfl, b4⟩
    have R4 := Lib.hid (R3.out.next b4)
    have K4 := Lib.hid (K3.out.next b4)
    have Z4 := Lib.hid ((b4.block _ (lt_of_block Z3.out)).trans Z3.out)
    clear b4
    have c1 := boxc R4.out.box 1 _ rfl
    have f1 := boxf R4.out.box 1
    go_wp2_with fail
    have hx5 : RKT q S dp t.fwd w4 (w4.setCell ⟨q, 1, none⟩ (.int .i64 ((t.p : Int) + 1))) := RKT.step R4.out
    have hz5 : (w4.setCell ⟨q, 1, none⟩ (.int .i64 ((t.p : Int) + 1))).heap[q1]? = _ := (hx5.2.2.2 q1 (lt_of_block Z4.out) (by have := HQQ.out; omega)).trans Z4.out
    obtain ⟨w5, hw5⟩ : ∃ W, W = w4.setCell ⟨q, 1, none⟩ (.int .i64 ((t.p : Int) + 1)) := ⟨_, rfl⟩
    rw [← hw5] at hx5 hz5 ⊢
    have R5 := Lib.hid hx5.1
    have K5 := Lib.hid (K4.out.trans hx5.2)
    have Z5 := Lib.hid hz5
    clear hx5 hz5 hw5
    clear c1 f1
    (with_reducible refine (HSP.out _).mono ?_)
    rintro e6 w6 ⟨rfl, h6⟩
    obtain rfl := h6.symm
    go_wp2_with fail
    (with_reducible refine (HS1.out _).mono ?_)
    rintro e8 w8 ⟨rfl, b8⟩
    have R8 := Lib.hid (R5.out.next b8)
    have K8 := Lib.hid (K5.out.next b8)
    have Z8 := Lib.hid ((b8.block _ (lt_of_block Z5.out)).trans Z5.out)
    clear b8
    go_wp2_with fail
    (with_reducible refine (HS2.out _).mono ?_)
    rintro e9 w9 ⟨rfl, b9⟩
    have R9 := Lib.hid (R8.out.next b9)
    have K9 := Lib.hid (K8.out.next b9)
    have Z9 := Lib.hid ((b9.block _ (lt_of_block Z8.out)).trans Z8.out)
    clear b9
    go_wp2_with fail
    (with_reducible refine (HU1.out _).mono ?_)
    rintro e10 w10 ⟨rfl, b10⟩
    have R10 := Lib.hid (R9.out.next b10)
    have K10 := Lib.hid (K9.out.next b10)
    have Z10 := Lib.hid ((b10.block _ (lt_of_block Z9.out)).trans Z9.out)
    clear b10
    go_wp2_with fail
    (with_reducible refine (HS3.out _).mono ?_)
    rintro e11 w11 ⟨rfl, b11⟩
    have R11 := Lib.hid (R10.out.next b11)
    have K11 := Lib.hid (K10.out.next b11)
    have Z11 := Lib.hid ((b11.block _ (lt_of_block Z10.out)).trans Z10.out)
    clear b11
    go_wp2_with fail
    (with_reducible refine (HS4.out _).mono ?_)
    rintro e12 w12 ⟨rfl, b12⟩
    have R12 := Lib.hid (R11.out.next b12)
    have K12 := Lib.hid (K11.out.next b12)
    have Z12 := Lib.hid ((b12.block _ (lt_of_block Z11.out)).trans Z11.out)
    clear b12
    go_wp2_with fail
    (with_reducible refine (HU2.out _).mono ?_)
    rintro e13 w13 ⟨rfl, b13⟩
    have R13 := Lib.hid (R12.out.next b13)
    have K13 := Lib.hid (K12.out.next b13)
    have Z13 := Lib.hid ((b13.block _ (lt_of_block Z12.out)).trans Z12.out)
    clear b13
    go_wp2_with fail
    (with_reducible refine (HU3.out _).mono ?_)
    rintro e14 w14 ⟨rfl, b14⟩
    have R14 := Lib.hid (R13.out.next b14)
    have K14 := Lib.hid (K13.out.next b14)
    have Z14 := Lib.hid ((b14.block _ (lt_of_block Z13.out)).trans Z13.out)
    clear b14
    go_wp2_with ((with_reducible show wpList _ _ _ (Oper.mk _ (Op.store 24 (.tmp 4) _) _ _ _ _ :: _) _ _); refine wpList_store_row rfl 24 (.tmp 4) _ rfl (q1) #[.int .u64 (((span 97 122).or (span 65 90)).or ((span 48 57).or (Cls.one 95))).a, .int .u64 (((span 97 122).or (span 65 90)).or ((span 48 57).or (Cls.one 95))).b, .int .u64 (((span 97 122).or (span 65 90)).or ((span 48 57).or (Cls.one 95))).c, .int .u64 (((span 97 122).or (span 65 90)).or ((span 48 57).or (Cls.one 95))).d] rfl rfl 24 #[.int .u64 0, .int .u64 0, .int .u64 0, .int .u64 0] Z14.out clsize rfl (by simp [Value.oneCell']) ?_)
    have cc := setRow_heap _ q1 _ #[.int .u64 (((span 97 122).or (span 65 90)).or ((span 48 57).or (Cls.one 95))).a, .int .u64 (((span 97 122).or (span 65 90)).or ((span 48 57).or (Cls.one 95))).b, .int .u64 (((span 97 122).or (span 65 90)).or ((span 48 57).or (Cls.one 95))).c, .int .u64 (((span 97 122).or (span 65 90)).or ((span 48 57).or (Cls.one 95))).d] _ _ Z14.out
    have rr : RdT q S dp _ (World.setRow w14 q1 #[.int .u64 (((span 97 122).or (span 65 90)).or ((span 48 57).or (Cls.one 95))).a, .int .u64 (((span 97 122).or (span 65 90)).or ((span 48 57).or (Cls.one 95))).b, .int .u64 (((span 97 122).or (span 65 90)).or ((span 48 57).or (Cls.one 95))).c, .int .u64 (((span 97 122).or (span 65 90)).or ((span 48 57).or (Cls.one 95))).d]) := R14.out.keep KX.row (by have := HQQ.out; omega)
    have kk : KX q w (World.setRow w14 q1 #[.int .u64 (((span 97 122).or (span 65 90)).or ((span 48 57).or (Cls.one 95))).a, .int .u64 (((span 97 122).or (span 65 90)).or ((span 48 57).or (Cls.one 95))).b, .int .u64 (((span 97 122).or (span 65 90)).or ((span 48 57).or (Cls.one 95))).c, .int .u64 (((span 97 122).or (span 65 90)).or ((span 48 57).or (Cls.one 95))).d]) := K14.out.trans' KX.row (by have := HQ1.out; omega)
    obtain ⟨w99, h99⟩ : ∃ W, W = World.setRow w14 q1 #[.int .u64 (((span 97 122).or (span 65 90)).or ((span 48 57).or (Cls.one 95))).a, .int .u64 (((span 97 122).or (span 65 90)).or ((span 48 57).or (Cls.one 95))).b, .int .u64 (((span 97 122).or (span 65 90)).or ((span 48 57).or (Cls.one 95))).c, .int .u64 (((span 97 122).or (span 65 90)).or ((span 48 57).or (Cls.one 95))).d] := ⟨_, rfl⟩
    rw [← h99] at cc rr kk ⊢
    clear h99
    have k0 := boxc cc 0 _ rfl
    have k1 := boxc cc 1 _ rfl
    have k2 := boxc cc 2 _ rfl
    have k3 := boxc cc 3 _ rfl
    refine bodyPost_ret (v := .tuple #[.agg #[.int .u64 (((span 97 122).or (span 65 90)).or ((span 48 57).or (Cls.one 95))).a, .int .u64 (((span 97 122).or (span 65 90)).or ((span 48 57).or (Cls.one 95))).b, .int .u64 (((span 97 122).or (span 65 90)).or ((span 48 57).or (Cls.one 95))).c, .int .u64 (((span 97 122).or (span 65 90)).or ((span 48 57).or (Cls.one 95))).d], .int .u8 0, .bool false]) (by simp [results, Try.results70, go_sem, k0, k1, k2, k3]) rfl ⟨by rw [HV.out]; try rfl, by rw [HV.out]; exact rr, kk⟩
   have hb2 : ((c : Int) == 119) = false := beq_eq_false_iff_ne.2 (by omega)
   have HE : Hid (r = (match hex (kit.bytes S) c t.fwd with | some v => ((Cls.one v, v, true), t.fwd.fwd.fwd) | none => ((Cls.zero, 0, false), t.fwd.fail a 9))) := by show _ = _; rw [hr]; unfold rf.escape; rw [← ho]; simp only; rw [if_neg HSPN.out, if_neg h100, if_neg h119]; generalize hex (kit.bytes S) c t.fwd = hh; cases hh <;> rfl
   clear hr ho h100 h119 hco
   obtain ⟨p, hp⟩ : ∃ p, p = t.p + 1 := ⟨_, rfl⟩
   have hfp : t.fwd.p = p := hp.symm
   by_cases h120 : c = 120
   ·
    have hb3 : ((c : Int) == 120) = true := by simp [h120]
    by_cases hlen2 : p + 2 ≤ S.size
    ·
     have hp0 : p < S.size := by omega
     obtain ⟨p1, hpe⟩ : ∃ p1, p1 = p + 1 := ⟨_, rfl⟩
     have hp1 : p1 < S.size := by omega
     obtain ⟨x, hx⟩ : ∃ x, x = (S[p]'hp0).toNat := ⟨_, rfl⟩
     obtain ⟨y, hy⟩ : ∃ y, y = (S[p1]'hp1).toNat := ⟨_, rfl⟩
     have hbx : (kit.bytes S)[p]? = some x := by rw [byte_at hp0, hx]
     have hby : (kit.bytes S)[p + 1]? = some y := by rw [← hpe, byte_at hp1, hy]
     have hx256 : x < 256 := kit.bytes_lt S x (List.mem_of_getElem? hbx)
     have hy256 : y < 256 := kit.bytes_lt S y (List.mem_of_getElem? hby)
     have HD1 : Hid (∀ W, Calls Try.prog 78 #[.int .u8 ((S[p]'hp0).toNat : Int)] W (fun e w' => e = .returned (.int .i64 (dig x)) ∧ w' = W)) := fun W => by rw [← hx]; exact rf_digit x W hx256
     have HD2 : Hid (∀ W, Calls Try.prog 78 #[.int .u8 ((S[p1]'hp1).toNat : Int)] W (fun e w' => e = .returned (.int .i64 (dig y)) ∧ w' = W)) := fun W => by rw [← hy]; exact rf_digit y W hy256
     obtain ⟨dx, hdx⟩ : ∃ d, d = dig x := ⟨_, rfl⟩
     obtain ⟨dy, hdy⟩ : ∃ d, d = dig y := ⟨_, rfl⟩
     have hxr := dig_le (c := x)
     have hyr := dig_le (c := y)
     rw [← hdx] at HD1 hxr
     rw [← hdy] at HD2 hyr
     have HHX : Hid (hex (kit.bytes S) c t.fwd = if 0 ≤ dx ∧ 0 ≤ dy then some (16 * dx + dy).toNat else none) := by
      show _ = _
      unfold hex
      rw [if_pos h120, hfp, hbx, hby, hdx, hdy]
     clear hx hy hbx hby hdx hdy h120 hx256 hy256 hlen
     have i1 : (p : Int) < (S.size : Int) := by omega
     have hpsz : p ≤ S.size := by omega
     have i2 : (p1 : Int) < (S.size : Int) := by omega
     have i3 : (p : Int) + 1 = (p1 : Int) := by omega
     have HI3 := Lib.hid hpe
     clear hpe
     have i4 : (2 : Int) ≤ (S.size : Int) - (p : Int) := by omega
     have HPP := Lib.hid hp
     go_enter Try.func70, Try.ntmps70
     go_wp2_with fail
     rw [← HW3.out, ← HQ1.out]
     (with_reducible refine (HNX.out W3 R3.out).mono ?_)
     rintro e4 w4 ⟨rfl, b4⟩
     have R4 := Lib.hid (R3.out.next b4)
     have K4 := Lib.hid (K3.out.next b4)
     have Z4 := Lib.hid ((b4.block _ (lt_of_block Z3.out)).trans Z3.out)
     clear b4
     have c1 := boxc R4.out.box 1 _ rfl
     have f1 := boxf R4.out.box 1
     go_wp2_with fail
     have hx5 : RKT q S dp t.fwd w4 (w4.setCell ⟨q, 1, none⟩ (.int .i64 ((t.p : Int) + 1))) := RKT.step R4.out
     have hz5 : (w4.setCell ⟨q, 1, none⟩ (.int .i64 ((t.p : Int) + 1))).heap[q1]? = _ := (hx5.2.2.2 q1 (lt_of_block Z4.out) (by have := HQQ.out; omega)).trans Z4.out
     obtain ⟨w5, hw5⟩ : ∃ W, W = w4.setCell ⟨q, 1, none⟩ (.int .i64 ((t.p : Int) + 1)) := ⟨_, rfl⟩
     rw [← hw5] at hx5 hz5 ⊢
     have R5 := Lib.hid hx5.1
     have K5 := Lib.hid (K4.out.trans hx5.2)
     have Z5 := Lib.hid hz5
     clear hx5 hz5 hw5
     clear c1 f1
     (with_reducible refine (HSP.out _).mono ?_)
     rintro e6 w6 ⟨rfl, h6⟩
     obtain rfl := h6.symm
     have c1 : w5.cell? ⟨q, 1, none⟩ = some (.int .i64 (p : Int)) := by rw [HPP.out]; exact boxc R5.out.box 1 _ rfl
     have c0 := boxc R5.out.box 0 _ rfl
     clear hp hfp
     go_wp2
     go_quiet (fail)
     have bd := below_drewN (Below.refl w5.heap.size w5) nq
     obtain ⟨W4, hW4⟩ : ∃ W, W = w5.drewN nq := ⟨_, rfl⟩
     rw [← hW4] at bd ⊢
     have R7 := Lib.hid (R5.out.next bd)
     have K7 := Lib.hid (K5.out.next bd)
     have Z7 := Lib.hid ((bd.block _ (lt_of_block Z5.out)).trans Z5.out)
     clear hW4 bd
     clear c0 c1
     have c1 : W4.cell? ⟨q, 1, none⟩ = some (.int .i64 (p : Int)) := by rw [HPP.out]; exact boxc R7.out.box 1 _ rfl
     have c0 := boxc R7.out.box 0 _ rfl
     go_wp2
     go_quiet ((go_at_call 78; first | exact Calls.quiet_of_same (HD1.out _) | exact Calls.quiet_of_same (HD2.out _)))
     have bd := below_drewN (Below.refl W4.heap.size W4) nq
     obtain ⟨W5, hW4⟩ : ∃ W, W = W4.drewN nq := ⟨_, rfl⟩
     rw [← hW4] at bd ⊢
     have R10 := Lib.hid (R7.out.next bd)
     have K10 := Lib.hid (K7.out.next bd)
     have Z10 := Lib.hid ((bd.block _ (lt_of_block Z7.out)).trans Z7.out)
     clear hW4 bd
     clear c0 c1 i3
     by_cases gx : 0 ≤ dx
     ·
      by_cases gy : 0 ≤ dy
      ·
       obtain ⟨nx, rfl⟩ : ∃ n : Nat, dx = (n : Int) := ⟨dx.toNat, by omega⟩
       obtain ⟨ny, rfl⟩ : ∃ n : Nat, dy = (n : Int) := ⟨dy.toNat, by omega⟩
       have hv : (16 * (nx : Int) + (ny : Int)).toNat = 16 * nx + ny := by omega
       have hv2 : (16 * (nx : Int) + (ny : Int)) = ((16 * nx + ny : Nat) : Int) := by omega
       have HV : Hid (r = ((Cls.one (16 * nx + ny), 16 * nx + ny, true), t.fwd.fwd.fwd)) := by show _ = _; rw [HE.out, HHX.out, if_pos ⟨gx, gy⟩, hv]
       obtain ⟨v, hvv⟩ : ∃ v, v = 16 * nx + ny := ⟨_, rfl⟩
       rw [← hvv] at hv2 HV
       have hv256 : v < 256 := by omega
       have HSG : Hid (∀ W, Calls Try.prog 73 #[.int .u8 (v : Int)] W (fun e w' => e = .returned (.agg #[.int .u64 (Cls.one v).a, .int .u64 (Cls.one v).b, .int .u64 (Cls.one v).c, .int .u64 (Cls.one v).d]) ∧ Below W.heap.size W w')) := fun W => rx_single v W hv256
       have c1 : W5.cell? ⟨q, 1, none⟩ = some (.int .i64 (p : Int)) := by rw [HPP.out]; exact boxc R10.out.box 1 _ rfl
       have f1 := boxf R10.out.box 1
       have X2 : RKT q S dp t.fwd.fwd.fwd W5 (W5.setCell ⟨q, 1, none⟩ (.int .i64 ((p : Int) + 2))) := by
        have h : (W5.setCell ⟨q, 1, none⟩ (.int .i64 ((p : Int) + 2))).heap[q]? = some (.cells #[.string S, .int .i64 ((p : Int) + 2), .int .i64 dp, .int .i64 t.fwd.wr, .int .i64 t.fwd.co] 90) := heap_setCell_same W5 q 1 _ _ _ R10.out.box
        refine ⟨?_, KX.cell⟩
        have e : ((t.fwd.fwd.fwd.p : Nat) : Int) = (p : Int) + 2 := by show ((t.p + 1 + 1 + 1 : Nat) : Int) = _; have := HPP.out; omega
        unfold RdT Rd T.up
        simp only
        rw [e]
        exact h
       have Z2 : (W5.setCell ⟨q, 1, none⟩ (.int .i64 ((p : Int) + 2))).heap[q1]? = _ := (X2.2.2.2 q1 (lt_of_block Z10.out) (by have := HQQ.out; omega)).trans Z10.out
       have XX := Lib.hid X2
       have ZZ2 := Lib.hid Z2
       clear hv HE HHX gx gy hvv X2 Z2
       go_wp2_with fail
       obtain ⟨w12, hw12⟩ : ∃ W, W = W5.setCell ⟨q, 1, none⟩ (.int .i64 ((p : Int) + 2)) := ⟨_, rfl⟩
       rw [← hw12] at XX ZZ2 ⊢
       have R12 := Lib.hid XX.out.1
       have K12 := Lib.hid (K10.out.trans XX.out.2)
       have Z12 := Lib.hid ZZ2.out
       clear hw12 XX ZZ2 c1 f1
       (with_reducible refine (HSG.out _).mono ?_)
       rintro e13 w13 ⟨rfl, b13⟩
       have R13 := Lib.hid (R12.out.next b13)
       have K13 := Lib.hid (K12.out.next b13)
       have Z13 := Lib.hid ((b13.block _ (lt_of_block Z12.out)).trans Z12.out)
       clear b13
       go_wp2_with ((with_reducible show wpList _ _ _ (Oper.mk _ (Op.store 24 (.tmp 4) _) _ _ _ _ :: _) _ _); refine wpList_store_row rfl 24 (.tmp 4) _ rfl (q1) #[.int .u64 (Cls.one v).a, .int .u64 (Cls.one v).b, .int .u64 (Cls.one v).c, .int .u64 (Cls.one v).d] rfl rfl 24 #[.int .u64 0, .int .u64 0, .int .u64 0, .int .u64 0] Z13.out clsize rfl (by simp [Value.oneCell']) ?_)
       have cc := setRow_heap _ q1 _ #[.int .u64 (Cls.one v).a, .int .u64 (Cls.one v).b, .int .u64 (Cls.one v).c, .int .u64 (Cls.one v).d] _ _ Z13.out
       have rr : RdT q S dp _ (World.setRow w13 q1 #[.int .u64 (Cls.one v).a, .int .u64 (Cls.one v).b, .int .u64 (Cls.one v).c, .int .u64 (Cls.one v).d]) := R13.out.keep KX.row (by have := HQQ.out; omega)
       have kk : KX q w (World.setRow w13 q1 #[.int .u64 (Cls.one v).a, .int .u64 (Cls.one v).b, .int .u64 (Cls.one v).c, .int .u64 (Cls.one v).d]) := K13.out.trans' KX.row (by have := HQ1.out; omega)
       obtain ⟨w99, h99⟩ : ∃ W, W = World.setRow w13 q1 #[.int .u64 (Cls.one v).a, .int .u64 (Cls.one v).b, .int .u64 (Cls.one v).c, .int .u64 (Cls.one v).d] := ⟨_, rfl⟩
       rw [← h99] at cc rr kk ⊢
       clear h99
       have k0 := boxc cc 0 _ rfl
       have k1 := boxc cc 1 _ rfl
       have k2 := boxc cc 2 _ rfl
       have k3 := boxc cc 3 _ rfl
       refine bodyPost_ret (v := .tuple #[.agg #[.int .u64 (Cls.one v).a, .int .u64 (Cls.one v).b, .int .u64 (Cls.one v).c, .int .u64 (Cls.one v).d], .int .u8 v, .bool true]) (by simp [results, Try.results70, go_sem, k0, k1, k2, k3]) rfl ⟨by rw [HV.out]; try rfl, by rw [HV.out]; exact rr, kk⟩
      ·
       have HV : Hid (r = ((Cls.zero, 0, false), t.fwd.fail a 9)) := by show _ = _; rw [HE.out, HHX.out, if_neg (fun h => gy h.2)]
       clear HE HHX
       go_wp2_with fail
       (with_reducible refine (HF.out t.fwd a 9 _ R10.out).mono ?_)
       rintro e11 w11 ⟨rfl, r11, k11⟩
       have R11 := Lib.hid r11
       have K11 := Lib.hid (K10.out.trans k11)
       have Z11 := Lib.hid ((k11.2.2 q1 (lt_of_block Z10.out) (by have := HQQ.out; omega)).trans Z10.out)
       clear r11 k11
       go_wp2_with ((with_reducible show wpList _ _ _ (Oper.mk _ (Op.store 24 (.tmp 4) _) _ _ _ _ :: _) _ _); refine wpList_store_row rfl 24 (.tmp 4) _ rfl (q1) #[.int .u64 0, .int .u64 0, .int .u64 0, .int .u64 0] rfl rfl 24 #[.int .u64 0, .int .u64 0, .int .u64 0, .int .u64 0] Z11.out clsize rfl (by simp [Value.oneCell']) ?_)
       have cc := setRow_heap _ q1 _ #[.int .u64 0, .int .u64 0, .int .u64 0, .int .u64 0] _ _ Z11.out
       have rr : RdT q S dp _ (World.setRow w11 q1 #[.int .u64 0, .int .u64 0, .int .u64 0, .int .u64 0]) := R11.out.keep KX.row (by have := HQQ.out; omega)
       have kk : KX q w (World.setRow w11 q1 #[.int .u64 0, .int .u64 0, .int .u64 0, .int .u64 0]) := K11.out.trans' KX.row (by have := HQ1.out; omega)
       obtain ⟨w99, h99⟩ : ∃ W, W = World.setRow w11 q1 #[.int .u64 0, .int .u64 0, .int .u64 0, .int .u64 0] := ⟨_, rfl⟩
       rw [← h99] at cc rr kk ⊢
       clear h99
       have k0 := boxc cc 0 _ rfl
       have k1 := boxc cc 1 _ rfl
       have k2 := boxc cc 2 _ rfl
       have k3 := boxc cc 3 _ rfl
       refine bodyPost_ret (v := .tuple #[.agg #[.int .u64 0, .int .u64 0, .int .u64 0, .int .u64 0], .int .u8 0, .bool false]) (by simp [results, Try.results70, go_sem, k0, k1, k2, k3]) rfl ⟨by rw [HV.out]; try rfl, by rw [HV.out]; exact rr, kk⟩
     ·
      have HV : Hid (r = ((Cls.zero, 0, false), t.fwd.fail a 9)) := by show _ = _; rw [HE.out, HHX.out, if_neg (fun h => gx h.1)]
      clear HE HHX
      go_wp2_with fail
      (with_reducible refine (HF.out t.fwd a 9 _ R10.out).mono ?_)
      rintro e11 w11 ⟨rfl, r11, k11⟩
      have R11 := Lib.hid r11
      have K11 := Lib.hid (K10.out.trans k11)
      have Z11 := Lib.hid ((k11.2.2 q1 (lt_of_block Z10.out) (by have := HQQ.out; omega)).trans Z10.out)
      clear r11 k11
      go_wp2_with ((with_reducible show wpList _ _ _ (Oper.mk _ (Op.store 24 (.tmp 4) _) _ _ _ _ :: _) _ _); refine wpList_store_row rfl 24 (.tmp 4) _ rfl (q1) #[.int .u64 0, .int .u64 0, .int .u64 0, .int .u64 0] rfl rfl 24 #[.int .u64 0, .int .u64 0, .int .u64 0, .int .u64 0] Z11.out clsize rfl (by simp [Value.oneCell']) ?_)
      have cc := setRow_heap _ q1 _ #[.int .u64 0, .int .u64 0, .int .u64 0, .int .u64 0] _ _ Z11.out
      have rr : RdT q S dp _ (World.setRow w11 q1 #[.int .u64 0, .int .u64 0, .int .u64 0, .int .u64 0]) := R11.out.keep KX.row (by have := HQQ.out; omega)
      have kk : KX q w (World.setRow w11 q1 #[.int .u64 0, .int .u64 0, .int .u64 0, .int .u64 0]) := K11.out.trans' KX.row (by have := HQ1.out; omega)
      obtain ⟨w99, h99⟩ : ∃ W, W = World.setRow w11 q1 #[.int .u64 0, .int .u64 0, .int .u64 0, .int .u64 0] := ⟨_, rfl⟩
      rw [← h99] at cc rr kk ⊢
      clear h99
      have k0 := boxc cc 0 _ rfl
      have k1 := boxc cc 1 _ rfl
      have k2 := boxc cc 2 _ rfl
      have k3 := boxc cc 3 _ rfl
      refine bodyPost_ret (v := .tuple #[.agg #[.int .u64 0, .int .u64 0, .int .u64 0, .int .u64 0], .int .u8 0, .bool false]) (by simp [results, Try.results70, go_sem, k0, k1, k2, k3]) rfl ⟨by rw [HV.out]; try rfl, by rw [HV.out]; exact rr, kk⟩
    ·
     have i4 : decide ((2 : Int) ≤ (S.size : Int) - (p : Int)) = false := decide_eq_false (by omega)
     have hpsz : p ≤ S.size := by omega
     have hpszi : (p : Int) ≤ (S.size : Int) := by omega
     have HHX : Hid (hex (kit.bytes S) c t.fwd = none) := by
      show _ = _
      unfold hex
      rw [if_pos h120, hfp, List.getElem?_eq_none (i := p + 1) (by omega)]
      split
      ·
       rename_i h1 h2; cases h2
      ·
       rfl
     have HV : Hid (r = ((Cls.zero, 0, false), t.fwd.fail a 9)) := by show _ = _; rw [HE.out, HHX.out]
     clear HHX HE h120 hlen
     have HPP := Lib.hid hp
     go_enter Try.func70, Try.ntmps70
     go_wp2_with fail
     rw [← HW3.out, ← HQ1.out]
     (with_reducible refine (HNX.out W3 R3.out).mono ?_)
     rintro e4 w4 ⟨rfl, b4⟩
     have R4 := Lib.hid (R3.out.next b4)
     have K4 := Lib.hid (K3.out.next b4)
     have Z4 := Lib.hid ((b4.block _ (lt_of_block Z3.out)).trans Z3.out)
     clear b4
     have c1 := boxc R4.out.box 1 _ rfl
     have f1 := boxf R4.out.box 1
     go_wp2_with fail
     have hx5 : RKT q S dp t.fwd w4 (w4.setCell ⟨q, 1, none⟩ (.int .i64 ((t.p : Int) + 1))) := RKT.step R4.out
     have hz5 : (w4.setCell ⟨q, 1, none⟩ (.int .i64 ((t.p : Int) + 1))).heap[q1]? = _ := (hx5.2.2.2 q1 (lt_of_block Z4.out) (by have := HQQ.out; omega)).trans Z4.out
     obtain ⟨w5, hw5⟩ : ∃ W, W = w4.setCell ⟨q, 1, none⟩ (.int .i64 ((t.p : Int) + 1)) := ⟨_, rfl⟩
     rw [← hw5] at hx5 hz5 ⊢
     have R5 := Lib.hid hx5.1
     have K5 := Lib.hid (K4.out.trans hx5.2)
     have Z5 := Lib.hid hz5
     clear hx5 hz5 hw5
     clear c1 f1
     (with_reducible refine (HSP.out _).mono ?_)
     rintro e6 w6 ⟨rfl, h6⟩
     obtain rfl := h6.symm
     have c1 : w5.cell? ⟨q, 1, none⟩ = some (.int .i64 (p : Int)) := by rw [HPP.out]; exact boxc R5.out.box 1 _ rfl
     have c0 := boxc R5.out.box 0 _ rfl
     clear hp hfp
     go_wp2
     go_quiet (fail)
     have bd := below_drewN (Below.refl w5.heap.size w5) nq
     obtain ⟨W4, hW4⟩ : ∃ W, W = w5.drewN nq := ⟨_, rfl⟩
     rw [← hW4] at bd ⊢
     have R7 := Lib.hid (R5.out.next bd)
     have K7 := Lib.hid (K5.out.next bd)
     have Z7 := Lib.hid ((bd.block _ (lt_of_block Z5.out)).trans Z5.out)
     clear hW4 bd
     clear c0 c1
     go_wp2_with fail
     (with_reducible refine (HF.out t.fwd a 9 _ R7.out).mono ?_)
     rintro e8 w8 ⟨rfl, r8, k8⟩
     have R8 := Lib.hid r8
     have K8 := Lib.hid (K7.out.trans k8)
     have Z8 := Lib.hid ((k8.2.2 q1 (lt_of_block Z7.out) (by have := HQQ.out; omega)).trans Z7.out)
     clear r8 k8
     go_wp2_with ((with_reducible show wpList _ _ _ (Oper.mk _ (Op.store 24 (.tmp 4) _) _ _ _ _ :: _) _ _); refine wpList_store_row rfl 24 (.tmp 4) _ rfl (q1) #[.int .u64 0, .int .u64 0, .int .u64 0, .int .u64 0] rfl rfl 24 #[.int .u64 0, .int .u64 0, .int .u64 0, .int .u64 0] Z8.out clsize rfl (by simp [Value.oneCell']) ?_)
     have cc := setRow_heap _ q1 _ #[.int .u64 0, .int .u64 0, .int .u64 0, .int .u64 0] _ _ Z8.out
     have rr : RdT q S dp _ (World.setRow w8 q1 #[.int .u64 0, .int .u64 0, .int .u64 0, .int .u64 0]) := R8.out.keep KX.row (by have := HQQ.out; omega)
     have kk : KX q w (World.setRow w8 q1 #[.int .u64 0, .int .u64 0, .int .u64 0, .int .u64 0]) := K8.out.trans' KX.row (by have := HQ1.out; omega)
     obtain ⟨w99, h99⟩ : ∃ W, W = World.setRow w8 q1 #[.int .u64 0, .int .u64 0, .int .u64 0, .int .u64 0] := ⟨_, rfl⟩
     rw [← h99] at cc rr kk ⊢
     clear h99
     have k0 := boxc cc 0 _ rfl
     have k1 := boxc cc 1 _ rfl
     have k2 := boxc cc 2 _ rfl
     have k3 := boxc cc 3 _ rfl
     refine bodyPost_ret (v := .tuple #[.agg #[.int .u64 0, .int .u64 0, .int .u64 0, .int .u64 0], .int .u8 0, .bool false]) (by simp [results, Try.results70, go_sem, k0, k1, k2, k3]) rfl ⟨by rw [HV.out]; try rfl, by rw [HV.out]; exact rr, kk⟩
   ·
    have hb3 : ((c : Int) == 120) = false := beq_eq_false_iff_ne.2 (by omega)
    have HV : Hid (r = ((Cls.zero, 0, false), t.fwd.fail a 9)) := by
     show _ = _
     rw [HE.out, show hex (kit.bytes S) c t.fwd = none by unfold hex; rw [if_neg h120]]
    clear HE h120 hlen
    have HPP := Lib.hid hp
    go_enter Try.func70, Try.ntmps70
    go_wp2_with fail
    rw [← HW3.out, ← HQ1.out]
    (with_reducible refine (HNX.out W3 R3.out).mono ?_)
    rintro e4 w4 ⟨rfl, b4⟩
    have R4 := Lib.hid (R3.out.next b4)
    have K4 := Lib.hid (K3.out.next b4)
    have Z4 := Lib.hid ((b4.block _ (lt_of_block Z3.out)).trans Z3.out)
    clear b4
    have c1 := boxc R4.out.box 1 _ rfl
    have f1 := boxf R4.out.box 1
    go_wp2_with fail
    have hx5 : RKT q S dp t.fwd w4 (w4.setCell ⟨q, 1, none⟩ (.int .i64 ((t.p : Int) + 1))) := RKT.step R4.out
    have hz5 : (w4.setCell ⟨q, 1, none⟩ (.int .i64 ((t.p : Int) + 1))).heap[q1]? = _ := (hx5.2.2.2 q1 (lt_of_block Z4.out) (by have := HQQ.out; omega)).trans Z4.out
    obtain ⟨w5, hw5⟩ : ∃ W, W = w4.setCell ⟨q, 1, none⟩ (.int .i64 ((t.p : Int) + 1)) := ⟨_, rfl⟩
    rw [← hw5] at hx5 hz5 ⊢
    have R5 := Lib.hid hx5.1
    have K5 := Lib.hid (K4.out.trans hx5.2)
    have Z5 := Lib.hid hz5
    clear hx5 hz5 hw5
    clear c1 f1
    (with_reducible refine (HSP.out _).mono ?_)
    rintro e6 w6 ⟨rfl, h6⟩
    obtain rfl := h6.symm
    have c1 : w5.cell? ⟨q, 1, none⟩ = some (.int .i64 (p : Int)) := by rw [HPP.out]; exact boxc R5.out.box 1 _ rfl
    have c0 := boxc R5.out.box 0 _ rfl
    clear hp hfp
    go_wp2
    go_quiet (fail)
    have bd := below_drewN (Below.refl w5.heap.size w5) nq
    obtain ⟨W4, hW4⟩ : ∃ W, W = w5.drewN nq := ⟨_, rfl⟩
    rw [← hW4] at bd ⊢
    have R7 := Lib.hid (R5.out.next bd)
    have K7 := Lib.hid (K5.out.next bd)
    have Z7 := Lib.hid ((bd.block _ (lt_of_block Z5.out)).trans Z5.out)
    clear hW4 bd
    clear c0 c1
    go_wp2_with fail
    (with_reducible refine (HF.out t.fwd a 9 _ R7.out).mono ?_)
    rintro e8 w8 ⟨rfl, r8, k8⟩
    have R8 := Lib.hid r8
    have K8 := Lib.hid (K7.out.trans k8)
    have Z8 := Lib.hid ((k8.2.2 q1 (lt_of_block Z7.out) (by have := HQQ.out; omega)).trans Z7.out)
    clear r8 k8
    go_wp2_with ((with_reducible show wpList _ _ _ (Oper.mk _ (Op.store 24 (.tmp 4) _) _ _ _ _ :: _) _ _); refine wpList_store_row rfl 24 (.tmp 4) _ rfl (q1) #[.int .u64 0, .int .u64 0, .int .u64 0, .int .u64 0] rfl rfl 24 #[.int .u64 0, .int .u64 0, .int .u64 0, .int .u64 0] Z8.out clsize rfl (by simp [Value.oneCell']) ?_)
    have cc := setRow_heap _ q1 _ #[.int .u64 0, .int .u64 0, .int .u64 0, .int .u64 0] _ _ Z8.out
    have rr : RdT q S dp _ (World.setRow w8 q1 #[.int .u64 0, .int .u64 0, .int .u64 0, .int .u64 0]) := R8.out.keep KX.row (by have := HQQ.out; omega)
    have kk : KX q w (World.setRow w8 q1 #[.int .u64 0, .int .u64 0, .int .u64 0, .int .u64 0]) := K8.out.trans' KX.row (by have := HQ1.out; omega)
    obtain ⟨w99, h99⟩ : ∃ W, W = World.setRow w8 q1 #[.int .u64 0, .int .u64 0, .int .u64 0, .int .u64 0] := ⟨_, rfl⟩
    rw [← h99] at cc rr kk ⊢
    clear h99
    have k0 := boxc cc 0 _ rfl
    have k1 := boxc cc 1 _ rfl
    have k2 := boxc cc 2 _ rfl
    have k3 := boxc cc 3 _ rfl
    refine bodyPost_ret (v := .tuple #[.agg #[.int .u64 0, .int .u64 0, .int .u64 0, .int .u64 0], .int .u8 0, .bool false]) (by simp [results, Try.results70, go_sem, k0, k1, k2, k3]) rfl ⟨by rw [HV.out]; try rfl, by rw [HV.out]; exact rr, kk⟩
end Go.Proofs.Ytmfgplbfojnkdaa
namespace Go.Proofs.Ytmfgplbfojnkdaa
open Go Go.RowKit Go.ChangeShapes cl rx
open rf
theorem zero_ok : Cls.zero.ok := by unfold Cls.ok; decide
theorem lt0 : 0 < 256 := by decide
theorem hex_lt {s : List Nat} {c v : Nat} {t : T} (h : hex s c t = some v) : v < 256 := by
 unfold hex at h
 split at h
 ·
  split at h
  ·
   split at h
   ·
    rename_i a b _ _ _
    have h1 := dig_le (c := a)
    have h2 := dig_le (c := b)
    have := Option.some.inj h
    omega
   ·
    cases h
  ·
   cases h
 ·
  cases h
section
variable {s : List Nat} (hs : ∀ c ∈ s, c < 256)
include hs
theorem escape_ok (a : Nat) (t : T) : (escape s a t).1.1.ok ∧ (escape s a t).1.2.1 < 256 := by
 unfold escape
 split
 ·
  exact ⟨zero_ok, lt0⟩
 ·
  rename_i c hc
  have hc2 : c < 256 := hs c (List.mem_of_getElem? (nxt_some hc).2.1)
  split
  ·
   exact ⟨one_ok _ hc2, hc2⟩
  ·
   split
   ·
    exact ⟨span_ok' _ _ (by decide) (by decide), lt0⟩
   ·
    split
    ·
     exact ⟨or_ok (or_ok (span_ok' _ _ (by decide) (by decide)) (span_ok' _ _ (by decide) (by decide))) (or_ok (span_ok' _ _ (by decide) (by decide)) (one_ok _ (by decide))), lt0⟩
    ·
     split
     ·
      rename_i v hv
      exact ⟨one_ok _ (hex_lt hv), hex_lt hv⟩
     ·
      exact ⟨zero_ok, lt0⟩
theorem single_ok (t : T) : (single s t).1.1.ok ∧ (single s t).1.2.1 < 256 := by
 unfold single
 split
 ·
  exact ⟨zero_ok, lt0⟩
 ·
  rename_i c hc
  have hc2 : c < 256 := hs c (List.mem_of_getElem? hc)
  split
  ·
   exact escape_ok hs _ _
  ·
   split
   ·
    exact ⟨zero_ok, lt0⟩
   ·
    exact ⟨one_ok _ hc2, hc2⟩
theorem member_ok (t : T) : (member s t).1.ok := by
 have h0 := single_ok hs t
 unfold member
 simp only
 split
 ·
  exact h0.1
 ·
  split
  ·
   exact h0.1
  ·
   split
   ·
    exact h0.1
   ·
    split
    ·
     exact h0.1
    ·
     split
     ·
      exact h0.1
     ·
      have h1 := single_ok hs (meets s 45 (single s t).2).2
      exact span_ok _ _ _ (by omega) zero_ok
theorem mems_ok (a : Nat) : ∀ (f : Nat) (x : Cls) (t : T), x.ok → (mems s a f x t).1.ok
 | 0, _, _, h => h
 | f + 1, x, t, h => by
  unfold mems
  simp only
  split
  ·
   exact h
  ·
   split
   ·
    exact h
   ·
    exact mems_ok a f _ _ (or_ok h (member_ok hs t))
end
end Go.Proofs.Ytmfgplbfojnkdaa
