/- texts put together: RfOnc. -/
import Derived.Test.YtmfgplbfojnkdaaNf16
import Derived.Test.YtmfgplbfojnkdaaNf18
namespace Go.Proofs.Ytmfgplbfojnkdaa
open Go Go.RowKit Go.ChangeShapes cl rx
open rf
set_option maxHeartbeats 12800000 in
set_option maxRecDepth 100000 in
theorem rf_once (d q : Nat) (S : ByteArray) (dp : Int) (G : Nat → T → Pat × T) (t : T) (w : World) (h : RdT q S dp t w) (hS : S.size ≤ 60) (hp : t.p < S.size)
  (HG0 : ∀ W, RdT q S dp t.fwd W → Calls Try.prog 67 #[.pointer (some ⟨q, 0, none⟩), .int .i64 (t.p : Int)] W (RfA (d + 1) q S dp (G t.p t.fwd) W)) : Calls Try.prog 65 #[.pointer (some ⟨q, 0, none⟩)] w (RfA (d + 1) q S dp (onceB (kit.bytes S) G t) w) := by
 have hlen : (kit.bytes S).length = S.size := by simp [kit.bytes]
 obtain ⟨c, hb, hcE⟩ : ∃ c, (kit.bytes S)[t.p]? = some c ∧ c = (S[t.p]'hp).toNat := ⟨_, byte_at hp, rfl⟩
 have hc : c < 256 := kit.bytes_lt S c (List.mem_of_getElem? hb)
 obtain ⟨p, hpp⟩ : ∃ p, p = t.p := ⟨_, rfl⟩
 have hp' : p < S.size := by rw [hpp]; exact hp
 have hcE' : (S[p]'hp').toNat = c := by rw [hcE]; simp only [hpp]
 have hpi : (p : Int) < (S.size : Int) := by omega
 obtain ⟨r, hr⟩ : ∃ r, r = onceB (kit.bytes S) G t := ⟨_, rfl⟩
 rw [← hr]
 obtain ⟨gx, gt, hgx⟩ : ∃ x t', G t.p t.fwd = (x, t') := ⟨_, _, rfl⟩
 have HGR : Hid (∀ W, RdT q S dp t.fwd W → Calls Try.prog 67 #[.pointer (some ⟨q, 0, none⟩), .int .i64 (p : Int)] W (RfA (d + 1) q S dp (gx, gt) W)) := fun W hW => by rw [← hgx, hpp]; exact HG0 W hW
 obtain ⟨q1, hq1⟩ : ∃ q1, q1 = w.heap.size := ⟨_, rfl⟩
 have hqq : q < q1 := by rw [hq1]; exact lt_of_block h
 have hA := below1 (w := w) (o := .cells #[.int .i64 0, .int .u64 0, .int .u64 0, .int .u64 0, .int .u64 0, .slice none 0 0, .int .i64 0, .int .i64 0] 27)
 have x1 := (hA.block q (by rw [← hq1]; exact hqq)).trans h.box
 have c1 : (w.alloc (.cells #[.int .i64 0, .int .u64 0, .int .u64 0, .int .u64 0, .int .u64 0, .slice none 0 0, .int .i64 0, .int .i64 0] 27)).cell? ⟨q, 1, none⟩ = some (.int .i64 (p : Int)) := by rw [hpp]; exact boxc x1 1 _ rfl
 have c0 : (w.alloc (.cells #[.int .i64 0, .int .u64 0, .int .u64 0, .int .u64 0, .int .u64 0, .slice none 0 0, .int .i64 0, .int .i64 0] 27)).cell? ⟨q, 0, none⟩ = some (.string S) := boxc x1 0 _ rfl
 have c1w : w.cell? ⟨q, 1, none⟩ = some (.int .i64 (p : Int)) := by rw [hpp]; exact boxc h.box 1 _ rfl
 have f1 : (w.alloc (.cells #[.int .i64 0, .int .u64 0, .int .u64 0, .int .u64 0, .int .u64 0, .slice none 0 0, .int .i64 0, .int .i64 0] 27)).frozen? ⟨q, 1, none⟩ = false := boxf x1 1
 have f1w : w.frozen? ⟨q, 1, none⟩ = false := boxf h.box 1
 have c0w : w.cell? ⟨q, 0, none⟩ = some (.string S) := boxc h.box 0 _ rfl
 obtain ⟨W3, hW3⟩ : ∃ W, W = (w.alloc (.cells #[.int .i64 0, .int .u64 0, .int .u64 0, .int .u64 0, .int .u64 0, .slice none 0 0, .int .i64 0, .int .i64 0] 27)).setCell ⟨q, 1, none⟩ (.int .i64 ((p : Int) + 1)) := ⟨_, rfl⟩
 have R4 : Hid (RdT q S dp t.fwd W3) := by show RdT _ _ _ _ _; rw [hW3, hpp]; exact heap_setCell_same _ q 1 _ _ _ x1
 have K4 : Hid (KX q w W3) := by show KX q w W3; rw [hW3]; exact (KX.of hA).trans KX.cell
 have Z4 : Hid (W3.heap[q1]? = some (.cells #[.int .i64 0, .int .u64 0, .int .u64 0, .int .u64 0, .int .u64 0, .slice none 0 0, .int .i64 0, .int .i64 0] 27)) := by
  show _ = _
  rw [hW3, heap_setCell_other _ _ _ _ (by show q1 ≠ q; omega), hq1]; exact heap_alloc_new _ _
 have HW3 := Lib.hid hW3
 have HQ1 := Lib.hid hq1
 have HQQ := Lib.hid hqq
 have H14 : Hid (q1 < W3.heap.size) := lt_of_block Z4.out
 have HB4 : Hid (w.heap.size ≤ W3.heap.size) := K4.out.2.1
 have HSP : Hid (∀ W, Calls Try.prog 72 #[.int .u8 c] W (fun e w' => e = .returned (.bool (spc c)) ∧ w' = W)) := fun W => rf_special c W hc
 have HF : Hid (∀ W, RdT q S dp t.fwd W → Calls Try.prog 55 #[.pointer (some ⟨q, 0, none⟩), .int .i64 (p : Int), .int .i64 9] W (fun e w' => e = .returned (.tuple #[]) ∧ RKT q S dp (t.fwd.fail t.p 9) W w')) := fun W hW => by rw [hpp]; exact rf_fail q S dp t.fwd t.p 9 W hW
 have hby : ∀ c ∈ kit.bytes S, c < 256 := kit.bytes_lt S
 obtain ⟨mk, mt, hmk⟩ : ∃ k t', rf.members (kit.bytes S) t.p t.fwd = (k, t') := ⟨_, _, rfl⟩
 have HMB : Hid (∀ W, RdT q S dp t.fwd W → Calls Try.prog 69 #[.pointer (some ⟨q, 0, none⟩), .int .i64 (p : Int)] W (fun e w' => e = .returned (.agg #[.int .u64 mk.a, .int .u64 mk.b, .int .u64 mk.c, .int .u64 mk.d]) ∧ RKT q S dp mt W w')) := fun W hW => by have h := rf_members q S dp t.fwd t.p W hW hS (by show t.p + 1 ≤ _; omega); rw [hmk] at h; rw [hpp]; exact h
 obtain ⟨ek, en, eo, et, hek⟩ : ∃ k n o t', rf.escape (kit.bytes S) t.p t.fwd = ((k, n, o), t') := ⟨_, _, _, _, rfl⟩
 have HES : Hid (∀ W, RdT q S dp t.fwd W → Calls Try.prog 70 #[.pointer (some ⟨q, 0, none⟩), .int .i64 (p : Int)] W (fun e w' => e = .returned (.tuple #[.agg #[.int .u64 ek.a, .int .u64 ek.b, .int .u64 ek.c, .int .u64 ek.d], .int .u8 (en : Int), .bool eo]) ∧ RKT q S dp et W w')) := fun W hW => by have h := rf_escape q S dp t.fwd t.p W hW hS; rw [hek] at h; rw [hpp]; exact h
 clear h hA x1 hW3 hq1 hqq hcE hpp HG0 hby
 by_cases h40 : c = 40
 ·
  have b40 : ((c : Int) == 40) = true := by simp [h40]
  have HV : Hid (r = (gx, gt)) := by show _ = _; rw [hr]; unfold onceB; rw [hb]; simp only; rw [if_pos h40, hgx]
  clear hgx hmk hek h40
  clear hr hb
  go_enter Try.func65, Try.ntmps65
  go_wp2_with fail
  rw [← HW3.out, ← HQ1.out]
  clear c0 c1 f1 c1w f1w c0w
  (with_reducible refine (HGR.out _ R4.out).mono ?_)
  rintro e5 w5 ⟨x5, rfl, f5, r5, k5⟩
  obtain ⟨ko, kn, kc, rfl⟩ := rx_form f5.at
  have R5 := Lib.hid r5
  have K5 := Lib.hid (K4.out.trans k5)
  have Z5 := Lib.hid ((k5.2.2 q1 H14.out (by have := HQQ.out; omega)).trans Z4.out)
  have F5 := Lib.hid f5
  clear r5 k5 f5
  go_wp2_with ((with_reducible show wpList _ _ _ (Oper.mk _ (Op.store 27 (.tmp 2) _) _ _ _ _ :: _) _ _); refine wpList_store_row rfl 27 (.tmp 2) _ rfl (q1) #[.int .i64 gx.k, .int .u64 gx.cl.a, .int .u64 gx.cl.b, .int .u64 gx.cl.c, .int .u64 gx.cl.d, .slice ko kn kc, .int .i64 gx.mn, .int .i64 gx.mx] rfl rfl 27 #[.int .i64 0, .int .u64 0, .int .u64 0, .int .u64 0, .int .u64 0, .slice none 0 0, .int .i64 0, .int .i64 0] Z5.out rsize rfl (by simp [Value.oneCell']) ?_)
  have cc := setRow_heap _ q1 _ #[.int .i64 gx.k, .int .u64 gx.cl.a, .int .u64 gx.cl.b, .int .u64 gx.cl.c, .int .u64 gx.cl.d, .slice ko kn kc, .int .i64 gx.mn, .int .i64 gx.mx] _ _ Z5.out
  have rr : RdT q S dp _ (World.setRow w5 q1 #[.int .i64 gx.k, .int .u64 gx.cl.a, .int .u64 gx.cl.b, .int .u64 gx.cl.c, .int .u64 gx.cl.d, .slice ko kn kc, .int .i64 gx.mn, .int .i64 gx.mx]) := R5.out.keep KX.row (by have := HQQ.out; omega)
  have kk : KX q w (World.setRow w5 q1 #[.int .i64 gx.k, .int .u64 gx.cl.a, .int .u64 gx.cl.b, .int .u64 gx.cl.c, .int .u64 gx.cl.d, .slice ko kn kc, .int .i64 gx.mn, .int .i64 gx.mx]) := K5.out.trans' KX.row (by have := HQ1.out; omega)
  have ff : Fre w.heap.size (World.setRow w5 q1 #[.int .i64 gx.k, .int .u64 gx.cl.a, .int .u64 gx.cl.b, .int .u64 gx.cl.c, .int .u64 gx.cl.d, .slice ko kn kc, .int .i64 gx.mn, .int .i64 gx.mx]) (fun W => rxR (d + 1) W W.heap.size [.int .i64 gx.k, .int .u64 gx.cl.a, .int .u64 gx.cl.b, .int .u64 gx.cl.c, .int .u64 gx.cl.d, .slice ko kn kc, .int .i64 gx.mn, .int .i64 gx.mx] gx) := FreA.low (Fre.kx F5.out KX.row H14.out) HB4.out
  obtain ⟨w99, h99⟩ : ∃ W, W = World.setRow w5 q1 #[.int .i64 gx.k, .int .u64 gx.cl.a, .int .u64 gx.cl.b, .int .u64 gx.cl.c, .int .u64 gx.cl.d, .slice ko kn kc, .int .i64 gx.mn, .int .i64 gx.mx] := ⟨_, rfl⟩
  rw [← h99] at cc rr kk ff ⊢
  clear h99
  have k0 := boxc cc 0 _ rfl
  have k1 := boxc cc 1 _ rfl
  have k2 := boxc cc 2 _ rfl
  have k3 := boxc cc 3 _ rfl
  have k4 := boxc cc 4 _ rfl
  have k5 := boxc cc 5 _ rfl
  have k6 := boxc cc 6 _ rfl
  have k7 := boxc cc 7 _ rfl
  refine bodyPost_ret (v := .agg #[.int .i64 gx.k, .int .u64 gx.cl.a, .int .u64 gx.cl.b, .int .u64 gx.cl.c, .int .u64 gx.cl.d, .slice ko kn kc, .int .i64 gx.mn, .int .i64 gx.mx]) (by simp [results, Try.results65, go_sem, k0, k1, k2, k3, k4, k5, k6, k7]) rfl ?_
  show RfA _ _ _ _ _ _ _ _
  rw [HV.out]
  exact ⟨[.int .i64 gx.k, .int .u64 gx.cl.a, .int .u64 gx.cl.b, .int .u64 gx.cl.c, .int .u64 gx.cl.d, .slice ko kn kc, .int .i64 gx.mn, .int .i64 gx.mx], rfl, ff, rr, kk⟩
 have b40 : ((c : Int) == 40) = false := beq_eq_false_iff_ne.2 (by omega)
 clear hgx
 by_cases h91 : c = 91
 ·
  have b91 : ((c : Int) == 91) = true := by simp [h91]
  have HCL : Hid (∀ W, Calls Try.prog 68 #[.agg #[.int .u64 mk.a, .int .u64 mk.b, .int .u64 mk.c, .int .u64 mk.d]] W (fun e w' => e = .returned (.agg #[.int .i64 2, .int .u64 mk.a, .int .u64 mk.b, .int .u64 mk.c, .int .u64 mk.d, .slice none 0 0, .int .i64 0, .int .i64 0]) ∧ Below W.heap.size W w')) := fun W => rx_class mk W
  have HV : Hid (r = (Pat.ofCls mk, mt)) := by show _ = _; rw [hr]; unfold onceB; rw [hb]; simp only; rw [if_neg h40, if_pos h91, hmk]
  clear hmk hek h40 h91
  clear hr hb
  go_enter Try.func65, Try.ntmps65
  go_wp2_with fail
  rw [← HW3.out, ← HQ1.out]
  clear c0 c1 f1 c1w f1w c0w
  (with_reducible refine (HMB.out _ R4.out).mono ?_)
  rintro e5 w5 ⟨rfl, r5, k5⟩
  have R5 := Lib.hid r5
  have K5 := Lib.hid (K4.out.trans k5)
  have Z5 := Lib.hid ((k5.2.2 q1 (lt_of_block Z4.out) (by have := HQQ.out; omega)).trans Z4.out)
  clear r5 k5
  go_wp2_with fail
  (with_reducible refine (HCL.out _).mono ?_)
  rintro e6 w6 ⟨rfl, b6⟩
  have R6 := Lib.hid (R5.out.next b6)
  have K6 := Lib.hid (K5.out.next b6)
  have Z6 := Lib.hid ((b6.block _ (lt_of_block Z5.out)).trans Z5.out)
  clear b6
  go_wp2_with ((with_reducible show wpList _ _ _ (Oper.mk _ (Op.store 27 (.tmp 2) _) _ _ _ _ :: _) _ _); refine wpList_store_row rfl 27 (.tmp 2) _ rfl (q1) #[.int .i64 2, .int .u64 mk.a, .int .u64 mk.b, .int .u64 mk.c, .int .u64 mk.d, .slice none 0 0, .int .i64 0, .int .i64 0] rfl rfl 27 #[.int .i64 0, .int .u64 0, .int .u64 0, .int .u64 0, .int .u64 0, .slice none 0 0, .int .i64 0, .int .i64 0] Z6.out rsize rfl (by simp [Value.oneCell']) ?_)
  have cc := setRow_heap _ q1 _ #[.int .i64 2, .int .u64 mk.a, .int .u64 mk.b, .int .u64 mk.c, .int .u64 mk.d, .slice none 0 0, .int .i64 0, .int .i64 0] _ _ Z6.out
  have rr : RdT q S dp _ (World.setRow w6 q1 #[.int .i64 2, .int .u64 mk.a, .int .u64 mk.b, .int .u64 mk.c, .int .u64 mk.d, .slice none 0 0, .int .i64 0, .int .i64 0]) := R6.out.keep KX.row (by have := HQQ.out; omega)
  have kk : KX q w (World.setRow w6 q1 #[.int .i64 2, .int .u64 mk.a, .int .u64 mk.b, .int .u64 mk.c, .int .u64 mk.d, .slice none 0 0, .int .i64 0, .int .i64 0]) := K6.out.trans' KX.row (by have := HQ1.out; omega)
  have ff : Fre w.heap.size (World.setRow w6 q1 #[.int .i64 2, .int .u64 mk.a, .int .u64 mk.b, .int .u64 mk.c, .int .u64 mk.d, .slice none 0 0, .int .i64 0, .int .i64 0]) (fun W => rxR (d + 1) W W.heap.size [.int .i64 2, .int .u64 mk.a, .int .u64 mk.b, .int .u64 mk.c, .int .u64 mk.d, .slice none 0 0, .int .i64 0, .int .i64 0] (Pat.ofCls mk)) := fun W _ _ => ⟨none, 0, 0, rfl, RowsAt.nil _ _⟩
  obtain ⟨w99, h99⟩ : ∃ W, W = World.setRow w6 q1 #[.int .i64 2, .int .u64 mk.a, .int .u64 mk.b, .int .u64 mk.c, .int .u64 mk.d, .slice none 0 0, .int .i64 0, .int .i64 0] := ⟨_, rfl⟩
  rw [← h99] at cc rr kk ff ⊢
  clear h99
  have k0 := boxc cc 0 _ rfl
  have k1 := boxc cc 1 _ rfl
  have k2 := boxc cc 2 _ rfl
  have k3 := boxc cc 3 _ rfl
  have k4 := boxc cc 4 _ rfl
  have k5 := boxc cc 5 _ rfl
  have k6 := boxc cc 6 _ rfl
  have k7 := boxc cc 7 _ rfl
  refine bodyPost_ret (v := .agg #[.int .i64 2, .int .u64 mk.a, .int .u64 mk.b, .int .u64 mk.c, .int .u64 mk.d, .slice none 0 0, .int .i64 0, .int .i64 0]) (by simp [results, Try.results65, go_sem, k0, k1, k2, k3, k4, k5, k6, k7]) rfl ?_
  show RfA _ _ _ _ _ _ _ _
  rw [HV.out]
  exact ⟨[.int .i64 2, .int .u64 mk.a, .int .u64 mk.b, .int .u64 mk.c, .int .u64 mk.d, .slice none 0 0, .int .i64 0, .int .i64 0], rfl, ff, rr, kk⟩
 have b91 : ((c : Int) == 91) = false := beq_eq_false_iff_ne.2 (by omega)
 clear hmk
 by_cases h92 : c = 92
 ·
  have b92 : ((c : Int) == 92) = true := by simp [h92]
  have HCL : Hid (∀ W, Calls Try.prog 68 #[.agg #[.int .u64 ek.a, .int .u64 ek.b, .int .u64 ek.c, .int .u64 ek.d]] W (fun e w' => e = .returned (.agg #[.int .i64 2, .int .u64 ek.a, .int .u64 ek.b, .int .u64 ek.c, .int .u64 ek.d, .slice none 0 0, .int .i64 0, .int .i64 0]) ∧ Below W.heap.size W w')) := fun W => rx_class ek W
  have HV : Hid (r = (Pat.ofCls ek, et)) := by show _ = _; rw [hr]; unfold onceB; rw [hb]; simp only; rw [if_neg h40, if_neg h91, if_pos h92, hek]
  clear hek h40 h91 h92
  clear hr hb
  go_enter Try.func65, Try.ntmps65
  go_wp2_with fail
  rw [← HW3.out, ← HQ1.out]
  clear c0 c1 f1 c1w f1w c0w
  (with_reducible refine (HES.out _ R4.out).mono ?_)
  rintro e5 w5 ⟨rfl, r5, k5⟩
  have R5 := Lib.hid r5
  have K5 := Lib.hid (K4.out.trans k5)
  have Z5 := Lib.hid ((k5.2.2 q1 (lt_of_block Z4.out) (by have := HQQ.out; omega)).trans Z4.out)
  clear r5 k5
  go_wp2_with fail
  obtain ⟨q2, hq6⟩ : ∃ z, z = w5.heap.size := ⟨_, rfl⟩
  obtain ⟨w6, hw6⟩ : ∃ W, W = w5.alloc (.cells #[.int .u64 ek.a, .int .u64 ek.b, .int .u64 ek.c, .int .u64 ek.d] 24) := ⟨_, rfl⟩
  have b6 : Below w5.heap.size w5 w6 := by rw [hw6]; exact below1
  have R6 := Lib.hid (R5.out.next b6)
  have K6 := Lib.hid (K5.out.next b6)
  have X6 : Hid (w6.heap[q2]? = some (.cells #[.int .u64 ek.a, .int .u64 ek.b, .int .u64 ek.c, .int .u64 ek.d] 24)) := by show _ = _; rw [hw6, hq6]; exact heap_alloc_new _ _
  have HQX : Hid (q < q2) := by show _ < _; rw [hq6]; exact lt_of_block R5.out
  have Z6 := Lib.hid ((b6.block _ (lt_of_block Z5.out)).trans Z5.out)
  have HW6 := Lib.hid hw6
  have HQE6 := Lib.hid hq6
  clear b6 hw6 hq6
  rw [← HW6.out]
  (with_reducible refine (HCL.out _).mono ?_)
  rintro e7 w7 ⟨rfl, b7⟩
  have R7 := Lib.hid (R6.out.next b7)
  have K7 := Lib.hid (K6.out.next b7)
  have Z7 := Lib.hid ((b7.block _ (lt_of_block Z6.out)).trans Z6.out)
  clear b7
  go_wp2_with ((with_reducible show wpList _ _ _ (Oper.mk _ (Op.store 27 (.tmp 2) _) _ _ _ _ :: _) _ _); refine wpList_store_row rfl 27 (.tmp 2) _ rfl (q1) #[.int .i64 2, .int .u64 ek.a, .int .u64 ek.b, .int .u64 ek.c, .int .u64 ek.d, .slice none 0 0, .int .i64 0, .int .i64 0] rfl rfl 27 #[.int .i64 0, .int .u64 0, .int .u64 0, .int .u64 0, .int .u64 0, .slice none 0 0, .int .i64 0, .int .i64 0] Z7.out rsize rfl (by simp [Value.oneCell']) ?_)
  have cc := setRow_heap _ q1 _ #[.int .i64 2, .int .u64 ek.a, .int .u64 ek.b, .int .u64 ek.c, .int .u64 ek.d, .slice none 0 0, .int .i64 0, .int .i64 0] _ _ Z7.out
  have rr : RdT q S dp _ (World.setRow w7 q1 #[.int .i64 2, .int .u64 ek.a, .int .u64 ek.b, .int .u64 ek.c, .int .u64 ek.d, .slice none 0 0, .int .i64 0, .int .i64 0]) := R7.out.keep KX.row (by have := HQQ.out; omega)
  have kk : KX q w (World.setRow w7 q1 #[.int .i64 2, .int .u64 ek.a, .int .u64 ek.b, .int .u64 ek.c, .int .u64 ek.d, .slice none 0 0, .int .i64 0, .int .i64 0]) := K7.out.trans' KX.row (by have := HQ1.out; omega)
  have ff : Fre w.heap.size (World.setRow w7 q1 #[.int .i64 2, .int .u64 ek.a, .int .u64 ek.b, .int .u64 ek.c, .int .u64 ek.d, .slice none 0 0, .int .i64 0, .int .i64 0]) (fun W => rxR (d + 1) W W.heap.size [.int .i64 2, .int .u64 ek.a, .int .u64 ek.b, .int .u64 ek.c, .int .u64 ek.d, .slice none 0 0, .int .i64 0, .int .i64 0] (Pat.ofCls ek)) := fun W _ _ => ⟨none, 0, 0, rfl, RowsAt.nil _ _⟩
  obtain ⟨w99, h99⟩ : ∃ W, W = World.setRow w7 q1 #[.int .i64 2, .int .u64 ek.a, .int .u64 ek.b, .int .u64 ek.c, .int .u64 ek.d, .slice none 0 0, .int .i64 0, .int .i64 0] := ⟨_, rfl⟩
  rw [← h99] at cc rr kk ff ⊢
  clear h99
  have k0 := boxc cc 0 _ rfl
  have k1 := boxc cc 1 _ rfl
  have k2 := boxc cc 2 _ rfl
  have k3 := boxc cc 3 _ rfl
  have k4 := boxc cc 4 _ rfl
  have k5 := boxc cc 5 _ rfl
  have k6 := boxc cc 6 _ rfl
  have k7 := boxc cc 7 _ rfl
  refine bodyPost_ret (v := .agg #[.int .i64 2, .int .u64 ek.a, .int .u64 ek.b, .int .u64 ek.c, .int .u64 ek.d, .slice none 0 0, .int .i64 0, .int .i64 0]) (by simp [results, Try.results65, go_sem, k0, k1, k2, k3, k4, k5, k6, k7]) rfl ?_
  show RfA _ _ _ _ _ _ _ _
  rw [HV.out]
  exact ⟨[.int .i64 2, .int .u64 ek.a, .int .u64 ek.b, .int .u64 ek.c, .int .u64 ek.d, .slice none 0 0, .int .i64 0, .int .i64 0], rfl, ff, rr, kk⟩
 have b92 : ((c : Int) == 92) = false := beq_eq_false_iff_ne.2 (by omega)
 clear hek
 by_cases h46 : c = 46
 ·
  have b46 : ((c : Int) == 46) = true := by simp [h46]
  have HOT : Hid (∀ W, Calls Try.prog 71 #[.agg #[.int .u64 0, .int .u64 0, .int .u64 0, .int .u64 0]] W (fun e w' => e = .returned (.agg #[.int .u64 (oth Cls.zero).a, .int .u64 (oth Cls.zero).b, .int .u64 (oth Cls.zero).c, .int .u64 (oth Cls.zero).d]) ∧ Below W.heap.size W w')) := fun W => rx_others Cls.zero W zero_ok
  have HCL : Hid (∀ W, Calls Try.prog 68 #[.agg #[.int .u64 (oth Cls.zero).a, .int .u64 (oth Cls.zero).b, .int .u64 (oth Cls.zero).c, .int .u64 (oth Cls.zero).d]] W (fun e w' => e = .returned (.agg #[.int .i64 2, .int .u64 (oth Cls.zero).a, .int .u64 (oth Cls.zero).b, .int .u64 (oth Cls.zero).c, .int .u64 (oth Cls.zero).d, .slice none 0 0, .int .i64 0, .int .i64 0]) ∧ Below W.heap.size W w')) := fun W => rx_class (oth Cls.zero) W
  have HV : Hid (r = (Pat.ofCls (oth Cls.zero), t.fwd)) := by show _ = _; rw [hr]; unfold onceB; rw [hb]; simp only; rw [if_neg h40, if_neg h91, if_neg h92, if_pos h46]
  clear h40 h91 h92 h46
  clear hr hb
  go_enter Try.func65, Try.ntmps65
  go_wp2_with fail
  rw [← HW3.out, ← HQ1.out]
  clear c0 c1 f1 c1w f1w c0w
  (with_reducible refine (HOT.out _).mono ?_)
  rintro e5 w5 ⟨rfl, b5⟩
  have R5 := Lib.hid (R4.out.next b5)
  have K5 := Lib.hid (K4.out.next b5)
  have Z5 := Lib.hid ((b5.block _ (lt_of_block Z4.out)).trans Z4.out)
  clear b5
  go_wp2_with fail
  (with_reducible refine (HCL.out _).mono ?_)
  rintro e6 w6 ⟨rfl, b6⟩
  have R6 := Lib.hid (R5.out.next b6)
  have K6 := Lib.hid (K5.out.next b6)
  have Z6 := Lib.hid ((b6.block _ (lt_of_block Z5.out)).trans Z5.out)
  clear b6
  go_wp2_with ((with_reducible show wpList _ _ _ (Oper.mk _ (Op.store 27 (.tmp 2) _) _ _ _ _ :: _) _ _); refine wpList_store_row rfl 27 (.tmp 2) _ rfl (q1) #[.int .i64 2, .int .u64 (oth Cls.zero).a, .int .u64 (oth Cls.zero).b, .int .u64 (oth Cls.zero).c, .int .u64 (oth Cls.zero).d, .slice none 0 0, .int .i64 0, .int .i64 0] rfl rfl 27 #[.int .i64 0, .int .u64 0, .int .u64 0, .int .u64 0, .int .u64 0, .slice none 0 0, .int .i64 0, .int .i64 0] Z6.out rsize rfl (by simp [Value.oneCell']) ?_)
  have cc := setRow_heap _ q1 _ #[.int .i64 2, .int .u64 (oth Cls.zero).a, .int .u64 (oth Cls.zero).b, .int .u64 (oth Cls.zero).c, .int .u64 (oth Cls.zero).d, .slice none 0 0, .int .i64 0, .int .i64 0] _ _ Z6.out
  have rr : RdT q S dp _ (World.setRow w6 q1 #[.int .i64 2, .int .u64 (oth Cls.zero).a, .int .u64 (oth Cls.zero).b, .int .u64 (oth Cls.zero).c, .int .u64 (oth Cls.zero).d, .slice none 0 0, .int .i64 0, .int .i64 0]) := R6.out.keep KX.row (by have := HQQ.out; omega)
  have kk : KX q w (World.setRow w6 q1 #[.int .i64 2, .int .u64 (oth Cls.zero).a, .int .u64 (oth Cls.zero).b, .int .u64 (oth Cls.zero).c, .int .u64 (oth Cls.zero).d, .slice none 0 0, .int .i64 0, .int .i64 0]) := K6.out.trans' KX.row (by have := HQ1.out; omega)
  have ff : Fre w.heap.size (World.setRow w6 q1 #[.int .i64 2, .int .u64 (oth Cls.zero).a, .int .u64 (oth Cls.zero).b, .int .u64 (oth Cls.zero).c, .int .u64 (oth Cls.zero).d, .slice none 0 0, .int .i64 0, .int .i64 0]) (fun W => rxR (d + 1) W W.heap.size [.int .i64 2, .int .u64 (oth Cls.zero).a, .int .u64 (oth Cls.zero).b, .int .u64 (oth Cls.zero).c, .int .u64 (oth Cls.zero).d, .slice none 0 0, .int .i64 0, .int .i64 0] (Pat.ofCls (oth Cls.zero))) := fun W _ _ => ⟨none, 0, 0, rfl, RowsAt.nil _ _⟩
  obtain ⟨w99, h99⟩ : ∃ W, W = World.setRow w6 q1 #[.int .i64 2, .int .u64 (oth Cls.zero).a, .int .u64 (oth Cls.zero).b, .int .u64 (oth Cls.zero).c, .int .u64 (oth Cls.zero).d, .slice none 0 0, .int .i64 0, .int .i64 0] := ⟨_, rfl⟩
  rw [← h99] at cc rr kk ff ⊢
  clear h99
  have k0 := boxc cc 0 _ rfl
  have k1 := boxc cc 1 _ rfl
  have k2 := boxc cc 2 _ rfl
  have k3 := boxc cc 3 _ rfl
  have k4 := boxc cc 4 _ rfl
  have k5 := boxc cc 5 _ rfl
  have k6 := boxc cc 6 _ rfl
  have k7 := boxc cc 7 _ rfl
  refine bodyPost_ret (v := .agg #[.int .i64 2, .int .u64 (oth Cls.zero).a, .int .u64 (oth Cls.zero).b, .int .u64 (oth Cls.zero).c, .int .u64 (oth Cls.zero).d, .slice none 0 0, .int .i64 0, .int .i64 0]) (by simp [results, Try.results65, go_sem, k0, k1, k2, k3, k4, k5, k6, k7]) rfl ?_
  show RfA _ _ _ _ _ _ _ _
  rw [HV.out]
  exact ⟨[.int .i64 2, .int .u64 (oth Cls.zero).a, .int .u64 (oth Cls.zero).b, .int .u64 (oth Cls.zero).c, .int .u64 (oth Cls.zero).d, .slice none 0 0, .int .i64 0, .int .i64 0], rfl, ff, rr, kk⟩
 have b46 : ((c : Int) == 46) = false := beq_eq_false_iff_ne.2 (by omega)
 by_cases h45 : c = 45
 ·
  have b45 : ((c : Int) == 45) = true := by simp [h45]
  have HCOND : c = 45 ∨ (32 ≤ c ∧ c ≤ 126 ∧ spc c = false) := Or.inl h45
  clear h45
  have HV : Hid (r = (Pat.ofCls (.one c), t.fwd)) := by show _ = _; rw [hr]; unfold onceB; rw [hb]; simp only; rw [if_neg h40, if_neg h91, if_neg h92, if_neg h46, if_pos HCOND]
  have HCL : Hid (∀ W, Calls Try.prog 68 #[.agg #[.int .u64 (Cls.one c).a, .int .u64 (Cls.one c).b, .int .u64 (Cls.one c).c, .int .u64 (Cls.one c).d]] W (fun e w' => e = .returned (.agg #[.int .i64 2, .int .u64 (Cls.one c).a, .int .u64 (Cls.one c).b, .int .u64 (Cls.one c).c, .int .u64 (Cls.one c).d, .slice none 0 0, .int .i64 0, .int .i64 0]) ∧ Below W.heap.size W w')) := fun W => rx_class (Cls.one c) W
  have HSG : Hid (∀ W, Calls Try.prog 73 #[.int .u8 c] W (fun e w' => e = .returned (.agg #[.int .u64 (Cls.one c).a, .int .u64 (Cls.one c).b, .int .u64 (Cls.one c).c, .int .u64 (Cls.one c).d]) ∧ Below W.heap.size W w')) := fun W => rx_single c W hc
  clear hr hb
  go_enter Try.func65, Try.ntmps65
  go_wp2_with fail
  rw [← HW3.out, ← HQ1.out]
  clear c0 c1 f1 c1w f1w c0w
  (with_reducible refine (HSG.out _).mono ?_)
  rintro e5 w5 ⟨rfl, b5⟩
  have R5 := Lib.hid (R4.out.next b5)
  have K5 := Lib.hid (K4.out.next b5)
  have Z5 := Lib.hid ((b5.block _ (lt_of_block Z4.out)).trans Z4.out)
  clear b5
  go_wp2_with fail
  (with_reducible refine (HCL.out _).mono ?_)
  rintro e6 w6 ⟨rfl, b6⟩
  have R6 := Lib.hid (R5.out.next b6)
  have K6 := Lib.hid (K5.out.next b6)
  have Z6 := Lib.hid ((b6.block _ (lt_of_block Z5.out)).trans Z5.out)
  clear b6
  go_wp2_with ((with_reducible show wpList _ _ _ (Oper.mk _ (Op.store 27 (.tmp 2) _) _ _ _ _ :: _) _ _); refine wpList_store_row rfl 27 (.tmp 2) _ rfl (q1) #[.int .i64 2, .int .u64 (Cls.one c).a, .int .u64 (Cls.one c).b, .int .u64 (Cls.one c).c, .int .u64 (Cls.one c).d, .slice none 0 0, .int .i64 0, .int .i64 0] rfl rfl 27 #[.int .i64 0, .int .u64 0, .int .u64 0, .int .u64 0, .int .u64 0, .slice none 0 0, .int .i64 0, .int .i64 0] Z6.out rsize rfl (by simp [Value.oneCell']) ?_)
  have cc := setRow_heap _ q1 _ #[.int .i64 2, .int .u64 (Cls.one c).a, .int .u64 (Cls.one c).b, .int .u64 (Cls.one c).c, .int .u64 (Cls.one c).d, .slice none 0 0, .int .i64 0, .int .i64 0] _ _ Z6.out
  have rr : RdT q S dp _ (World.setRow w6 q1 #[.int .i64 2, .int .u64 (Cls.one c).a, .int .u64 (Cls.one c).b, .int .u64 (Cls.one c).c, .int .u64 (Cls.one c).d, .slice none 0 0, .int .i64 0, .int .i64 0]) := R6.out.keep KX.row (by have := HQQ.out; omega)
  have kk : KX q w (World.setRow w6 q1 #[.int .i64 2, .int .u64 (Cls.one c).a, .int .u64 (Cls.one c).b, .int .u64 (Cls.one c).c, .int .u64 (Cls.one c).d, .slice none 0 0, .int .i64 0, .int .i64 0]) := K6.out.trans' KX.row (by have := HQ1.out; omega)
  have ff : Fre w.heap.size (World.setRow w6 q1 #[.int .i64 2, .int .u64 (Cls.one c).a, .int .u64 (Cls.one c).b, .int .u64 (Cls.one c).c, .int .u64 (Cls.one c).d, .slice none 0 0, .int .i64 0, .int .i64 0]) (fun W => rxR (d + 1) W W.heap.size [.int .i64 2, .int .u64 (Cls.one c).a, .int .u64 (Cls.one c).b, .int .u64 (Cls.one c).c, .int .u64 (Cls.one c).d, .slice none 0 0, .int .i64 0, .int .i64 0] (Pat.ofCls (.one c))) := fun W _ _ => ⟨none, 0, 0, rfl, RowsAt.nil _ _⟩
  obtain ⟨w99, h99⟩ : ∃ W, W = World.setRow w6 q1 #[.int .i64 2, .int .u64 (Cls.one c).a, .int .u64 (Cls.one c).b, .int .u64 (Cls.one c).c, .int .u64 (Cls.one c).d, .slice none 0 0, .int .i64 0, .int .i64 0] := ⟨_, rfl⟩
  rw [← h99] at cc rr kk ff ⊢
  clear h99
  have k0 := boxc cc 0 _ rfl
  have k1 := boxc cc 1 _ rfl
  have k2 := boxc cc 2 _ rfl
  have k3 := boxc cc 3 _ rfl
  have k4 := boxc cc 4 _ rfl
  have k5 := boxc cc 5 _ rfl
  have k6 := boxc cc 6 _ rfl
  have k7 := boxc cc 7 _ rfl
  refine bodyPost_ret (v := .agg #[.int .i64 2, .int .u64 (Cls.one c).a, .int .u64 (Cls.one c).b, .int .u64 (Cls.one c).c, .int .u64 (Cls.one c).d, .slice none 0 0, .int .i64 0, .int .i64 0]) (by simp [results, Try.results65, go_sem, k0, k1, k2, k3, k4, k5, k6, k7]) rfl ?_
  show RfA _ _ _ _ _ _ _ _
  rw [HV.out]
  exact ⟨[.int .i64 2, .int .u64 (Cls.one c).a, .int .u64 (Cls.one c).b, .int .u64 (Cls.one c).c, .int .u64 (Cls.one c).d, .slice none 0 0, .int .i64 0, .int .i64 0], rfl, ff, rr, kk⟩
 have b45 : ((c : Int) == 45) = false := beq_eq_false_iff_ne.2 (by omega)
 by_cases h32 : 32 ≤ c
 ·
  have i32 : (32 : Int) ≤ (c : Int) := by omega
  by_cases h126 : c ≤ 126
  ·
   have i126 : (c : Int) ≤ 126 := by omega
   obtain ⟨sp, hsp⟩ : ∃ b, b = spc c := ⟨_, rfl⟩
   rw [← hsp] at HSP
   cases sp with
   | false =>
    have HCOND : c = 45 ∨ (32 ≤ c ∧ c ≤ 126 ∧ spc c = false) := Or.inr ⟨h32, h126, hsp.symm⟩
    clear hsp
    have HV : Hid (r = (Pat.ofCls (.one c), t.fwd)) := by show _ = _; rw [hr]; unfold onceB; rw [hb]; simp only; rw [if_neg h40, if_neg h91, if_neg h92, if_neg h46, if_pos HCOND]
    have HCL : Hid (∀ W, Calls Try.prog 68 #[.agg #[.int .u64 (Cls.one c).a, .int .u64 (Cls.one c).b, .int .u64 (Cls.one c).c, .int .u64 (Cls.one c).d]] W (fun e w' => e = .returned (.agg #[.int .i64 2, .int .u64 (Cls.one c).a, .int .u64 (Cls.one c).b, .int .u64 (Cls.one c).c, .int .u64 (Cls.one c).d, .slice none 0 0, .int .i64 0, .int .i64 0]) ∧ Below W.heap.size W w')) := fun W => rx_class (Cls.one c) W
    have HSG : Hid (∀ W, Calls Try.prog 73 #[.int .u8 c] W (fun e w' => e = .returned (.agg #[.int .u64 (Cls.one c).a, .int .u64 (Cls.one c).b, .int .u64 (Cls.one c).c, .int .u64 (Cls.one c).d]) ∧ Below W.heap.size W w')) := fun W => rx_single c W hc
    clear hr hb
    go_enter Try.func65, Try.ntmps65
    go_wp2_with fail
    rw [← HW3.out, ← HQ1.out]
    clear c0 c1 f1 c1w f1w c0w
    (with_reducible refine (HSP.out _).mono ?_)
    rintro e3 w3 ⟨rfl, h3⟩
    obtain rfl := h3.symm
    go_wp2_with fail
    (with_reducible refine (HSG.out _).mono ?_)
    rintro e5 w5 ⟨rfl, b5⟩
    have R5 := Lib.hid (R4.out.next b5)
    have K5 := Lib.hid (K4.out.next b5)
    have Z5 := Lib.hid ((b5.block _ (lt_of_block Z4.out)).trans Z4.out)
    clear b5
    go_wp2_with fail
    (with_reducible refine (HCL.out _).mono ?_)
    rintro e6 w6 ⟨rfl, b6⟩
    have R6 := Lib.hid (R5.out.next b6)
    have K6 := Lib.hid (K5.out.next b6)
    have Z6 := Lib.hid ((b6.block _ (lt_of_block Z5.out)).trans Z5.out)
    clear b6
    go_wp2_with ((with_reducible show wpList _ _ _ (Oper.mk _ (Op.store 27 (.tmp 2) _) _ _ _ _ :: _) _ _); refine wpList_store_row rfl 27 (.tmp 2) _ rfl (q1) #[.int .i64 2, .int .u64 (Cls.one c).a, .int .u64 (Cls.one c).b, .int .u64 (Cls.one c).c, .int .u64 (Cls.one c).d, .slice none 0 0, .int .i64 0, .int .i64 0] rfl rfl 27 #[.int .i64 0, .int .u64 0, .int .u64 0, .int .u64 0, .int .u64 0, .slice none 0 0, .int .i64 0, .int .i64 0] Z6.out rsize rfl (by simp [Value.oneCell']) ?_)
    have cc := setRow_heap _ q1 _ #[.int .i64 2, .int .u64 (Cls.one c).a, .int .u64 (Cls.one c).b, .int .u64 (Cls.one c).c, .int .u64 (Cls.one c).d, .slice none 0 0, .int .i64 0, .int .i64 0] _ _ Z6.out
    have rr : RdT q S dp _ (World.setRow w6 q1 #[.int .i64 2, .int .u64 (Cls.one c).a, .int .u64 (Cls.one c).b, .int .u64 (Cls.one c).c, .int .u64 (Cls.one c).d, .slice none 0 0, .int .i64 0, .int .i64 0]) := R6.out.keep KX.row (by have := HQQ.out; omega)
    have kk : KX q w (World.setRow w6 q1 #[.int .i64 2, .int .u64 (Cls.one c).a, .int .u64 (Cls.one c).b, .int .u64 (Cls.one c).c, .int .u64 (Cls.one c).d, .slice none 0 0, .int .i64 0, .int .i64 0]) := K6.out.trans' KX.row (by have := HQ1.out; omega)
    have ff : Fre w.heap.size (World.setRow w6 q1 #[.int .i64 2, .int .u64 (Cls.one c).a, .int .u64 (Cls.one c).b, .int .u64 (Cls.one c).c, .int .u64 (Cls.one c).d, .slice none 0 0, .int .i64 0, .int .i64 0]) (fun W => rxR (d + 1) W W.heap.size [.int .i64 2, .int .u64 (Cls.one c).a, .int .u64 (Cls.one c).b, .int .u64 (Cls.one c).c, .int .u64 (Cls.one c).d, .slice none 0 0, .int .i64 0, .int .i64 0] (Pat.ofCls (.one c))) := fun W _ _ => ⟨none, 0, 0, rfl, RowsAt.nil _ _⟩
    obtain ⟨w99, h99⟩ : ∃ W, W = World.setRow w6 q1 #[.int .i64 2, .int .u64 (Cls.one c).a, .int .u64 (Cls.one c).b, .int .u64 (Cls.one c).c, .int .u64 (Cls.one c).d, .slice none 0 0, .int .i64 0, .int .i64 0] := ⟨_, rfl⟩
    rw [← h99] at cc rr kk ff ⊢
    clear h99
    have k0 := boxc cc 0 _ rfl
    have k1 := boxc cc 1 _ rfl
    have k2 := boxc cc 2 _ rfl
    have k3 := boxc cc 3 _ rfl
    have k4 := boxc cc 4 _ rfl
    have k5 := boxc cc 5 _ rfl
    have k6 := boxc cc 6 _ rfl
    have k7 := boxc cc 7 _ rfl
    refine bodyPost_ret (v := .agg #[.int .i64 2, .int .u64 (Cls.one c).a, .int .u64 (Cls.one c).b, .int .u64 (Cls.one c).c, .int .u64 (Cls.one c).d, .slice none 0 0, .int .i64 0, .int .i64 0]) (by simp [results, Try.results65, go_sem, k0, k1, k2, k3, k4, k5, k6, k7]) rfl ?_
    show RfA _ _ _ _ _ _ _ _
    rw [HV.out]
    exact ⟨[.int .i64 2, .int .u64 (Cls.one c).a, .int .u64 (Cls.one c).b, .int .u64 (Cls.one c).c, .int .u64 (Cls.one c).d, .slice none 0 0, .int .i64 0, .int .i64 0], rfl, ff, rr, kk⟩
   | true =>
    have HCOND : ¬ (c = 45 ∨ (32 ≤ c ∧ c ≤ 126 ∧ spc c = false)) := by rw [← hsp]; simp; omega
    clear hsp
    have HV : Hid (r = (Pat.zero, t.fwd.fail t.p 9)) := by show _ = _; rw [hr]; unfold onceB; rw [hb]; simp only; rw [if_neg h40, if_neg h91, if_neg h92, if_neg h46, if_neg HCOND]
    clear hr hb
    go_enter Try.func65, Try.ntmps65
    go_wp2_with fail
    rw [← HW3.out, ← HQ1.out]
    clear c0 c1 f1 c1w f1w c0w
    (with_reducible refine (HSP.out _).mono ?_)
    rintro e3 w3 ⟨rfl, h3⟩
    obtain rfl := h3.symm
    go_wp2_with fail
    (with_reducible refine (HF.out _ R4.out).mono ?_)
    rintro e5 w5 ⟨rfl, r5, k5⟩
    have R5 := Lib.hid r5
    have K5 := Lib.hid (K4.out.trans k5)
    have Z5 := Lib.hid ((k5.2.2 q1 (lt_of_block Z4.out) (by have := HQQ.out; omega)).trans Z4.out)
    clear r5 k5
    go_wp2_with ((with_reducible show wpList _ _ _ (Oper.mk _ (Op.store 27 (.tmp 2) _) _ _ _ _ :: _) _ _); refine wpList_store_row rfl 27 (.tmp 2) _ rfl (q1) #[.int .i64 0, .int .u64 0, .int .u64 0, .int .u64 0, .int .u64 0, .slice none 0 0, .int .i64 0, .int .i64 0] rfl rfl 27 #[.int .i64 0, .int .u64 0, .int .u64 0, .int .u64 0, .int .u64 0, .slice none 0 0, .int .i64 0, .int .i64 0] Z5.out rsize rfl (by simp [Value.oneCell']) ?_)
    have cc := setRow_heap _ q1 _ #[.int .i64 0, .int .u64 0, .int .u64 0, .int .u64 0, .int .u64 0, .slice none 0 0, .int .i64 0, .int .i64 0] _ _ Z5.out
    have rr : RdT q S dp _ (World.setRow w5 q1 #[.int .i64 0, .int .u64 0, .int .u64 0, .int .u64 0, .int .u64 0, .slice none 0 0, .int .i64 0, .int .i64 0]) := R5.out.keep KX.row (by have := HQQ.out; omega)
    have kk : KX q w (World.setRow w5 q1 #[.int .i64 0, .int .u64 0, .int .u64 0, .int .u64 0, .int .u64 0, .slice none 0 0, .int .i64 0, .int .i64 0]) := K5.out.trans' KX.row (by have := HQ1.out; omega)
    have ff : Fre w.heap.size (World.setRow w5 q1 #[.int .i64 0, .int .u64 0, .int .u64 0, .int .u64 0, .int .u64 0, .slice none 0 0, .int .i64 0, .int .i64 0]) (fun W => rxR (d + 1) W W.heap.size [.int .i64 0, .int .u64 0, .int .u64 0, .int .u64 0, .int .u64 0, .slice none 0 0, .int .i64 0, .int .i64 0] Pat.zero) := fun W _ _ => ⟨none, 0, 0, rfl, RowsAt.nil _ _⟩
    obtain ⟨w99, h99⟩ : ∃ W, W = World.setRow w5 q1 #[.int .i64 0, .int .u64 0, .int .u64 0, .int .u64 0, .int .u64 0, .slice none 0 0, .int .i64 0, .int .i64 0] := ⟨_, rfl⟩
    rw [← h99] at cc rr kk ff ⊢
    clear h99
    have k0 := boxc cc 0 _ rfl
    have k1 := boxc cc 1 _ rfl
    have k2 := boxc cc 2 _ rfl
    have k3 := boxc cc 3 _ rfl
    have k4 := boxc cc 4 _ rfl
    have k5 := boxc cc 5 _ rfl
    have k6 := boxc cc 6 _ rfl
    have k7 := boxc cc 7 _ rfl
    refine bodyPost_ret (v := .agg #[.int .i64 0, .int .u64 0, .int .u64 0, .int .u64 0, .int .u64 0, .slice none 0 0, .int .i64 0, .int .i64 0]) (by simp [results, Try.results65, go_sem, k0, k1, k2, k3, k4, k5, k6, k7]) rfl ?_
    show RfA _ _ _ _ _ _ _ _
    rw [HV.out]
    exact ⟨[.int .i64 0, .int .u64 0, .int .u64 0, .int .u64 0, .int .u64 0, .slice none 0 0, .int .i64 0, .int .i64 0], rfl, ff, rr, kk⟩
  ·
   have i126 : ¬ (c : Int) ≤ 126 := by omega
   have HCOND : ¬ (c = 45 ∨ (32 ≤ c ∧ c ≤ 126 ∧ spc c = false)) := by omega
   have HV : Hid (r = (Pat.zero, t.fwd.fail t.p 9)) := by show _ = _; rw [hr]; unfold onceB; rw [hb]; simp only; rw [if_neg h40, if_neg h91, if_neg h92, if_neg h46, if_neg HCOND]
   clear hr hb
   go_enter Try.func65, Try.ntmps65
   go_wp2_with fail
   rw [← HW3.out, ← HQ1.out]
   clear c0 c1 f1 c1w f1w c0w
   (with_reducible refine (HF.out _ R4.out).mono ?_)
   rintro e5 w5 ⟨rfl, r5, k5⟩
   have R5 := Lib.hid r5
   have K5 := Lib.hid (K4.out.trans k5)
   have Z5 := Lib.hid ((k5.2.2 q1 (lt_of_block Z4.out) (by have := HQQ.out; omega)).trans Z4.out)
   clear r5 k5
   go_wp2_with ((with_reducible show wpList _ _ _ (Oper.mk _ (Op.store 27 (.tmp 2) _) _ _ _ _ :: _) _ _); refine wpList_store_row rfl 27 (.tmp 2) _ rfl (q1) #[.int .i64 0, .int .u64 0, .int .u64 0, .int .u64 0, .int .u64 0, .slice none 0 0, .int .i64 0, .int .i64 0] rfl rfl 27 #[.int .i64 0, .int .u64 0, .int .u64 0, .int .u64 0, .int .u64 0, .slice none 0 0, .int .i64 0, .int .i64 0] Z5.out rsize rfl (by simp [Value.oneCell']) ?_)
   have cc := setRow_heap _ q1 _ #[.int .i64 0, .int .u64 0, .int .u64 0, .int .u64 0, .int .u64 0, .slice none 0 0, .int .i64 0, .int .i64 0] _ _ Z5.out
   have rr : RdT q S dp _ (World.setRow w5 q1 #[.int .i64 0, .int .u64 0, .int .u64 0, .int .u64 0, .int .u64 0, .slice none 0 0, .int .i64 0, .int .i64 0]) := R5.out.keep KX.row (by have := HQQ.out; omega)
   have kk : KX q w (World.setRow w5 q1 #[.int .i64 0, .int .u64 0, .int .u64 0, .int .u64 0, .int .u64 0, .slice none 0 0, .int .i64 0, .int .i64 0]) := K5.out.trans' KX.row (by have := HQ1.out; omega)
   have ff : Fre w.heap.size (World.setRow w5 q1 #[.int .i64 0, .int .u64 0, .int .u64 0, .int .u64 0, .int .u64 0, .slice none 0 0, .int .i64 0, .int .i64 0]) (fun W => rxR (d + 1) W W.heap.size [.int .i64 0, .int .u64 0, .int .u64 0, .int .u64 0, .int .u64 0, .slice none 0 0, .int .i64 0, .int .i64 0] Pat.zero) := fun W _ _ => ⟨none, 0, 0, rfl, RowsAt.nil _ _⟩
   obtain ⟨w99, h99⟩ : ∃ W, W = World.setRow w5 q1 #[.int .i64 0, .int .u64 0, .int .u64 0, .int .u64 0, .int .u64 0, .slice none 0 0, .int .i64 0, .int .i64 0] := ⟨_, rfl⟩
   rw [← h99] at cc rr kk ff ⊢
   clear h99
   have k0 := boxc cc 0 _ rfl
   have k1 := boxc cc 1 _ rfl
   have k2 := boxc cc 2 _ rfl
   have k3 := boxc cc 3 _ rfl
   have k4 := boxc cc 4 _ rfl
   have k5 := boxc cc 5 _ rfl
   have k6 := boxc cc 6 _ rfl
   have k7 := boxc cc 7 _ rfl
   refine bodyPost_ret (v := .agg #[.int .i64 0, .int .u64 0, .int .u64 0, .int .u64 0, .int .u64 0, .slice none 0 0, .int .i64 0, .int .i64 0]) (by simp [results, Try.results65, go_sem, k0, k1, k2, k3, k4, k5, k6, k7]) rfl ?_
   show RfA _ _ _ _ _ _ _ _
   rw [HV.out]
   exact ⟨[.int .i64 0, .int .u64 0, .int .u64 0, .int .u64 0, .int .u64 0, .slice none 0 0, .int .i64 0, .int .i64 0], rfl, ff, rr, kk⟩
 ·
  have i32 : ¬ (32 : Int) ≤ (c : Int) := by omega
  have HCOND : ¬ (c = 45 ∨ (32 ≤ c ∧ c ≤ 126 ∧ spc c = false)) := by omega
  have HV : Hid (r = (Pat.zero, t.fwd.fail t.p 9)) := by show _ = _; rw [hr]; unfold onceB; rw [hb]; simp only; rw [if_neg h40, if_neg h91, if_neg h92, if_neg h46, if_neg HCOND]
  clear hr hb
  go_enter Try.func65, Try.ntmps65
  go_wp2_with fail
  rw [← HW3.out, ← HQ1.out]
  clear c0 c1 f1 c1w f1w c0w
  (with_reducible refine (HF.out _ R4.out).mono ?_)
  rintro e5 w5 ⟨rfl, r5, k5⟩
  have R5 := Lib.hid r5
  have K5 := Lib.hid (K4.out.trans k5)
  have Z5 := Lib.hid ((k5.2.2 q1 (lt_of_block Z4.out) (by have := HQQ.out; omega)).trans Z4.out)
  clear r5 k5
  go_wp2_with ((with_reducible show wpList _ _ _ (Oper.mk _ (Op.store 27 (.tmp 2) _) _ _ _ _ :: _) _ _); refine wpList_store_row rfl 27 (.tmp 2) _ rfl (q1) #[.int .i64 0, .int .u64 0, .int .u64 0, .int .u64 0, .int .u64 0, .slice none 0 0, .int .i64 0, .int .i64 0] rfl rfl 27 #[.int .i64 0, .int .u64 0, .int .u64 0, .int .u64 0, .int .u64 0, .slice none 0 0, .int .i64 0, .int .i64 0] Z5.out rsize rfl (by simp [Value.oneCell']) ?_)
  have cc := setRow_heap _ q1 _ #[.int .i64 0, .int .u64 0, .int .u64 0, .int .u64 0, .int .u64 0, .slice none 0 0, .int .i64 0, .int .i64 0] _ _ Z5.out
  have rr : RdT q S dp _ (World.setRow w5 q1 #[.int .i64 0, .int .u64 0, .int .u64 0, .int .u64 0, .int .u64 0, .slice none 0 0, .int .i64 0, .int .i64 0]) := R5.out.keep KX.row (by have := HQQ.out; omega)
  have kk : KX q w (World.setRow w5 q1 #[.int .i64 0, .int .u64 0, .int .u64 0, .int .u64 0, .int .u64 0, .slice none 0 0, .int .i64 0, .int .i64 0]) := K5.out.trans' KX.row (by have := HQ1.out; omega)
  have ff : Fre w.heap.size (World.setRow w5 q1 #[.int .i64 0, .int .u64 0, .int .u64 0, .int .u64 0, .int .u64 0, .slice none 0 0, .int .i64 0, .int .i64 0]) (fun W => rxR (d + 1) W W.heap.size [.int .i64 0, .int .u64 0, .int .u64 0, .int .u64 0, .int .u64 0, .slice none 0 0, .int .i64 0, .int .i64 0] Pat.zero) := fun W _ _ => ⟨none, 0, 0, rfl, RowsAt.nil _ _⟩
  obtain ⟨w99, h99⟩ : ∃ W, W = World.setRow w5 q1 #[.int .i64 0, .int .u64 0, .int .u64 0, .int .u64 0, .int .u64 0, .slice none 0 0, .int .i64 0, .int .i64 0] := ⟨_, rfl⟩
  rw [← h99] at cc rr kk ff ⊢
  clear h99
  have k0 := boxc cc 0 _ rfl
  have k1 := boxc cc 1 _ rfl
  have k2 := boxc cc 2 _ rfl
  have k3 := boxc cc 3 _ rfl
  have k4 := boxc cc 4 _ rfl
  have k5 := boxc cc 5 _ rfl
  have k6 := boxc cc 6 _ rfl
  have k7 := boxc cc 7 _ rfl
  refine bodyPost_ret (v := .agg #[.int .i64 0, .int .u64 0, .int .u64 0, .int .u64 0, .int .u64 0, .slice none 0 0, .int .i64 0, .int .i64 0]) (by simp [results, Try.results65, go_sem, k0, k1, k2, k3, k4, k5, k6, k7]) rfl ?_
  show RfA _ _ _ _ _ _ _ _
  rw [HV.out]
  exact ⟨[.int .i64 0, .int .u64 0, .int .u64 0, .int .u64 0, .int .u64 0, .slice none 0 0, .int .i64 0, .int .i64 0], rfl, ff, rr, kk⟩
end Go.Proofs.Ytmfgplbfojnkdaa
