/- texts put together: RfSng. -/
import Derived.Test.YtmfgplbfojnkdaaNf13
namespace Go.Proofs.Ytmfgplbfojnkdaa
open Go Go.RowKit Go.ChangeShapes cl rx
open rf
set_option maxRecDepth 100000 in
theorem ix_four : ∀ c : Nat, c < 256 → (0 ≤ Lib.indexByte [91, 93, 94, 45] (c : Int).toNat.toUInt8 ↔ (c = 91 ∨ c = 93 ∨ c = 94 ∨ c = 45)) := by decide +kernel
set_option maxHeartbeats 12800000 in
set_option maxRecDepth 100000 in
theorem rf_single (q : Nat) (S : ByteArray) (dp : Int) (t : T) (w : World) (h : RdT q S dp t w) (hS : S.size ≤ 60) (hp : t.p < S.size) : Calls Try.prog 81 #[.pointer (some ⟨q, 0, none⟩)] w (fun e w' => e = .returned (.tuple #[.agg #[.int .u64 (rf.single (kit.bytes S) t).1.1.a, .int .u64 (rf.single (kit.bytes S) t).1.1.b, .int .u64 (rf.single (kit.bytes S) t).1.1.c, .int .u64 (rf.single (kit.bytes S) t).1.1.d], .int .u8 ((rf.single (kit.bytes S) t).1.2.1 : Nat), .bool (rf.single (kit.bytes S) t).1.2.2]) ∧ RKT q S dp (rf.single (kit.bytes S) t).2 w w') := by
 obtain ⟨c, hb, hcE⟩ : ∃ c, (kit.bytes S)[t.p]? = some c ∧ c = (S[t.p]'hp).toNat := ⟨_, byte_at hp, rfl⟩
 have hc : c < 256 := kit.bytes_lt S c (List.mem_of_getElem? hb)
 obtain ⟨p, hpp⟩ : ∃ p, p = t.p := ⟨_, rfl⟩
 have hp' : p < S.size := by rw [hpp]; exact hp
 have hcE' : (S[p]'hp').toNat = c := by rw [hcE]; simp only [hpp]
 have hpi : (p : Int) < (S.size : Int) := by omega
 obtain ⟨r, hr⟩ : ∃ r, r = rf.single (kit.bytes S) t := ⟨_, rfl⟩
 rw [← hr]
 obtain ⟨q1, hq1⟩ : ∃ q1, q1 = w.heap.size := ⟨_, rfl⟩
 have hqq : q < q1 := by rw [hq1]; exact lt_of_block h
 have hA := below1 (w := w) (o := .cells #[.int .u64 0, .int .u64 0, .int .u64 0, .int .u64 0] 24)
 have x1 := (hA.block q (by rw [← hq1]; exact hqq)).trans h.box
 have c1 : (w.alloc (.cells #[.int .u64 0, .int .u64 0, .int .u64 0, .int .u64 0] 24)).cell? ⟨q, 1, none⟩ = some (.int .i64 (p : Int)) := by rw [hpp]; exact boxc x1 1 _ rfl
 have c0 : (w.alloc (.cells #[.int .u64 0, .int .u64 0, .int .u64 0, .int .u64 0] 24)).cell? ⟨q, 0, none⟩ = some (.string S) := boxc x1 0 _ rfl
 have c1w : w.cell? ⟨q, 1, none⟩ = some (.int .i64 (p : Int)) := by rw [hpp]; exact boxc h.box 1 _ rfl
 have f1 : (w.alloc (.cells #[.int .u64 0, .int .u64 0, .int .u64 0, .int .u64 0] 24)).frozen? ⟨q, 1, none⟩ = false := boxf x1 1
 have f1w : w.frozen? ⟨q, 1, none⟩ = false := boxf h.box 1
 have c0w : w.cell? ⟨q, 0, none⟩ = some (.string S) := boxc h.box 0 _ rfl
 obtain ⟨W3, hW3⟩ : ∃ W, W = (w.alloc (.cells #[.int .u64 0, .int .u64 0, .int .u64 0, .int .u64 0] 24)).setCell ⟨q, 1, none⟩ (.int .i64 ((p : Int) + 1)) := ⟨_, rfl⟩
 have R4 : Hid (RdT q S dp t.fwd W3) := by show RdT _ _ _ _ _; rw [hW3, hpp]; exact heap_setCell_same _ q 1 _ _ _ x1
 have K4 : Hid (KX q w W3) := by show KX q w W3; rw [hW3]; exact (KX.of hA).trans KX.cell
 have Z4 : Hid (W3.heap[q1]? = some (.cells #[.int .u64 0, .int .u64 0, .int .u64 0, .int .u64 0] 24)) := by
  show _ = _
  rw [hW3, heap_setCell_other _ _ _ _ (by show q1 ≠ q; omega), hq1]; exact heap_alloc_new _ _
 have HW3 := Lib.hid hW3
 have HQ1 := Lib.hid hq1
 have HQQ := Lib.hid hqq
 have HSG : Hid (∀ W, Calls Try.prog 73 #[.int .u8 c] W (fun e w' => e = .returned (.agg #[.int .u64 (Cls.one c).a, .int .u64 (Cls.one c).b, .int .u64 (Cls.one c).c, .int .u64 (Cls.one c).d]) ∧ Below W.heap.size W w')) := fun W => rx_single c W hc
 have HF : Hid (∀ W, RdT q S dp t.fwd W → Calls Try.prog 55 #[.pointer (some ⟨q, 0, none⟩), .int .i64 (p : Int), .int .i64 9] W (fun e w' => e = .returned (.tuple #[]) ∧ RKT q S dp (t.fwd.fail t.p 9) W w')) := fun W hW => by rw [hpp]; exact rf_fail q S dp t.fwd t.p 9 W hW
 have HIX : Hid (∀ W, Calls Try.prog 79 #[.string ⟨#[91, 93, 94, 45]⟩, .int .u8 c] W (fun e w' => e = .returned (.int .i64 (Lib.indexByte [91, 93, 94, 45] (c : Int).toNat.toUInt8)) ∧ w' = W)) := fun W => Try.strings_IndexByte ⟨#[91, 93, 94, 45]⟩ (c : Int) W
 obtain ⟨z, hz⟩ : ∃ z, z = Lib.indexByte [91, 93, 94, 45] (c : Int).toNat.toUInt8 := ⟨_, rfl⟩
 have hz4 := ix_four c hc
 rw [← hz] at hz4 HIX
 have HPP := Lib.hid hpp
 clear h hA x1 hW3 hq1 hqq hcE hz
 by_cases h92 : c = 92
 ·
  obtain ⟨k, n, o, t1, hes⟩ : ∃ k n o t1, rf.escape (kit.bytes S) t.p t.fwd = ((k, n, o), t1) := ⟨_, _, _, _, rfl⟩
  have HES : Hid (∀ W, RdT q S dp t.fwd W → Calls Try.prog 70 #[.pointer (some ⟨q, 0, none⟩), .int .i64 (p : Int)] W (fun e w' => e = .returned (.tuple #[.agg #[.int .u64 k.a, .int .u64 k.b, .int .u64 k.c, .int .u64 k.d], .int .u8 (n : Int), .bool o]) ∧ RKT q S dp t1 W w')) := fun W hW => by have h := rf_escape q S dp t.fwd t.p W hW hS; rw [hes] at h; rw [hpp]; exact h
  have b92 : ((c : Int) == 92) = true := by simp [h92]
  have HV : Hid (r = ((k, n, o), t1)) := by show _ = _; rw [hr]; unfold rf.single; rw [hb]; simp only; rw [if_pos h92, hes]
  clear hpp hz4
  clear hr hb hes h92
  go_enter Try.func81, Try.ntmps81
  go_wp2_with fail
  rw [← HW3.out, ← HQ1.out]
  (with_reducible refine (HES.out _ R4.out).mono ?_)
  rintro e8 w8 ⟨rfl, r8, k8⟩
  have R8 := Lib.hid r8
  have K8 := Lib.hid (K4.out.trans k8)
  have Z8 := Lib.hid ((k8.2.2 q1 (lt_of_block Z4.out) (by have := HQQ.out; omega)).trans Z4.out)
  clear r8 k8
  go_wp2_with ((with_reducible show wpList _ _ _ (Oper.mk _ (Op.store 24 (.tmp 2) _) _ _ _ _ :: _) _ _); refine wpList_store_row rfl 24 (.tmp 2) _ rfl (q1) #[.int .u64 k.a, .int .u64 k.b, .int .u64 k.c, .int .u64 k.d] rfl rfl 24 #[.int .u64 0, .int .u64 0, .int .u64 0, .int .u64 0] Z8.out clsize rfl (by simp [Value.oneCell']) ?_)
  have cc := setRow_heap _ q1 _ #[.int .u64 k.a, .int .u64 k.b, .int .u64 k.c, .int .u64 k.d] _ _ Z8.out
  have rr : RdT q S dp _ (World.setRow w8 q1 #[.int .u64 k.a, .int .u64 k.b, .int .u64 k.c, .int .u64 k.d]) := R8.out.keep KX.row (by have := HQQ.out; omega)
  have kk : KX q w (World.setRow w8 q1 #[.int .u64 k.a, .int .u64 k.b, .int .u64 k.c, .int .u64 k.d]) := K8.out.trans' KX.row (by have := HQ1.out; omega)
  obtain ⟨w99, h99⟩ : ∃ W, W = World.setRow w8 q1 #[.int .u64 k.a, .int .u64 k.b, .int .u64 k.c, .int .u64 k.d] := ⟨_, rfl⟩
  rw [← h99] at cc rr kk ⊢
  clear h99
  have k0 := boxc cc 0 _ rfl
  have k1 := boxc cc 1 _ rfl
  have k2 := boxc cc 2 _ rfl
  have k3 := boxc cc 3 _ rfl
  refine bodyPost_ret (v := .tuple #[.agg #[.int .u64 k.a, .int .u64 k.b, .int .u64 k.c, .int .u64 k.d], .int .u8 n, .bool o]) (by simp [results, Try.results81, go_sem, k0, k1, k2, k3]) rfl ⟨by rw [HV.out]; try rfl, by rw [HV.out]; exact rr, kk⟩
 have b92 : ((c : Int) == 92) = false := beq_eq_false_iff_ne.2 (by omega)
 clear hpp
 by_cases h32 : c < 32
 ·
  have i32 : (c : Int) < 32 := by omega
  have HV : Hid (r = ((Cls.zero, 0, false), t.fwd.fail t.p 9)) := by show _ = _; rw [hr]; unfold rf.single; rw [hb]; simp only; rw [if_neg h92, if_pos (Or.inl h32)]
  clear hr hb hz4 h92
  go_enter Try.func81, Try.ntmps81
  go_wp2_with fail
  rw [← HW3.out, ← HQ1.out]
  (with_reducible refine (HF.out _ R4.out).mono ?_)
  rintro e8 w8 ⟨rfl, r8, k8⟩
  have R8 := Lib.hid r8
  have K8 := Lib.hid (K4.out.trans k8)
  have Z8 := Lib.hid ((k8.2.2 q1 (lt_of_block Z4.out) (by have := HQQ.out; omega)).trans Z4.out)
  clear r8 k8
  go_wp2_with ((with_reducible show wpList _ _ _ (Oper.mk _ (Op.store 24 (.tmp 2) _) _ _ _ _ :: _) _ _); refine wpList_store_row rfl 24 (.tmp 2) _ rfl (q1) #[.int .u64 0, .int .u64 0, .int .u64 0, .int .u64 0] rfl rfl 24 #[.int .u64 0, .int .u64 0, .int .u64 0, .int .u64 0] Z8.out clsize rfl (by simp [Value.oneCell']) ?_)
  have cc := setRow_heap _ q1 _ #[.int .u64 0, .int .u64 0, .int .u64 0, .int .u64 0] _ _ Z8.out
  have rr : RdT q S dp _ (World.setRow w8 q1 #[.int .u64 0, .int .u64 0, .int .u64 0, .int .u64 0]) := R8.out.keep KX.row (by have := HQQ.out; omega)
  have kk : KX q w (World.setRow w8 q1 #[.int .u64 0, .int .u64 0, .int .u64 0, .int .u64 0]) := K8.out.trans' KX.row (by have := HQ1.out; omega)
  obtain ⟨w99, h99⟩ : ∃ W, W = World.setRow w8 q1 #[.int .u64 0, .int .u64 0, .int .u64 0, .int .u64 0] := ⟨_, rfl⟩
  rw [← h99] at cc rr kk ⊢
  clear h99
  have k0 := boxc cc 0 _ rfl
  have k1 := boxc cc 1 _ rfl
  have k2 := boxc cc 2 _ rfl
  have k3 := boxc cc 3 _ rfl
  refine bodyPost_ret (v := .tuple #[.agg #[.int .u64 0, .int .u64 0, .int .u64 0, .int .u64 0], .int .u8 0, .bool false]) (by simp [results, Try.results81, go_sem, k0, k1, k2, k3]) rfl ⟨by rw [HV.out]; try rfl, by rw [HV.out]; exact rr, kk⟩
 have i32 : ¬ (c : Int) < 32 := by omega
 by_cases h126 : 126 < c
 ·
  have i126 : (126 : Int) < (c : Int) := by omega
  have HV : Hid (r = ((Cls.zero, 0, false), t.fwd.fail t.p 9)) := by show _ = _; rw [hr]; unfold rf.single; rw [hb]; simp only; rw [if_neg h92, if_pos (Or.inr (Or.inl h126))]
  clear hr hb hz4 h92
  go_enter Try.func81, Try.ntmps81
  go_wp2_with fail
  rw [← HW3.out, ← HQ1.out]
  (with_reducible refine (HF.out _ R4.out).mono ?_)
  rintro e8 w8 ⟨rfl, r8, k8⟩
  have R8 := Lib.hid r8
  have K8 := Lib.hid (K4.out.trans k8)
  have Z8 := Lib.hid ((k8.2.2 q1 (lt_of_block Z4.out) (by have := HQQ.out; omega)).trans Z4.out)
  clear r8 k8
  go_wp2_with ((with_reducible show wpList _ _ _ (Oper.mk _ (Op.store 24 (.tmp 2) _) _ _ _ _ :: _) _ _); refine wpList_store_row rfl 24 (.tmp 2) _ rfl (q1) #[.int .u64 0, .int .u64 0, .int .u64 0, .int .u64 0] rfl rfl 24 #[.int .u64 0, .int .u64 0, .int .u64 0, .int .u64 0] Z8.out clsize rfl (by simp [Value.oneCell']) ?_)
  have cc := setRow_heap _ q1 _ #[.int .u64 0, .int .u64 0, .int .u64 0, .int .u64 0] _ _ Z8.out
  have rr : RdT q S dp _ (World.setRow w8 q1 #[.int .u64 0, .int .u64 0, .int .u64 0, .int .u64 0]) := R8.out.keep KX.row (by have := HQQ.out; omega)
  have kk : KX q w (World.setRow w8 q1 #[.int .u64 0, .int .u64 0, .int .u64 0, .int .u64 0]) := K8.out.trans' KX.row (by have := HQ1.out; omega)
  obtain ⟨w99, h99⟩ : ∃ W, W = World.setRow w8 q1 #[.int .u64 0, .int .u64 0, .int .u64 0, .int .u64 0] := ⟨_, rfl⟩
  rw [← h99] at cc rr kk ⊢
  clear h99
  have k0 := boxc cc 0 _ rfl
  have k1 := boxc cc 1 _ rfl
  have k2 := boxc cc 2 _ rfl
  have k3 := boxc cc 3 _ rfl
  refine bodyPost_ret (v := .tuple #[.agg #[.int .u64 0, .int .u64 0, .int .u64 0, .int .u64 0], .int .u8 0, .bool false]) (by simp [results, Try.results81, go_sem, k0, k1, k2, k3]) rfl ⟨by rw [HV.out]; try rfl, by rw [HV.out]; exact rr, kk⟩
 have i126 : ¬ (126 : Int) < (c : Int) := by omega
 have mid : True := trivial
 clear mid
 by_cases hzz : 0 ≤ z
 ·
  have h4 := hz4.1 hzz
  have HV : Hid (r = ((Cls.zero, 0, false), t.fwd.fail t.p 9)) := by show _ = _; rw [hr]; unfold rf.single; rw [hb]; simp only; rw [if_neg h92, if_pos (Or.inr (Or.inr h4))]
  clear hr hb hz4 h4 h92
  go_enter Try.func81, Try.ntmps81
  go_wp2_with fail
  rw [← HW3.out, ← HQ1.out]
  (with_reducible refine (HIX.out _).mono ?_)
  rintro e3 w3 ⟨rfl, h3⟩
  obtain rfl := h3.symm
  go_wp2_with fail
  (with_reducible refine (HF.out _ R4.out).mono ?_)
  rintro e8 w8 ⟨rfl, r8, k8⟩
  have R8 := Lib.hid r8
  have K8 := Lib.hid (K4.out.trans k8)
  have Z8 := Lib.hid ((k8.2.2 q1 (lt_of_block Z4.out) (by have := HQQ.out; omega)).trans Z4.out)
  clear r8 k8
  go_wp2_with ((with_reducible show wpList _ _ _ (Oper.mk _ (Op.store 24 (.tmp 2) _) _ _ _ _ :: _) _ _); refine wpList_store_row rfl 24 (.tmp 2) _ rfl (q1) #[.int .u64 0, .int .u64 0, .int .u64 0, .int .u64 0] rfl rfl 24 #[.int .u64 0, .int .u64 0, .int .u64 0, .int .u64 0] Z8.out clsize rfl (by simp [Value.oneCell']) ?_)
  have cc := setRow_heap _ q1 _ #[.int .u64 0, .int .u64 0, .int .u64 0, .int .u64 0] _ _ Z8.out
  have rr : RdT q S dp _ (World.setRow w8 q1 #[.int .u64 0, .int .u64 0, .int .u64 0, .int .u64 0]) := R8.out.keep KX.row (by have := HQQ.out; omega)
  have kk : KX q w (World.setRow w8 q1 #[.int .u64 0, .int .u64 0, .int .u64 0, .int .u64 0]) := K8.out.trans' KX.row (by have := HQ1.out; omega)
  obtain ⟨w99, h99⟩ : ∃ W, W = World.setRow w8 q1 #[.int .u64 0, .int .u64 0, .int .u64 0, .int .u64 0] := ⟨_, rfl⟩
  rw [← h99] at cc rr kk ⊢
  clear h99
  have k0 := boxc cc 0 _ rfl
  have k1 := boxc cc 1 _ rfl
  have k2 := boxc cc 2 _ rfl
  have k3 := boxc cc 3 _ rfl
  refine bodyPost_ret (v := .tuple #[.agg #[.int .u64 0, .int .u64 0, .int .u64 0, .int .u64 0], .int .u8 0, .bool false]) (by simp [results, Try.results81, go_sem, k0, k1, k2, k3]) rfl ⟨by rw [HV.out]; try rfl, by rw [HV.out]; exact rr, kk⟩
 ·
  have h4 : ¬ (c = 91 ∨ c = 93 ∨ c = 94 ∨ c = 45) := fun h => hzz (hz4.2 h)
  have HV : Hid (r = ((Cls.one c, c, true), t.fwd)) := by show _ = _; rw [hr]; unfold rf.single; rw [hb]; simp only; rw [if_neg h92, if_neg (fun h => h.elim h32 (fun h => h.elim h126 h4))]
  clear hr hb hz4 h4 h92
  go_enter Try.func81, Try.ntmps81
  go_wp2_with fail
  rw [← HW3.out, ← HQ1.out]
  (with_reducible refine (HIX.out _).mono ?_)
  rintro e3 w3 ⟨rfl, h3⟩
  obtain rfl := h3.symm
  go_wp2_with fail
  (with_reducible refine (HSG.out _).mono ?_)
  rintro e8 w8 ⟨rfl, b8⟩
  have R8 := Lib.hid (R4.out.next b8)
  have K8 := Lib.hid (K4.out.next b8)
  have Z8 := Lib.hid ((b8.block _ (lt_of_block Z4.out)).trans Z4.out)
  clear b8
  go_wp2_with ((with_reducible show wpList _ _ _ (Oper.mk _ (Op.store 24 (.tmp 2) _) _ _ _ _ :: _) _ _); refine wpList_store_row rfl 24 (.tmp 2) _ rfl (q1) #[.int .u64 (Cls.one c).a, .int .u64 (Cls.one c).b, .int .u64 (Cls.one c).c, .int .u64 (Cls.one c).d] rfl rfl 24 #[.int .u64 0, .int .u64 0, .int .u64 0, .int .u64 0] Z8.out clsize rfl (by simp [Value.oneCell']) ?_)
  have cc := setRow_heap _ q1 _ #[.int .u64 (Cls.one c).a, .int .u64 (Cls.one c).b, .int .u64 (Cls.one c).c, .int .u64 (Cls.one c).d] _ _ Z8.out
  have rr : RdT q S dp _ (World.setRow w8 q1 #[.int .u64 (Cls.one c).a, .int .u64 (Cls.one c).b, .int .u64 (Cls.one c).c, .int .u64 (Cls.one c).d]) := R8.out.keep KX.row (by have := HQQ.out; omega)
  have kk : KX q w (World.setRow w8 q1 #[.int .u64 (Cls.one c).a, .int .u64 (Cls.one c).b, .int .u64 (Cls.one c).c, .int .u64 (Cls.one c).d]) := K8.out.trans' KX.row (by have := HQ1.out; omega)
  obtain ⟨w99, h99⟩ : ∃ W, W = World.setRow w8 q1 #[.int .u64 (Cls.one c).a, .int .u64 (Cls.one c).b, .int .u64 (Cls.one c).c, .int .u64 (Cls.one c).d] := ⟨_, rfl⟩
  rw [← h99] at cc rr kk ⊢
  clear h99
  have k0 := boxc cc 0 _ rfl
  have k1 := boxc cc 1 _ rfl
  have k2 := boxc cc 2 _ rfl
  have k3 := boxc cc 3 _ rfl
  refine bodyPost_ret (v := .tuple #[.agg #[.int .u64 (Cls.one c).a, .int .u64 (Cls.one c).b, .int .u64 (Cls.one c).c, .int .u64 (Cls.one c).d], .int .u8 c, .bool true]) (by simp [results, Try.results81, go_sem, k0, k1, k2, k3]) rfl ⟨by rw [HV.out]; try rfl, by rw [HV.out]; exact rr, kk⟩
end Go.Proofs.Ytmfgplbfojnkdaa
