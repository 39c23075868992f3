/- texts put together: RrMem. -/
import Derived.Test.YtbccejlemhgioaaPa15
namespace Go.Proofs.Ytbccejlemhgioaa
open Go Go.RowKit Go.ChangeShapes cl rx
open rf
set_option maxHeartbeats 25600000 in
set_option maxRecDepth 100000 in
set_option linter.unusedSimpArgs false in
theorem rr_member (S : ByteArray) (r : rr.R) (w : World) (hS : S.size ≤ 60) (hp : r.p < S.size) : Calls Try.prog 62 #[.agg #[.string S, .int .i64 ((r).p : Int), .int .i64 (r).co]] w (fun e w' => e = .returned (.tuple #[.agg #[.string S, .int .i64 (((rr.member (kit.bytes S) r).1).p : Int), .int .i64 ((rr.member (kit.bytes S) r).1).co], .agg #[.int .u64 (rr.member (kit.bytes S) r).2.1.a, .int .u64 (rr.member (kit.bytes S) r).2.1.b, .int .u64 (rr.member (kit.bytes S) r).2.1.c, .int .u64 (rr.member (kit.bytes S) r).2.1.d], .int .u8 (rr.member (kit.bytes S) r).2.2.1, .bool (rr.member (kit.bytes S) r).2.2.2]) ∧ Below w.heap.size w w') := by
 obtain ⟨m, hm⟩ : ∃ m, m = rr.member (kit.bytes S) r := ⟨_, rfl⟩
 rw [← hm]
 unfold rr.member at hm
 have HFA : Hid (∀ (x : rr.R) (a : Nat) (co : Int) (W : World), Calls Try.prog 23 #[.agg #[.string S, .int .i64 ((x).p : Int), .int .i64 (x).co], .int .i64 a, .int .i64 co] W (fun e w' => e = .returned (.agg #[.string S, .int .i64 (((x.fail a co)).p : Int), .int .i64 ((x.fail a co)).co]) ∧ Below W.heap.size W w')) := fun x a co W => rr_fail S x a co W
 have hpi : (r.p : Int) < (S.size : Int) := by omega
 obtain ⟨z, hz⟩ : ∃ z, z = (S[r.p]'hp).toNat := ⟨_, rfl⟩
 have hby : (kit.bytes S)[r.p]? = some z := by rw [byte_at hp, hz]
 have hz8 : z < 256 := kit.bytes_lt S z (List.mem_of_getElem? hby)
 replace hz := hz.symm
 rw [hby] at hm
 simp only at hm
 have HM := Lib.hid hm
 clear hby hm
 by_cases g1 : z = 92
 ·
  have HE : Hid (∀ W : World, Calls Try.prog 53 #[.agg #[.string S, .int .i64 ((r).p : Int), .int .i64 (r).co]] W (fun e w' => e = .returned (.tuple #[.agg #[.string S, .int .i64 ((m.1).p : Int), .int .i64 (m.1).co], .agg #[.int .u64 m.2.1.a, .int .u64 m.2.1.b, .int .u64 m.2.1.c, .int .u64 m.2.1.d], .int .u8 m.2.2.1, .bool m.2.2.2]) ∧ Below W.heap.size W w')) := fun W => by rw [HM.out, if_pos g1]; exact rr_escape S r W hS hp
  obtain ⟨r9, hr9⟩ : ∃ x, x = m.1 := ⟨_, rfl⟩
  obtain ⟨cl, hcl⟩ : ∃ x, x = m.2.1 := ⟨_, rfl⟩
  obtain ⟨v, hv⟩ : ∃ x, x = m.2.2.1 := ⟨_, rfl⟩
  obtain ⟨b, hb⟩ : ∃ x, x = m.2.2.2 := ⟨_, rfl⟩
  rw [← hr9, ← hcl, ← hv, ← hb] at HE ⊢
  have j1 : ((z : Int) == 92) = true := by rw [g1]; rfl
  clear g1 hr9 hcl hv hb
  obtain ⟨q, hq⟩ : ∃ q, q = w.heap.size := ⟨_, rfl⟩
  obtain ⟨q2, hq2⟩ : ∃ q2, q2 = w.heap.size + 1 := ⟨_, rfl⟩
  obtain ⟨q3, hq3⟩ : ∃ q3, q3 = w.heap.size + 1 + 1 := ⟨_, rfl⟩
  obtain ⟨W3, hW3⟩ : ∃ W, W = ((w.alloc (.cells #[.string S, .int .i64 ((r).p : Int), .int .i64 (r).co] 48)).alloc (.cells #[.string ⟨#[]⟩, .int .i64 0, .int .i64 0] 48)).alloc (.cells #[.int .u64 0, .int .u64 0, .int .u64 0, .int .u64 0] 25) := ⟨_, rfl⟩
  have b1 : Below w.heap.size w (w.alloc (.cells #[.string S, .int .i64 ((r).p : Int), .int .i64 (r).co] 48)) := below1
  have b2 : Below w.heap.size w ((w.alloc (.cells #[.string S, .int .i64 ((r).p : Int), .int .i64 (r).co] 48)).alloc (.cells #[.string ⟨#[]⟩, .int .i64 0, .int .i64 0] 48)) := b1.trans (below1.mono b1.size)
  have s1 : (w.alloc (.cells #[.string S, .int .i64 ((r).p : Int), .int .i64 (r).co] 48)).heap.size = w.heap.size + 1 := by rw [World.size_alloc]
  have s2 : ((w.alloc (.cells #[.string S, .int .i64 ((r).p : Int), .int .i64 (r).co] 48)).alloc (.cells #[.string ⟨#[]⟩, .int .i64 0, .int .i64 0] 48)).heap.size = w.heap.size + 1 + 1 := by rw [World.size_alloc, World.size_alloc]
  have b3 : Below w.heap.size w W3 := by rw [hW3]; exact b2.trans (below1.mono b2.size)
  have X0 : Hid (RS q S r w W3) := by
   show _ ∧ _
   exact ⟨by rw [hW3]; exact (below1.block q (by omega)).trans ((below1.block q (by omega)).trans (by rw [hq]; exact heap_alloc_new _ _)), b3, by omega⟩
  have Z0 : Hid (Bx q2 #[.string ⟨#[]⟩, .int .i64 0, .int .i64 0] 48 W3) := by
   show _ = _
   rw [hW3]; exact (below1.block q2 (by omega)).trans (by rw [hq2, ← s1]; exact heap_alloc_new _ _)
  have Y0 : Hid (Bx q3 #[.int .u64 0, .int .u64 0, .int .u64 0, .int .u64 0] 25 W3) := by
   show _ = _
   rw [hW3, hq3, ← s2]; exact heap_alloc_new _ _
  have HQ : Hid (q2 = q + 1 ∧ q3 = q + 2 ∧ q = w.heap.size) := by show _ ∧ _; omega
  have HW3 := Lib.hid hW3
  have HQ0 := Lib.hid hq
  have HQ2 := Lib.hid hq2
  have HQ3 := Lib.hid hq3
  clear b1 b2 b3 s1 s2 hq hq2 hq3 hW3
  go_enter Try.func62, Try.ntmps62
  go_wp2_with fail
  rw [← HW3.out, ← HQ3.out, ← HQ2.out, ← HQ0.out]
  with_reducible refine (HE.out W3).mono ?_
  rintro e V1 ⟨rfl, b1⟩
  have X1 := Lib.hid (X0.out.call b1)
  have B1_0 := Lib.hid (Z0.out.call b1)
  have B1_1 := Lib.hid (Y0.out.call b1)
  clear b1 X0 Z0 Y0
  have z2 := B1_0.out
  have y2 := B1_1.out.kx (KX.row (W := V1) (q := q2) (cs := #[.string S, .int .i64 ((r9).p : Int), .int .i64 (r9).co])) (by have := HQ.out; omega)
  have cc := setRow_heap V1 q2 _ #[.string S, .int .i64 ((r9).p : Int), .int .i64 (r9).co] _ _ z2
  have bb := below_setRow X1.out.2.1 (g := q2) (by have := HQ.out; omega) #[.string S, .int .i64 ((r9).p : Int), .int .i64 (r9).co]
  have c3 := setRow_heap (World.setRow V1 q2 #[.string S, .int .i64 ((r9).p : Int), .int .i64 (r9).co]) q3 _ #[.int .u64 cl.a, .int .u64 cl.b, .int .u64 cl.c, .int .u64 cl.d] _ _ y2
  have b3 := below_setRow bb (g := q3) (by have := HQ.out; omega) #[.int .u64 cl.a, .int .u64 cl.b, .int .u64 cl.c, .int .u64 cl.d]
  have c2 := Bx.kx cc (KX.row (W := (World.setRow V1 q2 #[.string S, .int .i64 ((r9).p : Int), .int .i64 (r9).co])) (q := q3) (cs := #[.int .u64 cl.a, .int .u64 cl.b, .int .u64 cl.c, .int .u64 cl.d])) (by have := HQ.out; omega)
  go_wp2_with (first | ((with_reducible show wpList _ _ _ (Oper.mk _ (Op.store 48 (.tmp 2) _) _ _ _ _ :: _) _ _); refine wpList_store_row rfl 48 (.tmp 2) _ rfl (q2) #[.string S, .int .i64 ((r9).p : Int), .int .i64 (r9).co] rfl rfl 48 #[.string ⟨#[]⟩, .int .i64 0, .int .i64 0] z2 rdsize rfl (by simp [Value.oneCell']) ?_) | ((with_reducible show wpList _ _ _ (Oper.mk _ (Op.store 25 (.tmp 3) _) _ _ _ _ :: _) _ _); refine wpList_store_row rfl 25 (.tmp 3) _ rfl (q3) #[.int .u64 cl.a, .int .u64 cl.b, .int .u64 cl.c, .int .u64 cl.d] rfl rfl 25 #[.int .u64 0, .int .u64 0, .int .u64 0, .int .u64 0] y2 clsize rfl (by simp [Value.oneCell']) ?_))
  obtain ⟨w9, h9⟩ : ∃ W, W = (World.setRow (World.setRow V1 q2 #[.string S, .int .i64 ((r9).p : Int), .int .i64 (r9).co]) q3 #[.int .u64 cl.a, .int .u64 cl.b, .int .u64 cl.c, .int .u64 cl.d]) := ⟨_, rfl⟩
  rw [← h9] at c2 c3 b3 ⊢
  clear h9 z2 y2 cc bb
  have k0 := boxc c2 0 _ rfl
  have k1 := boxc c2 1 _ rfl
  have k2 := boxc c2 2 _ rfl
  have m0 := boxc c3 0 _ rfl
  have m1 := boxc c3 1 _ rfl
  have m2 := boxc c3 2 _ rfl
  have m3 := boxc c3 3 _ rfl
  refine bodyPost_ret (v := .tuple #[.agg #[.string S, .int .i64 ((r9).p : Int), .int .i64 (r9).co], .agg #[.int .u64 cl.a, .int .u64 cl.b, .int .u64 cl.c, .int .u64 cl.d], .int .u8 (v : Int), .bool b]) (by simp [results, Try.results62, go_sem, k0, k1, k2, m0, m1, m2, m3]) rfl ⟨?_, b3⟩
  rfl
 ·
  have j1 : ((z : Int) == 92) = false := beq_eq_false_iff_ne.2 (by omega)
  have HM2 : Hid (m = _) := HM.out.trans (if_neg g1)
  clear g1
  by_cases g5 : z = 91
  ·
   have t5 : ((z : Int) == 91) = true := by rw [g5]; rfl
   have HV : Hid (m = (r.fail r.p 9, .zero, 0, false)) := by show _ = _; rw [HM2.out, if_pos (Or.inl g5)]
   clear HM HM2
   obtain ⟨q, hq⟩ : ∃ q, q = w.heap.size := ⟨_, rfl⟩
   obtain ⟨q2, hq2⟩ : ∃ q2, q2 = w.heap.size + 1 := ⟨_, rfl⟩
   obtain ⟨q3, hq3⟩ : ∃ q3, q3 = w.heap.size + 1 + 1 := ⟨_, rfl⟩
   obtain ⟨W3, hW3⟩ : ∃ W, W = ((w.alloc (.cells #[.string S, .int .i64 ((r).p : Int), .int .i64 (r).co] 48)).alloc (.cells #[.string ⟨#[]⟩, .int .i64 0, .int .i64 0] 48)).alloc (.cells #[.int .u64 0, .int .u64 0, .int .u64 0, .int .u64 0] 25) := ⟨_, rfl⟩
   have b1 : Below w.heap.size w (w.alloc (.cells #[.string S, .int .i64 ((r).p : Int), .int .i64 (r).co] 48)) := below1
   have b2 : Below w.heap.size w ((w.alloc (.cells #[.string S, .int .i64 ((r).p : Int), .int .i64 (r).co] 48)).alloc (.cells #[.string ⟨#[]⟩, .int .i64 0, .int .i64 0] 48)) := b1.trans (below1.mono b1.size)
   have s1 : (w.alloc (.cells #[.string S, .int .i64 ((r).p : Int), .int .i64 (r).co] 48)).heap.size = w.heap.size + 1 := by rw [World.size_alloc]
   have s2 : ((w.alloc (.cells #[.string S, .int .i64 ((r).p : Int), .int .i64 (r).co] 48)).alloc (.cells #[.string ⟨#[]⟩, .int .i64 0, .int .i64 0] 48)).heap.size = w.heap.size + 1 + 1 := by rw [World.size_alloc, World.size_alloc]
   have b3 : Below w.heap.size w W3 := by rw [hW3]; exact b2.trans (below1.mono b2.size)
   have X0 : Hid (RS q S r w W3) := by
    show _ ∧ _
    exact ⟨by rw [hW3]; exact (below1.block q (by omega)).trans ((below1.block q (by omega)).trans (by rw [hq]; exact heap_alloc_new _ _)), b3, by omega⟩
   have Z0 : Hid (Bx q2 #[.string ⟨#[]⟩, .int .i64 0, .int .i64 0] 48 W3) := by
    show _ = _
    rw [hW3]; exact (below1.block q2 (by omega)).trans (by rw [hq2, ← s1]; exact heap_alloc_new _ _)
   have Y0 : Hid (Bx q3 #[.int .u64 0, .int .u64 0, .int .u64 0, .int .u64 0] 25 W3) := by
    show _ = _
    rw [hW3, hq3, ← s2]; exact heap_alloc_new _ _
   have HQ : Hid (q2 = q + 1 ∧ q3 = q + 2 ∧ q = w.heap.size) := by show _ ∧ _; omega
   have HW3 := Lib.hid hW3
   have HQ0 := Lib.hid hq
   have HQ2 := Lib.hid hq2
   have HQ3 := Lib.hid hq3
   clear b1 b2 b3 s1 s2 hq hq2 hq3 hW3
   go_enter Try.func62, Try.ntmps62
   go_wp2_with fail
   rw [← HW3.out, ← HQ3.out, ← HQ2.out, ← HQ0.out]
   with_reducible refine (HFA.out r r.p 9 W3).mono ?_
   rintro e V1 ⟨rfl, b1⟩
   have X1 := Lib.hid (X0.out.call b1)
   have B1_0 := Lib.hid (Z0.out.call b1)
   have B1_1 := Lib.hid (Y0.out.call b1)
   clear b1 X0 Z0 Y0
   have z2 := B1_0.out
   have y2 := B1_1.out.kx (KX.row (W := V1) (q := q2) (cs := #[.string S, .int .i64 (((r.fail r.p 9)).p : Int), .int .i64 ((r.fail r.p 9)).co])) (by have := HQ.out; omega)
   have cc := setRow_heap V1 q2 _ #[.string S, .int .i64 (((r.fail r.p 9)).p : Int), .int .i64 ((r.fail r.p 9)).co] _ _ z2
   have bb := below_setRow X1.out.2.1 (g := q2) (by have := HQ.out; omega) #[.string S, .int .i64 (((r.fail r.p 9)).p : Int), .int .i64 ((r.fail r.p 9)).co]
   have c3 := setRow_heap (World.setRow V1 q2 #[.string S, .int .i64 (((r.fail r.p 9)).p : Int), .int .i64 ((r.fail r.p 9)).co]) q3 _ #[.int .u64 0, .int .u64 0, .int .u64 0, .int .u64 0] _ _ y2
   have b3 := below_setRow bb (g := q3) (by have := HQ.out; omega) #[.int .u64 0, .int .u64 0, .int .u64 0, .int .u64 0]
   have c2 := Bx.kx cc (KX.row (W := (World.setRow V1 q2 #[.string S, .int .i64 (((r.fail r.p 9)).p : Int), .int .i64 ((r.fail r.p 9)).co])) (q := q3) (cs := #[.int .u64 0, .int .u64 0, .int .u64 0, .int .u64 0])) (by have := HQ.out; omega)
   go_wp2_with (first | ((with_reducible show wpList _ _ _ (Oper.mk _ (Op.store 48 (.tmp 2) _) _ _ _ _ :: _) _ _); refine wpList_store_row rfl 48 (.tmp 2) _ rfl (q2) #[.string S, .int .i64 (((r.fail r.p 9)).p : Int), .int .i64 ((r.fail r.p 9)).co] rfl rfl 48 #[.string ⟨#[]⟩, .int .i64 0, .int .i64 0] z2 rdsize rfl (by simp [Value.oneCell']) ?_) | ((with_reducible show wpList _ _ _ (Oper.mk _ (Op.store 25 (.tmp 3) _) _ _ _ _ :: _) _ _); refine wpList_store_row rfl 25 (.tmp 3) _ rfl (q3) #[.int .u64 0, .int .u64 0, .int .u64 0, .int .u64 0] rfl rfl 25 #[.int .u64 0, .int .u64 0, .int .u64 0, .int .u64 0] y2 clsize rfl (by simp [Value.oneCell']) ?_))
   obtain ⟨w9, h9⟩ : ∃ W, W = (World.setRow (World.setRow V1 q2 #[.string S, .int .i64 (((r.fail r.p 9)).p : Int), .int .i64 ((r.fail r.p 9)).co]) q3 #[.int .u64 0, .int .u64 0, .int .u64 0, .int .u64 0]) := ⟨_, rfl⟩
   rw [← h9] at c2 c3 b3 ⊢
   clear h9 z2 y2 cc bb
   have k0 := boxc c2 0 _ rfl
   have k1 := boxc c2 1 _ rfl
   have k2 := boxc c2 2 _ rfl
   have m0 := boxc c3 0 _ rfl
   have m1 := boxc c3 1 _ rfl
   have m2 := boxc c3 2 _ rfl
   have m3 := boxc c3 3 _ rfl
   refine bodyPost_ret (v := .tuple #[.agg #[.string S, .int .i64 (((r.fail r.p 9)).p : Int), .int .i64 ((r.fail r.p 9)).co], .agg #[.int .u64 0, .int .u64 0, .int .u64 0, .int .u64 0], .int .u8 0, .bool false]) (by simp [results, Try.results62, go_sem, k0, k1, k2, m0, m1, m2, m3]) rfl ⟨?_, b3⟩
   first | (rw [HV.out]; done) | (rw [HV.out]; rfl)
  ·
   have t5 : ((z : Int) == 91) = false := beq_eq_false_iff_ne.2 (by omega)
   by_cases g6 : z = 45
   ·
    have t6 : ((z : Int) == 45) = true := by rw [g6]; rfl
    have HV : Hid (m = (r.fail r.p 9, .zero, 0, false)) := by show _ = _; rw [HM2.out, if_pos (Or.inr (Or.inl g6))]
    clear HM HM2
    obtain ⟨q, hq⟩ : ∃ q, q = w.heap.size := ⟨_, rfl⟩
    obtain ⟨q2, hq2⟩ : ∃ q2, q2 = w.heap.size + 1 := ⟨_, rfl⟩
    obtain ⟨q3, hq3⟩ : ∃ q3, q3 = w.heap.size + 1 + 1 := ⟨_, rfl⟩
    obtain ⟨W3, hW3⟩ : ∃ W, W = ((w.alloc (.cells #[.string S, .int .i64 ((r).p : Int), .int .i64 (r).co] 48)).alloc (.cells #[.string ⟨#[]⟩, .int .i64 0, .int .i64 0] 48)).alloc (.cells #[.int .u64 0, .int .u64 0, .int .u64 0, .int .u64 0] 25) := ⟨_, rfl⟩
    have b1 : Below w.heap.size w (w.alloc (.cells #[.string S, .int .i64 ((r).p : Int), .int .i64 (r).co] 48)) := below1
    have b2 : Below w.heap.size w ((w.alloc (.cells #[.string S, .int .i64 ((r).p : Int), .int .i64 (r).co] 48)).alloc (.cells #[.string ⟨#[]⟩, .int .i64 0, .int .i64 0] 48)) := b1.trans (below1.mono b1.size)
    have s1 : (w.alloc (.cells #[.string S, .int .i64 ((r).p : Int), .int .i64 (r).co] 48)).heap.size = w.heap.size + 1 := by rw [World.size_alloc]
    have s2 : ((w.alloc (.cells #[.string S, .int .i64 ((r).p : Int), .int .i64 (r).co] 48)).alloc (.cells #[.string ⟨#[]⟩, .int .i64 0, .int .i64 0] 48)).heap.size = w.heap.size + 1 + 1 := by rw [World.size_alloc, World.size_alloc]
    have b3 : Below w.heap.size w W3 := by rw [hW3]; exact b2.trans (below1.mono b2.size)
    have X0 : Hid (RS q S r w W3) := by
     show _ ∧ _
     exact ⟨by rw [hW3]; exact (below1.block q (by omega)).trans ((below1.block q (by omega)).trans (by rw [hq]; exact heap_alloc_new _ _)), b3, by omega⟩
    have Z0 : Hid (Bx q2 #[.string ⟨#[]⟩, .int .i64 0, .int .i64 0] 48 W3) := by
     show _ = _
     rw [hW3]; exact (below1.block q2 (by omega)).trans (by rw [hq2, ← s1]; exact heap_alloc_new _ _)
    have Y0 : Hid (Bx q3 #[.int .u64 0, .int .u64 0, .int .u64 0, .int .u64 0] 25 W3) := by
     show _ = _
     rw [hW3, hq3, ← s2]; exact heap_alloc_new _ _
    have HQ : Hid (q2 = q + 1 ∧ q3 = q + 2 ∧ q = w.heap.size) := by show _ ∧ _; omega
    have HW3 := Lib.hid hW3
    have HQ0 := Lib.hid hq
    have HQ2 := Lib.hid hq2
    have HQ3 := Lib.hid hq3
    clear b1 b2 b3 s1 s2 hq hq2 hq3 hW3
    go_enter Try.func62, Try.ntmps62
    go_wp2_with fail
    rw [← HW3.out, ← HQ3.out, ← HQ2.out, ← HQ0.out]
    with_reducible refine (HFA.out r r.p 9 W3).mono ?_
    rintro e V1 ⟨rfl, b1⟩
    have X1 := Lib.hid (X0.out.call b1)
    have B1_0 := Lib.hid (Z0.out.call b1)
    have B1_1 := Lib.hid (Y0.out.call b1)
    clear b1 X0 Z0 Y0
    have z2 := B1_0.out
    have y2 := B1_1.out.kx (KX.row (W := V1) (q := q2) (cs := #[.string S, .int .i64 (((r.fail r.p 9)).p : Int), .int .i64 ((r.fail r.p 9)).co])) (by have := HQ.out; omega)
    have cc := setRow_heap V1 q2 _ #[.string S, .int .i64 (((r.fail r.p 9)).p : Int), .int .i64 ((r.fail r.p 9)).co] _ _ z2
    have bb := below_setRow X1.out.2.1 (g := q2) (by have := HQ.out; omega) #[.string S, .int .i64 (((r.fail r.p 9)).p : Int), .int .i64 ((r.fail r.p 9)).co]
    have c3 := setRow_heap (World.setRow V1 q2 #[.string S, .int .i64 (((r.fail r.p 9)).p : Int), .int .i64 ((r.fail r.p 9)).co]) q3 _ #[.int .u64 0, .int .u64 0, .int .u64 0, .int .u64 0] _ _ y2
    have b3 := below_setRow bb (g := q3) (by have := HQ.out; omega) #[.int .u64 0, .int .u64 0, .int .u64 0, .int .u64 0]
    have c2 := Bx.kx cc (KX.row (W := (World.setRow V1 q2 #[.string S, .int .i64 (((r.fail r.p 9)).p : Int), .int .i64 ((r.fail r.p 9)).co])) (q := q3) (cs := #[.int .u64 0, .int .u64 0, .int .u64 0, .int .u64 0])) (by have := HQ.out; omega)
    go_wp2_with (first | ((with_reducible show wpList _ _ _ (Oper.mk _ (Op.store 48 (.tmp 2) _) _ _ _ _ :: _) _ _); refine wpList_store_row rfl 48 (.tmp 2) _ rfl (q2) #[.string S, .int .i64 (((r.fail r.p 9)).p : Int), .int .i64 ((r.fail r.p 9)).co] rfl rfl 48 #[.string ⟨#[]⟩, .int .i64 0, .int .i64 0] z2 rdsize rfl (by simp [Value.oneCell']) ?_) | ((with_reducible show wpList _ _ _ (Oper.mk _ (Op.store 25 (.tmp 3) _) _ _ _ _ :: _) _ _); refine wpList_store_row rfl 25 (.tmp 3) _ rfl (q3) #[.int .u64 0, .int .u64 0, .int .u64 0, .int .u64 0] rfl rfl 25 #[.int .u64 0, .int .u64 0, .int .u64 0, .int .u64 0] y2 clsize rfl (by simp [Value.oneCell']) ?_))
    obtain ⟨w9, h9⟩ : ∃ W, W = (World.setRow (World.setRow V1 q2 #[.string S, .int .i64 (((r.fail r.p 9)).p : Int), .int .i64 ((r.fail r.p 9)).co]) q3 #[.int .u64 0, .int .u64 0, .int .u64 0, .int .u64 0]) := ⟨_, rfl⟩
    rw [← h9] at c2 c3 b3 ⊢
    clear h9 z2 y2 cc bb
    have k0 := boxc c2 0 _ rfl
    have k1 := boxc c2 1 _ rfl
    have k2 := boxc c2 2 _ rfl
    have m0 := boxc c3 0 _ rfl
    have m1 := boxc c3 1 _ rfl
    have m2 := boxc c3 2 _ rfl
    have m3 := boxc c3 3 _ rfl
    refine bodyPost_ret (v := .tuple #[.agg #[.string S, .int .i64 (((r.fail r.p 9)).p : Int), .int .i64 ((r.fail r.p 9)).co], .agg #[.int .u64 0, .int .u64 0, .int .u64 0, .int .u64 0], .int .u8 0, .bool false]) (by simp [results, Try.results62, go_sem, k0, k1, k2, m0, m1, m2, m3]) rfl ⟨?_, b3⟩
    first | (rw [HV.out]; done) | (rw [HV.out]; rfl)
   ·
    have t6 : ((z : Int) == 45) = false := beq_eq_false_iff_ne.2 (by omega)
    by_cases g7 : z = 94
    ·
     have t7 : ((z : Int) == 94) = true := by rw [g7]; rfl
     have HV : Hid (m = (r.fail r.p 9, .zero, 0, false)) := by show _ = _; rw [HM2.out, if_pos (Or.inr (Or.inr (Or.inl g7)))]
     clear HM HM2
     obtain ⟨q, hq⟩ : ∃ q, q = w.heap.size := ⟨_, rfl⟩
     obtain ⟨q2, hq2⟩ : ∃ q2, q2 = w.heap.size + 1 := ⟨_, rfl⟩
     obtain ⟨q3, hq3⟩ : ∃ q3, q3 = w.heap.size + 1 + 1 := ⟨_, rfl⟩
     obtain ⟨W3, hW3⟩ : ∃ W, W = ((w.alloc (.cells #[.string S, .int .i64 ((r).p : Int), .int .i64 (r).co] 48)).alloc (.cells #[.string ⟨#[]⟩, .int .i64 0, .int .i64 0] 48)).alloc (.cells #[.int .u64 0, .int .u64 0, .int .u64 0, .int .u64 0] 25) := ⟨_, rfl⟩
     have b1 : Below w.heap.size w (w.alloc (.cells #[.string S, .int .i64 ((r).p : Int), .int .i64 (r).co] 48)) := below1
     have b2 : Below w.heap.size w ((w.alloc (.cells #[.string S, .int .i64 ((r).p : Int), .int .i64 (r).co] 48)).alloc (.cells #[.string ⟨#[]⟩, .int .i64 0, .int .i64 0] 48)) := b1.trans (below1.mono b1.size)
     have s1 : (w.alloc (.cells #[.string S, .int .i64 ((r).p : Int), .int .i64 (r).co] 48)).heap.size = w.heap.size + 1 := by rw [World.size_alloc]
     have s2 : ((w.alloc (.cells #[.string S, .int .i64 ((r).p : Int), .int .i64 (r).co] 48)).alloc (.cells #[.string ⟨#[]⟩, .int .i64 0, .int .i64 0] 48)).heap.size = w.heap.size + 1 + 1 := by rw [World.size_alloc, World.size_alloc]
     have b3 : Below w.heap.size w W3 := by rw [hW3]; exact b2.trans (below1.mono b2.size)
     have X0 : Hid (RS q S r w W3) := by
      show _ ∧ _
      exact ⟨by rw [hW3]; exact (below1.block q (by omega)).trans ((below1.block q (by omega)).trans (by rw [hq]; exact heap_alloc_new _ _)), b3, by omega⟩
     have Z0 : Hid (Bx q2 #[.string ⟨#[]⟩, .int .i64 0, .int .i64 0] 48 W3) := by
      show _ = _
      rw [hW3]; exact (below1.block q2 (by omega)).trans (by rw [hq2, ← s1]; exact heap_alloc_new _ _)
     have Y0 : Hid (Bx q3 #[.int .u64 0, .int .u64 0, .int .u64 0, .int .u64 0] 25 W3) := by
      show _ = _
      rw [hW3, hq3, ← s2]; exact heap_alloc_new _ _
     have HQ : Hid (q2 = q + 1 ∧ q3 = q + 2 ∧ q = w.heap.size) := by show _ ∧ _; omega
     have HW3 := Lib.hid hW3
     have HQ0 := Lib.hid hq
     have HQ2 := Lib.hid hq2
     have HQ3 := Lib.hid hq3
     clear b1 b2 b3 s1 s2 hq hq2 hq3 hW3
     go_enter Try.func62, Try.ntmps62
     go_wp2_with fail
     rw [← HW3.out, ← HQ3.out, ← HQ2.out, ← HQ0.out]
     with_reducible refine (HFA.out r r.p 9 W3).mono ?_
     rintro e V1 ⟨rfl, b1⟩
     have X1 := Lib.hid (X0.out.call b1)
     have B1_0 := Lib.hid (Z0.out.call b1)
     have B1_1 := Lib.hid (Y0.out.call b1)
     clear b1 X0 Z0 Y0
     have z2 := B1_0.out
     have y2 := B1_1.out.kx (KX.row (W := V1) (q := q2) (cs := #[.string S, .int .i64 (((r.fail r.p 9)).p : Int), .int .i64 ((r.fail r.p 9)).co])) (by have := HQ.out; omega)
     have cc := setRow_heap V1 q2 _ #[.string S, .int .i64 (((r.fail r.p 9)).p : Int), .int .i64 ((r.fail r.p 9)).co] _ _ z2
     have bb := below_setRow X1.out.2.1 (g := q2) (by have := HQ.out; omega) #[.string S, .int .i64 (((r.fail r.p 9)).p : Int), .int .i64 ((r.fail r.p 9)).co]
     have c3 := setRow_heap (World.setRow V1 q2 #[.string S, .int .i64 (((r.fail r.p 9)).p : Int), .int .i64 ((r.fail r.p 9)).co]) q3 _ #[.int .u64 0, .int .u64 0, .int .u64 0, .int .u64 0] _ _ y2
     have b3 := below_setRow bb (g := q3) (by have := HQ.out; omega) #[.int .u64 0, .int .u64 0, .int .u64 0, .int .u64 0]
     have c2 := Bx.kx cc (KX.row (W := (World.setRow V1 q2 #[.string S, .int .i64 (((r.fail r.p 9)).p : Int), .int .i64 ((r.fail r.p 9)).co])) (q := q3) (cs := #[.int .u64 0, .int .u64 0, .int .u64 0, .int .u64 0])) (by have := HQ.out; omega)
     go_wp2_with (first | ((with_reducible show wpList _ _ _ (Oper.mk _ (Op.store 48 (.tmp 2) _) _ _ _ _ :: _) _ _); refine wpList_store_row rfl 48 (.tmp 2) _ rfl (q2) #[.string S, .int .i64 (((r.fail r.p 9)).p : Int), .int .i64 ((r.fail r.p 9)).co] rfl rfl 48 #[.string ⟨#[]⟩, .int .i64 0, .int .i64 0] z2 rdsize rfl (by simp [Value.oneCell']) ?_) | ((with_reducible show wpList _ _ _ (Oper.mk _ (Op.store 25 (.tmp 3) _) _ _ _ _ :: _) _ _); refine wpList_store_row rfl 25 (.tmp 3) _ rfl (q3) #[.int .u64 0, .int .u64 0, .int .u64 0, .int .u64 0] rfl rfl 25 #[.int .u64 0, .int .u64 0, .int .u64 0, .int .u64 0] y2 clsize rfl (by simp [Value.oneCell']) ?_))
     obtain ⟨w9, h9⟩ : ∃ W, W = (World.setRow (World.setRow V1 q2 #[.string S, .int .i64 (((r.fail r.p 9)).p : Int), .int .i64 ((r.fail r.p 9)).co]) q3 #[.int .u64 0, .int .u64 0, .int .u64 0, .int .u64 0]) := ⟨_, rfl⟩
     rw [← h9] at c2 c3 b3 ⊢
     clear h9 z2 y2 cc bb
     have k0 := boxc c2 0 _ rfl
     have k1 := boxc c2 1 _ rfl
     have k2 := boxc c2 2 _ rfl
     have m0 := boxc c3 0 _ rfl
     have m1 := boxc c3 1 _ rfl
     have m2 := boxc c3 2 _ rfl
     have m3 := boxc c3 3 _ rfl
     refine bodyPost_ret (v := .tuple #[.agg #[.string S, .int .i64 (((r.fail r.p 9)).p : Int), .int .i64 ((r.fail r.p 9)).co], .agg #[.int .u64 0, .int .u64 0, .int .u64 0, .int .u64 0], .int .u8 0, .bool false]) (by simp [results, Try.results62, go_sem, k0, k1, k2, m0, m1, m2, m3]) rfl ⟨?_, b3⟩
     first | (rw [HV.out]; done) | (rw [HV.out]; rfl)
    ·
     have t7 : ((z : Int) == 94) = false := beq_eq_false_iff_ne.2 (by omega)
     by_cases g8 : z < 32
     ·
      have t8 : (z : Int) < 32 := by omega
      have HV : Hid (m = (r.fail r.p 9, .zero, 0, false)) := by show _ = _; rw [HM2.out, if_pos (Or.inr (Or.inr (Or.inr (Or.inl g8))))]
      clear HM HM2
      obtain ⟨q, hq⟩ : ∃ q, q = w.heap.size := ⟨_, rfl⟩
      obtain ⟨q2, hq2⟩ : ∃ q2, q2 = w.heap.size + 1 := ⟨_, rfl⟩
      obtain ⟨q3, hq3⟩ : ∃ q3, q3 = w.heap.size + 1 + 1 := ⟨_, rfl⟩
      obtain ⟨W3, hW3⟩ : ∃ W, W = ((w.alloc (.cells #[.string S, .int .i64 ((r).p : Int), .int .i64 (r).co] 48)).alloc (.cells #[.string ⟨#[]⟩, .int .i64 0, .int .i64 0] 48)).alloc (.cells #[.int .u64 0, .int .u64 0, .int .u64 0, .int .u64 0] 25) := ⟨_, rfl⟩
      have b1 : Below w.heap.size w (w.alloc (.cells #[.string S, .int .i64 ((r).p : Int), .int .i64 (r).co] 48)) := below1
      have b2 : Below w.heap.size w ((w.alloc (.cells #[.string S, .int .i64 ((r).p : Int), .int .i64 (r).co] 48)).alloc (.cells #[.string ⟨#[]⟩, .int .i64 0, .int .i64 0] 48)) := b1.trans (below1.mono b1.size)
      have s1 : (w.alloc (.cells #[.string S, .int .i64 ((r).p : Int), .int .i64 (r).co] 48)).heap.size = w.heap.size + 1 := by rw [World.size_alloc]
      have s2 : ((w.alloc (.cells #[.string S, .int .i64 ((r).p : Int), .int .i64 (r).co] 48)).alloc (.cells #[.string ⟨#[]⟩, .int .i64 0, .int .i64 0] 48)).heap.size = w.heap.size + 1 + 1 := by rw [World.size_alloc, World.size_alloc]
      have b3 : Below w.heap.size w W3 := by rw [hW3]; exact b2.trans (below1.mono b2.size)
      have X0 : Hid (RS q S r w W3) := by
       show _ ∧ _
       exact ⟨by rw [hW3]; exact (below1.block q (by omega)).trans ((below1.block q (by omega)).trans (by rw [hq]; exact heap_alloc_new _ _)), b3, by omega⟩
      have Z0 : Hid (Bx q2 #[.string ⟨#[]⟩, .int .i64 0, .int .i64 0] 48 W3) := by
       show _ = _
       rw [hW3]; exact (below1.block q2 (by omega)).trans (by rw [hq2, ← s1]; exact heap_alloc_new _ _)
      have Y0 : Hid (Bx q3 #[.int .u64 0, .int .u64 0, .int .u64 0, .int .u64 0] 25 W3) := by
       show _ = _
       rw [hW3, hq3, ← s2]; exact heap_alloc_new _ _
      have HQ : Hid (q2 = q + 1 ∧ q3 = q + 2 ∧ q = w.heap.size) := by show _ ∧ _; omega
      have HW3 := Lib.hid hW3
      have HQ0 := Lib.hid hq
      have HQ2 := Lib.hid hq2
      have HQ3 := Lib.hid hq3
      clear b1 b2 b3 s1 s2 hq hq2 hq3 hW3
      go_enter Try.func62, Try.ntmps62
      go_wp2_with fail
      rw [← HW3.out, ← HQ3.out, ← HQ2.out, ← HQ0.out]
      with_reducible refine (HFA.out r r.p 9 W3).mono ?_
      rintro e V1 ⟨rfl, b1⟩
      have X1 := Lib.hid (X0.out.call b1)
      have B1_0 := Lib.hid (Z0.out.call b1)
      have B1_1 := Lib.hid (Y0.out.call b1)
      clear b1 X0 Z0 Y0
      have z2 := B1_0.out
      have y2 := B1_1.out.kx (KX.row (W := V1) (q := q2) (cs := #[.string S, .int .i64 (((r.fail r.p 9)).p : Int), .int .i64 ((r.fail r.p 9)).co])) (by have := HQ.out; omega)
      have cc := setRow_heap V1 q2 _ #[.string S, .int .i64 (((r.fail r.p 9)).p : Int), .int .i64 ((r.fail r.p 9)).co] _ _ z2
      have bb := below_setRow X1.out.2.1 (g := q2) (by have := HQ.out; omega) #[.string S, .int .i64 (((r.fail r.p 9)).p : Int), .int .i64 ((r.fail r.p 9)).co]
      have c3 := setRow_heap (World.setRow V1 q2 #[.string S, .int .i64 (((r.fail r.p 9)).p : Int), .int .i64 ((r.fail r.p 9)).co]) q3 _ #[.int .u64 0, .int .u64 0, .int .u64 0, .int .u64 0] _ _ y2
      have b3 := below_setRow bb (g := q3) (by have := HQ.out; omega) #[.int .u64 0, .int .u64 0, .int .u64 0, .int .u64 0]
      have c2 := Bx.kx cc (KX.row (W := (World.setRow V1 q2 #[.string S, .int .i64 (((r.fail r.p 9)).p : Int), .int .i64 ((r.fail r.p 9)).co])) (q := q3) (cs := #[.int .u64 0, .int .u64 0, .int .u64 0, .int .u64 0])) (by have := HQ.out; omega)
      go_wp2_with (first | ((with_reducible show wpList _ _ _ (Oper.mk _ (Op.store 48 (.tmp 2) _) _ _ _ _ :: _) _ _); refine wpList_store_row rfl 48 (.tmp 2) _ rfl (q2) #[.string S, .int .i64 (((r.fail r.p 9)).p : Int), .int .i64 ((r.fail r.p 9)).co] rfl rfl 48 #[.string ⟨#[]⟩, .int .i64 0, .int .i64 0] z2 rdsize rfl (by simp [Value.oneCell']) ?_) | ((with_reducible show wpList _ _ _ (Oper.mk _ (Op.store 25 (.tmp 3) _) _ _ _ _ :: _) _ _); refine wpList_store_row rfl 25 (.tmp 3) _ rfl (q3) #[.int .u64 0, .int .u64 0, .int .u64 0, .int .u64 0] rfl rfl 25 #[.int .u64 0, .int .u64 0, .int .u64 0, .int .u64 0] y2 clsize rfl (by simp [Value.oneCell']) ?_))
      obtain ⟨w9, h9⟩ : ∃ W, W = (World.setRow (World.setRow V1 q2 #[.string S, .int .i64 (((r.fail r.p 9)).p : Int), .int .i64 ((r.fail r.p 9)).co]) q3 #[.int .u64 0, .int .u64 0, .int .u64 0, .int .u64 0]) := ⟨_, rfl⟩
      rw [← h9] at c2 c3 b3 ⊢
      clear h9 z2 y2 cc bb
      have k0 := boxc c2 0 _ rfl
      have k1 := boxc c2 1 _ rfl
      have k2 := boxc c2 2 _ rfl
      have m0 := boxc c3 0 _ rfl
      have m1 := boxc c3 1 _ rfl
      have m2 := boxc c3 2 _ rfl
      have m3 := boxc c3 3 _ rfl
      refine bodyPost_ret (v := .tuple #[.agg #[.string S, .int .i64 (((r.fail r.p 9)).p : Int), .int .i64 ((r.fail r.p 9)).co], .agg #[.int .u64 0, .int .u64 0, .int .u64 0, .int .u64 0], .int .u8 0, .bool false]) (by simp [results, Try.results62, go_sem, k0, k1, k2, m0, m1, m2, m3]) rfl ⟨?_, b3⟩
      first | (rw [HV.out]; done) | (rw [HV.out]; rfl)
     ·
      have t8 : ¬ (z : Int) < 32 := by omega
      by_cases g9 : 126 < z
      ·
       have t9 : (126 : Int) < (z : Int) := by omega
       have HV : Hid (m = (r.fail r.p 9, .zero, 0, false)) := by show _ = _; rw [HM2.out, if_pos (Or.inr (Or.inr (Or.inr (Or.inr g9))))]
       clear HM HM2
       obtain ⟨q, hq⟩ : ∃ q, q = w.heap.size := ⟨_, rfl⟩
       obtain ⟨q2, hq2⟩ : ∃ q2, q2 = w.heap.size + 1 := ⟨_, rfl⟩
       obtain ⟨q3, hq3⟩ : ∃ q3, q3 = w.heap.size + 1 + 1 := ⟨_, rfl⟩
       obtain ⟨W3, hW3⟩ : ∃ W, W = ((w.alloc (.cells #[.string S, .int .i64 ((r).p : Int), .int .i64 (r).co] 48)).alloc (.cells #[.string ⟨#[]⟩, .int .i64 0, .int .i64 0] 48)).alloc (.cells #[.int .u64 0, .int .u64 0, .int .u64 0, .int .u64 0] 25) := ⟨_, rfl⟩
       have b1 : Below w.heap.size w (w.alloc (.cells #[.string S, .int .i64 ((r).p : Int), .int .i64 (r).co] 48)) := below1
       have b2 : Below w.heap.size w ((w.alloc (.cells #[.string S, .int .i64 ((r).p : Int), .int .i64 (r).co] 48)).alloc (.cells #[.string ⟨#[]⟩, .int .i64 0, .int .i64 0] 48)) := b1.trans (below1.mono b1.size)
       have s1 : (w.alloc (.cells #[.string S, .int .i64 ((r).p : Int), .int .i64 (r).co] 48)).heap.size = w.heap.size + 1 := by rw [World.size_alloc]
       have s2 : ((w.alloc (.cells #[.string S, .int .i64 ((r).p : Int), .int .i64 (r).co] 48)).alloc (.cells #[.string ⟨#[]⟩, .int .i64 0, .int .i64 0] 48)).heap.size = w.heap.size + 1 + 1 := by rw [World.size_alloc, World.size_alloc]
       have b3 : Below w.heap.size w W3 := by rw [hW3]; exact b2.trans (below1.mono b2.size)
       have X0 : Hid (RS q S r w W3) := by
        show _ ∧ _
        exact ⟨by rw [hW3]; exact (below1.block q (by omega)).trans ((below1.block q (by omega)).trans (by rw [hq]; exact heap_alloc_new _ _)), b3, by omega⟩
       have Z0 : Hid (Bx q2 #[.string ⟨#[]⟩, .int .i64 0, .int .i64 0] 48 W3) := by
        show _ = _
        rw [hW3]; exact (below1.block q2 (by omega)).trans (by rw [hq2, ← s1]; exact heap_alloc_new _ _)
       have Y0 : Hid (Bx q3 #[.int .u64 0, .int .u64 0, .int .u64 0, .int .u64 0] 25 W3) := by
        show _ = _
        rw [hW3, hq3, ← s2]; exact heap_alloc_new _ _
       have HQ : Hid (q2 = q + 1 ∧ q3 = q + 2 ∧ q = w.heap.size) := by show _ ∧ _; omega
       have HW3 := Lib.hid hW3
       have HQ0 := Lib.hid hq
       have HQ2 := Lib.hid hq2
       have HQ3 := Lib.hid hq3
       clear b1 b2 b3 s1 s2 hq hq2 hq3 hW3
       go_enter Try.func62, Try.ntmps62
       go_wp2_with fail
       rw [← HW3.out, ← HQ3.out, ← HQ2.out, ← HQ0.out]
       with_reducible refine (HFA.out r r.p 9 W3).mono ?_
       rintro e V1 ⟨rfl, b1⟩
       have X1 := Lib.hid (X0.out.call b1)
       have B1_0 := Lib.hid (Z0.out.call b1)
       have B1_1 := Lib.hid (Y0.out.call b1)
       clear b1 X0 Z0 Y0
       have z2 := B1_0.out
       have y2 := B1_1.out.kx (KX.row (W := V1) (q := q2) (cs := #[.string S, .int .i64 (((r.fail r.p 9)).p : Int), .int .i64 ((r.fail r.p 9)).co])) (by have := HQ.out; omega)
       have cc := setRow_heap V1 q2 _ #[.string S, .int .i64 (((r.fail r.p 9)).p : Int), .int .i64 ((r.fail r.p 9)).co] _ _ z2
       have bb := below_setRow X1.out.2.1 (g := q2) (by have := HQ.out; omega) #[.string S, .int .i64 (((r.fail r.p 9)).p : Int), .int .i64 ((r.fail r.p 9)).co]
       have c3 := setRow_heap (World.setRow V1 q2 #[.string S, .int .i64 (((r.fail r.p 9)).p : Int), .int .i64 ((r.fail r.p 9)).co]) q3 _ #[.int .u64 0, .int .u64 0, .int .u64 0, .int .u64 0] _ _ y2
       have b3 := below_setRow bb (g := q3) (by have := HQ.out; omega) #[.int .u64 0, .int .u64 0, .int .u64 0, .int .u64 0]
       have c2 := Bx.kx cc (KX.row (W := (World.setRow V1 q2 #[.string S, .int .i64 (((r.fail r.p 9)).p : Int), .int .i64 ((r.fail r.p 9)).co])) (q := q3) (cs := #[.int .u64 0, .int .u64 0, .int .u64 0, .int .u64 0])) (by have := HQ.out; omega)
       go_wp2_with (first | ((with_reducible show wpList _ _ _ (Oper.mk _ (Op.store 48 (.tmp 2) _) _ _ _ _ :: _) _ _); refine wpList_store_row rfl 48 (.tmp 2) _ rfl (q2) #[.string S, .int .i64 (((r.fail r.p 9)).p : Int), .int .i64 ((r.fail r.p 9)).co] rfl rfl 48 #[.string ⟨#[]⟩, .int .i64 0, .int .i64 0] z2 rdsize rfl (by simp [Value.oneCell']) ?_) | ((with_reducible show wpList _ _ _ (Oper.mk _ (Op.store 25 (.tmp 3) _) _ _ _ _ :: _) _ _); refine wpList_store_row rfl 25 (.tmp 3) _ rfl (q3) #[.int .u64 0, .int .u64 0, .int .u64 0, .int .u64 0] rfl rfl 25 #[.int .u64 0, .int .u64 0, .int .u64 0, .int .u64 0] y2 clsize rfl (by simp [Value.oneCell']) ?_))
       obtain ⟨w9, h9⟩ : ∃ W, W = (World.setRow (World.setRow V1 q2 #[.string S, .int .i64 (((r.fail r.p 9)).p : Int), .int .i64 ((r.fail r.p 9)).co]) q3 #[.int .u64 0, .int .u64 0, .int .u64 0, .int .u64 0]) := ⟨_, rfl⟩
       rw [← h9] at c2 c3 b3 ⊢
       clear h9 z2 y2 cc bb
       have k0 := boxc c2 0 _ rfl
       have k1 := boxc c2 1 _ rfl
       have k2 := boxc c2 2 _ rfl
       have m0 := boxc c3 0 _ rfl
       have m1 := boxc c3 1 _ rfl
       have m2 := boxc c3 2 _ rfl
       have m3 := boxc c3 3 _ rfl
       refine bodyPost_ret (v := .tuple #[.agg #[.string S, .int .i64 (((r.fail r.p 9)).p : Int), .int .i64 ((r.fail r.p 9)).co], .agg #[.int .u64 0, .int .u64 0, .int .u64 0, .int .u64 0], .int .u8 0, .bool false]) (by simp [results, Try.results62, go_sem, k0, k1, k2, m0, m1, m2, m3]) rfl ⟨?_, b3⟩
       first | (rw [HV.out]; done) | (rw [HV.out]; rfl)
      ·
       have t9 : ¬ (126 : Int) < (z : Int) := by omega
       have HM3 : Hid (m = _) := HM2.out.trans (if_neg (by omega))
       obtain ⟨r1, hr1⟩ : ∃ x, x = r.fwd := ⟨_, rfl⟩
       have R1 := Lib.hid hr1
       have ii1 : (r.p : Int) + 1 = (r1.p : Int) := by rw [hr1]; rfl
       have co1 : r.co = r1.co := by rw [hr1]; rfl
       have iw1 : IntKind.i64.wrap (r1.p : Int) = (r1.p : Int) := IntWalk.i64_in _ (by omega)
       have HV : Hid (m = (r1, .one z, z, true)) := by show _ = _; rw [HM3.out, hr1]
       have HSG : Hid (∀ W : World, Calls Try.prog 55 #[.int .u8 (z : Int)] W (fun e w' => e = .returned (.agg #[.int .u64 (Cls.one z).a, .int .u64 (Cls.one z).b, .int .u64 (Cls.one z).c, .int .u64 (Cls.one z).d]) ∧ Below W.heap.size W w')) := fun W => rr_single z W hz8
       clear hr1 HM HM2 HM3
       obtain ⟨q, hq⟩ : ∃ q, q = w.heap.size := ⟨_, rfl⟩
       obtain ⟨q2, hq2⟩ : ∃ q2, q2 = w.heap.size + 1 := ⟨_, rfl⟩
       obtain ⟨q3, hq3⟩ : ∃ q3, q3 = w.heap.size + 1 + 1 := ⟨_, rfl⟩
       obtain ⟨W3, hW3⟩ : ∃ W, W = ((w.alloc (.cells #[.string S, .int .i64 ((r1).p : Int), .int .i64 (r1).co] 48)).alloc (.cells #[.string ⟨#[]⟩, .int .i64 0, .int .i64 0] 48)).alloc (.cells #[.int .u64 0, .int .u64 0, .int .u64 0, .int .u64 0] 25) := ⟨_, rfl⟩
       have b1 : Below w.heap.size w (w.alloc (.cells #[.string S, .int .i64 ((r1).p : Int), .int .i64 (r1).co] 48)) := below1
       have b2 : Below w.heap.size w ((w.alloc (.cells #[.string S, .int .i64 ((r1).p : Int), .int .i64 (r1).co] 48)).alloc (.cells #[.string ⟨#[]⟩, .int .i64 0, .int .i64 0] 48)) := b1.trans (below1.mono b1.size)
       have s1 : (w.alloc (.cells #[.string S, .int .i64 ((r1).p : Int), .int .i64 (r1).co] 48)).heap.size = w.heap.size + 1 := by rw [World.size_alloc]
       have s2 : ((w.alloc (.cells #[.string S, .int .i64 ((r1).p : Int), .int .i64 (r1).co] 48)).alloc (.cells #[.string ⟨#[]⟩, .int .i64 0, .int .i64 0] 48)).heap.size = w.heap.size + 1 + 1 := by rw [World.size_alloc, World.size_alloc]
       have b3 : Below w.heap.size w W3 := by rw [hW3]; exact b2.trans (below1.mono b2.size)
       have X0 : Hid (RS q S r1 w W3) := by
        show _ ∧ _
        exact ⟨by rw [hW3]; exact (below1.block q (by omega)).trans ((below1.block q (by omega)).trans (by rw [hq]; exact heap_alloc_new _ _)), b3, by omega⟩
       have Z0 : Hid (Bx q2 #[.string ⟨#[]⟩, .int .i64 0, .int .i64 0] 48 W3) := by
        show _ = _
        rw [hW3]; exact (below1.block q2 (by omega)).trans (by rw [hq2, ← s1]; exact heap_alloc_new _ _)
       have Y0 : Hid (Bx q3 #[.int .u64 0, .int .u64 0, .int .u64 0, .int .u64 0] 25 W3) := by
        show _ = _
        rw [hW3, hq3, ← s2]; exact heap_alloc_new _ _
       have HQ : Hid (q2 = q + 1 ∧ q3 = q + 2 ∧ q = w.heap.size) := by show _ ∧ _; omega
       have HW3 := Lib.hid hW3
       have HQ0 := Lib.hid hq
       have HQ2 := Lib.hid hq2
       have HQ3 := Lib.hid hq3
       clear b1 b2 b3 s1 s2 hq hq2 hq3 hW3
       go_enter Try.func62, Try.ntmps62
       go_wp2_with fail
       rw [← HW3.out, ← HQ3.out, ← HQ2.out, ← HQ0.out]
       refine wp_flow 8 (fun _ => 1000) (fun ww => Dw q2 q3 W3 ww) (fun i w w' => if i = 5 then (fun (w w' : World) => KX q3 w w' ∧ w'.heap[q3]? = some (.cells #[.int .u64 (Cls.one z).a, .int .u64 (Cls.one z).b, .int .u64 (Cls.one z).c, .int .u64 (Cls.one z).d] 25)) w w' else if i = 4 then (fun (w w' : World) => KX q2 w w' ∧ w'.heap[q2]? = some (.cells #[.string S, .int .i64 ((r1).p : Int), .int .i64 (r1).co] 48)) w w' else (fun (w w' : World) => RowKit.Below w.heap.size w w') w w') (fun kF vF wF => match kF with | 0 => (vF = .agg #[.string S, .int .i64 ((r1).p : Int), .int .i64 (r1).co]) | 1 => (vF = .int .u8 (z : Int)) | 2 => (vF = .agg #[.int .u64 (Cls.one z).a, .int .u64 (Cls.one z).b, .int .u64 (Cls.one z).c, .int .u64 (Cls.one z).d]) | 3 => (vF = .int .u8 (z : Int)) | 4 => (wF.heap[q2]? = some (.cells #[.string S, .int .i64 ((r1).p : Int), .int .i64 (r1).co] 48)) | 5 => (wF.heap[q3]? = some (.cells #[.int .u64 (Cls.one z).a, .int .u64 (Cls.one z).b, .int .u64 (Cls.one z).c, .int .u64 (Cls.one z).d] 25)) | 6 => (vF = .int .u8 (z : Int)) | 7 => (vF = .bool true) | _ => True) (fun _ _ _ _ => True) (by kernel_rfl) (by kernel_rfl) ?_ ?_ ?_ ?_ ?_
       ·
        exact (Dw.refl Z0.out Y0.out).below (Below.refl _ _).drew
       ·
        intro iF wF1 wF2 hR hT
        have hT : (fun i w w' => if i = 5 then (fun (w w' : World) => KX q3 w w' ∧ w'.heap[q3]? = some (.cells #[.int .u64 (Cls.one z).a, .int .u64 (Cls.one z).b, .int .u64 (Cls.one z).c, .int .u64 (Cls.one z).d] 25)) w w' else if i = 4 then (fun (w w' : World) => KX q2 w w' ∧ w'.heap[q2]? = some (.cells #[.string S, .int .i64 ((r1).p : Int), .int .i64 (r1).co] 48)) w w' else (fun (w w' : World) => RowKit.Below w.heap.size w w') w w') iF wF1 wF2 := hT
        simp only at hT
        by_cases hi5 : iF = 5
        ·
         rw [if_pos hi5] at hT; first | exact hR.s2 hT rfl (by have := HQ.out; omega) | exact hR.s3 hT rfl (by have := HQ.out; omega)
        rw [if_neg hi5] at hT
        by_cases hi4 : iF = 4
        ·
         rw [if_pos hi4] at hT; first | exact hR.s2 hT rfl (by have := HQ.out; omega) | exact hR.s3 hT rfl (by have := HQ.out; omega)
        rw [if_neg hi4] at hT
        exact hR.below hT
       ·
        intro kF hkF iF hiF hne hdd hanc hdan vF wF1 wF2 h hT
        rcases (by omega : kF = 0 ∨ kF = 1 ∨ kF = 2 ∨ kF = 3 ∨ kF = 4 ∨ kF = 5 ∨ kF = 6 ∨ kF = 7) with rfl | rfl | rfl | rfl | rfl | rfl | rfl | rfl
        ·
         exact h
        ·
         exact h
        ·
         exact h
        ·
         exact h
        ·
         have h : (wF1.heap[q2]? = some (.cells #[.string S, .int .i64 ((r1).p : Int), .int .i64 (r1).co] 48)) := h
         show (wF2.heap[q2]? = some (.cells #[.string S, .int .i64 ((r1).p : Int), .int .i64 (r1).co] 48))
         have hT : (fun i w w' => if i = 5 then (fun (w w' : World) => KX q3 w w' ∧ w'.heap[q3]? = some (.cells #[.int .u64 (Cls.one z).a, .int .u64 (Cls.one z).b, .int .u64 (Cls.one z).c, .int .u64 (Cls.one z).d] 25)) w w' else if i = 4 then (fun (w w' : World) => KX q2 w w' ∧ w'.heap[q2]? = some (.cells #[.string S, .int .i64 ((r1).p : Int), .int .i64 (r1).co] 48)) w w' else (fun (w w' : World) => RowKit.Below w.heap.size w w') w w') iF wF1 wF2 := hT
         simp only at hT
         by_cases hi5 : iF = 5
         ·
          rw [if_pos hi5] at hT
          exact (hT.1.2.2 q2 (lt_of_block h) (by have := HQ.out; omega)).trans h
         rw [if_neg hi5] at hT
         by_cases hi4 : iF = 4
         ·
          exact absurd hi4.symm hne
         rw [if_neg hi4] at hT
         exact (hT.block q2 (lt_of_block h)).trans h
        ·
         have h : (wF1.heap[q3]? = some (.cells #[.int .u64 (Cls.one z).a, .int .u64 (Cls.one z).b, .int .u64 (Cls.one z).c, .int .u64 (Cls.one z).d] 25)) := h
         show (wF2.heap[q3]? = some (.cells #[.int .u64 (Cls.one z).a, .int .u64 (Cls.one z).b, .int .u64 (Cls.one z).c, .int .u64 (Cls.one z).d] 25))
         have hT : (fun i w w' => if i = 5 then (fun (w w' : World) => KX q3 w w' ∧ w'.heap[q3]? = some (.cells #[.int .u64 (Cls.one z).a, .int .u64 (Cls.one z).b, .int .u64 (Cls.one z).c, .int .u64 (Cls.one z).d] 25)) w w' else if i = 4 then (fun (w w' : World) => KX q2 w w' ∧ w'.heap[q2]? = some (.cells #[.string S, .int .i64 ((r1).p : Int), .int .i64 (r1).co] 48)) w w' else (fun (w w' : World) => RowKit.Below w.heap.size w w') w w') iF wF1 wF2 := hT
         simp only at hT
         by_cases hi5 : iF = 5
         ·
          exact absurd hi5.symm hne
         rw [if_neg hi5] at hT
         by_cases hi4 : iF = 4
         ·
          rw [if_pos hi4] at hT
          exact (hT.1.2.2 q3 (lt_of_block h) (by have := HQ.out; omega)).trans h
         rw [if_neg hi4] at hT
         exact (hT.block q3 (lt_of_block h)).trans h
        ·
         exact h
        ·
         exact h
       ·
        generalize hAF : fillOf _ _ _ = AF
        replace hAF := fun x => congrFun hAF x
        simp only [List.take_succ_cons, List.take_zero, fillOf, Act.put, List.setIfInBounds_toArray, List.set_cons_zero, List.set_cons_succ, Nat.reduceAdd, Nat.zero_add] at hAF
        refine FlowAll.cons ?_ ?_
        ·
         intro xF wz hR hd K hK
         clear hd
         simp only [← hAF, Act.put, List.setIfInBounds_toArray, List.set_cons_zero, List.set_cons_succ] at hK ⊢
         clear hAF
         try simp only [Nat.zero_add] at hK ⊢
         try simp only [Nat.reduceAdd] at hK ⊢
         obtain hbR := id hR
         have hxa := (hbR.2.2.1 _ (lt_of_block X0.out.1) (by have := HQ.out; omega) (by have := HQ.out; omega)).trans X0.out.1
         have c90 := boxc hxa 0 _ rfl
         have c91 := boxc hxa 1 _ rfl
         have c92 := boxc hxa 2 _ rfl
         clear hxa
         rw [if_pos (by rfl)]
         go_simp
         exact hK.out _ _ (Below.refl _ _) (rfl) (fun _ _ _ => ⟨trivial, trivial⟩)
        refine FlowAll.cons ?_ ?_
        ·
         intro xF wz hR hd K hK
         clear hd
         simp only [← hAF, Act.put, List.setIfInBounds_toArray, List.set_cons_zero, List.set_cons_succ] at hK ⊢
         clear hAF
         try simp only [Nat.zero_add] at hK ⊢
         try simp only [Nat.reduceAdd] at hK ⊢
         obtain hbR := id hR
         rw [if_pos (by rfl)]
         go_simp
         exact hK.out _ _ (Below.refl _ _) (rfl) (fun _ _ _ => ⟨trivial, trivial⟩)
        refine FlowAll.cons ?_ ?_
        ·
         intro xF wz hR hd K hK
         have dd1 : ((xF 1) = .int .u8 (z : Int)) := hd 1 (by kernel_rfl)
         clear hd
         simp only [← hAF, Act.put, List.setIfInBounds_toArray, List.set_cons_zero, List.set_cons_succ] at hK ⊢
         clear hAF
         try simp only [Nat.zero_add] at hK ⊢
         try simp only [Nat.reduceAdd] at hK ⊢
         try generalize xF 1 = yy1 at *
         obtain rfl := dd1
         obtain hbR := id hR
         rw [if_pos (by rfl)]
         go_simp
         (go_at_call 55; (with_reducible refine (HSG.out _).mono ?_); rintro e wK ⟨rfl, hbK⟩)
         try go_wp2_with fail
         exact hK.out _ _ (hbK) (rfl) (fun _ _ _ => ⟨trivial, trivial⟩)
        refine FlowAll.cons ?_ ?_
        ·
         intro xF wz hR hd K hK
         clear hd
         simp only [← hAF, Act.put, List.setIfInBounds_toArray, List.set_cons_zero, List.set_cons_succ] at hK ⊢
         clear hAF
         try simp only [Nat.zero_add] at hK ⊢
         try simp only [Nat.reduceAdd] at hK ⊢
         obtain hbR := id hR
         rw [if_pos (by rfl)]
         go_simp
         exact hK.out _ _ (Below.refl _ _) (rfl) (fun _ _ _ => ⟨trivial, trivial⟩)
        refine FlowAll.cons ?_ ?_
        ·
         intro xF wz hR hd K hK
         have dd0 : ((xF 0) = .agg #[.string S, .int .i64 ((r1).p : Int), .int .i64 (r1).co]) := hd 0 (by kernel_rfl)
         clear hd
         simp only [← hAF, Act.put, List.setIfInBounds_toArray, List.set_cons_zero, List.set_cons_succ] at hK ⊢
         clear hAF
         try simp only [Nat.zero_add] at hK ⊢
         try simp only [Nat.reduceAdd] at hK ⊢
         try generalize xF 0 = yy0 at *
         obtain rfl := dd0
         obtain hbR := id hR
         obtain ⟨csO, hcO, hzO⟩ := hR.2.2.2.1
         rw [if_pos (by rfl)]
         refine wp_store_row 48 (.tmp 2) (.tmp 49) rfl q2 #[.string S, .int .i64 ((r1).p : Int), .int .i64 (r1).co] rfl rfl 48 csO hzO rdsize hcO (by simp [Value.oneCell']) ?_
         exact hK.out undef _ (⟨KX.row, setRow_heap _ _ _ _ _ _ hzO⟩) (setRow_heap _ _ _ _ _ _ hzO) (fun _ _ _ => ⟨trivial, trivial⟩)
        refine FlowAll.cons ?_ ?_
        ·
         intro xF wz hR hd K hK
         have dd2 : ((xF 2) = .agg #[.int .u64 (Cls.one z).a, .int .u64 (Cls.one z).b, .int .u64 (Cls.one z).c, .int .u64 (Cls.one z).d]) := hd 2 (by kernel_rfl)
         clear hd
         simp only [← hAF, Act.put, List.setIfInBounds_toArray, List.set_cons_zero, List.set_cons_succ] at hK ⊢
         clear hAF
         try simp only [Nat.zero_add] at hK ⊢
         try simp only [Nat.reduceAdd] at hK ⊢
         try generalize xF 2 = yy2 at *
         obtain rfl := dd2
         obtain hbR := id hR
         obtain ⟨csO, hcO, hzO⟩ := hR.2.2.2.2
         rw [if_pos (by rfl)]
         refine wp_store_row 25 (.tmp 3) (.tmp 51) rfl q3 #[.int .u64 (Cls.one z).a, .int .u64 (Cls.one z).b, .int .u64 (Cls.one z).c, .int .u64 (Cls.one z).d] rfl rfl 25 csO hzO clsize hcO (by simp [Value.oneCell']) ?_
         exact hK.out undef _ (⟨KX.row, setRow_heap _ _ _ _ _ _ hzO⟩) (setRow_heap _ _ _ _ _ _ hzO) (fun _ _ _ => ⟨trivial, trivial⟩)
        refine FlowAll.cons ?_ ?_
        ·
         intro xF wz hR hd K hK
         have dd3 : ((xF 3) = .int .u8 (z : Int)) := hd 3 (by kernel_rfl)
         clear hd
         simp only [← hAF, Act.put, List.setIfInBounds_toArray, List.set_cons_zero, List.set_cons_succ] at hK ⊢
         clear hAF
         try simp only [Nat.zero_add] at hK ⊢
         try simp only [Nat.reduceAdd] at hK ⊢
         try generalize xF 3 = yy3 at *
         obtain rfl := dd3
         obtain hbR := id hR
         rw [if_pos (by rfl)]
         go_simp
         exact hK.out _ _ (Below.refl _ _) (rfl) (fun _ _ _ => ⟨trivial, trivial⟩)
        refine FlowAll.cons ?_ ?_
        ·
         intro xF wz hR hd K hK
         clear hd
         simp only [← hAF, Act.put, List.setIfInBounds_toArray, List.set_cons_zero, List.set_cons_succ] at hK ⊢
         clear hAF
         try simp only [Nat.zero_add] at hK ⊢
         try simp only [Nat.reduceAdd] at hK ⊢
         obtain hbR := id hR
         rw [if_pos (by rfl)]
         go_simp
         exact hK.out _ _ (Below.refl _ _) (rfl) (fun _ _ _ => ⟨trivial, trivial⟩)
        exact FlowAll.nil
       intro xF wz hR hF hP
       clear hP
       have dd0 : ((xF 0) = .agg #[.string S, .int .i64 ((r1).p : Int), .int .i64 (r1).co]) := hF 0 (by omega) (by decide)
       have dd1 : ((xF 1) = .int .u8 (z : Int)) := hF 1 (by omega) (by decide)
       have dd2 : ((xF 2) = .agg #[.int .u64 (Cls.one z).a, .int .u64 (Cls.one z).b, .int .u64 (Cls.one z).c, .int .u64 (Cls.one z).d]) := hF 2 (by omega) (by decide)
       have dd3 : ((xF 3) = .int .u8 (z : Int)) := hF 3 (by omega) (by decide)
       have dd4 : (wz.heap[q2]? = some (.cells #[.string S, .int .i64 ((r1).p : Int), .int .i64 (r1).co] 48)) := hF 4 (by omega) (by decide)
       have dd5 : (wz.heap[q3]? = some (.cells #[.int .u64 (Cls.one z).a, .int .u64 (Cls.one z).b, .int .u64 (Cls.one z).c, .int .u64 (Cls.one z).d] 25)) := hF 5 (by omega) (by decide)
       have dd6 : ((xF 6) = .int .u8 (z : Int)) := hF 6 (by omega) (by decide)
       have dd7 : ((xF 7) = .bool true) := hF 7 (by omega) (by decide)
       clear hF
       simp only [List.take_succ_cons, List.take_zero, List.drop_succ_cons, List.drop_zero, fillOf, Act.put, List.setIfInBounds_toArray, List.set_cons_zero, List.set_cons_succ, Nat.reduceAdd, Nat.zero_add]
       try generalize xF 0 = yy0 at *
       try generalize xF 1 = yy1 at *
       try generalize xF 2 = yy2 at *
       try generalize xF 3 = yy3 at *
       try generalize xF 4 = yy4 at *
       try generalize xF 5 = yy5 at *
       try generalize xF 6 = yy6 at *
       try generalize xF 7 = yy7 at *
       clear xF
       obtain rfl := dd0
       obtain rfl := dd1
       obtain rfl := dd2
       obtain rfl := dd3
       have hs2 := dd4
       have hs3 := dd5
       obtain rfl := dd6
       obtain rfl := dd7
       have hRE := Lib.hid hR
       clear hR
       have XR := X0.out.dw hRE.out (by have := HQ.out; omega) (by have := HQ.out; omega) (by have := HQ.out; omega) (by have := HQ.out; omega)
       have k0 := boxc hs2 0 _ rfl
       have k1 := boxc hs2 1 _ rfl
       have k2 := boxc hs2 2 _ rfl
       have m0 := boxc hs3 0 _ rfl
       have m1 := boxc hs3 1 _ rfl
       have m2 := boxc hs3 2 _ rfl
       have m3 := boxc hs3 3 _ rfl
       have b3 := XR.2.1
       clear XR hs2 hs3 hRE
       go_wp2_with fail
       refine bodyPost_ret (v := .tuple #[.agg #[.string S, .int .i64 ((r1).p : Int), .int .i64 (r1).co], .agg #[.int .u64 (Cls.one z).a, .int .u64 (Cls.one z).b, .int .u64 (Cls.one z).c, .int .u64 (Cls.one z).d], .int .u8 (z : Int), .bool true]) (by simp [results, Try.results62, go_sem, k0, k1, k2, m0, m1, m2, m3]) rfl ⟨?_, b3⟩
       first | (rw [HV.out]; done) | (rw [HV.out]; rfl)
end Go.Proofs.Ytbccejlemhgioaa
