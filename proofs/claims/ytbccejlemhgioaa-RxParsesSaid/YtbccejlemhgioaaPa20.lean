/- texts put together: RrBnd. -/
import Derived.Test.YtbccejlemhgioaaPa10
namespace Go.Proofs.Ytbccejlemhgioaa
open Go Go.RowKit Go.ChangeShapes cl rx
open rf
set_option maxHeartbeats 25600000 in
set_option maxRecDepth 100000 in
theorem rr_bounds (S : ByteArray) (r : rr.R) (w : World) (hS : S.size ≤ 60) (hp : r.p < S.size) : Calls Try.prog 42 #[.agg #[.string S, .int .i64 ((r).p : Int), .int .i64 (r).co]] w (fun e w' => e = .returned (.tuple #[.agg #[.string S, .int .i64 (((rr.bounds (kit.bytes S) r).1).p : Int), .int .i64 ((rr.bounds (kit.bytes S) r).1).co], .int .i64 (rr.bounds (kit.bytes S) r).2.1, .int .i64 (rr.bounds (kit.bytes S) r).2.2]) ∧ Below w.heap.size w w') := by
 have hlen : (kit.bytes S).length = S.size := by simp [kit.bytes]
 obtain ⟨m, hm⟩ : ∃ m, m = rr.bounds (kit.bytes S) r := ⟨_, rfl⟩
 rw [← hm]
 have HNU : Hid (∀ (x : rr.R) (W : World), x.p ≤ S.size → Calls Try.prog 56 #[.agg #[.string S, .int .i64 ((x).p : Int), .int .i64 (x).co]] W (fun e w' => e = .returned (.tuple #[.agg #[.string S, .int .i64 (((rr.number (kit.bytes S) x).1).p : Int), .int .i64 ((rr.number (kit.bytes S) x).1).co], .int .i64 (rr.oi (rr.number (kit.bytes S) x).2)]) ∧ Below W.heap.size W w')) := fun x W hx => rr_number S x W hS hx
 have HFA : Hid (∀ (x : rr.R) (a : Nat) (co : Int) (W : World), Calls Try.prog 23 #[.agg #[.string S, .int .i64 ((x).p : Int), .int .i64 (x).co], .int .i64 a, .int .i64 co] W (fun e w' => e = .returned (.agg #[.string S, .int .i64 (((x.fail a co)).p : Int), .int .i64 ((x.fail a co)).co]) ∧ Below W.heap.size W w')) := fun x a co W => rr_fail S x a co W
 obtain ⟨r1, hr1⟩ : ∃ x, x = r.fwd := ⟨_, rfl⟩
 have R1 := Lib.hid hr1
 have i1 : Hid (r1.p = r.p + 1) := by show _ = _; rw [R1.out]; rfl
 obtain ⟨q, hq⟩ : ∃ q, q = w.heap.size := ⟨_, rfl⟩
 obtain ⟨q2, hq2⟩ : ∃ q2, q2 = w.heap.size + 1 := ⟨_, rfl⟩
 obtain ⟨W3, hW3⟩ : ∃ W, W = (w.alloc (.cells #[.string S, .int .i64 ((r.p : Int) + 1), .int .i64 r.co] 48)).alloc (.cells #[.string ⟨#[]⟩, .int .i64 0, .int .i64 0] 48) := ⟨_, rfl⟩
 have b1 : Below w.heap.size w (w.alloc (.cells #[.string S, .int .i64 ((r.p : Int) + 1), .int .i64 r.co] 48)) := below1
 have b3 : Below w.heap.size w W3 := by rw [hW3]; exact b1.trans (below1.mono b1.size)
 have X0 : Hid (RS q S r1 w W3) := by
  show _ ∧ _
  exact ⟨by rw [hW3, hr1]; exact (below1.block q (by rw [World.size_alloc, hq]; omega)).trans (by rw [hq]; exact heap_alloc_new _ _), b3, by omega⟩
 have Z0 : Hid (Bx q2 #[.string ⟨#[]⟩, .int .i64 0, .int .i64 0] 48 W3) := by
  show _ = _
  have : q2 = (w.alloc (.cells #[.string S, .int .i64 ((r.p : Int) + 1), .int .i64 r.co] 48)).heap.size := by rw [World.size_alloc, hq2]
  rw [hW3, this]; exact heap_alloc_new _ _
 have HQ : Hid (q2 = q + 1 ∧ q = w.heap.size) := by show _ ∧ _; omega
 have HW3 := Lib.hid hW3
 have HQ0 := Lib.hid hq
 have HQ2 := Lib.hid hq2
 have HM := Lib.hid hm
 have HLEN := Lib.hid hlen
 have HAL : Hid ((rr.number (kit.bytes S) r1).1.p ≤ S.size) := by show _ ≤ _; have h := (rr.number_le (kit.bytes S) r1 (by have := i1.out; have := HLEN.out; omega)).2.1; rw [HLEN.out] at h; exact h
 obtain ⟨r2, hr2⟩ : ∃ x, x = (rr.number (kit.bytes S) r1).1 := ⟨_, rfl⟩
 have R2 := Lib.hid hr2
 obtain ⟨α, hα⟩ : ∃ x, x = rr.oi (rr.number (kit.bytes S) r1).2 := ⟨_, rfl⟩
 have RA := Lib.hid hα
 have H2L : Hid (r2.p ≤ S.size) := by show _ ≤ _; rw [R2.out]; exact HAL.out
 have HN1 : Hid (∀ W : World, Calls Try.prog 56 #[.agg #[.string S, .int .i64 ((r.p : Int) + 1), .int .i64 r.co]] W (fun e w' => e = .returned (.tuple #[.agg #[.string S, .int .i64 ((r2).p : Int), .int .i64 (r2).co], .int .i64 α]) ∧ Below W.heap.size W w')) := by
  intro W
  have h := HNU.out r1 W (by have := i1.out; omega)
  rw [← R2.out, ← RA.out, R1.out] at h
  exact h
 have HE := Lib.hid (HM.out.trans (rr.bounds_eq (kit.bytes S) r r1 r2 α R1.out R2.out RA.out))
 clear b1 b3 hq hq2 hm hlen hr1 hr2 hα
 have e0 := boxc X0.out.1 0 _ rfl
 rw [HW3.out, HQ0.out] at e0
 clear hW3
 go_enter Try.func42, Try.ntmps42
 go_wp2_with fail
 rw [← HW3.out, ← HQ2.out, ← HQ0.out]
 clear e0
 with_reducible refine (HN1.out W3).mono ?_
 rintro e V1 ⟨rfl, b1⟩
 have X1 := Lib.hid (X0.out.call b1)
 have Z1 := Lib.hid (Z0.out.call b1)
 clear b1 X0 Z0
 have h2l := H2L.out
 by_cases gl : r2.p < S.size
 ·
  have hpi : (r2.p : Int) < (S.size : Int) := by omega
  obtain ⟨z, hz⟩ : ∃ z, z = (S[r2.p]'gl).toNat := ⟨_, rfl⟩
  have hby : (kit.bytes S)[r2.p]? = some z := by rw [byte_at gl, hz]
  replace hz := hz.symm
  by_cases gc : z = 44
  ·
   have HE2 : Hid (m = _) := HE.out.trans (if_pos (hby.trans (by rw [gc])))
   have jc : ((z : Int) == 44) = true := by simp; omega
   obtain ⟨r3, hr3⟩ : ∃ x, x = r2.fwd := ⟨_, rfl⟩
   have R3 := Lib.hid hr3
   have I3 : Hid (r3.p = r2.p + 1) := by show _ = _; rw [R3.out]; rfl
   rw [← hr3] at HE2
   clear hr3 hby gc
   have y2 := X1.out.1
   have X2 := Lib.hid (X1.out.row r2)
   have Z2 := Lib.hid (Z1.out.kx (KX.row (W := V1) (q := q) (cs := #[.string S, .int .i64 ((r2).p : Int), .int .i64 (r2).co])) (by have := HQ.out; omega))
   have e3_0 := boxc X2.out.1 0 _ rfl
   have e3_1 := boxc X2.out.1 1 _ rfl
   have e3_2 := boxc X2.out.1 2 _ rfl
   have e3_f := boxf X2.out.1 1
   have ip4 : (r2.p : Int) + 1 = (r3.p : Int) := by rw [R3.out]; rfl
   have iw4 : IntKind.i64.wrap (r3.p : Int) = (r3.p : Int) := IntWalk.i64_in _ (by omega)
   have iv4 : IntKind.i64.wrap ((r2.p : Int) + 1) = (r3.p : Int) := by rw [ip4]; exact iw4
   have X4 := Lib.hid (X2.out.fwd' R3.out)
   have Z4 := Lib.hid (Z2.out.kx (KX.cell (W := (World.setRow V1 q #[.string S, .int .i64 ((r2).p : Int), .int .i64 (r2).co])) (q := q) (i := 1) (u := (.int .i64 (r3.p : Int)))) (by have := HQ.out; omega))
   have e5_0 := boxc X4.out.1 0 _ rfl
   have e5_1 := boxc X4.out.1 1 _ rfl
   have e5_2 := boxc X4.out.1 2 _ rfl
   have e5_f := boxf X4.out.1 1
   by_cases gp : r3.p < S.size
   ·
    have kp : (r3.p : Int) < (S.size : Int) := by omega
    obtain ⟨z3, hz3⟩ : ∃ z, z = (S[r3.p]'gp).toNat := ⟨_, rfl⟩
    have hb3 : (kit.bytes S)[r3.p]? = some z3 := by rw [byte_at gp, hz3]
    replace hz3 := hz3.symm
    by_cases gn : z3 = 125
    ·
     have jn : ((z3 : Int) != 125) = false := by simp; omega
     have HE3 := Lib.hid (HE2.out.trans (if_neg (fun h => h.2 (by rw [hb3, gn]))))
     have hby := hb3
     have g1 := gn
     clear hb3 gn
     by_cases ga : α < 0
     ·
      have ia := Lib.hid ga
      have ja : α < 0 := ga
      have HV : Hid (m = (r3.fail r.p 9, 0, 0)) := by show _ = _; rw [HE3.out]; unfold rr.fin; rw [if_pos (Or.inl ga)]
      clear ga
      go_wp2_with ((with_reducible show wpList _ _ _ (Oper.mk _ (Op.store 48 (.tmp 1) _) _ _ _ _ :: _) _ _); refine wpList_store_row rfl 48 (.tmp 1) _ rfl (q) #[.string S, .int .i64 ((r2).p : Int), .int .i64 (r2).co] rfl rfl 48 #[.string S, .int .i64 ((r1).p : Int), .int .i64 (r1).co] y2 rdsize rfl (by simp [Value.oneCell']) ?_)
      clear y2 e3_0 e3_1 e3_2 e3_f ip4 iw4 iv4 e5_0 e5_1 e5_2 e5_f
      obtain ⟨V6, hV6⟩ : ∃ W, W = ((World.setRow V1 q #[.string S, .int .i64 ((r2).p : Int), .int .i64 (r2).co]).setCell ⟨q, 1, none⟩ (.int .i64 (r3.p : Int))) := ⟨_, rfl⟩
      have X6 := X4.out
      have Z6 := Z4.out
      rw [← hV6] at X6 Z6 ⊢
      replace X6 := Lib.hid X6
      replace Z6 := Lib.hid Z6
      clear hV6 X4 Z4
      with_reducible refine (HFA.out r3 r.p 9 V6).mono ?_
      rintro e V7 ⟨rfl, b7⟩
      have X7 := Lib.hid (X6.out.call b7)
      have Z7 := Lib.hid (Z6.out.call b7)
      clear b7 X6 Z6
      have z8 := Z7.out
      have cc := setRow_heap V7 q2 _ #[.string S, .int .i64 (((r3.fail r.p 9)).p : Int), .int .i64 ((r3.fail r.p 9)).co] _ _ z8
      have bb := below_setRow X7.out.2.1 (g := q2) (by have := X7.out.2.2; have := HQ.out; omega) #[.string S, .int .i64 (((r3.fail r.p 9)).p : Int), .int .i64 ((r3.fail r.p 9)).co]
      go_wp2_with ((with_reducible show wpList _ _ _ (Oper.mk _ (Op.store 48 (.tmp 2) _) _ _ _ _ :: _) _ _); refine wpList_store_row rfl 48 (.tmp 2) _ rfl (q2) #[.string S, .int .i64 (((r3.fail r.p 9)).p : Int), .int .i64 ((r3.fail r.p 9)).co] rfl rfl 48 #[.string ⟨#[]⟩, .int .i64 0, .int .i64 0] z8 rdsize rfl (by simp [Value.oneCell']) ?_)
      obtain ⟨w9, h9⟩ : ∃ W, W = World.setRow V7 q2 #[.string S, .int .i64 (((r3.fail r.p 9)).p : Int), .int .i64 ((r3.fail r.p 9)).co] := ⟨_, rfl⟩
      rw [← h9] at cc bb ⊢
      clear h9 z8
      have k0 := boxc cc 0 _ rfl
      have k1 := boxc cc 1 _ rfl
      have k2 := boxc cc 2 _ rfl
      refine bodyPost_ret (v := .tuple #[.agg #[.string S, .int .i64 (((r3.fail r.p 9)).p : Int), .int .i64 ((r3.fail r.p 9)).co], .int .i64 0, .int .i64 0]) (by simp [results, Try.results42, go_sem, k0, k1, k2]) rfl ⟨?_, bb⟩
      rw [HV.out]
     ·
      have ja : ¬ α < 0 := ga
      have ja2 : 0 ≤ α := by omega
      have ji2 : ¬ (S.size : Int) ≤ (r3.p : Int) := by omega
      have jz : ((z3 : Int) != 125) = false := by simp; omega
      have jz0 : ((z3 : Int) == 125) = true := by simp; omega
      by_cases g2 : 20 < α
      ·
       have l1 : 20 < α := g2
       have HV : Hid (m = (r3.fail r.p 4, 0, 0)) := by show _ = _; rw [HE3.out]; unfold rr.fin; rw [if_neg (by rw [hby, g1]; simp only [ne_eq, not_true_eq_false, false_or]; omega), if_pos (Or.inl g2)]
       clear g1 hby ga
       go_wp2_with ((with_reducible show wpList _ _ _ (Oper.mk _ (Op.store 48 (.tmp 1) _) _ _ _ _ :: _) _ _); refine wpList_store_row rfl 48 (.tmp 1) _ rfl (q) #[.string S, .int .i64 ((r2).p : Int), .int .i64 (r2).co] rfl rfl 48 #[.string S, .int .i64 ((r1).p : Int), .int .i64 (r1).co] y2 rdsize rfl (by simp [Value.oneCell']) ?_)
       clear y2 e3_0 e3_1 e3_2 e3_f ip4 iw4 iv4 e5_0 e5_1 e5_2 e5_f
       obtain ⟨V6, hV6⟩ : ∃ W, W = ((World.setRow V1 q #[.string S, .int .i64 ((r2).p : Int), .int .i64 (r2).co]).setCell ⟨q, 1, none⟩ (.int .i64 (r3.p : Int))) := ⟨_, rfl⟩
       have X6 := X4.out
       have Z6 := Z4.out
       rw [← hV6] at X6 Z6 ⊢
       replace X6 := Lib.hid X6
       replace Z6 := Lib.hid Z6
       clear hV6 X4 Z4
       with_reducible refine (HFA.out r3 r.p 4 V6).mono ?_
       rintro e V7 ⟨rfl, b7⟩
       have X7 := Lib.hid (X6.out.call b7)
       have Z7 := Lib.hid (Z6.out.call b7)
       clear b7 X6 Z6
       have z8 := Z7.out
       have cc := setRow_heap V7 q2 _ #[.string S, .int .i64 (((r3.fail r.p 4)).p : Int), .int .i64 ((r3.fail r.p 4)).co] _ _ z8
       have bb := below_setRow X7.out.2.1 (g := q2) (by have := X7.out.2.2; have := HQ.out; omega) #[.string S, .int .i64 (((r3.fail r.p 4)).p : Int), .int .i64 ((r3.fail r.p 4)).co]
       go_wp2_with ((with_reducible show wpList _ _ _ (Oper.mk _ (Op.store 48 (.tmp 2) _) _ _ _ _ :: _) _ _); refine wpList_store_row rfl 48 (.tmp 2) _ rfl (q2) #[.string S, .int .i64 (((r3.fail r.p 4)).p : Int), .int .i64 ((r3.fail r.p 4)).co] rfl rfl 48 #[.string ⟨#[]⟩, .int .i64 0, .int .i64 0] z8 rdsize rfl (by simp [Value.oneCell']) ?_)
       obtain ⟨w9, h9⟩ : ∃ W, W = World.setRow V7 q2 #[.string S, .int .i64 (((r3.fail r.p 4)).p : Int), .int .i64 ((r3.fail r.p 4)).co] := ⟨_, rfl⟩
       rw [← h9] at cc bb ⊢
       clear h9 z8
       have k0 := boxc cc 0 _ rfl
       have k1 := boxc cc 1 _ rfl
       have k2 := boxc cc 2 _ rfl
       refine bodyPost_ret (v := .tuple #[.agg #[.string S, .int .i64 (((r3.fail r.p 4)).p : Int), .int .i64 ((r3.fail r.p 4)).co], .int .i64 0, .int .i64 0]) (by simp [results, Try.results42, go_sem, k0, k1, k2]) rfl ⟨?_, bb⟩
       rw [HV.out]
      ·
       have l1 : ¬ 20 < α := g2
       obtain ⟨r9, hr9⟩ : ∃ x, x = r3.fwd := ⟨_, rfl⟩
       have R9 := Lib.hid hr9
       clear hr9
       have HV : Hid (m = (r9, α, (-1))) := by show _ = _; rw [HE3.out, R9.out]; unfold rr.fin; rw [if_neg (by rw [hby, g1]; simp only [ne_eq, not_true_eq_false, false_or]; omega), if_neg (by omega)]
       clear g1 hby ga
       have ip6 : (r3.p : Int) + 1 = (r9.p : Int) := by rw [R9.out]; rfl
       have iw6 : IntKind.i64.wrap (r9.p : Int) = (r9.p : Int) := IntWalk.i64_in _ (by omega)
       have iv6 : IntKind.i64.wrap ((r3.p : Int) + 1) = (r9.p : Int) := by rw [ip6]; exact iw6
       have X6 := Lib.hid (X4.out.fwd' R9.out)
       have Z6 := Lib.hid (Z4.out.kx (KX.cell (W := ((World.setRow V1 q #[.string S, .int .i64 ((r2).p : Int), .int .i64 (r2).co]).setCell ⟨q, 1, none⟩ (.int .i64 (r3.p : Int)))) (q := q) (i := 1) (u := (.int .i64 (r9.p : Int)))) (by have := HQ.out; omega))
       have e7_0 := boxc X6.out.1 0 _ rfl
       have e7_1 := boxc X6.out.1 1 _ rfl
       have e7_2 := boxc X6.out.1 2 _ rfl
       have e7_f := boxf X6.out.1 1
       have z8 := Z6.out
       have cc := setRow_heap (((World.setRow V1 q #[.string S, .int .i64 ((r2).p : Int), .int .i64 (r2).co]).setCell ⟨q, 1, none⟩ (.int .i64 (r3.p : Int))).setCell ⟨q, 1, none⟩ (.int .i64 (r9.p : Int))) q2 _ #[.string S, .int .i64 ((r9).p : Int), .int .i64 (r9).co] _ _ z8
       have bb := below_setRow X6.out.2.1 (g := q2) (by have := X6.out.2.2; have := HQ.out; omega) #[.string S, .int .i64 ((r9).p : Int), .int .i64 (r9).co]
       go_wp2_with (first | ((with_reducible show wpList _ _ _ (Oper.mk _ (Op.store 48 (.tmp 2) _) _ _ _ _ :: _) _ _); refine wpList_store_row rfl 48 (.tmp 2) _ rfl (q2) #[.string S, .int .i64 ((r9).p : Int), .int .i64 (r9).co] rfl rfl 48 #[.string ⟨#[]⟩, .int .i64 0, .int .i64 0] z8 rdsize rfl (by simp [Value.oneCell']) ?_) | ((with_reducible show wpList _ _ _ (Oper.mk _ (Op.store 48 (.tmp 1) _) _ _ _ _ :: _) _ _); refine wpList_store_row rfl 48 (.tmp 1) _ rfl (q) #[.string S, .int .i64 ((r2).p : Int), .int .i64 (r2).co] rfl rfl 48 #[.string S, .int .i64 ((r1).p : Int), .int .i64 (r1).co] y2 rdsize rfl (by simp [Value.oneCell']) ?_))
       obtain ⟨w9, h9⟩ : ∃ W, W = World.setRow (((World.setRow V1 q #[.string S, .int .i64 ((r2).p : Int), .int .i64 (r2).co]).setCell ⟨q, 1, none⟩ (.int .i64 (r3.p : Int))).setCell ⟨q, 1, none⟩ (.int .i64 (r9.p : Int))) q2 #[.string S, .int .i64 ((r9).p : Int), .int .i64 (r9).co] := ⟨_, rfl⟩
       rw [← h9] at cc bb ⊢
       clear h9 z8 y2 e3_0 e3_1 e3_2 e3_f ip4 iw4 iv4 e5_0 e5_1 e5_2 e5_f ip6 iw6 iv6 e7_0 e7_1 e7_2 e7_f
       have k0 := boxc cc 0 _ rfl
       have k1 := boxc cc 1 _ rfl
       have k2 := boxc cc 2 _ rfl
       refine bodyPost_ret (v := .tuple #[.agg #[.string S, .int .i64 ((r9).p : Int), .int .i64 (r9).co], .int .i64 α, .int .i64 (-1)]) (by simp [results, Try.results42, go_sem, k0, k1, k2]) rfl ⟨?_, bb⟩
       rw [HV.out]
    ·
     have jn : ((z3 : Int) != 125) = true := by simp; omega
     have HE3 := Lib.hid (HE2.out.trans (if_pos ⟨by rw [HLEN.out]; exact gp, by rw [hb3]; exact fun h => gn (Option.some.inj h)⟩))
     have HAL4 : Hid ((rr.number (kit.bytes S) r3).1.p ≤ S.size) := by show _ ≤ _; have h := (rr.number_le (kit.bytes S) r3 (by rw [HLEN.out]; omega)).2.1; rw [HLEN.out] at h; exact h
     have HN3 := Lib.hid (fun W => HNU.out r3 W (by omega))
     obtain ⟨r4, hr4⟩ : ∃ x, x = (rr.number (kit.bytes S) r3).1 := ⟨_, rfl⟩
     obtain ⟨β, hβ⟩ : ∃ x, x = rr.oi (rr.number (kit.bytes S) r3).2 := ⟨_, rfl⟩
     rw [← hr4, ← hβ] at HE3 HN3
     rw [← hr4] at HAL4
     have h4l := HAL4.out
     clear hr4 hβ hb3 gn
     go_wp2_with ((with_reducible show wpList _ _ _ (Oper.mk _ (Op.store 48 (.tmp 1) _) _ _ _ _ :: _) _ _); refine wpList_store_row rfl 48 (.tmp 1) _ rfl (q) #[.string S, .int .i64 ((r2).p : Int), .int .i64 (r2).co] rfl rfl 48 #[.string S, .int .i64 ((r1).p : Int), .int .i64 (r1).co] y2 rdsize rfl (by simp [Value.oneCell']) ?_)
     clear y2 e3_0 e3_1 e3_2 e3_f ip4 iw4 iv4 e5_0 e5_1 e5_2 e5_f
     obtain ⟨V6, hV6⟩ : ∃ W, W = ((World.setRow V1 q #[.string S, .int .i64 ((r2).p : Int), .int .i64 (r2).co]).setCell ⟨q, 1, none⟩ (.int .i64 (r3.p : Int))) := ⟨_, rfl⟩
     have X6 := X4.out
     have Z6 := Z4.out
     rw [← hV6] at X6 Z6 ⊢
     replace X6 := Lib.hid X6
     replace Z6 := Lib.hid Z6
     clear hV6 X4 Z4
     with_reducible refine (HN3.out V6).mono ?_
     rintro e V7 ⟨rfl, b7⟩
     have X7 := Lib.hid (X6.out.call b7)
     have Z7 := Lib.hid (Z6.out.call b7)
     clear b7 X6 Z6
     by_cases gg : β < 0
     ·
      have jb : β < 0 := gg
      have HV := Lib.hid (HE3.out.trans (if_pos gg))
      clear gg
      have y8 := X7.out.1
      have X8 := Lib.hid (X7.out.row r4)
      have Z8 := Lib.hid (Z7.out.kx (KX.row (W := V7) (q := q) (cs := #[.string S, .int .i64 ((r4).p : Int), .int .i64 (r4).co])) (by have := HQ.out; omega))
      have e9_0 := boxc X8.out.1 0 _ rfl
      have e9_1 := boxc X8.out.1 1 _ rfl
      have e9_2 := boxc X8.out.1 2 _ rfl
      have e9_f := boxf X8.out.1 1
      go_wp2_with ((with_reducible show wpList _ _ _ (Oper.mk _ (Op.store 48 (.tmp 1) _) _ _ _ _ :: _) _ _); refine wpList_store_row rfl 48 (.tmp 1) _ rfl (q) #[.string S, .int .i64 ((r4).p : Int), .int .i64 (r4).co] rfl rfl 48 #[.string S, .int .i64 ((r3).p : Int), .int .i64 (r3).co] y8 rdsize rfl (by simp [Value.oneCell']) ?_)
      clear y8 e9_0 e9_1 e9_2 e9_f
      obtain ⟨V10, hV10⟩ : ∃ W, W = (World.setRow V7 q #[.string S, .int .i64 ((r4).p : Int), .int .i64 (r4).co]) := ⟨_, rfl⟩
      have X10 := X8.out
      have Z10 := Z8.out
      rw [← hV10] at X10 Z10 ⊢
      replace X10 := Lib.hid X10
      replace Z10 := Lib.hid Z10
      clear hV10 X8 Z8
      with_reducible refine (HFA.out r4 r.p 9 V10).mono ?_
      rintro e V11 ⟨rfl, b11⟩
      have X11 := Lib.hid (X10.out.call b11)
      have Z11 := Lib.hid (Z10.out.call b11)
      clear b11 X10 Z10
      have z12 := Z11.out
      have cc := setRow_heap V11 q2 _ #[.string S, .int .i64 (((r4.fail r.p 9)).p : Int), .int .i64 ((r4.fail r.p 9)).co] _ _ z12
      have bb := below_setRow X11.out.2.1 (g := q2) (by have := X11.out.2.2; have := HQ.out; omega) #[.string S, .int .i64 (((r4.fail r.p 9)).p : Int), .int .i64 ((r4.fail r.p 9)).co]
      go_wp2_with ((with_reducible show wpList _ _ _ (Oper.mk _ (Op.store 48 (.tmp 2) _) _ _ _ _ :: _) _ _); refine wpList_store_row rfl 48 (.tmp 2) _ rfl (q2) #[.string S, .int .i64 (((r4.fail r.p 9)).p : Int), .int .i64 ((r4.fail r.p 9)).co] rfl rfl 48 #[.string ⟨#[]⟩, .int .i64 0, .int .i64 0] z12 rdsize rfl (by simp [Value.oneCell']) ?_)
      obtain ⟨w9, h9⟩ : ∃ W, W = World.setRow V11 q2 #[.string S, .int .i64 (((r4.fail r.p 9)).p : Int), .int .i64 ((r4.fail r.p 9)).co] := ⟨_, rfl⟩
      rw [← h9] at cc bb ⊢
      clear h9 z12
      have k0 := boxc cc 0 _ rfl
      have k1 := boxc cc 1 _ rfl
      have k2 := boxc cc 2 _ rfl
      refine bodyPost_ret (v := .tuple #[.agg #[.string S, .int .i64 (((r4.fail r.p 9)).p : Int), .int .i64 ((r4.fail r.p 9)).co], .int .i64 0, .int .i64 0]) (by simp [results, Try.results42, go_sem, k0, k1, k2]) rfl ⟨?_, bb⟩
      rw [HV.out]
     ·
      have jb0 : ¬ β < 0 := gg
      have jb9 : 0 ≤ β := by omega
      have HE4 := Lib.hid (HE3.out.trans (if_neg gg))
      have y8 := X7.out.1
      have X8 := Lib.hid (X7.out.row r4)
      have Z8 := Lib.hid (Z7.out.kx (KX.row (W := V7) (q := q) (cs := #[.string S, .int .i64 ((r4).p : Int), .int .i64 (r4).co])) (by have := HQ.out; omega))
      have e9_0 := boxc X8.out.1 0 _ rfl
      have e9_1 := boxc X8.out.1 1 _ rfl
      have e9_2 := boxc X8.out.1 2 _ rfl
      have e9_f := boxf X8.out.1 1
      by_cases ga : α < 0
      ·
       have ia := Lib.hid ga
       have ja : α < 0 := ga
       have HV : Hid (m = (r4.fail r.p 9, 0, 0)) := by show _ = _; rw [HE4.out]; unfold rr.fin; rw [if_pos (Or.inl ga)]
       clear ga
       go_wp2_with ((with_reducible show wpList _ _ _ (Oper.mk _ (Op.store 48 (.tmp 1) _) _ _ _ _ :: _) _ _); refine wpList_store_row rfl 48 (.tmp 1) _ rfl (q) #[.string S, .int .i64 ((r4).p : Int), .int .i64 (r4).co] rfl rfl 48 #[.string S, .int .i64 ((r3).p : Int), .int .i64 (r3).co] y8 rdsize rfl (by simp [Value.oneCell']) ?_)
       clear y8 e9_0 e9_1 e9_2 e9_f
       obtain ⟨V10, hV10⟩ : ∃ W, W = (World.setRow V7 q #[.string S, .int .i64 ((r4).p : Int), .int .i64 (r4).co]) := ⟨_, rfl⟩
       have X10 := X8.out
       have Z10 := Z8.out
       rw [← hV10] at X10 Z10 ⊢
       replace X10 := Lib.hid X10
       replace Z10 := Lib.hid Z10
       clear hV10 X8 Z8
       with_reducible refine (HFA.out r4 r.p 9 V10).mono ?_
       rintro e V11 ⟨rfl, b11⟩
       have X11 := Lib.hid (X10.out.call b11)
       have Z11 := Lib.hid (Z10.out.call b11)
       clear b11 X10 Z10
       have z12 := Z11.out
       have cc := setRow_heap V11 q2 _ #[.string S, .int .i64 (((r4.fail r.p 9)).p : Int), .int .i64 ((r4.fail r.p 9)).co] _ _ z12
       have bb := below_setRow X11.out.2.1 (g := q2) (by have := X11.out.2.2; have := HQ.out; omega) #[.string S, .int .i64 (((r4.fail r.p 9)).p : Int), .int .i64 ((r4.fail r.p 9)).co]
       go_wp2_with ((with_reducible show wpList _ _ _ (Oper.mk _ (Op.store 48 (.tmp 2) _) _ _ _ _ :: _) _ _); refine wpList_store_row rfl 48 (.tmp 2) _ rfl (q2) #[.string S, .int .i64 (((r4.fail r.p 9)).p : Int), .int .i64 ((r4.fail r.p 9)).co] rfl rfl 48 #[.string ⟨#[]⟩, .int .i64 0, .int .i64 0] z12 rdsize rfl (by simp [Value.oneCell']) ?_)
       obtain ⟨w9, h9⟩ : ∃ W, W = World.setRow V11 q2 #[.string S, .int .i64 (((r4.fail r.p 9)).p : Int), .int .i64 ((r4.fail r.p 9)).co] := ⟨_, rfl⟩
       rw [← h9] at cc bb ⊢
       clear h9 z12
       have k0 := boxc cc 0 _ rfl
       have k1 := boxc cc 1 _ rfl
       have k2 := boxc cc 2 _ rfl
       refine bodyPost_ret (v := .tuple #[.agg #[.string S, .int .i64 (((r4.fail r.p 9)).p : Int), .int .i64 ((r4.fail r.p 9)).co], .int .i64 0, .int .i64 0]) (by simp [results, Try.results42, go_sem, k0, k1, k2]) rfl ⟨?_, bb⟩
       rw [HV.out]
      ·
       have ja : ¬ α < 0 := ga
       have ja2 : 0 ≤ α := by omega
       by_cases go : r4.p < S.size
       ·
        have ji : (r4.p : Int) < (S.size : Int) := by omega
        have ji2 : ¬ (S.size : Int) ≤ (r4.p : Int) := by omega
        obtain ⟨z, hz⟩ : ∃ z, z = (S[r4.p]'go).toNat := ⟨_, rfl⟩
        have hby : (kit.bytes S)[r4.p]? = some z := by rw [byte_at go, hz]
        replace hz := hz.symm
        by_cases g1 : z = 125
        ·
         have jz : ((z : Int) != 125) = false := by simp; omega
         have jz0 : ((z : Int) == 125) = true := by simp; omega
         by_cases gb : 0 ≤ β ∧ β < α
         ·
          have HV : Hid (m = (r4.fail r.p 9, 0, 0)) := by show _ = _; rw [HE4.out]; unfold rr.fin; rw [if_pos (Or.inr (Or.inr gb))]
          have jb1 := gb.1
          have jb2 := gb.2
          clear gb g1 hby ga
          go_wp2_with ((with_reducible show wpList _ _ _ (Oper.mk _ (Op.store 48 (.tmp 1) _) _ _ _ _ :: _) _ _); refine wpList_store_row rfl 48 (.tmp 1) _ rfl (q) #[.string S, .int .i64 ((r4).p : Int), .int .i64 (r4).co] rfl rfl 48 #[.string S, .int .i64 ((r3).p : Int), .int .i64 (r3).co] y8 rdsize rfl (by simp [Value.oneCell']) ?_)
          clear y8 e9_0 e9_1 e9_2 e9_f
          obtain ⟨V10, hV10⟩ : ∃ W, W = (World.setRow V7 q #[.string S, .int .i64 ((r4).p : Int), .int .i64 (r4).co]) := ⟨_, rfl⟩
          have X10 := X8.out
          have Z10 := Z8.out
          rw [← hV10] at X10 Z10 ⊢
          replace X10 := Lib.hid X10
          replace Z10 := Lib.hid Z10
          clear hV10 X8 Z8
          with_reducible refine (HFA.out r4 r.p 9 V10).mono ?_
          rintro e V11 ⟨rfl, b11⟩
          have X11 := Lib.hid (X10.out.call b11)
          have Z11 := Lib.hid (Z10.out.call b11)
          clear b11 X10 Z10
          have z12 := Z11.out
          have cc := setRow_heap V11 q2 _ #[.string S, .int .i64 (((r4.fail r.p 9)).p : Int), .int .i64 ((r4.fail r.p 9)).co] _ _ z12
          have bb := below_setRow X11.out.2.1 (g := q2) (by have := X11.out.2.2; have := HQ.out; omega) #[.string S, .int .i64 (((r4.fail r.p 9)).p : Int), .int .i64 ((r4.fail r.p 9)).co]
          go_wp2_with ((with_reducible show wpList _ _ _ (Oper.mk _ (Op.store 48 (.tmp 2) _) _ _ _ _ :: _) _ _); refine wpList_store_row rfl 48 (.tmp 2) _ rfl (q2) #[.string S, .int .i64 (((r4.fail r.p 9)).p : Int), .int .i64 ((r4.fail r.p 9)).co] rfl rfl 48 #[.string ⟨#[]⟩, .int .i64 0, .int .i64 0] z12 rdsize rfl (by simp [Value.oneCell']) ?_)
          obtain ⟨w9, h9⟩ : ∃ W, W = World.setRow V11 q2 #[.string S, .int .i64 (((r4.fail r.p 9)).p : Int), .int .i64 ((r4.fail r.p 9)).co] := ⟨_, rfl⟩
          rw [← h9] at cc bb ⊢
          clear h9 z12
          have k0 := boxc cc 0 _ rfl
          have k1 := boxc cc 1 _ rfl
          have k2 := boxc cc 2 _ rfl
          refine bodyPost_ret (v := .tuple #[.agg #[.string S, .int .i64 (((r4.fail r.p 9)).p : Int), .int .i64 ((r4.fail r.p 9)).co], .int .i64 0, .int .i64 0]) (by simp [results, Try.results42, go_sem, k0, k1, k2]) rfl ⟨?_, bb⟩
          rw [HV.out]
         ·
          have jb : (¬ 0 ≤ β) ∨ (0 ≤ β ∧ ¬ β < α) := by omega
          clear jb
          have jb2 : ¬ β < α := by omega
          by_cases g2 : 20 < α
          ·
           have l1 : 20 < α := g2
           have HV : Hid (m = (r4.fail r.p 4, 0, 0)) := by show _ = _; rw [HE4.out]; unfold rr.fin; rw [if_neg (by rw [hby, g1]; simp only [ne_eq, not_true_eq_false, false_or]; omega), if_pos (Or.inl g2)]
           clear g1 hby ga gb
           go_wp2_with ((with_reducible show wpList _ _ _ (Oper.mk _ (Op.store 48 (.tmp 1) _) _ _ _ _ :: _) _ _); refine wpList_store_row rfl 48 (.tmp 1) _ rfl (q) #[.string S, .int .i64 ((r4).p : Int), .int .i64 (r4).co] rfl rfl 48 #[.string S, .int .i64 ((r3).p : Int), .int .i64 (r3).co] y8 rdsize rfl (by simp [Value.oneCell']) ?_)
           clear y8 e9_0 e9_1 e9_2 e9_f
           obtain ⟨V10, hV10⟩ : ∃ W, W = (World.setRow V7 q #[.string S, .int .i64 ((r4).p : Int), .int .i64 (r4).co]) := ⟨_, rfl⟩
           have X10 := X8.out
           have Z10 := Z8.out
           rw [← hV10] at X10 Z10 ⊢
           replace X10 := Lib.hid X10
           replace Z10 := Lib.hid Z10
           clear hV10 X8 Z8
           with_reducible refine (HFA.out r4 r.p 4 V10).mono ?_
           rintro e V11 ⟨rfl, b11⟩
           have X11 := Lib.hid (X10.out.call b11)
           have Z11 := Lib.hid (Z10.out.call b11)
           clear b11 X10 Z10
           have z12 := Z11.out
           have cc := setRow_heap V11 q2 _ #[.string S, .int .i64 (((r4.fail r.p 4)).p : Int), .int .i64 ((r4.fail r.p 4)).co] _ _ z12
           have bb := below_setRow X11.out.2.1 (g := q2) (by have := X11.out.2.2; have := HQ.out; omega) #[.string S, .int .i64 (((r4.fail r.p 4)).p : Int), .int .i64 ((r4.fail r.p 4)).co]
           go_wp2_with ((with_reducible show wpList _ _ _ (Oper.mk _ (Op.store 48 (.tmp 2) _) _ _ _ _ :: _) _ _); refine wpList_store_row rfl 48 (.tmp 2) _ rfl (q2) #[.string S, .int .i64 (((r4.fail r.p 4)).p : Int), .int .i64 ((r4.fail r.p 4)).co] rfl rfl 48 #[.string ⟨#[]⟩, .int .i64 0, .int .i64 0] z12 rdsize rfl (by simp [Value.oneCell']) ?_)
           obtain ⟨w9, h9⟩ : ∃ W, W = World.setRow V11 q2 #[.string S, .int .i64 (((r4.fail r.p 4)).p : Int), .int .i64 ((r4.fail r.p 4)).co] := ⟨_, rfl⟩
           rw [← h9] at cc bb ⊢
           clear h9 z12
           have k0 := boxc cc 0 _ rfl
           have k1 := boxc cc 1 _ rfl
           have k2 := boxc cc 2 _ rfl
           refine bodyPost_ret (v := .tuple #[.agg #[.string S, .int .i64 (((r4.fail r.p 4)).p : Int), .int .i64 ((r4.fail r.p 4)).co], .int .i64 0, .int .i64 0]) (by simp [results, Try.results42, go_sem, k0, k1, k2]) rfl ⟨?_, bb⟩
           rw [HV.out]
          ·
           have l1 : ¬ 20 < α := g2
           by_cases g3 : 20 < β
           ·
            have l2 : 20 < β := g3
            have HV : Hid (m = (r4.fail r.p 4, 0, 0)) := by show _ = _; rw [HE4.out]; unfold rr.fin; rw [if_neg (by rw [hby, g1]; simp only [ne_eq, not_true_eq_false, false_or]; omega), if_pos (Or.inr g3)]
            clear g1 hby ga gb
            go_wp2_with ((with_reducible show wpList _ _ _ (Oper.mk _ (Op.store 48 (.tmp 1) _) _ _ _ _ :: _) _ _); refine wpList_store_row rfl 48 (.tmp 1) _ rfl (q) #[.string S, .int .i64 ((r4).p : Int), .int .i64 (r4).co] rfl rfl 48 #[.string S, .int .i64 ((r3).p : Int), .int .i64 (r3).co] y8 rdsize rfl (by simp [Value.oneCell']) ?_)
            clear y8 e9_0 e9_1 e9_2 e9_f
            obtain ⟨V10, hV10⟩ : ∃ W, W = (World.setRow V7 q #[.string S, .int .i64 ((r4).p : Int), .int .i64 (r4).co]) := ⟨_, rfl⟩
            have X10 := X8.out
            have Z10 := Z8.out
            rw [← hV10] at X10 Z10 ⊢
            replace X10 := Lib.hid X10
            replace Z10 := Lib.hid Z10
            clear hV10 X8 Z8
            with_reducible refine (HFA.out r4 r.p 4 V10).mono ?_
            rintro e V11 ⟨rfl, b11⟩
            have X11 := Lib.hid (X10.out.call b11)
            have Z11 := Lib.hid (Z10.out.call b11)
            clear b11 X10 Z10
            have z12 := Z11.out
            have cc := setRow_heap V11 q2 _ #[.string S, .int .i64 (((r4.fail r.p 4)).p : Int), .int .i64 ((r4.fail r.p 4)).co] _ _ z12
            have bb := below_setRow X11.out.2.1 (g := q2) (by have := X11.out.2.2; have := HQ.out; omega) #[.string S, .int .i64 (((r4.fail r.p 4)).p : Int), .int .i64 ((r4.fail r.p 4)).co]
            go_wp2_with ((with_reducible show wpList _ _ _ (Oper.mk _ (Op.store 48 (.tmp 2) _) _ _ _ _ :: _) _ _); refine wpList_store_row rfl 48 (.tmp 2) _ rfl (q2) #[.string S, .int .i64 (((r4.fail r.p 4)).p : Int), .int .i64 ((r4.fail r.p 4)).co] rfl rfl 48 #[.string ⟨#[]⟩, .int .i64 0, .int .i64 0] z12 rdsize rfl (by simp [Value.oneCell']) ?_)
            obtain ⟨w9, h9⟩ : ∃ W, W = World.setRow V11 q2 #[.string S, .int .i64 (((r4.fail r.p 4)).p : Int), .int .i64 ((r4.fail r.p 4)).co] := ⟨_, rfl⟩
            rw [← h9] at cc bb ⊢
            clear h9 z12
            have k0 := boxc cc 0 _ rfl
            have k1 := boxc cc 1 _ rfl
            have k2 := boxc cc 2 _ rfl
            refine bodyPost_ret (v := .tuple #[.agg #[.string S, .int .i64 (((r4.fail r.p 4)).p : Int), .int .i64 ((r4.fail r.p 4)).co], .int .i64 0, .int .i64 0]) (by simp [results, Try.results42, go_sem, k0, k1, k2]) rfl ⟨?_, bb⟩
            rw [HV.out]
           ·
            have l2 : ¬ 20 < β := g3
            obtain ⟨r9, hr9⟩ : ∃ x, x = r4.fwd := ⟨_, rfl⟩
            have R9 := Lib.hid hr9
            clear hr9
            have HV : Hid (m = (r9, α, β)) := by show _ = _; rw [HE4.out, R9.out]; unfold rr.fin; rw [if_neg (by rw [hby, g1]; simp only [ne_eq, not_true_eq_false, false_or]; omega), if_neg (by omega)]
            clear g1 hby ga gb
            have ip10 : (r4.p : Int) + 1 = (r9.p : Int) := by rw [R9.out]; rfl
            have iw10 : IntKind.i64.wrap (r9.p : Int) = (r9.p : Int) := IntWalk.i64_in _ (by omega)
            have iv10 : IntKind.i64.wrap ((r4.p : Int) + 1) = (r9.p : Int) := by rw [ip10]; exact iw10
            have X10 := Lib.hid (X8.out.fwd' R9.out)
            have Z10 := Lib.hid (Z8.out.kx (KX.cell (W := (World.setRow V7 q #[.string S, .int .i64 ((r4).p : Int), .int .i64 (r4).co])) (q := q) (i := 1) (u := (.int .i64 (r9.p : Int)))) (by have := HQ.out; omega))
            have e11_0 := boxc X10.out.1 0 _ rfl
            have e11_1 := boxc X10.out.1 1 _ rfl
            have e11_2 := boxc X10.out.1 2 _ rfl
            have e11_f := boxf X10.out.1 1
            have z12 := Z10.out
            have cc := setRow_heap ((World.setRow V7 q #[.string S, .int .i64 ((r4).p : Int), .int .i64 (r4).co]).setCell ⟨q, 1, none⟩ (.int .i64 (r9.p : Int))) q2 _ #[.string S, .int .i64 ((r9).p : Int), .int .i64 (r9).co] _ _ z12
            have bb := below_setRow X10.out.2.1 (g := q2) (by have := X10.out.2.2; have := HQ.out; omega) #[.string S, .int .i64 ((r9).p : Int), .int .i64 (r9).co]
            go_wp2_with (first | ((with_reducible show wpList _ _ _ (Oper.mk _ (Op.store 48 (.tmp 2) _) _ _ _ _ :: _) _ _); refine wpList_store_row rfl 48 (.tmp 2) _ rfl (q2) #[.string S, .int .i64 ((r9).p : Int), .int .i64 (r9).co] rfl rfl 48 #[.string ⟨#[]⟩, .int .i64 0, .int .i64 0] z12 rdsize rfl (by simp [Value.oneCell']) ?_) | ((with_reducible show wpList _ _ _ (Oper.mk _ (Op.store 48 (.tmp 1) _) _ _ _ _ :: _) _ _); refine wpList_store_row rfl 48 (.tmp 1) _ rfl (q) #[.string S, .int .i64 ((r4).p : Int), .int .i64 (r4).co] rfl rfl 48 #[.string S, .int .i64 ((r3).p : Int), .int .i64 (r3).co] y8 rdsize rfl (by simp [Value.oneCell']) ?_))
            obtain ⟨w9, h9⟩ : ∃ W, W = World.setRow ((World.setRow V7 q #[.string S, .int .i64 ((r4).p : Int), .int .i64 (r4).co]).setCell ⟨q, 1, none⟩ (.int .i64 (r9.p : Int))) q2 #[.string S, .int .i64 ((r9).p : Int), .int .i64 (r9).co] := ⟨_, rfl⟩
            rw [← h9] at cc bb ⊢
            clear h9 z12 y8 e9_0 e9_1 e9_2 e9_f ip10 iw10 iv10 e11_0 e11_1 e11_2 e11_f
            have k0 := boxc cc 0 _ rfl
            have k1 := boxc cc 1 _ rfl
            have k2 := boxc cc 2 _ rfl
            refine bodyPost_ret (v := .tuple #[.agg #[.string S, .int .i64 ((r9).p : Int), .int .i64 (r9).co], .int .i64 α, .int .i64 β]) (by simp [results, Try.results42, go_sem, k0, k1, k2]) rfl ⟨?_, bb⟩
            rw [HV.out]
        ·
         have jz : ((z : Int) != 125) = true := by simp; omega
         have jz0 : ((z : Int) == 125) = false := beq_eq_false_iff_ne.2 (by omega)
         have HV : Hid (m = (r4.fail r.p 9, 0, 0)) := by show _ = _; rw [HE4.out]; unfold rr.fin; rw [if_pos (Or.inr (Or.inl (by rw [hby]; exact fun h => g1 (Option.some.inj h))))]
         clear g1 hby ga
         go_wp2_with ((with_reducible show wpList _ _ _ (Oper.mk _ (Op.store 48 (.tmp 1) _) _ _ _ _ :: _) _ _); refine wpList_store_row rfl 48 (.tmp 1) _ rfl (q) #[.string S, .int .i64 ((r4).p : Int), .int .i64 (r4).co] rfl rfl 48 #[.string S, .int .i64 ((r3).p : Int), .int .i64 (r3).co] y8 rdsize rfl (by simp [Value.oneCell']) ?_)
         clear y8 e9_0 e9_1 e9_2 e9_f
         obtain ⟨V10, hV10⟩ : ∃ W, W = (World.setRow V7 q #[.string S, .int .i64 ((r4).p : Int), .int .i64 (r4).co]) := ⟨_, rfl⟩
         have X10 := X8.out
         have Z10 := Z8.out
         rw [← hV10] at X10 Z10 ⊢
         replace X10 := Lib.hid X10
         replace Z10 := Lib.hid Z10
         clear hV10 X8 Z8
         with_reducible refine (HFA.out r4 r.p 9 V10).mono ?_
         rintro e V11 ⟨rfl, b11⟩
         have X11 := Lib.hid (X10.out.call b11)
         have Z11 := Lib.hid (Z10.out.call b11)
         clear b11 X10 Z10
         have z12 := Z11.out
         have cc := setRow_heap V11 q2 _ #[.string S, .int .i64 (((r4.fail r.p 9)).p : Int), .int .i64 ((r4.fail r.p 9)).co] _ _ z12
         have bb := below_setRow X11.out.2.1 (g := q2) (by have := X11.out.2.2; have := HQ.out; omega) #[.string S, .int .i64 (((r4.fail r.p 9)).p : Int), .int .i64 ((r4.fail r.p 9)).co]
         go_wp2_with ((with_reducible show wpList _ _ _ (Oper.mk _ (Op.store 48 (.tmp 2) _) _ _ _ _ :: _) _ _); refine wpList_store_row rfl 48 (.tmp 2) _ rfl (q2) #[.string S, .int .i64 (((r4.fail r.p 9)).p : Int), .int .i64 ((r4.fail r.p 9)).co] rfl rfl 48 #[.string ⟨#[]⟩, .int .i64 0, .int .i64 0] z12 rdsize rfl (by simp [Value.oneCell']) ?_)
         obtain ⟨w9, h9⟩ : ∃ W, W = World.setRow V11 q2 #[.string S, .int .i64 (((r4.fail r.p 9)).p : Int), .int .i64 ((r4.fail r.p 9)).co] := ⟨_, rfl⟩
         rw [← h9] at cc bb ⊢
         clear h9 z12
         have k0 := boxc cc 0 _ rfl
         have k1 := boxc cc 1 _ rfl
         have k2 := boxc cc 2 _ rfl
         refine bodyPost_ret (v := .tuple #[.agg #[.string S, .int .i64 (((r4.fail r.p 9)).p : Int), .int .i64 ((r4.fail r.p 9)).co], .int .i64 0, .int .i64 0]) (by simp [results, Try.results42, go_sem, k0, k1, k2]) rfl ⟨?_, bb⟩
         rw [HV.out]
       ·
        have jo : ¬ (r4.p : Int) < (S.size : Int) := by omega
        have jo2 : (S.size : Int) ≤ (r4.p : Int) := by omega
        have HV : Hid (m = (r4.fail r.p 9, 0, 0)) := by show _ = _; rw [HE4.out]; unfold rr.fin; rw [if_pos (Or.inr (Or.inl (by rw [byte_no (by omega)]; exact fun h => by cases h)))]
        clear ga go
        go_wp2_with ((with_reducible show wpList _ _ _ (Oper.mk _ (Op.store 48 (.tmp 1) _) _ _ _ _ :: _) _ _); refine wpList_store_row rfl 48 (.tmp 1) _ rfl (q) #[.string S, .int .i64 ((r4).p : Int), .int .i64 (r4).co] rfl rfl 48 #[.string S, .int .i64 ((r3).p : Int), .int .i64 (r3).co] y8 rdsize rfl (by simp [Value.oneCell']) ?_)
        clear y8 e9_0 e9_1 e9_2 e9_f
        obtain ⟨V10, hV10⟩ : ∃ W, W = (World.setRow V7 q #[.string S, .int .i64 ((r4).p : Int), .int .i64 (r4).co]) := ⟨_, rfl⟩
        have X10 := X8.out
        have Z10 := Z8.out
        rw [← hV10] at X10 Z10 ⊢
        replace X10 := Lib.hid X10
        replace Z10 := Lib.hid Z10
        clear hV10 X8 Z8
        with_reducible refine (HFA.out r4 r.p 9 V10).mono ?_
        rintro e V11 ⟨rfl, b11⟩
        have X11 := Lib.hid (X10.out.call b11)
        have Z11 := Lib.hid (Z10.out.call b11)
        clear b11 X10 Z10
        have z12 := Z11.out
        have cc := setRow_heap V11 q2 _ #[.string S, .int .i64 (((r4.fail r.p 9)).p : Int), .int .i64 ((r4.fail r.p 9)).co] _ _ z12
        have bb := below_setRow X11.out.2.1 (g := q2) (by have := X11.out.2.2; have := HQ.out; omega) #[.string S, .int .i64 (((r4.fail r.p 9)).p : Int), .int .i64 ((r4.fail r.p 9)).co]
        go_wp2_with ((with_reducible show wpList _ _ _ (Oper.mk _ (Op.store 48 (.tmp 2) _) _ _ _ _ :: _) _ _); refine wpList_store_row rfl 48 (.tmp 2) _ rfl (q2) #[.string S, .int .i64 (((r4.fail r.p 9)).p : Int), .int .i64 ((r4.fail r.p 9)).co] rfl rfl 48 #[.string ⟨#[]⟩, .int .i64 0, .int .i64 0] z12 rdsize rfl (by simp [Value.oneCell']) ?_)
        obtain ⟨w9, h9⟩ : ∃ W, W = World.setRow V11 q2 #[.string S, .int .i64 (((r4.fail r.p 9)).p : Int), .int .i64 ((r4.fail r.p 9)).co] := ⟨_, rfl⟩
        rw [← h9] at cc bb ⊢
        clear h9 z12
        have k0 := boxc cc 0 _ rfl
        have k1 := boxc cc 1 _ rfl
        have k2 := boxc cc 2 _ rfl
        refine bodyPost_ret (v := .tuple #[.agg #[.string S, .int .i64 (((r4.fail r.p 9)).p : Int), .int .i64 ((r4.fail r.p 9)).co], .int .i64 0, .int .i64 0]) (by simp [results, Try.results42, go_sem, k0, k1, k2]) rfl ⟨?_, bb⟩
        rw [HV.out]
   ·
    have kp : ¬ (r3.p : Int) < (S.size : Int) := by omega
    have HE3 := Lib.hid (HE2.out.trans (if_neg (fun h => gp (by have := h.1; rw [HLEN.out] at this; exact this))))
    by_cases ga : α < 0
    ·
     have ia := Lib.hid ga
     have ja : α < 0 := ga
     have HV : Hid (m = (r3.fail r.p 9, 0, 0)) := by show _ = _; rw [HE3.out]; unfold rr.fin; rw [if_pos (Or.inl ga)]
     clear ga
     go_wp2_with ((with_reducible show wpList _ _ _ (Oper.mk _ (Op.store 48 (.tmp 1) _) _ _ _ _ :: _) _ _); refine wpList_store_row rfl 48 (.tmp 1) _ rfl (q) #[.string S, .int .i64 ((r2).p : Int), .int .i64 (r2).co] rfl rfl 48 #[.string S, .int .i64 ((r1).p : Int), .int .i64 (r1).co] y2 rdsize rfl (by simp [Value.oneCell']) ?_)
     clear y2 e3_0 e3_1 e3_2 e3_f ip4 iw4 iv4 e5_0 e5_1 e5_2 e5_f
     obtain ⟨V6, hV6⟩ : ∃ W, W = ((World.setRow V1 q #[.string S, .int .i64 ((r2).p : Int), .int .i64 (r2).co]).setCell ⟨q, 1, none⟩ (.int .i64 (r3.p : Int))) := ⟨_, rfl⟩
     have X6 := X4.out
     have Z6 := Z4.out
     rw [← hV6] at X6 Z6 ⊢
     replace X6 := Lib.hid X6
     replace Z6 := Lib.hid Z6
     clear hV6 X4 Z4
     with_reducible refine (HFA.out r3 r.p 9 V6).mono ?_
     rintro e V7 ⟨rfl, b7⟩
     have X7 := Lib.hid (X6.out.call b7)
     have Z7 := Lib.hid (Z6.out.call b7)
     clear b7 X6 Z6
     have z8 := Z7.out
     have cc := setRow_heap V7 q2 _ #[.string S, .int .i64 (((r3.fail r.p 9)).p : Int), .int .i64 ((r3.fail r.p 9)).co] _ _ z8
     have bb := below_setRow X7.out.2.1 (g := q2) (by have := X7.out.2.2; have := HQ.out; omega) #[.string S, .int .i64 (((r3.fail r.p 9)).p : Int), .int .i64 ((r3.fail r.p 9)).co]
     go_wp2_with ((with_reducible show wpList _ _ _ (Oper.mk _ (Op.store 48 (.tmp 2) _) _ _ _ _ :: _) _ _); refine wpList_store_row rfl 48 (.tmp 2) _ rfl (q2) #[.string S, .int .i64 (((r3.fail r.p 9)).p : Int), .int .i64 ((r3.fail r.p 9)).co] rfl rfl 48 #[.string ⟨#[]⟩, .int .i64 0, .int .i64 0] z8 rdsize rfl (by simp [Value.oneCell']) ?_)
     obtain ⟨w9, h9⟩ : ∃ W, W = World.setRow V7 q2 #[.string S, .int .i64 (((r3.fail r.p 9)).p : Int), .int .i64 ((r3.fail r.p 9)).co] := ⟨_, rfl⟩
     rw [← h9] at cc bb ⊢
     clear h9 z8
     have k0 := boxc cc 0 _ rfl
     have k1 := boxc cc 1 _ rfl
     have k2 := boxc cc 2 _ rfl
     refine bodyPost_ret (v := .tuple #[.agg #[.string S, .int .i64 (((r3.fail r.p 9)).p : Int), .int .i64 ((r3.fail r.p 9)).co], .int .i64 0, .int .i64 0]) (by simp [results, Try.results42, go_sem, k0, k1, k2]) rfl ⟨?_, bb⟩
     rw [HV.out]
    ·
     have ja : ¬ α < 0 := ga
     have ja2 : 0 ≤ α := by omega
     have HV : Hid (m = (r3.fail r.p 9, 0, 0)) := by show _ = _; rw [HE3.out]; unfold rr.fin; rw [if_pos (Or.inr (Or.inl (by rw [byte_no (by omega)]; exact fun h => by cases h)))]
     clear ga
     go_wp2_with ((with_reducible show wpList _ _ _ (Oper.mk _ (Op.store 48 (.tmp 1) _) _ _ _ _ :: _) _ _); refine wpList_store_row rfl 48 (.tmp 1) _ rfl (q) #[.string S, .int .i64 ((r2).p : Int), .int .i64 (r2).co] rfl rfl 48 #[.string S, .int .i64 ((r1).p : Int), .int .i64 (r1).co] y2 rdsize rfl (by simp [Value.oneCell']) ?_)
     clear y2 e3_0 e3_1 e3_2 e3_f ip4 iw4 iv4 e5_0 e5_1 e5_2 e5_f
     obtain ⟨V6, hV6⟩ : ∃ W, W = ((World.setRow V1 q #[.string S, .int .i64 ((r2).p : Int), .int .i64 (r2).co]).setCell ⟨q, 1, none⟩ (.int .i64 (r3.p : Int))) := ⟨_, rfl⟩
     have X6 := X4.out
     have Z6 := Z4.out
     rw [← hV6] at X6 Z6 ⊢
     replace X6 := Lib.hid X6
     replace Z6 := Lib.hid Z6
     clear hV6 X4 Z4
     with_reducible refine (HFA.out r3 r.p 9 V6).mono ?_
     rintro e V7 ⟨rfl, b7⟩
     have X7 := Lib.hid (X6.out.call b7)
     have Z7 := Lib.hid (Z6.out.call b7)
     clear b7 X6 Z6
     have z8 := Z7.out
     have cc := setRow_heap V7 q2 _ #[.string S, .int .i64 (((r3.fail r.p 9)).p : Int), .int .i64 ((r3.fail r.p 9)).co] _ _ z8
     have bb := below_setRow X7.out.2.1 (g := q2) (by have := X7.out.2.2; have := HQ.out; omega) #[.string S, .int .i64 (((r3.fail r.p 9)).p : Int), .int .i64 ((r3.fail r.p 9)).co]
     go_wp2_with ((with_reducible show wpList _ _ _ (Oper.mk _ (Op.store 48 (.tmp 2) _) _ _ _ _ :: _) _ _); refine wpList_store_row rfl 48 (.tmp 2) _ rfl (q2) #[.string S, .int .i64 (((r3.fail r.p 9)).p : Int), .int .i64 ((r3.fail r.p 9)).co] rfl rfl 48 #[.string ⟨#[]⟩, .int .i64 0, .int .i64 0] z8 rdsize rfl (by simp [Value.oneCell']) ?_)
     obtain ⟨w9, h9⟩ : ∃ W, W = World.setRow V7 q2 #[.string S, .int .i64 (((r3.fail r.p 9)).p : Int), .int .i64 ((r3.fail r.p 9)).co] := ⟨_, rfl⟩
     rw [← h9] at cc bb ⊢
     clear h9 z8
     have k0 := boxc cc 0 _ rfl
     have k1 := boxc cc 1 _ rfl
     have k2 := boxc cc 2 _ rfl
     refine bodyPost_ret (v := .tuple #[.agg #[.string S, .int .i64 (((r3.fail r.p 9)).p : Int), .int .i64 ((r3.fail r.p 9)).co], .int .i64 0, .int .i64 0]) (by simp [results, Try.results42, go_sem, k0, k1, k2]) rfl ⟨?_, bb⟩
     rw [HV.out]
  ·
   have HE2 := Lib.hid (HE.out.trans (if_neg (by rw [hby]; exact fun h => gc (Option.some.inj h))))
   have jc : ((z : Int) == 44) = false := beq_eq_false_iff_ne.2 (by omega)
   have y2 := X1.out.1
   have X2 := Lib.hid (X1.out.row r2)
   have Z2 := Lib.hid (Z1.out.kx (KX.row (W := V1) (q := q) (cs := #[.string S, .int .i64 ((r2).p : Int), .int .i64 (r2).co])) (by have := HQ.out; omega))
   have e3_0 := boxc X2.out.1 0 _ rfl
   have e3_1 := boxc X2.out.1 1 _ rfl
   have e3_2 := boxc X2.out.1 2 _ rfl
   have e3_f := boxf X2.out.1 1
   by_cases ga : α < 0
   ·
    have ia := Lib.hid ga
    have ja : α < 0 := ga
    have HV : Hid (m = (r2.fail r.p 9, 0, 0)) := by show _ = _; rw [HE2.out]; unfold rr.fin; rw [if_pos (Or.inl ga)]
    clear ga
    go_wp2_with ((with_reducible show wpList _ _ _ (Oper.mk _ (Op.store 48 (.tmp 1) _) _ _ _ _ :: _) _ _); refine wpList_store_row rfl 48 (.tmp 1) _ rfl (q) #[.string S, .int .i64 ((r2).p : Int), .int .i64 (r2).co] rfl rfl 48 #[.string S, .int .i64 ((r1).p : Int), .int .i64 (r1).co] y2 rdsize rfl (by simp [Value.oneCell']) ?_)
    clear y2 e3_0 e3_1 e3_2 e3_f
    obtain ⟨V4, hV4⟩ : ∃ W, W = (World.setRow V1 q #[.string S, .int .i64 ((r2).p : Int), .int .i64 (r2).co]) := ⟨_, rfl⟩
    have X4 := X2.out
    have Z4 := Z2.out
    rw [← hV4] at X4 Z4 ⊢
    replace X4 := Lib.hid X4
    replace Z4 := Lib.hid Z4
    clear hV4 X2 Z2
    with_reducible refine (HFA.out r2 r.p 9 V4).mono ?_
    rintro e V5 ⟨rfl, b5⟩
    have X5 := Lib.hid (X4.out.call b5)
    have Z5 := Lib.hid (Z4.out.call b5)
    clear b5 X4 Z4
    have z6 := Z5.out
    have cc := setRow_heap V5 q2 _ #[.string S, .int .i64 (((r2.fail r.p 9)).p : Int), .int .i64 ((r2.fail r.p 9)).co] _ _ z6
    have bb := below_setRow X5.out.2.1 (g := q2) (by have := X5.out.2.2; have := HQ.out; omega) #[.string S, .int .i64 (((r2.fail r.p 9)).p : Int), .int .i64 ((r2.fail r.p 9)).co]
    go_wp2_with ((with_reducible show wpList _ _ _ (Oper.mk _ (Op.store 48 (.tmp 2) _) _ _ _ _ :: _) _ _); refine wpList_store_row rfl 48 (.tmp 2) _ rfl (q2) #[.string S, .int .i64 (((r2.fail r.p 9)).p : Int), .int .i64 ((r2.fail r.p 9)).co] rfl rfl 48 #[.string ⟨#[]⟩, .int .i64 0, .int .i64 0] z6 rdsize rfl (by simp [Value.oneCell']) ?_)
    obtain ⟨w9, h9⟩ : ∃ W, W = World.setRow V5 q2 #[.string S, .int .i64 (((r2.fail r.p 9)).p : Int), .int .i64 ((r2.fail r.p 9)).co] := ⟨_, rfl⟩
    rw [← h9] at cc bb ⊢
    clear h9 z6
    have k0 := boxc cc 0 _ rfl
    have k1 := boxc cc 1 _ rfl
    have k2 := boxc cc 2 _ rfl
    refine bodyPost_ret (v := .tuple #[.agg #[.string S, .int .i64 (((r2.fail r.p 9)).p : Int), .int .i64 ((r2.fail r.p 9)).co], .int .i64 0, .int .i64 0]) (by simp [results, Try.results42, go_sem, k0, k1, k2]) rfl ⟨?_, bb⟩
    rw [HV.out]
   ·
    have ja : ¬ α < 0 := ga
    have ja2 : 0 ≤ α := by omega
    have ji2 : ¬ (S.size : Int) ≤ (r2.p : Int) := by omega
    by_cases g1 : z = 125
    ·
     have jz : ((z : Int) != 125) = false := by simp; omega
     have jz0 : ((z : Int) == 125) = true := by simp; omega
     have gb : ¬ (0 ≤ α ∧ α < α) := by omega
     by_cases g2 : 20 < α
     ·
      have l1 : 20 < α := g2
      have HV : Hid (m = (r2.fail r.p 4, 0, 0)) := by show _ = _; rw [HE2.out]; unfold rr.fin; rw [if_neg (by rw [hby, g1]; simp only [ne_eq, not_true_eq_false, false_or]; omega), if_pos (Or.inl g2)]
      clear g1 hby ga gb
      go_wp2_with ((with_reducible show wpList _ _ _ (Oper.mk _ (Op.store 48 (.tmp 1) _) _ _ _ _ :: _) _ _); refine wpList_store_row rfl 48 (.tmp 1) _ rfl (q) #[.string S, .int .i64 ((r2).p : Int), .int .i64 (r2).co] rfl rfl 48 #[.string S, .int .i64 ((r1).p : Int), .int .i64 (r1).co] y2 rdsize rfl (by simp [Value.oneCell']) ?_)
      clear y2 e3_0 e3_1 e3_2 e3_f
      obtain ⟨V4, hV4⟩ : ∃ W, W = (World.setRow V1 q #[.string S, .int .i64 ((r2).p : Int), .int .i64 (r2).co]) := ⟨_, rfl⟩
      have X4 := X2.out
      have Z4 := Z2.out
      rw [← hV4] at X4 Z4 ⊢
      replace X4 := Lib.hid X4
      replace Z4 := Lib.hid Z4
      clear hV4 X2 Z2
      with_reducible refine (HFA.out r2 r.p 4 V4).mono ?_
      rintro e V5 ⟨rfl, b5⟩
      have X5 := Lib.hid (X4.out.call b5)
      have Z5 := Lib.hid (Z4.out.call b5)
      clear b5 X4 Z4
      have z6 := Z5.out
      have cc := setRow_heap V5 q2 _ #[.string S, .int .i64 (((r2.fail r.p 4)).p : Int), .int .i64 ((r2.fail r.p 4)).co] _ _ z6
      have bb := below_setRow X5.out.2.1 (g := q2) (by have := X5.out.2.2; have := HQ.out; omega) #[.string S, .int .i64 (((r2.fail r.p 4)).p : Int), .int .i64 ((r2.fail r.p 4)).co]
      go_wp2_with ((with_reducible show wpList _ _ _ (Oper.mk _ (Op.store 48 (.tmp 2) _) _ _ _ _ :: _) _ _); refine wpList_store_row rfl 48 (.tmp 2) _ rfl (q2) #[.string S, .int .i64 (((r2.fail r.p 4)).p : Int), .int .i64 ((r2.fail r.p 4)).co] rfl rfl 48 #[.string ⟨#[]⟩, .int .i64 0, .int .i64 0] z6 rdsize rfl (by simp [Value.oneCell']) ?_)
      obtain ⟨w9, h9⟩ : ∃ W, W = World.setRow V5 q2 #[.string S, .int .i64 (((r2.fail r.p 4)).p : Int), .int .i64 ((r2.fail r.p 4)).co] := ⟨_, rfl⟩
      rw [← h9] at cc bb ⊢
      clear h9 z6
      have k0 := boxc cc 0 _ rfl
      have k1 := boxc cc 1 _ rfl
      have k2 := boxc cc 2 _ rfl
      refine bodyPost_ret (v := .tuple #[.agg #[.string S, .int .i64 (((r2.fail r.p 4)).p : Int), .int .i64 ((r2.fail r.p 4)).co], .int .i64 0, .int .i64 0]) (by simp [results, Try.results42, go_sem, k0, k1, k2]) rfl ⟨?_, bb⟩
      rw [HV.out]
     ·
      have l1 : ¬ 20 < α := g2
      obtain ⟨r9, hr9⟩ : ∃ x, x = r2.fwd := ⟨_, rfl⟩
      have R9 := Lib.hid hr9
      clear hr9
      have HV : Hid (m = (r9, α, α)) := by show _ = _; rw [HE2.out, R9.out]; unfold rr.fin; rw [if_neg (by rw [hby, g1]; simp only [ne_eq, not_true_eq_false, false_or]; omega), if_neg (by omega)]
      clear g1 hby ga gb
      have ip4 : (r2.p : Int) + 1 = (r9.p : Int) := by rw [R9.out]; rfl
      have iw4 : IntKind.i64.wrap (r9.p : Int) = (r9.p : Int) := IntWalk.i64_in _ (by omega)
      have iv4 : IntKind.i64.wrap ((r2.p : Int) + 1) = (r9.p : Int) := by rw [ip4]; exact iw4
      have X4 := Lib.hid (X2.out.fwd' R9.out)
      have Z4 := Lib.hid (Z2.out.kx (KX.cell (W := (World.setRow V1 q #[.string S, .int .i64 ((r2).p : Int), .int .i64 (r2).co])) (q := q) (i := 1) (u := (.int .i64 (r9.p : Int)))) (by have := HQ.out; omega))
      have e5_0 := boxc X4.out.1 0 _ rfl
      have e5_1 := boxc X4.out.1 1 _ rfl
      have e5_2 := boxc X4.out.1 2 _ rfl
      have e5_f := boxf X4.out.1 1
      have z6 := Z4.out
      have cc := setRow_heap ((World.setRow V1 q #[.string S, .int .i64 ((r2).p : Int), .int .i64 (r2).co]).setCell ⟨q, 1, none⟩ (.int .i64 (r9.p : Int))) q2 _ #[.string S, .int .i64 ((r9).p : Int), .int .i64 (r9).co] _ _ z6
      have bb := below_setRow X4.out.2.1 (g := q2) (by have := X4.out.2.2; have := HQ.out; omega) #[.string S, .int .i64 ((r9).p : Int), .int .i64 (r9).co]
      go_wp2_with (first | ((with_reducible show wpList _ _ _ (Oper.mk _ (Op.store 48 (.tmp 2) _) _ _ _ _ :: _) _ _); refine wpList_store_row rfl 48 (.tmp 2) _ rfl (q2) #[.string S, .int .i64 ((r9).p : Int), .int .i64 (r9).co] rfl rfl 48 #[.string ⟨#[]⟩, .int .i64 0, .int .i64 0] z6 rdsize rfl (by simp [Value.oneCell']) ?_) | ((with_reducible show wpList _ _ _ (Oper.mk _ (Op.store 48 (.tmp 1) _) _ _ _ _ :: _) _ _); refine wpList_store_row rfl 48 (.tmp 1) _ rfl (q) #[.string S, .int .i64 ((r2).p : Int), .int .i64 (r2).co] rfl rfl 48 #[.string S, .int .i64 ((r1).p : Int), .int .i64 (r1).co] y2 rdsize rfl (by simp [Value.oneCell']) ?_))
      obtain ⟨w9, h9⟩ : ∃ W, W = World.setRow ((World.setRow V1 q #[.string S, .int .i64 ((r2).p : Int), .int .i64 (r2).co]).setCell ⟨q, 1, none⟩ (.int .i64 (r9.p : Int))) q2 #[.string S, .int .i64 ((r9).p : Int), .int .i64 (r9).co] := ⟨_, rfl⟩
      rw [← h9] at cc bb ⊢
      clear h9 z6 y2 e3_0 e3_1 e3_2 e3_f ip4 iw4 iv4 e5_0 e5_1 e5_2 e5_f
      have k0 := boxc cc 0 _ rfl
      have k1 := boxc cc 1 _ rfl
      have k2 := boxc cc 2 _ rfl
      refine bodyPost_ret (v := .tuple #[.agg #[.string S, .int .i64 ((r9).p : Int), .int .i64 (r9).co], .int .i64 α, .int .i64 α]) (by simp [results, Try.results42, go_sem, k0, k1, k2]) rfl ⟨?_, bb⟩
      rw [HV.out]
    ·
     have jz : ((z : Int) != 125) = true := by simp; omega
     have jz0 : ((z : Int) == 125) = false := beq_eq_false_iff_ne.2 (by omega)
     have HV : Hid (m = (r2.fail r.p 9, 0, 0)) := by show _ = _; rw [HE2.out]; unfold rr.fin; rw [if_pos (Or.inr (Or.inl (by rw [hby]; exact fun h => g1 (Option.some.inj h))))]
     clear g1 hby ga
     go_wp2_with ((with_reducible show wpList _ _ _ (Oper.mk _ (Op.store 48 (.tmp 1) _) _ _ _ _ :: _) _ _); refine wpList_store_row rfl 48 (.tmp 1) _ rfl (q) #[.string S, .int .i64 ((r2).p : Int), .int .i64 (r2).co] rfl rfl 48 #[.string S, .int .i64 ((r1).p : Int), .int .i64 (r1).co] y2 rdsize rfl (by simp [Value.oneCell']) ?_)
     clear y2 e3_0 e3_1 e3_2 e3_f
     obtain ⟨V4, hV4⟩ : ∃ W, W = (World.setRow V1 q #[.string S, .int .i64 ((r2).p : Int), .int .i64 (r2).co]) := ⟨_, rfl⟩
     have X4 := X2.out
     have Z4 := Z2.out
     rw [← hV4] at X4 Z4 ⊢
     replace X4 := Lib.hid X4
     replace Z4 := Lib.hid Z4
     clear hV4 X2 Z2
     with_reducible refine (HFA.out r2 r.p 9 V4).mono ?_
     rintro e V5 ⟨rfl, b5⟩
     have X5 := Lib.hid (X4.out.call b5)
     have Z5 := Lib.hid (Z4.out.call b5)
     clear b5 X4 Z4
     have z6 := Z5.out
     have cc := setRow_heap V5 q2 _ #[.string S, .int .i64 (((r2.fail r.p 9)).p : Int), .int .i64 ((r2.fail r.p 9)).co] _ _ z6
     have bb := below_setRow X5.out.2.1 (g := q2) (by have := X5.out.2.2; have := HQ.out; omega) #[.string S, .int .i64 (((r2.fail r.p 9)).p : Int), .int .i64 ((r2.fail r.p 9)).co]
     go_wp2_with ((with_reducible show wpList _ _ _ (Oper.mk _ (Op.store 48 (.tmp 2) _) _ _ _ _ :: _) _ _); refine wpList_store_row rfl 48 (.tmp 2) _ rfl (q2) #[.string S, .int .i64 (((r2.fail r.p 9)).p : Int), .int .i64 ((r2.fail r.p 9)).co] rfl rfl 48 #[.string ⟨#[]⟩, .int .i64 0, .int .i64 0] z6 rdsize rfl (by simp [Value.oneCell']) ?_)
     obtain ⟨w9, h9⟩ : ∃ W, W = World.setRow V5 q2 #[.string S, .int .i64 (((r2.fail r.p 9)).p : Int), .int .i64 ((r2.fail r.p 9)).co] := ⟨_, rfl⟩
     rw [← h9] at cc bb ⊢
     clear h9 z6
     have k0 := boxc cc 0 _ rfl
     have k1 := boxc cc 1 _ rfl
     have k2 := boxc cc 2 _ rfl
     refine bodyPost_ret (v := .tuple #[.agg #[.string S, .int .i64 (((r2.fail r.p 9)).p : Int), .int .i64 ((r2.fail r.p 9)).co], .int .i64 0, .int .i64 0]) (by simp [results, Try.results42, go_sem, k0, k1, k2]) rfl ⟨?_, bb⟩
     rw [HV.out]
 ·
  have hpi : ¬ (r2.p : Int) < (S.size : Int) := by omega
  have HE2 := Lib.hid (HE.out.trans (if_neg (by rw [byte_no (by omega)]; exact fun h => by cases h)))
  have y2 := X1.out.1
  have X2 := Lib.hid (X1.out.row r2)
  have Z2 := Lib.hid (Z1.out.kx (KX.row (W := V1) (q := q) (cs := #[.string S, .int .i64 ((r2).p : Int), .int .i64 (r2).co])) (by have := HQ.out; omega))
  have e3_0 := boxc X2.out.1 0 _ rfl
  have e3_1 := boxc X2.out.1 1 _ rfl
  have e3_2 := boxc X2.out.1 2 _ rfl
  have e3_f := boxf X2.out.1 1
  by_cases ga : α < 0
  ·
   have ia := Lib.hid ga
   have ja : α < 0 := ga
   have HV : Hid (m = (r2.fail r.p 9, 0, 0)) := by show _ = _; rw [HE2.out]; unfold rr.fin; rw [if_pos (Or.inl ga)]
   clear ga
   go_wp2_with ((with_reducible show wpList _ _ _ (Oper.mk _ (Op.store 48 (.tmp 1) _) _ _ _ _ :: _) _ _); refine wpList_store_row rfl 48 (.tmp 1) _ rfl (q) #[.string S, .int .i64 ((r2).p : Int), .int .i64 (r2).co] rfl rfl 48 #[.string S, .int .i64 ((r1).p : Int), .int .i64 (r1).co] y2 rdsize rfl (by simp [Value.oneCell']) ?_)
   clear y2 e3_0 e3_1 e3_2 e3_f
   obtain ⟨V4, hV4⟩ : ∃ W, W = (World.setRow V1 q #[.string S, .int .i64 ((r2).p : Int), .int .i64 (r2).co]) := ⟨_, rfl⟩
   have X4 := X2.out
   have Z4 := Z2.out
   rw [← hV4] at X4 Z4 ⊢
   replace X4 := Lib.hid X4
   replace Z4 := Lib.hid Z4
   clear hV4 X2 Z2
   with_reducible refine (HFA.out r2 r.p 9 V4).mono ?_
   rintro e V5 ⟨rfl, b5⟩
   have X5 := Lib.hid (X4.out.call b5)
   have Z5 := Lib.hid (Z4.out.call b5)
   clear b5 X4 Z4
   have z6 := Z5.out
   have cc := setRow_heap V5 q2 _ #[.string S, .int .i64 (((r2.fail r.p 9)).p : Int), .int .i64 ((r2.fail r.p 9)).co] _ _ z6
   have bb := below_setRow X5.out.2.1 (g := q2) (by have := X5.out.2.2; have := HQ.out; omega) #[.string S, .int .i64 (((r2.fail r.p 9)).p : Int), .int .i64 ((r2.fail r.p 9)).co]
   go_wp2_with ((with_reducible show wpList _ _ _ (Oper.mk _ (Op.store 48 (.tmp 2) _) _ _ _ _ :: _) _ _); refine wpList_store_row rfl 48 (.tmp 2) _ rfl (q2) #[.string S, .int .i64 (((r2.fail r.p 9)).p : Int), .int .i64 ((r2.fail r.p 9)).co] rfl rfl 48 #[.string ⟨#[]⟩, .int .i64 0, .int .i64 0] z6 rdsize rfl (by simp [Value.oneCell']) ?_)
   obtain ⟨w9, h9⟩ : ∃ W, W = World.setRow V5 q2 #[.string S, .int .i64 (((r2.fail r.p 9)).p : Int), .int .i64 ((r2.fail r.p 9)).co] := ⟨_, rfl⟩
   rw [← h9] at cc bb ⊢
   clear h9 z6
   have k0 := boxc cc 0 _ rfl
   have k1 := boxc cc 1 _ rfl
   have k2 := boxc cc 2 _ rfl
   refine bodyPost_ret (v := .tuple #[.agg #[.string S, .int .i64 (((r2.fail r.p 9)).p : Int), .int .i64 ((r2.fail r.p 9)).co], .int .i64 0, .int .i64 0]) (by simp [results, Try.results42, go_sem, k0, k1, k2]) rfl ⟨?_, bb⟩
   rw [HV.out]
  ·
   have ja : ¬ α < 0 := ga
   have ja2 : 0 ≤ α := by omega
   have HV : Hid (m = (r2.fail r.p 9, 0, 0)) := by show _ = _; rw [HE2.out]; unfold rr.fin; rw [if_pos (Or.inr (Or.inl (by rw [byte_no (by omega)]; exact fun h => by cases h)))]
   clear ga
   go_wp2_with ((with_reducible show wpList _ _ _ (Oper.mk _ (Op.store 48 (.tmp 1) _) _ _ _ _ :: _) _ _); refine wpList_store_row rfl 48 (.tmp 1) _ rfl (q) #[.string S, .int .i64 ((r2).p : Int), .int .i64 (r2).co] rfl rfl 48 #[.string S, .int .i64 ((r1).p : Int), .int .i64 (r1).co] y2 rdsize rfl (by simp [Value.oneCell']) ?_)
   clear y2 e3_0 e3_1 e3_2 e3_f
   obtain ⟨V4, hV4⟩ : ∃ W, W = (World.setRow V1 q #[.string S, .int .i64 ((r2).p : Int), .int .i64 (r2).co]) := ⟨_, rfl⟩
   have X4 := X2.out
   have Z4 := Z2.out
   rw [← hV4] at X4 Z4 ⊢
   replace X4 := Lib.hid X4
   replace Z4 := Lib.hid Z4
   clear hV4 X2 Z2
   with_reducible refine (HFA.out r2 r.p 9 V4).mono ?_
   rintro e V5 ⟨rfl, b5⟩
   have X5 := Lib.hid (X4.out.call b5)
   have Z5 := Lib.hid (Z4.out.call b5)
   clear b5 X4 Z4
   have z6 := Z5.out
   have cc := setRow_heap V5 q2 _ #[.string S, .int .i64 (((r2.fail r.p 9)).p : Int), .int .i64 ((r2.fail r.p 9)).co] _ _ z6
   have bb := below_setRow X5.out.2.1 (g := q2) (by have := X5.out.2.2; have := HQ.out; omega) #[.string S, .int .i64 (((r2.fail r.p 9)).p : Int), .int .i64 ((r2.fail r.p 9)).co]
   go_wp2_with ((with_reducible show wpList _ _ _ (Oper.mk _ (Op.store 48 (.tmp 2) _) _ _ _ _ :: _) _ _); refine wpList_store_row rfl 48 (.tmp 2) _ rfl (q2) #[.string S, .int .i64 (((r2.fail r.p 9)).p : Int), .int .i64 ((r2.fail r.p 9)).co] rfl rfl 48 #[.string ⟨#[]⟩, .int .i64 0, .int .i64 0] z6 rdsize rfl (by simp [Value.oneCell']) ?_)
   obtain ⟨w9, h9⟩ : ∃ W, W = World.setRow V5 q2 #[.string S, .int .i64 (((r2.fail r.p 9)).p : Int), .int .i64 ((r2.fail r.p 9)).co] := ⟨_, rfl⟩
   rw [← h9] at cc bb ⊢
   clear h9 z6
   have k0 := boxc cc 0 _ rfl
   have k1 := boxc cc 1 _ rfl
   have k2 := boxc cc 2 _ rfl
   refine bodyPost_ret (v := .tuple #[.agg #[.string S, .int .i64 (((r2.fail r.p 9)).p : Int), .int .i64 ((r2.fail r.p 9)).co], .int .i64 0, .int .i64 0]) (by simp [results, Try.results42, go_sem, k0, k1, k2]) rfl ⟨?_, bb⟩
   rw [HV.out]
end Go.Proofs.Ytbccejlemhgioaa
