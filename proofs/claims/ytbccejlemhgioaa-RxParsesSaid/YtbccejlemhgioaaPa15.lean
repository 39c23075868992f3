/- texts put together: RrEsc. -/
import Derived.Test.YtbccejlemhgioaaPa10
import Derived.Test.YtbccejlemhgioaaPa14
namespace Go.Proofs.Ytbccejlemhgioaa
open Go Go.RowKit Go.ChangeShapes cl rx
open rf
set_option maxHeartbeats 25600000 in
set_option maxRecDepth 100000 in
set_option linter.unusedSimpArgs false in
theorem rr_escape (S : ByteArray) (r : rr.R) (w : World) (hS : S.size ≤ 60) (hp : r.p < S.size) : Calls Try.prog 53 #[.agg #[.string S, .int .i64 ((r).p : Int), .int .i64 (r).co]] w (fun e w' => e = .returned (.tuple #[.agg #[.string S, .int .i64 (((rr.escape (kit.bytes S) r).1).p : Int), .int .i64 ((rr.escape (kit.bytes S) r).1).co], .agg #[.int .u64 (rr.escape (kit.bytes S) r).2.1.a, .int .u64 (rr.escape (kit.bytes S) r).2.1.b, .int .u64 (rr.escape (kit.bytes S) r).2.1.c, .int .u64 (rr.escape (kit.bytes S) r).2.1.d], .int .u8 (rr.escape (kit.bytes S) r).2.2.1, .bool (rr.escape (kit.bytes S) r).2.2.2]) ∧ Below w.heap.size w w') := by
 have hlen : (kit.bytes S).length = S.size := by simp [kit.bytes]
 obtain ⟨m, hm⟩ : ∃ m, m = rr.escape (kit.bytes S) r := ⟨_, rfl⟩
 rw [← hm]
 unfold rr.escape at hm
 have HFA : Hid (∀ (x : rr.R) (a : Nat) (co : Int) (W : World), Calls Try.prog 23 #[.agg #[.string S, .int .i64 ((x).p : Int), .int .i64 (x).co], .int .i64 a, .int .i64 co] W (fun e w' => e = .returned (.agg #[.string S, .int .i64 (((x.fail a co)).p : Int), .int .i64 ((x.fail a co)).co]) ∧ Below W.heap.size W w')) := fun x a co W => rr_fail S x a co W
 obtain ⟨r1, hr1⟩ : ∃ x, x = r.fwd := ⟨_, rfl⟩
 have R1 := Lib.hid hr1
 have i1 : r1.p = r.p + 1 := by rw [hr1]; rfl
 have ii1 : (r.p : Int) + 1 = (r1.p : Int) := by omega
 have co1 : r.co = r1.co := by rw [hr1]; rfl
 rw [← hr1, ← i1] at hm
 have HM := Lib.hid hm
 have HLEN := Lib.hid hlen
 have I1 := Lib.hid i1
 clear hlen hm hr1 i1
 by_cases gl : r1.p < S.size
 ·
  have jl : (r1.p : Int) < (S.size : Int) := by omega
  have jl2 : ¬ (S.size : Int) ≤ (r1.p : Int) := by omega
  obtain ⟨z, hz⟩ : ∃ z, z = (S[r1.p]'gl).toNat := ⟨_, rfl⟩
  have hby : (kit.bytes S)[r1.p]? = some z := by rw [byte_at gl, hz]
  have hz8 : z < 256 := kit.bytes_lt S z (List.mem_of_getElem? hby)
  replace hz := hz.symm
  rw [hby] at HM
  simp only at HM
  obtain ⟨r2, hr2⟩ : ∃ x, x = r1.fwd := ⟨_, rfl⟩
  have R2 := Lib.hid hr2
  have ii2 : (r1.p : Int) + 1 = (r2.p : Int) := by rw [hr2]; rfl
  have co2 : r1.co = r2.co := by rw [hr2]; rfl
  have iw2 : IntKind.i64.wrap (r2.p : Int) = (r2.p : Int) := IntWalk.i64_in _ (by omega)
  rw [← hr2] at HM
  clear hr2 hby
  obtain ⟨q, hq⟩ : ∃ q, q = w.heap.size := ⟨_, rfl⟩
  obtain ⟨q2, hq2⟩ : ∃ q2, q2 = w.heap.size + 1 := ⟨_, rfl⟩
  obtain ⟨q3, hq3⟩ : ∃ q3, q3 = w.heap.size + 1 + 1 := ⟨_, rfl⟩
  obtain ⟨W3, hW3⟩ : ∃ W, W = ((w.alloc (.cells #[.string S, .int .i64 ((r2).p : Int), .int .i64 (r2).co] 48)).alloc (.cells #[.string ⟨#[]⟩, .int .i64 0, .int .i64 0] 48)).alloc (.cells #[.int .u64 0, .int .u64 0, .int .u64 0, .int .u64 0] 25) := ⟨_, rfl⟩
  have b1 : Below w.heap.size w (w.alloc (.cells #[.string S, .int .i64 ((r2).p : Int), .int .i64 (r2).co] 48)) := below1
  have b2 : Below w.heap.size w ((w.alloc (.cells #[.string S, .int .i64 ((r2).p : Int), .int .i64 (r2).co] 48)).alloc (.cells #[.string ⟨#[]⟩, .int .i64 0, .int .i64 0] 48)) := b1.trans (below1.mono b1.size)
  have s1 : (w.alloc (.cells #[.string S, .int .i64 ((r2).p : Int), .int .i64 (r2).co] 48)).heap.size = w.heap.size + 1 := by rw [World.size_alloc]
  have s2 : ((w.alloc (.cells #[.string S, .int .i64 ((r2).p : Int), .int .i64 (r2).co] 48)).alloc (.cells #[.string ⟨#[]⟩, .int .i64 0, .int .i64 0] 48)).heap.size = w.heap.size + 1 + 1 := by rw [World.size_alloc, World.size_alloc]
  have b3 : Below w.heap.size w W3 := by rw [hW3]; exact b2.trans (below1.mono b2.size)
  have X0 : Hid (RS q S r2 w W3) := by
   show _ ∧ _
   exact ⟨by rw [hW3]; exact (below1.block q (by omega)).trans ((below1.block q (by omega)).trans (by rw [hq]; exact heap_alloc_new _ _)), b3, by omega⟩
  have Z0 : Hid (Bx q2 #[.string ⟨#[]⟩, .int .i64 0, .int .i64 0] 48 W3) := by
   show _ = _
   rw [hW3]; exact (below1.block q2 (by omega)).trans (by rw [hq2, ← s1]; exact heap_alloc_new _ _)
  have Y0 : Hid (Bx q3 #[.int .u64 0, .int .u64 0, .int .u64 0, .int .u64 0] 25 W3) := by
   show _ = _
   rw [hW3, hq3, ← s2]; exact heap_alloc_new _ _
  have HQ : Hid (q2 = q + 1 ∧ q3 = q + 2 ∧ q = w.heap.size) := by show _ ∧ _; omega
  have HW3 := Lib.hid hW3
  have HQ0 := Lib.hid hq
  have HQ2 := Lib.hid hq2
  have HQ3 := Lib.hid hq3
  clear b1 b2 b3 s1 s2 hq hq2 hq3 hW3
  have HSP : Hid (∀ W : World, Calls Try.prog 54 #[.int .u8 (z : Int)] W (fun e w' => e = .returned (.bool (spc z)) ∧ w' = W)) := fun W => rr_special z W
  by_cases gs : spc z = true
  ·
   have HV := Lib.hid (HM.out.trans (if_pos gs))
   have HSG : Hid (∀ W : World, Calls Try.prog 55 #[.int .u8 (z : Int)] W (fun e w' => e = .returned (.agg #[.int .u64 (Cls.one z).a, .int .u64 (Cls.one z).b, .int .u64 (Cls.one z).c, .int .u64 (Cls.one z).d]) ∧ Below W.heap.size W w')) := fun W => rr_single z W hz8
   rw [gs] at HSP
   clear gs
   go_enter Try.func53, Try.ntmps53
   go_wp2_with fail
   rw [← HW3.out, ← HQ3.out, ← HQ2.out, ← HQ0.out]
   with_reducible refine (HSP.out W3).mono ?_
   rintro e V9 ⟨rfl, rfl⟩
   go_wp2_with fail
   refine wp_flow 8 (fun _ => 1000) (fun ww => Dw q2 q3 V9 ww) (fun i w w' => if i = 5 then (fun (w w' : World) => KX q3 w w' ∧ w'.heap[q3]? = some (.cells #[.int .u64 (Cls.one z).a, .int .u64 (Cls.one z).b, .int .u64 (Cls.one z).c, .int .u64 (Cls.one z).d] 25)) w w' else if i = 4 then (fun (w w' : World) => KX q2 w w' ∧ w'.heap[q2]? = some (.cells #[.string S, .int .i64 ((r2).p : Int), .int .i64 (r2).co] 48)) w w' else (fun (w w' : World) => RowKit.Below w.heap.size w w') w w') (fun kF vF wF => match kF with | 0 => (vF = .agg #[.string S, .int .i64 ((r2).p : Int), .int .i64 (r2).co]) | 1 => (vF = .int .u8 (z : Int)) | 2 => (vF = .agg #[.int .u64 (Cls.one z).a, .int .u64 (Cls.one z).b, .int .u64 (Cls.one z).c, .int .u64 (Cls.one z).d]) | 3 => (vF = .int .u8 (z : Int)) | 4 => (wF.heap[q2]? = some (.cells #[.string S, .int .i64 ((r2).p : Int), .int .i64 (r2).co] 48)) | 5 => (wF.heap[q3]? = some (.cells #[.int .u64 (Cls.one z).a, .int .u64 (Cls.one z).b, .int .u64 (Cls.one z).c, .int .u64 (Cls.one z).d] 25)) | 6 => (vF = .int .u8 (z : Int)) | 7 => (vF = .bool true) | _ => True) (fun _ _ _ _ => True) (by kernel_rfl) (by kernel_rfl) ?_ ?_ ?_ ?_ ?_
   ·
    exact (Dw.refl Z0.out Y0.out).below (Below.refl _ _).drew
   ·
    intro iF wF1 wF2 hR hT
    have hT : (fun i w w' => if i = 5 then (fun (w w' : World) => KX q3 w w' ∧ w'.heap[q3]? = some (.cells #[.int .u64 (Cls.one z).a, .int .u64 (Cls.one z).b, .int .u64 (Cls.one z).c, .int .u64 (Cls.one z).d] 25)) w w' else if i = 4 then (fun (w w' : World) => KX q2 w w' ∧ w'.heap[q2]? = some (.cells #[.string S, .int .i64 ((r2).p : Int), .int .i64 (r2).co] 48)) w w' else (fun (w w' : World) => RowKit.Below w.heap.size w w') w w') iF wF1 wF2 := hT
    simp only at hT
    by_cases hi5 : iF = 5
    ·
     rw [if_pos hi5] at hT; first | exact hR.s2 hT rfl (by have := HQ.out; omega) | exact hR.s3 hT rfl (by have := HQ.out; omega)
    rw [if_neg hi5] at hT
    by_cases hi4 : iF = 4
    ·
     rw [if_pos hi4] at hT; first | exact hR.s2 hT rfl (by have := HQ.out; omega) | exact hR.s3 hT rfl (by have := HQ.out; omega)
    rw [if_neg hi4] at hT
    exact hR.below hT
   ·
    intro kF hkF iF hiF hne hdd hanc hdan vF wF1 wF2 h hT
    rcases (by omega : kF = 0 ∨ kF = 1 ∨ kF = 2 ∨ kF = 3 ∨ kF = 4 ∨ kF = 5 ∨ kF = 6 ∨ kF = 7) with rfl | rfl | rfl | rfl | rfl | rfl | rfl | rfl
    ·
     exact h
    ·
     exact h
    ·
     exact h
    ·
     exact h
    ·
     have h : (wF1.heap[q2]? = some (.cells #[.string S, .int .i64 ((r2).p : Int), .int .i64 (r2).co] 48)) := h
     show (wF2.heap[q2]? = some (.cells #[.string S, .int .i64 ((r2).p : Int), .int .i64 (r2).co] 48))
     have hT : (fun i w w' => if i = 5 then (fun (w w' : World) => KX q3 w w' ∧ w'.heap[q3]? = some (.cells #[.int .u64 (Cls.one z).a, .int .u64 (Cls.one z).b, .int .u64 (Cls.one z).c, .int .u64 (Cls.one z).d] 25)) w w' else if i = 4 then (fun (w w' : World) => KX q2 w w' ∧ w'.heap[q2]? = some (.cells #[.string S, .int .i64 ((r2).p : Int), .int .i64 (r2).co] 48)) w w' else (fun (w w' : World) => RowKit.Below w.heap.size w w') w w') iF wF1 wF2 := hT
     simp only at hT
     by_cases hi5 : iF = 5
     ·
      rw [if_pos hi5] at hT
      exact (hT.1.2.2 q2 (lt_of_block h) (by have := HQ.out; omega)).trans h
     rw [if_neg hi5] at hT
     by_cases hi4 : iF = 4
     ·
      exact absurd hi4.symm hne
     rw [if_neg hi4] at hT
     exact (hT.block q2 (lt_of_block h)).trans h
    ·
     have h : (wF1.heap[q3]? = some (.cells #[.int .u64 (Cls.one z).a, .int .u64 (Cls.one z).b, .int .u64 (Cls.one z).c, .int .u64 (Cls.one z).d] 25)) := h
     show (wF2.heap[q3]? = some (.cells #[.int .u64 (Cls.one z).a, .int .u64 (Cls.one z).b, .int .u64 (Cls.one z).c, .int .u64 (Cls.one z).d] 25))
     have hT : (fun i w w' => if i = 5 then (fun (w w' : World) => KX q3 w w' ∧ w'.heap[q3]? = some (.cells #[.int .u64 (Cls.one z).a, .int .u64 (Cls.one z).b, .int .u64 (Cls.one z).c, .int .u64 (Cls.one z).d] 25)) w w' else if i = 4 then (fun (w w' : World) => KX q2 w w' ∧ w'.heap[q2]? = some (.cells #[.string S, .int .i64 ((r2).p : Int), .int .i64 (r2).co] 48)) w w' else (fun (w w' : World) => RowKit.Below w.heap.size w w') w w') iF wF1 wF2 := hT
     simp only at hT
     by_cases hi5 : iF = 5
     ·
      exact absurd hi5.symm hne
     rw [if_neg hi5] at hT
     by_cases hi4 : iF = 4
     ·
      rw [if_pos hi4] at hT
      exact (hT.1.2.2 q3 (lt_of_block h) (by have := HQ.out; omega)).trans h
     rw [if_neg hi4] at hT
     exact (hT.block q3 (lt_of_block h)).trans h
    ·
     exact h
    ·
     exact h
   ·
    generalize hAF : fillOf _ _ _ = AF
    replace hAF := fun x => congrFun hAF x
    simp only [List.take_succ_cons, List.take_zero, fillOf, Act.put, List.setIfInBounds_toArray, List.set_cons_zero, List.set_cons_succ, Nat.reduceAdd, Nat.zero_add] at hAF
    refine FlowAll.cons ?_ ?_
    ·
     intro xF wz hR hd K hK
     clear hd
     simp only [← hAF, Act.put, List.setIfInBounds_toArray, List.set_cons_zero, List.set_cons_succ] at hK ⊢
     clear hAF
     try simp only [Nat.zero_add] at hK ⊢
     try simp only [Nat.reduceAdd] at hK ⊢
     obtain hbR := id hR
     have hxa := (hbR.2.2.1 _ (lt_of_block X0.out.1) (by have := HQ.out; omega) (by have := HQ.out; omega)).trans X0.out.1
     have c90 := boxc hxa 0 _ rfl
     have c91 := boxc hxa 1 _ rfl
     have c92 := boxc hxa 2 _ rfl
     clear hxa
     rw [if_pos (by rfl)]
     go_simp
     exact hK.out _ _ (Below.refl _ _) (rfl) (fun _ _ _ => ⟨trivial, trivial⟩)
    refine FlowAll.cons ?_ ?_
    ·
     intro xF wz hR hd K hK
     clear hd
     simp only [← hAF, Act.put, List.setIfInBounds_toArray, List.set_cons_zero, List.set_cons_succ] at hK ⊢
     clear hAF
     try simp only [Nat.zero_add] at hK ⊢
     try simp only [Nat.reduceAdd] at hK ⊢
     obtain hbR := id hR
     rw [if_pos (by rfl)]
     go_simp
     exact hK.out _ _ (Below.refl _ _) (rfl) (fun _ _ _ => ⟨trivial, trivial⟩)
    refine FlowAll.cons ?_ ?_
    ·
     intro xF wz hR hd K hK
     have dd1 : ((xF 1) = .int .u8 (z : Int)) := hd 1 (by kernel_rfl)
     clear hd
     simp only [← hAF, Act.put, List.setIfInBounds_toArray, List.set_cons_zero, List.set_cons_succ] at hK ⊢
     clear hAF
     try simp only [Nat.zero_add] at hK ⊢
     try simp only [Nat.reduceAdd] at hK ⊢
     try generalize xF 1 = yy1 at *
     obtain rfl := dd1
     obtain hbR := id hR
     rw [if_pos (by rfl)]
     go_simp
     (go_at_call 55; (with_reducible refine (HSG.out _).mono ?_); rintro e wK ⟨rfl, hbK⟩)
     try go_wp2_with fail
     exact hK.out _ _ (hbK) (rfl) (fun _ _ _ => ⟨trivial, trivial⟩)
    refine FlowAll.cons ?_ ?_
    ·
     intro xF wz hR hd K hK
     clear hd
     simp only [← hAF, Act.put, List.setIfInBounds_toArray, List.set_cons_zero, List.set_cons_succ] at hK ⊢
     clear hAF
     try simp only [Nat.zero_add] at hK ⊢
     try simp only [Nat.reduceAdd] at hK ⊢
     obtain hbR := id hR
     rw [if_pos (by rfl)]
     go_simp
     exact hK.out _ _ (Below.refl _ _) (rfl) (fun _ _ _ => ⟨trivial, trivial⟩)
    refine FlowAll.cons ?_ ?_
    ·
     intro xF wz hR hd K hK
     have dd0 : ((xF 0) = .agg #[.string S, .int .i64 ((r2).p : Int), .int .i64 (r2).co]) := hd 0 (by kernel_rfl)
     clear hd
     simp only [← hAF, Act.put, List.setIfInBounds_toArray, List.set_cons_zero, List.set_cons_succ] at hK ⊢
     clear hAF
     try simp only [Nat.zero_add] at hK ⊢
     try simp only [Nat.reduceAdd] at hK ⊢
     try generalize xF 0 = yy0 at *
     obtain rfl := dd0
     obtain hbR := id hR
     obtain ⟨csO, hcO, hzO⟩ := hR.2.2.2.1
     rw [if_pos (by rfl)]
     refine wp_store_row 48 (.tmp 2) (.tmp 38) rfl q2 #[.string S, .int .i64 ((r2).p : Int), .int .i64 (r2).co] rfl rfl 48 csO hzO rdsize hcO (by simp [Value.oneCell']) ?_
     exact hK.out undef _ (⟨KX.row, setRow_heap _ _ _ _ _ _ hzO⟩) (setRow_heap _ _ _ _ _ _ hzO) (fun _ _ _ => ⟨trivial, trivial⟩)
    refine FlowAll.cons ?_ ?_
    ·
     intro xF wz hR hd K hK
     have dd2 : ((xF 2) = .agg #[.int .u64 (Cls.one z).a, .int .u64 (Cls.one z).b, .int .u64 (Cls.one z).c, .int .u64 (Cls.one z).d]) := hd 2 (by kernel_rfl)
     clear hd
     simp only [← hAF, Act.put, List.setIfInBounds_toArray, List.set_cons_zero, List.set_cons_succ] at hK ⊢
     clear hAF
     try simp only [Nat.zero_add] at hK ⊢
     try simp only [Nat.reduceAdd] at hK ⊢
     try generalize xF 2 = yy2 at *
     obtain rfl := dd2
     obtain hbR := id hR
     obtain ⟨csO, hcO, hzO⟩ := hR.2.2.2.2
     rw [if_pos (by rfl)]
     refine wp_store_row 25 (.tmp 3) (.tmp 40) rfl q3 #[.int .u64 (Cls.one z).a, .int .u64 (Cls.one z).b, .int .u64 (Cls.one z).c, .int .u64 (Cls.one z).d] rfl rfl 25 csO hzO clsize hcO (by simp [Value.oneCell']) ?_
     exact hK.out undef _ (⟨KX.row, setRow_heap _ _ _ _ _ _ hzO⟩) (setRow_heap _ _ _ _ _ _ hzO) (fun _ _ _ => ⟨trivial, trivial⟩)
    refine FlowAll.cons ?_ ?_
    ·
     intro xF wz hR hd K hK
     have dd3 : ((xF 3) = .int .u8 (z : Int)) := hd 3 (by kernel_rfl)
     clear hd
     simp only [← hAF, Act.put, List.setIfInBounds_toArray, List.set_cons_zero, List.set_cons_succ] at hK ⊢
     clear hAF
     try simp only [Nat.zero_add] at hK ⊢
     try simp only [Nat.reduceAdd] at hK ⊢
     try generalize xF 3 = yy3 at *
     obtain rfl := dd3
     obtain hbR := id hR
     rw [if_pos (by rfl)]
     go_simp
     exact hK.out _ _ (Below.refl _ _) (rfl) (fun _ _ _ => ⟨trivial, trivial⟩)
    refine FlowAll.cons ?_ ?_
    ·
     intro xF wz hR hd K hK
     clear hd
     simp only [← hAF, Act.put, List.setIfInBounds_toArray, List.set_cons_zero, List.set_cons_succ] at hK ⊢
     clear hAF
     try simp only [Nat.zero_add] at hK ⊢
     try simp only [Nat.reduceAdd] at hK ⊢
     obtain hbR := id hR
     rw [if_pos (by rfl)]
     go_simp
     exact hK.out _ _ (Below.refl _ _) (rfl) (fun _ _ _ => ⟨trivial, trivial⟩)
    exact FlowAll.nil
   intro xF wz hR hF hP
   clear hP
   have dd0 : ((xF 0) = .agg #[.string S, .int .i64 ((r2).p : Int), .int .i64 (r2).co]) := hF 0 (by omega) (by decide)
   have dd1 : ((xF 1) = .int .u8 (z : Int)) := hF 1 (by omega) (by decide)
   have dd2 : ((xF 2) = .agg #[.int .u64 (Cls.one z).a, .int .u64 (Cls.one z).b, .int .u64 (Cls.one z).c, .int .u64 (Cls.one z).d]) := hF 2 (by omega) (by decide)
   have dd3 : ((xF 3) = .int .u8 (z : Int)) := hF 3 (by omega) (by decide)
   have dd4 : (wz.heap[q2]? = some (.cells #[.string S, .int .i64 ((r2).p : Int), .int .i64 (r2).co] 48)) := hF 4 (by omega) (by decide)
   have dd5 : (wz.heap[q3]? = some (.cells #[.int .u64 (Cls.one z).a, .int .u64 (Cls.one z).b, .int .u64 (Cls.one z).c, .int .u64 (Cls.one z).d] 25)) := hF 5 (by omega) (by decide)
   have dd6 : ((xF 6) = .int .u8 (z : Int)) := hF 6 (by omega) (by decide)
   have dd7 : ((xF 7) = .bool true) := hF 7 (by omega) (by decide)
   clear hF
   simp only [List.take_succ_cons, List.take_zero, List.drop_succ_cons, List.drop_zero, fillOf, Act.put, List.setIfInBounds_toArray, List.set_cons_zero, List.set_cons_succ, Nat.reduceAdd, Nat.zero_add]
   try generalize xF 0 = yy0 at *
   try generalize xF 1 = yy1 at *
   try generalize xF 2 = yy2 at *
   try generalize xF 3 = yy3 at *
   try generalize xF 4 = yy4 at *
   try generalize xF 5 = yy5 at *
   try generalize xF 6 = yy6 at *
   try generalize xF 7 = yy7 at *
   clear xF
   obtain rfl := dd0
   obtain rfl := dd1
   obtain rfl := dd2
   obtain rfl := dd3
   have hs2 := dd4
   have hs3 := dd5
   obtain rfl := dd6
   obtain rfl := dd7
   have hRE := Lib.hid hR
   clear hR
   have XR := X0.out.dw hRE.out (by have := HQ.out; omega) (by have := HQ.out; omega) (by have := HQ.out; omega) (by have := HQ.out; omega)
   have k0 := boxc hs2 0 _ rfl
   have k1 := boxc hs2 1 _ rfl
   have k2 := boxc hs2 2 _ rfl
   have m0 := boxc hs3 0 _ rfl
   have m1 := boxc hs3 1 _ rfl
   have m2 := boxc hs3 2 _ rfl
   have m3 := boxc hs3 3 _ rfl
   have b3 := XR.2.1
   clear XR hs2 hs3 hRE
   go_wp2_with fail
   refine bodyPost_ret (v := .tuple #[.agg #[.string S, .int .i64 ((r2).p : Int), .int .i64 (r2).co], .agg #[.int .u64 (Cls.one z).a, .int .u64 (Cls.one z).b, .int .u64 (Cls.one z).c, .int .u64 (Cls.one z).d], .int .u8 (z : Int), .bool true]) (by simp [results, Try.results53, go_sem, k0, k1, k2, m0, m1, m2, m3]) rfl ⟨?_, b3⟩
   first | (rw [HV.out]; done) | (rw [HV.out]; rfl)
  ·
   have HM2 := Lib.hid (HM.out.trans (if_neg gs))
   have gs2 : spc z = false := by cases h : spc z; rfl; exact absurd h gs
   rw [gs2] at HSP
   clear gs gs2 HM
   by_cases g1 : z = 100
   ·
    have HV := Lib.hid (HM2.out.trans (if_pos g1))
    have j1 : ((z : Int) == 100) = true := by rw [g1]; rfl
    have HA : Hid (∀ W : World, Calls Try.prog 63 #[.int .u8 48, .int .u8 57] W (fun e w' => e = .returned (.agg #[.int .u64 (span 48 57).a, .int .u64 (span 48 57).b, .int .u64 (span 48 57).c, .int .u64 (span 48 57).d]) ∧ Below W.heap.size W w')) := fun W => rr_span 48 57 W (by decide) (by decide)
    clear g1
    go_enter Try.func53, Try.ntmps53
    go_wp2_with fail
    rw [← HW3.out, ← HQ3.out, ← HQ2.out, ← HQ0.out]
    with_reducible refine (HSP.out W3).mono ?_
    rintro e V9 ⟨rfl, rfl⟩
    go_wp2_with fail
    refine wp_flow 6 (fun _ => 1000) (fun ww => Dw q2 q3 V9 ww) (fun i w w' => if i = 3 then (fun (w w' : World) => KX q3 w w' ∧ w'.heap[q3]? = some (.cells #[.int .u64 (span 48 57).a, .int .u64 (span 48 57).b, .int .u64 (span 48 57).c, .int .u64 (span 48 57).d] 25)) w w' else if i = 2 then (fun (w w' : World) => KX q2 w w' ∧ w'.heap[q2]? = some (.cells #[.string S, .int .i64 ((r2).p : Int), .int .i64 (r2).co] 48)) w w' else (fun (w w' : World) => RowKit.Below w.heap.size w w') w w') (fun kF vF wF => match kF with | 0 => (vF = .agg #[.string S, .int .i64 ((r2).p : Int), .int .i64 (r2).co]) | 1 => (vF = .agg #[.int .u64 (span 48 57).a, .int .u64 (span 48 57).b, .int .u64 (span 48 57).c, .int .u64 (span 48 57).d]) | 2 => (wF.heap[q2]? = some (.cells #[.string S, .int .i64 ((r2).p : Int), .int .i64 (r2).co] 48)) | 3 => (wF.heap[q3]? = some (.cells #[.int .u64 (span 48 57).a, .int .u64 (span 48 57).b, .int .u64 (span 48 57).c, .int .u64 (span 48 57).d] 25)) | 4 => (vF = .int .u8 0) | 5 => (vF = .bool false) | _ => True) (fun _ _ _ _ => True) (by kernel_rfl) (by kernel_rfl) ?_ ?_ ?_ ?_ ?_
    ·
     exact (Dw.refl Z0.out Y0.out).below (Below.refl _ _).drew
    ·
     intro iF wF1 wF2 hR hT
     have hT : (fun i w w' => if i = 3 then (fun (w w' : World) => KX q3 w w' ∧ w'.heap[q3]? = some (.cells #[.int .u64 (span 48 57).a, .int .u64 (span 48 57).b, .int .u64 (span 48 57).c, .int .u64 (span 48 57).d] 25)) w w' else if i = 2 then (fun (w w' : World) => KX q2 w w' ∧ w'.heap[q2]? = some (.cells #[.string S, .int .i64 ((r2).p : Int), .int .i64 (r2).co] 48)) w w' else (fun (w w' : World) => RowKit.Below w.heap.size w w') w w') iF wF1 wF2 := hT
     simp only at hT
     by_cases hi3 : iF = 3
     ·
      rw [if_pos hi3] at hT; first | exact hR.s2 hT rfl (by have := HQ.out; omega) | exact hR.s3 hT rfl (by have := HQ.out; omega)
     rw [if_neg hi3] at hT
     by_cases hi2 : iF = 2
     ·
      rw [if_pos hi2] at hT; first | exact hR.s2 hT rfl (by have := HQ.out; omega) | exact hR.s3 hT rfl (by have := HQ.out; omega)
     rw [if_neg hi2] at hT
     exact hR.below hT
    ·
     intro kF hkF iF hiF hne hdd hanc hdan vF wF1 wF2 h hT
     rcases (by omega : kF = 0 ∨ kF = 1 ∨ kF = 2 ∨ kF = 3 ∨ kF = 4 ∨ kF = 5) with rfl | rfl | rfl | rfl | rfl | rfl
     ·
      exact h
     ·
      exact h
     ·
      have h : (wF1.heap[q2]? = some (.cells #[.string S, .int .i64 ((r2).p : Int), .int .i64 (r2).co] 48)) := h
      show (wF2.heap[q2]? = some (.cells #[.string S, .int .i64 ((r2).p : Int), .int .i64 (r2).co] 48))
      have hT : (fun i w w' => if i = 3 then (fun (w w' : World) => KX q3 w w' ∧ w'.heap[q3]? = some (.cells #[.int .u64 (span 48 57).a, .int .u64 (span 48 57).b, .int .u64 (span 48 57).c, .int .u64 (span 48 57).d] 25)) w w' else if i = 2 then (fun (w w' : World) => KX q2 w w' ∧ w'.heap[q2]? = some (.cells #[.string S, .int .i64 ((r2).p : Int), .int .i64 (r2).co] 48)) w w' else (fun (w w' : World) => RowKit.Below w.heap.size w w') w w') iF wF1 wF2 := hT
      simp only at hT
      by_cases hi3 : iF = 3
      ·
       rw [if_pos hi3] at hT
       exact (hT.1.2.2 q2 (lt_of_block h) (by have := HQ.out; omega)).trans h
      rw [if_neg hi3] at hT
      by_cases hi2 : iF = 2
      ·
       exact absurd hi2.symm hne
      rw [if_neg hi2] at hT
      exact (hT.block q2 (lt_of_block h)).trans h
     ·
      have h : (wF1.heap[q3]? = some (.cells #[.int .u64 (span 48 57).a, .int .u64 (span 48 57).b, .int .u64 (span 48 57).c, .int .u64 (span 48 57).d] 25)) := h
      show (wF2.heap[q3]? = some (.cells #[.int .u64 (span 48 57).a, .int .u64 (span 48 57).b, .int .u64 (span 48 57).c, .int .u64 (span 48 57).d] 25))
      have hT : (fun i w w' => if i = 3 then (fun (w w' : World) => KX q3 w w' ∧ w'.heap[q3]? = some (.cells #[.int .u64 (span 48 57).a, .int .u64 (span 48 57).b, .int .u64 (span 48 57).c, .int .u64 (span 48 57).d] 25)) w w' else if i = 2 then (fun (w w' : World) => KX q2 w w' ∧ w'.heap[q2]? = some (.cells #[.string S, .int .i64 ((r2).p : Int), .int .i64 (r2).co] 48)) w w' else (fun (w w' : World) => RowKit.Below w.heap.size w w') w w') iF wF1 wF2 := hT
      simp only at hT
      by_cases hi3 : iF = 3
      ·
       exact absurd hi3.symm hne
      rw [if_neg hi3] at hT
      by_cases hi2 : iF = 2
      ·
       rw [if_pos hi2] at hT
       exact (hT.1.2.2 q3 (lt_of_block h) (by have := HQ.out; omega)).trans h
      rw [if_neg hi2] at hT
      exact (hT.block q3 (lt_of_block h)).trans h
     ·
      exact h
     ·
      exact h
    ·
     generalize hAF : fillOf _ _ _ = AF
     replace hAF := fun x => congrFun hAF x
     simp only [List.take_succ_cons, List.take_zero, fillOf, Act.put, List.setIfInBounds_toArray, List.set_cons_zero, List.set_cons_succ, Nat.reduceAdd, Nat.zero_add] at hAF
     refine FlowAll.cons ?_ ?_
     ·
      intro xF wz hR hd K hK
      clear hd
      simp only [← hAF, Act.put, List.setIfInBounds_toArray, List.set_cons_zero, List.set_cons_succ] at hK ⊢
      clear hAF
      try simp only [Nat.zero_add] at hK ⊢
      try simp only [Nat.reduceAdd] at hK ⊢
      obtain hbR := id hR
      have hxa := (hbR.2.2.1 _ (lt_of_block X0.out.1) (by have := HQ.out; omega) (by have := HQ.out; omega)).trans X0.out.1
      have c90 := boxc hxa 0 _ rfl
      have c91 := boxc hxa 1 _ rfl
      have c92 := boxc hxa 2 _ rfl
      clear hxa
      rw [if_pos (by rfl)]
      go_simp
      exact hK.out _ _ (Below.refl _ _) (rfl) (fun _ _ _ => ⟨trivial, trivial⟩)
     refine FlowAll.cons ?_ ?_
     ·
      intro xF wz hR hd K hK
      clear hd
      simp only [← hAF, Act.put, List.setIfInBounds_toArray, List.set_cons_zero, List.set_cons_succ] at hK ⊢
      clear hAF
      try simp only [Nat.zero_add] at hK ⊢
      try simp only [Nat.reduceAdd] at hK ⊢
      obtain hbR := id hR
      rw [if_pos (by rfl)]
      go_simp
      (go_at_call 63; (with_reducible refine (HA.out _).mono ?_); rintro e wK ⟨rfl, hbK⟩)
      try go_wp2_with fail
      exact hK.out _ _ (hbK) (rfl) (fun _ _ _ => ⟨trivial, trivial⟩)
     refine FlowAll.cons ?_ ?_
     ·
      intro xF wz hR hd K hK
      have dd0 : ((xF 0) = .agg #[.string S, .int .i64 ((r2).p : Int), .int .i64 (r2).co]) := hd 0 (by kernel_rfl)
      clear hd
      simp only [← hAF, Act.put, List.setIfInBounds_toArray, List.set_cons_zero, List.set_cons_succ] at hK ⊢
      clear hAF
      try simp only [Nat.zero_add] at hK ⊢
      try simp only [Nat.reduceAdd] at hK ⊢
      try generalize xF 0 = yy0 at *
      obtain rfl := dd0
      obtain hbR := id hR
      obtain ⟨csO, hcO, hzO⟩ := hR.2.2.2.1
      rw [if_pos (by rfl)]
      refine wp_store_row 48 (.tmp 2) (.tmp 45) rfl q2 #[.string S, .int .i64 ((r2).p : Int), .int .i64 (r2).co] rfl rfl 48 csO hzO rdsize hcO (by simp [Value.oneCell']) ?_
      exact hK.out undef _ (⟨KX.row, setRow_heap _ _ _ _ _ _ hzO⟩) (setRow_heap _ _ _ _ _ _ hzO) (fun _ _ _ => ⟨trivial, trivial⟩)
     refine FlowAll.cons ?_ ?_
     ·
      intro xF wz hR hd K hK
      have dd1 : ((xF 1) = .agg #[.int .u64 (span 48 57).a, .int .u64 (span 48 57).b, .int .u64 (span 48 57).c, .int .u64 (span 48 57).d]) := hd 1 (by kernel_rfl)
      clear hd
      simp only [← hAF, Act.put, List.setIfInBounds_toArray, List.set_cons_zero, List.set_cons_succ] at hK ⊢
      clear hAF
      try simp only [Nat.zero_add] at hK ⊢
      try simp only [Nat.reduceAdd] at hK ⊢
      try generalize xF 1 = yy1 at *
      obtain rfl := dd1
      obtain hbR := id hR
      obtain ⟨csO, hcO, hzO⟩ := hR.2.2.2.2
      rw [if_pos (by rfl)]
      refine wp_store_row 25 (.tmp 3) (.tmp 46) rfl q3 #[.int .u64 (span 48 57).a, .int .u64 (span 48 57).b, .int .u64 (span 48 57).c, .int .u64 (span 48 57).d] rfl rfl 25 csO hzO clsize hcO (by simp [Value.oneCell']) ?_
      exact hK.out undef _ (⟨KX.row, setRow_heap _ _ _ _ _ _ hzO⟩) (setRow_heap _ _ _ _ _ _ hzO) (fun _ _ _ => ⟨trivial, trivial⟩)
     refine FlowAll.cons ?_ ?_
     ·
      intro xF wz hR hd K hK
      clear hd
      simp only [← hAF, Act.put, List.setIfInBounds_toArray, List.set_cons_zero, List.set_cons_succ] at hK ⊢
      clear hAF
      try simp only [Nat.zero_add] at hK ⊢
      try simp only [Nat.reduceAdd] at hK ⊢
      obtain hbR := id hR
      rw [if_pos (by rfl)]
      go_simp
      exact hK.out _ _ (Below.refl _ _) (rfl) (fun _ _ _ => ⟨trivial, trivial⟩)
     refine FlowAll.cons ?_ ?_
     ·
      intro xF wz hR hd K hK
      clear hd
      simp only [← hAF, Act.put, List.setIfInBounds_toArray, List.set_cons_zero, List.set_cons_succ] at hK ⊢
      clear hAF
      try simp only [Nat.zero_add] at hK ⊢
      try simp only [Nat.reduceAdd] at hK ⊢
      obtain hbR := id hR
      rw [if_pos (by rfl)]
      go_simp
      exact hK.out _ _ (Below.refl _ _) (rfl) (fun _ _ _ => ⟨trivial, trivial⟩)
     exact FlowAll.nil
    intro xF wz hR hF hP
    clear hP
    have dd0 : ((xF 0) = .agg #[.string S, .int .i64 ((r2).p : Int), .int .i64 (r2).co]) := hF 0 (by omega) (by decide)
    have dd1 : ((xF 1) = .agg #[.int .u64 (span 48 57).a, .int .u64 (span 48 57).b, .int .u64 (span 48 57).c, .int .u64 (span 48 57).d]) := hF 1 (by omega) (by decide)
    have dd2 : (wz.heap[q2]? = some (.cells #[.string S, .int .i64 ((r2).p : Int), .int .i64 (r2).co] 48)) := hF 2 (by omega) (by decide)
    have dd3 : (wz.heap[q3]? = some (.cells #[.int .u64 (span 48 57).a, .int .u64 (span 48 57).b, .int .u64 (span 48 57).c, .int .u64 (span 48 57).d] 25)) := hF 3 (by omega) (by decide)
    have dd4 : ((xF 4) = .int .u8 0) := hF 4 (by omega) (by decide)
    have dd5 : ((xF 5) = .bool false) := hF 5 (by omega) (by decide)
    clear hF
    simp only [List.take_succ_cons, List.take_zero, List.drop_succ_cons, List.drop_zero, fillOf, Act.put, List.setIfInBounds_toArray, List.set_cons_zero, List.set_cons_succ, Nat.reduceAdd, Nat.zero_add]
    try generalize xF 0 = yy0 at *
    try generalize xF 1 = yy1 at *
    try generalize xF 2 = yy2 at *
    try generalize xF 3 = yy3 at *
    try generalize xF 4 = yy4 at *
    try generalize xF 5 = yy5 at *
    clear xF
    obtain rfl := dd0
    obtain rfl := dd1
    have hs2 := dd2
    have hs3 := dd3
    obtain rfl := dd4
    obtain rfl := dd5
    have hRE := Lib.hid hR
    clear hR
    have XR := X0.out.dw hRE.out (by have := HQ.out; omega) (by have := HQ.out; omega) (by have := HQ.out; omega) (by have := HQ.out; omega)
    have k0 := boxc hs2 0 _ rfl
    have k1 := boxc hs2 1 _ rfl
    have k2 := boxc hs2 2 _ rfl
    have m0 := boxc hs3 0 _ rfl
    have m1 := boxc hs3 1 _ rfl
    have m2 := boxc hs3 2 _ rfl
    have m3 := boxc hs3 3 _ rfl
    have b3 := XR.2.1
    clear XR hs2 hs3 hRE
    go_wp2_with fail
    refine bodyPost_ret (v := .tuple #[.agg #[.string S, .int .i64 ((r2).p : Int), .int .i64 (r2).co], .agg #[.int .u64 (span 48 57).a, .int .u64 (span 48 57).b, .int .u64 (span 48 57).c, .int .u64 (span 48 57).d], .int .u8 0, .bool false]) (by simp [results, Try.results53, go_sem, k0, k1, k2, m0, m1, m2, m3]) rfl ⟨?_, b3⟩
    first | (rw [HV.out]; done) | (rw [HV.out]; rfl)
   ·
    have HM3 := Lib.hid (HM2.out.trans (if_neg g1))
    have j1 : ((z : Int) == 100) = false := beq_eq_false_iff_ne.2 (by omega)
    by_cases g2 : z = 119
    ·
     have HV := Lib.hid (HM3.out.trans (if_pos g2))
     have j2 : ((z : Int) == 119) = true := by rw [g2]; rfl
     have HA : Hid (∀ W : World, Calls Try.prog 63 #[.int .u8 97, .int .u8 122] W (fun e w' => e = .returned (.agg #[.int .u64 (span 97 122).a, .int .u64 (span 97 122).b, .int .u64 (span 97 122).c, .int .u64 (span 97 122).d]) ∧ Below W.heap.size W w')) := fun W => rr_span 97 122 W (by decide) (by decide)
     have HB : Hid (∀ W : World, Calls Try.prog 63 #[.int .u8 65, .int .u8 90] W (fun e w' => e = .returned (.agg #[.int .u64 (span 65 90).a, .int .u64 (span 65 90).b, .int .u64 (span 65 90).c, .int .u64 (span 65 90).d]) ∧ Below W.heap.size W w')) := fun W => rr_span 65 90 W (by decide) (by decide)
     have HC : Hid (∀ W : World, Calls Try.prog 63 #[.int .u8 48, .int .u8 57] W (fun e w' => e = .returned (.agg #[.int .u64 (span 48 57).a, .int .u64 (span 48 57).b, .int .u64 (span 48 57).c, .int .u64 (span 48 57).d]) ∧ Below W.heap.size W w')) := fun W => rr_span 48 57 W (by decide) (by decide)
     have HD : Hid (∀ W : World, Calls Try.prog 55 #[.int .u8 95] W (fun e w' => e = .returned (.agg #[.int .u64 (Cls.one 95).a, .int .u64 (Cls.one 95).b, .int .u64 (Cls.one 95).c, .int .u64 (Cls.one 95).d]) ∧ Below W.heap.size W w')) := fun W => rr_single 95 W (by decide)
     have oA : (span 97 122).ok := span_ok _ _ _ (by decide) (by unfold Cls.ok; decide)
     have oB : (span 65 90).ok := span_ok _ _ _ (by decide) (by unfold Cls.ok; decide)
     have oC : (span 48 57).ok := span_ok _ _ _ (by decide) (by unfold Cls.ok; decide)
     have oD : (Cls.one 95).ok := one_ok 95 (by decide)
     have HU1 : Hid (∀ W : World, Calls Try.prog 15 #[.agg #[.int .u64 (span 97 122).a, .int .u64 (span 97 122).b, .int .u64 (span 97 122).c, .int .u64 (span 97 122).d], .agg #[.int .u64 (span 65 90).a, .int .u64 (span 65 90).b, .int .u64 (span 65 90).c, .int .u64 (span 65 90).d]] W (fun e w' => e = .returned (.agg #[.int .u64 ((span 97 122).or (span 65 90)).a, .int .u64 ((span 97 122).or (span 65 90)).b, .int .u64 ((span 97 122).or (span 65 90)).c, .int .u64 ((span 97 122).or (span 65 90)).d]) ∧ Below W.heap.size W w')) := fun W => rrx_union (span 97 122) (span 65 90) W (oA) (oB)
     have HU2 : Hid (∀ W : World, Calls Try.prog 15 #[.agg #[.int .u64 (span 48 57).a, .int .u64 (span 48 57).b, .int .u64 (span 48 57).c, .int .u64 (span 48 57).d], .agg #[.int .u64 (Cls.one 95).a, .int .u64 (Cls.one 95).b, .int .u64 (Cls.one 95).c, .int .u64 (Cls.one 95).d]] W (fun e w' => e = .returned (.agg #[.int .u64 ((span 48 57).or (Cls.one 95)).a, .int .u64 ((span 48 57).or (Cls.one 95)).b, .int .u64 ((span 48 57).or (Cls.one 95)).c, .int .u64 ((span 48 57).or (Cls.one 95)).d]) ∧ Below W.heap.size W w')) := fun W => rrx_union (span 48 57) (Cls.one 95) W (oC) (oD)
     have HU3 : Hid (∀ W : World, Calls Try.prog 15 #[.agg #[.int .u64 ((span 97 122).or (span 65 90)).a, .int .u64 ((span 97 122).or (span 65 90)).b, .int .u64 ((span 97 122).or (span 65 90)).c, .int .u64 ((span 97 122).or (span 65 90)).d], .agg #[.int .u64 ((span 48 57).or (Cls.one 95)).a, .int .u64 ((span 48 57).or (Cls.one 95)).b, .int .u64 ((span 48 57).or (Cls.one 95)).c, .int .u64 ((span 48 57).or (Cls.one 95)).d]] W (fun e w' => e = .returned (.agg #[.int .u64 (((span 97 122).or (span 65 90)).or ((span 48 57).or (Cls.one 95))).a, .int .u64 (((span 97 122).or (span 65 90)).or ((span 48 57).or (Cls.one 95))).b, .int .u64 (((span 97 122).or (span 65 90)).or ((span 48 57).or (Cls.one 95))).c, .int .u64 (((span 97 122).or (span 65 90)).or ((span 48 57).or (Cls.one 95))).d]) ∧ Below W.heap.size W w')) := fun W => rrx_union ((span 97 122).or (span 65 90)) ((span 48 57).or (Cls.one 95)) W (or_ok oA oB) (or_ok oC oD)
     clear g1 g2 oA oB oC oD
     go_enter Try.func53, Try.ntmps53
     go_wp2_with fail
     rw [← HW3.out, ← HQ3.out, ← HQ2.out, ← HQ0.out]
     with_reducible refine (HSP.out W3).mono ?_
     rintro e V9 ⟨rfl, rfl⟩
     go_wp2_with fail
     refine wp_flow 12 (fun _ => 1000) (fun ww => Dw q2 q3 V9 ww) (fun i w w' => if i = 9 then (fun (w w' : World) => KX q3 w w' ∧ w'.heap[q3]? = some (.cells #[.int .u64 (((span 97 122).or (span 65 90)).or ((span 48 57).or (Cls.one 95))).a, .int .u64 (((span 97 122).or (span 65 90)).or ((span 48 57).or (Cls.one 95))).b, .int .u64 (((span 97 122).or (span 65 90)).or ((span 48 57).or (Cls.one 95))).c, .int .u64 (((span 97 122).or (span 65 90)).or ((span 48 57).or (Cls.one 95))).d] 25)) w w' else if i = 8 then (fun (w w' : World) => KX q2 w w' ∧ w'.heap[q2]? = some (.cells #[.string S, .int .i64 ((r2).p : Int), .int .i64 (r2).co] 48)) w w' else (fun (w w' : World) => RowKit.Below w.heap.size w w') w w') (fun kF vF wF => match kF with | 0 => (vF = .agg #[.string S, .int .i64 ((r2).p : Int), .int .i64 (r2).co]) | 1 => (vF = .agg #[.int .u64 (span 97 122).a, .int .u64 (span 97 122).b, .int .u64 (span 97 122).c, .int .u64 (span 97 122).d]) | 2 => (vF = .agg #[.int .u64 (span 65 90).a, .int .u64 (span 65 90).b, .int .u64 (span 65 90).c, .int .u64 (span 65 90).d]) | 3 => (vF = .agg #[.int .u64 ((span 97 122).or (span 65 90)).a, .int .u64 ((span 97 122).or (span 65 90)).b, .int .u64 ((span 97 122).or (span 65 90)).c, .int .u64 ((span 97 122).or (span 65 90)).d]) | 4 => (vF = .agg #[.int .u64 (span 48 57).a, .int .u64 (span 48 57).b, .int .u64 (span 48 57).c, .int .u64 (span 48 57).d]) | 5 => (vF = .agg #[.int .u64 (Cls.one 95).a, .int .u64 (Cls.one 95).b, .int .u64 (Cls.one 95).c, .int .u64 (Cls.one 95).d]) | 6 => (vF = .agg #[.int .u64 ((span 48 57).or (Cls.one 95)).a, .int .u64 ((span 48 57).or (Cls.one 95)).b, .int .u64 ((span 48 57).or (Cls.one 95)).c, .int .u64 ((span 48 57).or (Cls.one 95)).d]) | 7 => (vF = .agg #[.int .u64 (((span 97 122).or (span 65 90)).or ((span 48 57).or (Cls.one 95))).a, .int .u64 (((span 97 122).or (span 65 90)).or ((span 48 57).or (Cls.one 95))).b, .int .u64 (((span 97 122).or (span 65 90)).or ((span 48 57).or (Cls.one 95))).c, .int .u64 (((span 97 122).or (span 65 90)).or ((span 48 57).or (Cls.one 95))).d]) | 8 => (wF.heap[q2]? = some (.cells #[.string S, .int .i64 ((r2).p : Int), .int .i64 (r2).co] 48)) | 9 => (wF.heap[q3]? = some (.cells #[.int .u64 (((span 97 122).or (span 65 90)).or ((span 48 57).or (Cls.one 95))).a, .int .u64 (((span 97 122).or (span 65 90)).or ((span 48 57).or (Cls.one 95))).b, .int .u64 (((span 97 122).or (span 65 90)).or ((span 48 57).or (Cls.one 95))).c, .int .u64 (((span 97 122).or (span 65 90)).or ((span 48 57).or (Cls.one 95))).d] 25)) | 10 => (vF = .int .u8 0) | 11 => (vF = .bool false) | _ => True) (fun _ _ _ _ => True) (by kernel_rfl) (by kernel_rfl) ?_ ?_ ?_ ?_ ?_
     ·
      exact (Dw.refl Z0.out Y0.out).below (Below.refl _ _).drew
     ·
      intro iF wF1 wF2 hR hT
      have hT : (fun i w w' => if i = 9 then (fun (w w' : World) => KX q3 w w' ∧ w'.heap[q3]? = some (.cells #[.int .u64 (((span 97 122).or (span 65 90)).or ((span 48 57).or (Cls.one 95))).a, .int .u64 (((span 97 122).or (span 65 90)).or ((span 48 57).or (Cls.one 95))).b, .int .u64 (((span 97 122).or (span 65 90)).or ((span 48 57).or (Cls.one 95))).c, .int .u64 (((span 97 122).or (span 65 90)).or ((span 48 57).or (Cls.one 95))).d] 25)) w w' else if i = 8 then (fun (w w' : World) => KX q2 w w' ∧ w'.heap[q2]? = some (.cells #[.string S, .int .i64 ((r2).p : Int), .int .i64 (r2).co] 48)) w w' else (fun (w w' : World) => RowKit.Below w.heap.size w w') w w') iF wF1 wF2 := hT
      simp only at hT
      by_cases hi9 : iF = 9
      ·
       rw [if_pos hi9] at hT; first | exact hR.s2 hT rfl (by have := HQ.out; omega) | exact hR.s3 hT rfl (by have := HQ.out; omega)
      rw [if_neg hi9] at hT
      by_cases hi8 : iF = 8
      ·
       rw [if_pos hi8] at hT; first | exact hR.s2 hT rfl (by have := HQ.out; omega) | exact hR.s3 hT rfl (by have := HQ.out; omega)
      rw [if_neg hi8] at hT
      exact hR.below hT
     ·
      intro kF hkF iF hiF hne hdd hanc hdan vF wF1 wF2 h hT
      rcases (by omega : kF = 0 ∨ kF = 1 ∨ kF = 2 ∨ kF = 3 ∨ kF = 4 ∨ kF = 5 ∨ kF = 6 ∨ kF = 7 ∨ kF = 8 ∨ kF = 9 ∨ kF = 10 ∨ kF = 11) with rfl | rfl | rfl | rfl | rfl | rfl | rfl | rfl | rfl | rfl | rfl | rfl
      ·
       exact h
      ·
       exact h
      ·
       exact h
      ·
       exact h
      ·
       exact h
      ·
       exact h
      ·
       exact h
      ·
       exact h
      ·
       have h : (wF1.heap[q2]? = some (.cells #[.string S, .int .i64 ((r2).p : Int), .int .i64 (r2).co] 48)) := h
       show (wF2.heap[q2]? = some (.cells #[.string S, .int .i64 ((r2).p : Int), .int .i64 (r2).co] 48))
       have hT : (fun i w w' => if i = 9 then (fun (w w' : World) => KX q3 w w' ∧ w'.heap[q3]? = some (.cells #[.int .u64 (((span 97 122).or (span 65 90)).or ((span 48 57).or (Cls.one 95))).a, .int .u64 (((span 97 122).or (span 65 90)).or ((span 48 57).or (Cls.one 95))).b, .int .u64 (((span 97 122).or (span 65 90)).or ((span 48 57).or (Cls.one 95))).c, .int .u64 (((span 97 122).or (span 65 90)).or ((span 48 57).or (Cls.one 95))).d] 25)) w w' else if i = 8 then (fun (w w' : World) => KX q2 w w' ∧ w'.heap[q2]? = some (.cells #[.string S, .int .i64 ((r2).p : Int), .int .i64 (r2).co] 48)) w w' else (fun (w w' : World) => RowKit.Below w.heap.size w w') w w') iF wF1 wF2 := hT
       simp only at hT
       by_cases hi9 : iF = 9
       ·
        rw [if_pos hi9] at hT
        exact (hT.1.2.2 q2 (lt_of_block h) (by have := HQ.out; omega)).trans h
       rw [if_neg hi9] at hT
       by_cases hi8 : iF = 8
       ·
        exact absurd hi8.symm hne
       rw [if_neg hi8] at hT
       exact (hT.block q2 (lt_of_block h)).trans h
      ·
       have h : (wF1.heap[q3]? = some (.cells #[.int .u64 (((span 97 122).or (span 65 90)).or ((span 48 57).or (Cls.one 95))).a, .int .u64 (((span 97 122).or (span 65 90)).or ((span 48 57).or (Cls.one 95))).b, .int .u64 (((span 97 122).or (span 65 90)).or ((span 48 57).or (Cls.one 95))).c, .int .u64 (((span 97 122).or (span 65 90)).or ((span 48 57).or (Cls.one 95))).d] 25)) := h
       show (wF2.heap[q3]? = some (.cells #[.int .u64 (((span 97 122).or (span 65 90)).or ((span 48 57).or (Cls.one 95))).a, .int .u64 (((span 97 122).or (span 65 90)).or ((span 48 57).or (Cls.one 95))).b, .int .u64 (((span 97 122).or (span 65 90)).or ((span 48 57).or (Cls.one 95))).c, .int .u64 (((span 97 122).or (span 65 90)).or ((span 48 57).or (Cls.one 95))).d] 25))
       have hT : (fun i w w' => if i = 9 then (fun (w w' : World) => KX q3 w w' ∧ w'.heap[q3]? = some (.cells #[.int .u64 (((span 97 122).or (span 65 90)).or ((span 48 57).or (Cls.one 95))).a, .int .u64 (((span 97 122).or (span 65 90)).or ((span 48 57).or (Cls.one 95))).b, .int .u64 (((span 97 122).or (span 65 90)).or ((span 48 57).or (Cls.one 95))).c, .int .u64 (((span 97 122).or (span 65 90)).or ((span 48 57).or (Cls.one 95))).d] 25)) w w' else if i = 8 then (fun (w w' : World) => KX q2 w w' ∧ w'.heap[q2]? = some (.cells #[.string S, .int .i64 ((r2).p : Int), .int .i64 (r2).co] 48)) w w' else (fun (w w' : World) => RowKit.Below w.heap.size w w') w w') iF wF1 wF2 := hT
       simp only at hT
       by_cases hi9 : iF = 9
       ·
        exact absurd hi9.symm hne
       rw [if_neg hi9] at hT
       by_cases hi8 : iF = 8
       ·
        rw [if_pos hi8] at hT
        exact (hT.1.2.2 q3 (lt_of_block h) (by have := HQ.out; omega)).trans h
       rw [if_neg hi8] at hT
       exact (hT.block q3 (lt_of_block h)).trans h
      ·
       exact h
      ·
       exact h
     ·
      generalize hAF : fillOf _ _ _ = AF
      replace hAF := fun x => congrFun hAF x
      simp only [List.take_succ_cons, List.take_zero, fillOf, Act.put, List.setIfInBounds_toArray, List.set_cons_zero, List.set_cons_succ, Nat.reduceAdd, Nat.zero_add] at hAF
      refine FlowAll.cons ?_ ?_
      ·
       intro xF wz hR hd K hK
       clear hd
       simp only [← hAF, Act.put, List.setIfInBounds_toArray, List.set_cons_zero, List.set_cons_succ] at hK ⊢
       clear hAF
       try simp only [Nat.zero_add] at hK ⊢
       try simp only [Nat.reduceAdd] at hK ⊢
       obtain hbR := id hR
       have hxa := (hbR.2.2.1 _ (lt_of_block X0.out.1) (by have := HQ.out; omega) (by have := HQ.out; omega)).trans X0.out.1
       have c90 := boxc hxa 0 _ rfl
       have c91 := boxc hxa 1 _ rfl
       have c92 := boxc hxa 2 _ rfl
       clear hxa
       rw [if_pos (by rfl)]
       go_simp
       exact hK.out _ _ (Below.refl _ _) (rfl) (fun _ _ _ => ⟨trivial, trivial⟩)
      refine FlowAll.cons ?_ ?_
      ·
       intro xF wz hR hd K hK
       clear hd
       simp only [← hAF, Act.put, List.setIfInBounds_toArray, List.set_cons_zero, List.set_cons_succ] at hK ⊢
       clear hAF
       try simp only [Nat.zero_add] at hK ⊢
       try simp only [Nat.reduceAdd] at hK ⊢
       obtain hbR := id hR
       rw [if_pos (by rfl)]
       go_simp
       (go_at_call 63; (with_reducible refine (HA.out _).mono ?_); rintro e wK ⟨rfl, hbK⟩)
       try go_wp2_with fail
       exact hK.out _ _ (hbK) (rfl) (fun _ _ _ => ⟨trivial, trivial⟩)
      refine FlowAll.cons ?_ ?_
      ·
       intro xF wz hR hd K hK
       clear hd
       simp only [← hAF, Act.put, List.setIfInBounds_toArray, List.set_cons_zero, List.set_cons_succ] at hK ⊢
       clear hAF
       try simp only [Nat.zero_add] at hK ⊢
       try simp only [Nat.reduceAdd] at hK ⊢
       obtain hbR := id hR
       rw [if_pos (by rfl)]
       go_simp
       (go_at_call 63; (with_reducible refine (HB.out _).mono ?_); rintro e wK ⟨rfl, hbK⟩)
       try go_wp2_with fail
       exact hK.out _ _ (hbK) (rfl) (fun _ _ _ => ⟨trivial, trivial⟩)
      refine FlowAll.cons ?_ ?_
      ·
       intro xF wz hR hd K hK
       have dd1 : ((xF 1) = .agg #[.int .u64 (span 97 122).a, .int .u64 (span 97 122).b, .int .u64 (span 97 122).c, .int .u64 (span 97 122).d]) := hd 1 (by kernel_rfl)
       have dd2 : ((xF 2) = .agg #[.int .u64 (span 65 90).a, .int .u64 (span 65 90).b, .int .u64 (span 65 90).c, .int .u64 (span 65 90).d]) := hd 2 (by kernel_rfl)
       clear hd
       simp only [← hAF, Act.put, List.setIfInBounds_toArray, List.set_cons_zero, List.set_cons_succ] at hK ⊢
       clear hAF
       try simp only [Nat.zero_add] at hK ⊢
       try simp only [Nat.reduceAdd] at hK ⊢
       try generalize xF 1 = yy1 at *
       try generalize xF 2 = yy2 at *
       obtain rfl := dd1
       obtain rfl := dd2
       obtain hbR := id hR
       rw [if_pos (by rfl)]
       go_simp
       (go_at_call 15; (with_reducible refine (HU1.out _).mono ?_); rintro e wK ⟨rfl, hbK⟩)
       try go_wp2_with fail
       exact hK.out _ _ (hbK) (rfl) (fun _ _ _ => ⟨trivial, trivial⟩)
      refine FlowAll.cons ?_ ?_
      ·
       intro xF wz hR hd K hK
       clear hd
       simp only [← hAF, Act.put, List.setIfInBounds_toArray, List.set_cons_zero, List.set_cons_succ] at hK ⊢
       clear hAF
       try simp only [Nat.zero_add] at hK ⊢
       try simp only [Nat.reduceAdd] at hK ⊢
       obtain hbR := id hR
       rw [if_pos (by rfl)]
       go_simp
       (go_at_call 63; (with_reducible refine (HC.out _).mono ?_); rintro e wK ⟨rfl, hbK⟩)
       try go_wp2_with fail
       exact hK.out _ _ (hbK) (rfl) (fun _ _ _ => ⟨trivial, trivial⟩)
      refine FlowAll.cons ?_ ?_
      ·
       intro xF wz hR hd K hK
       clear hd
       simp only [← hAF, Act.put, List.setIfInBounds_toArray, List.set_cons_zero, List.set_cons_succ] at hK ⊢
       clear hAF
       try simp only [Nat.zero_add] at hK ⊢
       try simp only [Nat.reduceAdd] at hK ⊢
       obtain hbR := id hR
       rw [if_pos (by rfl)]
       go_simp
       (go_at_call 55; (with_reducible refine (HD.out _).mono ?_); rintro e wK ⟨rfl, hbK⟩)
       try go_wp2_with fail
       exact hK.out _ _ (hbK) (rfl) (fun _ _ _ => ⟨trivial, trivial⟩)
      refine FlowAll.cons ?_ ?_
      ·
       intro xF wz hR hd K hK
       have dd4 : ((xF 4) = .agg #[.int .u64 (span 48 57).a, .int .u64 (span 48 57).b, .int .u64 (span 48 57).c, .int .u64 (span 48 57).d]) := hd 4 (by kernel_rfl)
       have dd5 : ((xF 5) = .agg #[.int .u64 (Cls.one 95).a, .int .u64 (Cls.one 95).b, .int .u64 (Cls.one 95).c, .int .u64 (Cls.one 95).d]) := hd 5 (by kernel_rfl)
       clear hd
       simp only [← hAF, Act.put, List.setIfInBounds_toArray, List.set_cons_zero, List.set_cons_succ] at hK ⊢
       clear hAF
       try simp only [Nat.zero_add] at hK ⊢
       try simp only [Nat.reduceAdd] at hK ⊢
       try generalize xF 4 = yy4 at *
       try generalize xF 5 = yy5 at *
       obtain rfl := dd4
       obtain rfl := dd5
       obtain hbR := id hR
       rw [if_pos (by rfl)]
       go_simp
       (go_at_call 15; (with_reducible refine (HU2.out _).mono ?_); rintro e wK ⟨rfl, hbK⟩)
       try go_wp2_with fail
       exact hK.out _ _ (hbK) (rfl) (fun _ _ _ => ⟨trivial, trivial⟩)
      refine FlowAll.cons ?_ ?_
      ·
       intro xF wz hR hd K hK
       have dd3 : ((xF 3) = .agg #[.int .u64 ((span 97 122).or (span 65 90)).a, .int .u64 ((span 97 122).or (span 65 90)).b, .int .u64 ((span 97 122).or (span 65 90)).c, .int .u64 ((span 97 122).or (span 65 90)).d]) := hd 3 (by kernel_rfl)
       have dd6 : ((xF 6) = .agg #[.int .u64 ((span 48 57).or (Cls.one 95)).a, .int .u64 ((span 48 57).or (Cls.one 95)).b, .int .u64 ((span 48 57).or (Cls.one 95)).c, .int .u64 ((span 48 57).or (Cls.one 95)).d]) := hd 6 (by kernel_rfl)
       clear hd
       simp only [← hAF, Act.put, List.setIfInBounds_toArray, List.set_cons_zero, List.set_cons_succ] at hK ⊢
       clear hAF
       try simp only [Nat.zero_add] at hK ⊢
       try simp only [Nat.reduceAdd] at hK ⊢
       try generalize xF 3 = yy3 at *
       try generalize xF 6 = yy6 at *
       obtain rfl := dd3
       obtain rfl := dd6
       obtain hbR := id hR
       rw [if_pos (by rfl)]
       go_simp
       (go_at_call 15; (with_reducible refine (HU3.out _).mono ?_); rintro e wK ⟨rfl, hbK⟩)
       try go_wp2_with fail
       exact hK.out _ _ (hbK) (rfl) (fun _ _ _ => ⟨trivial, trivial⟩)
      refine FlowAll.cons ?_ ?_
      ·
       intro xF wz hR hd K hK
       have dd0 : ((xF 0) = .agg #[.string S, .int .i64 ((r2).p : Int), .int .i64 (r2).co]) := hd 0 (by kernel_rfl)
       clear hd
       simp only [← hAF, Act.put, List.setIfInBounds_toArray, List.set_cons_zero, List.set_cons_succ] at hK ⊢
       clear hAF
       try simp only [Nat.zero_add] at hK ⊢
       try simp only [Nat.reduceAdd] at hK ⊢
       try generalize xF 0 = yy0 at *
       obtain rfl := dd0
       obtain hbR := id hR
       obtain ⟨csO, hcO, hzO⟩ := hR.2.2.2.1
       rw [if_pos (by rfl)]
       refine wp_store_row 48 (.tmp 2) (.tmp 50) rfl q2 #[.string S, .int .i64 ((r2).p : Int), .int .i64 (r2).co] rfl rfl 48 csO hzO rdsize hcO (by simp [Value.oneCell']) ?_
       exact hK.out undef _ (⟨KX.row, setRow_heap _ _ _ _ _ _ hzO⟩) (setRow_heap _ _ _ _ _ _ hzO) (fun _ _ _ => ⟨trivial, trivial⟩)
      refine FlowAll.cons ?_ ?_
      ·
       intro xF wz hR hd K hK
       have dd7 : ((xF 7) = .agg #[.int .u64 (((span 97 122).or (span 65 90)).or ((span 48 57).or (Cls.one 95))).a, .int .u64 (((span 97 122).or (span 65 90)).or ((span 48 57).or (Cls.one 95))).b, .int .u64 (((span 97 122).or (span 65 90)).or ((span 48 57).or (Cls.one 95))).c, .int .u64 (((span 97 122).or (span 65 90)).or ((span 48 57).or (Cls.one 95))).d]) := hd 7 (by kernel_rfl)
       clear hd
       simp only [← hAF, Act.put, List.setIfInBounds_toArray, List.set_cons_zero, List.set_cons_succ] at hK ⊢
       clear hAF
       try simp only [Nat.zero_add] at hK ⊢
       try simp only [Nat.reduceAdd] at hK ⊢
       try generalize xF 7 = yy7 at *
       obtain rfl := dd7
       obtain hbR := id hR
       obtain ⟨csO, hcO, hzO⟩ := hR.2.2.2.2
       rw [if_pos (by rfl)]
       refine wp_store_row 25 (.tmp 3) (.tmp 57) rfl q3 #[.int .u64 (((span 97 122).or (span 65 90)).or ((span 48 57).or (Cls.one 95))).a, .int .u64 (((span 97 122).or (span 65 90)).or ((span 48 57).or (Cls.one 95))).b, .int .u64 (((span 97 122).or (span 65 90)).or ((span 48 57).or (Cls.one 95))).c, .int .u64 (((span 97 122).or (span 65 90)).or ((span 48 57).or (Cls.one 95))).d] rfl rfl 25 csO hzO clsize hcO (by simp [Value.oneCell']) ?_
       exact hK.out undef _ (⟨KX.row, setRow_heap _ _ _ _ _ _ hzO⟩) (setRow_heap _ _ _ _ _ _ hzO) (fun _ _ _ => ⟨trivial, trivial⟩)
      refine FlowAll.cons ?_ ?_
      ·
       intro xF wz hR hd K hK
       clear hd
       simp only [← hAF, Act.put, List.setIfInBounds_toArray, List.set_cons_zero, List.set_cons_succ] at hK ⊢
       clear hAF
       try simp only [Nat.zero_add] at hK ⊢
       try simp only [Nat.reduceAdd] at hK ⊢
       obtain hbR := id hR
       rw [if_pos (by rfl)]
       go_simp
       exact hK.out _ _ (Below.refl _ _) (rfl) (fun _ _ _ => ⟨trivial, trivial⟩)
      refine FlowAll.cons ?_ ?_
      ·
       intro xF wz hR hd K hK
       clear hd
       simp only [← hAF, Act.put, List.setIfInBounds_toArray, List.set_cons_zero, List.set_cons_succ] at hK ⊢
       clear hAF
       try simp only [Nat.zero_add] at hK ⊢
       try simp only [Nat.reduceAdd] at hK ⊢
       obtain hbR := id hR
       rw [if_pos (by rfl)]
       go_simp
       exact hK.out _ _ (Below.refl _ _) (rfl) (fun _ _ _ => ⟨trivial, trivial⟩)
      exact FlowAll.nil
     intro xF wz hR hF hP
     clear hP
     have dd0 : ((xF 0) = .agg #[.string S, .int .i64 ((r2).p : Int), .int .i64 (r2).co]) := hF 0 (by omega) (by decide)
     have dd1 : ((xF 1) = .agg #[.int .u64 (span 97 122).a, .int .u64 (span 97 122).b, .int .u64 (span 97 122).c, .int .u64 (span 97 122).d]) := hF 1 (by omega) (by decide)
     have dd2 : ((xF 2) = .agg #[.int .u64 (span 65 90).a, .int .u64 (span 65 90).b, .int .u64 (span 65 90).c, .int .u64 (span 65 90).d]) := hF 2 (by omega) (by decide)
     have dd3 : ((xF 3) = .agg #[.int .u64 ((span 97 122).or (span 65 90)).a, .int .u64 ((span 97 122).or (span 65 90)).b, .int .u64 ((span 97 122).or (span 65 90)).c, .int .u64 ((span 97 122).or (span 65 90)).d]) := hF 3 (by omega) (by decide)
     have dd4 : ((xF 4) = .agg #[.int .u64 (span 48 57).a, .int .u64 (span 48 57).b, .int .u64 (span 48 57).c, .int .u64 (span 48 57).d]) := hF 4 (by omega) (by decide)
     have dd5 : ((xF 5) = .agg #[.int .u64 (Cls.one 95).a, .int .u64 (Cls.one 95).b, .int .u64 (Cls.one 95).c, .int .u64 (Cls.one 95).d]) := hF 5 (by omega) (by decide)
     have dd6 : ((xF 6) = .agg #[.int .u64 ((span 48 57).or (Cls.one 95)).a, .int .u64 ((span 48 57).or (Cls.one 95)).b, .int .u64 ((span 48 57).or (Cls.one 95)).c, .int .u64 ((span 48 57).or (Cls.one 95)).d]) := hF 6 (by omega) (by decide)
     have dd7 : ((xF 7) = .agg #[.int .u64 (((span 97 122).or (span 65 90)).or ((span 48 57).or (Cls.one 95))).a, .int .u64 (((span 97 122).or (span 65 90)).or ((span 48 57).or (Cls.one 95))).b, .int .u64 (((span 97 122).or (span 65 90)).or ((span 48 57).or (Cls.one 95))).c, .int .u64 (((span 97 122).or (span 65 90)).or ((span 48 57).or (Cls.one 95))).d]) := hF 7 (by omega) (by decide)
     have dd8 : (wz.heap[q2]? = some (.cells #[.string S, .int .i64 ((r2).p : Int), .int .i64 (r2).co] 48)) := hF 8 (by omega) (by decide)
     have dd9 : (wz.heap[q3]? = some (.cells #[.int .u64 (((span 97 122).or (span 65 90)).or ((span 48 57).or (Cls.one 95))).a, .int .u64 (((span 97 122).or (span 65 90)).or ((span 48 57).or (Cls.one 95))).b, .int .u64 (((span 97 122).or (span 65 90)).or ((span 48 57).or (Cls.one 95))).c, .int .u64 (((span 97 122).or (span 65 90)).or ((span 48 57).or (Cls.one 95))).d] 25)) := hF 9 (by omega) (by decide)
     have dd10 : ((xF 10) = .int .u8 0) := hF 10 (by omega) (by decide)
     have dd11 : ((xF 11) = .bool false) := hF 11 (by omega) (by decide)
     clear hF
     simp only [List.take_succ_cons, List.take_zero, List.drop_succ_cons, List.drop_zero, fillOf, Act.put, List.setIfInBounds_toArray, List.set_cons_zero, List.set_cons_succ, Nat.reduceAdd, Nat.zero_add]
     try generalize xF 0 = yy0 at *
     try generalize xF 1 = yy1 at *
     try generalize xF 2 = yy2 at *
     try generalize xF 3 = yy3 at *
     try generalize xF 4 = yy4 at *
     try generalize xF 5 = yy5 at *
     try generalize xF 6 = yy6 at *
     try generalize xF 7 = yy7 at *
     try generalize xF 8 = yy8 at *
     try generalize xF 9 = yy9 at *
     try generalize xF 10 = yy10 at *
     try generalize xF 11 = yy11 at *
     clear xF
     obtain rfl := dd0
     obtain rfl := dd1
     obtain rfl := dd2
     obtain rfl := dd3
     obtain rfl := dd4
     obtain rfl := dd5
     obtain rfl := dd6
     obtain rfl := dd7
     have hs2 := dd8
     have hs3 := dd9
     obtain rfl := dd10
     obtain rfl := dd11
     have hRE := Lib.hid hR
     clear hR
     have XR := X0.out.dw hRE.out (by have := HQ.out; omega) (by have := HQ.out; omega) (by have := HQ.out; omega) (by have := HQ.out; omega)
     have k0 := boxc hs2 0 _ rfl
     have k1 := boxc hs2 1 _ rfl
     have k2 := boxc hs2 2 _ rfl
     have m0 := boxc hs3 0 _ rfl
     have m1 := boxc hs3 1 _ rfl
     have m2 := boxc hs3 2 _ rfl
     have m3 := boxc hs3 3 _ rfl
     have b3 := XR.2.1
     clear XR hs2 hs3 hRE
     go_wp2_with fail
     refine bodyPost_ret (v := .tuple #[.agg #[.string S, .int .i64 ((r2).p : Int), .int .i64 (r2).co], .agg #[.int .u64 (((span 97 122).or (span 65 90)).or ((span 48 57).or (Cls.one 95))).a, .int .u64 (((span 97 122).or (span 65 90)).or ((span 48 57).or (Cls.one 95))).b, .int .u64 (((span 97 122).or (span 65 90)).or ((span 48 57).or (Cls.one 95))).c, .int .u64 (((span 97 122).or (span 65 90)).or ((span 48 57).or (Cls.one 95))).d], .int .u8 0, .bool false]) (by simp [results, Try.results53, go_sem, k0, k1, k2, m0, m1, m2, m3]) rfl ⟨?_, b3⟩
     first | (rw [HV.out]; done) | (rw [HV.out]; rfl)
    ·
     have HM4 := Lib.hid (HM3.out.trans (if_neg g2))
     have j2 : ((z : Int) == 119) = false := beq_eq_false_iff_ne.2 (by omega)
     by_cases g3 : z = 120
     ·
      have j3 : ((z : Int) == 120) = true := by rw [g3]; rfl
      have iv5 : IntKind.i64.wrap ((r2.p : Int) + 1) = (r2.p : Int) + 1 := IntWalk.i64_in _ (by omega)
      by_cases g4 : r2.p + 1 < S.size
      ·
       have j4 : (r2.p : Int) + 1 < (S.size : Int) := by omega
       have g5 : r2.p < S.size := by omega
       obtain ⟨r3, hr3⟩ : ∃ x, x = r2.fwd := ⟨_, rfl⟩
       have R3 := Lib.hid hr3
       have p3 : r3.p = r2.p + 1 := by rw [hr3]; rfl
       have ii3 : (r2.p : Int) + 1 = (r3.p : Int) := by omega
       have g6 : r3.p < S.size := by omega
       have j5 : (r2.p : Int) < (S.size : Int) := by omega
       have j6 : (r3.p : Int) < (S.size : Int) := by omega
       have iw3 : IntKind.i64.wrap (r3.p : Int) = (r3.p : Int) := IntWalk.i64_in _ (by omega)
       obtain ⟨x, hx⟩ : ∃ z, z = (S[r2.p]'g5).toNat := ⟨_, rfl⟩
       have bx : (kit.bytes S)[r2.p]? = some x := by rw [byte_at g5, hx]
       have lx : x < 256 := kit.bytes_lt S x (List.mem_of_getElem? bx)
       replace hx := hx.symm
       obtain ⟨dx, hdx⟩ : ∃ d, d = dig x := ⟨_, rfl⟩
       have nx : -1 ≤ dx ∧ dx ≤ 15 := by rw [hdx]; unfold dig; split <;> (try split) <;> omega
       have HDx : Hid (∀ W : World, Calls Try.prog 64 #[.int .u8 (x : Int)] W (fun e w' => e = .returned (.int .i64 dx) ∧ w' = W)) := fun W => by have h := rr_digit x W lx; rw [← hdx] at h; exact h
       obtain ⟨y, hy⟩ : ∃ z, z = (S[r3.p]'g6).toNat := ⟨_, rfl⟩
       have by__ : (kit.bytes S)[r3.p]? = some y := by rw [byte_at g6, hy]
       have ly : y < 256 := kit.bytes_lt S y (List.mem_of_getElem? by__)
       replace hy := hy.symm
       obtain ⟨dy, hdy⟩ : ∃ d, d = dig y := ⟨_, rfl⟩
       have ny : -1 ≤ dy ∧ dy ≤ 15 := by rw [hdy]; unfold dig; split <;> (try split) <;> omega
       have HDy : Hid (∀ W : World, Calls Try.prog 64 #[.int .u8 (y : Int)] W (fun e w' => e = .returned (.int .i64 dy) ∧ w' = W)) := fun W => by have h := rr_digit y W ly; rw [← hdy] at h; exact h
       have HX : Hid (rf.hex (kit.bytes S) z ⟨r.p + 2, 0, 0⟩ = if 0 ≤ dx ∧ 0 ≤ dy then some (16 * dx + dy).toNat else none) := by show _ = _; unfold rf.hex; rw [if_pos g3]; simp only; rw [show r.p + 2 + 1 = r3.p by have := I1.out; omega, show r.p + 2 = r2.p by have := I1.out; omega, bx, by__, hdx, hdy]
       have nx1 := nx.1
       have nx2 := nx.2
       have ny1 := ny.1
       have ny2 := ny.2
       have HM5 : Hid (m = _) := HM4.out
       rw [HX.out] at HM5
       replace nx1 := Lib.hid nx1
       replace nx2 := Lib.hid nx2
       replace ny1 := Lib.hid ny1
       replace ny2 := Lib.hid ny2
       clear g1 g2 g3 hr3 p3 bx by__ hdx hdy nx ny
       go_enter Try.func53, Try.ntmps53
       go_wp2_with fail
       rw [← HW3.out, ← HQ3.out, ← HQ2.out, ← HQ0.out]
       with_reducible refine (HSP.out W3).mono ?_
       rintro e V9 ⟨rfl, rfl⟩
       have e2_0 := boxc X0.out.1 0 _ rfl
       have e2_1 := boxc X0.out.1 1 _ rfl
       have e2_2 := boxc X0.out.1 2 _ rfl
       have e2_f := boxf X0.out.1 1
       go_wp2_with fail
       clear e2_0 e2_1 e2_2 e2_f
       refine wp_flow 15 (fun _ => 1000) (fun ww => Below V9.heap.size V9 ww) (fun _ w w' => (fun (w w' : World) => RowKit.Below w.heap.size w w') w w') (fun kF vF wF => match kF with | 0 => (vF = .pointer (some ⟨q, 0, none⟩)) | 1 => (vF = .string S) | 2 => (vF = .pointer (some ⟨q, 1, none⟩)) | 3 => (vF = .int .i64 (r2.p : Int)) | 4 => (vF = .int .u8 (x : Int)) | 5 => (vF = .int .i64 dx) | 6 => (vF = .pointer (some ⟨q, 0, none⟩)) | 7 => (vF = .string S) | 8 => (vF = .pointer (some ⟨q, 1, none⟩)) | 9 => (vF = .int .i64 (r2.p : Int)) | 10 => (vF = .int .i64 (r3.p : Int)) | 11 => (vF = .int .u8 (y : Int)) | 12 => (vF = .int .i64 dy) | 13 => (vF = .int .i64 dx) | 14 => (vF = .int .i64 dy) | _ => True) (fun _ _ _ _ => True) (by kernel_rfl) (by kernel_rfl) ?_ ?_ ?_ ?_ ?_
       ·
        exact (Below.refl _ _).drew
       ·
        intro iF wF1 wF2 hR hT; exact hR.trans (Below.mono hT (Below.size hR))
       ·
        intro kF hkF iF hiF hne hdd hanc hdan vF wF1 wF2 h hT
        rcases (by omega : kF = 0 ∨ kF = 1 ∨ kF = 2 ∨ kF = 3 ∨ kF = 4 ∨ kF = 5 ∨ kF = 6 ∨ kF = 7 ∨ kF = 8 ∨ kF = 9 ∨ kF = 10 ∨ kF = 11 ∨ kF = 12 ∨ kF = 13 ∨ kF = 14) with rfl | rfl | rfl | rfl | rfl | rfl | rfl | rfl | rfl | rfl | rfl | rfl | rfl | rfl | rfl
        ·
         exact h
        ·
         exact h
        ·
         exact h
        ·
         exact h
        ·
         exact h
        ·
         exact h
        ·
         exact h
        ·
         exact h
        ·
         exact h
        ·
         exact h
        ·
         exact h
        ·
         exact h
        ·
         exact h
        ·
         exact h
        ·
         exact h
       ·
        generalize hAF : fillOf _ _ _ = AF
        replace hAF := fun x => congrFun hAF x
        simp only [List.take_succ_cons, List.take_zero, fillOf, Act.put, List.setIfInBounds_toArray, List.set_cons_zero, List.set_cons_succ, Nat.reduceAdd, Nat.zero_add] at hAF
        refine FlowAll.cons ?_ ?_
        ·
         intro xF wz hR hd K hK
         clear hd
         simp only [← hAF, Act.put, List.setIfInBounds_toArray, List.set_cons_zero, List.set_cons_succ] at hK ⊢
         clear hAF
         try simp only [Nat.zero_add] at hK ⊢
         try simp only [Nat.reduceAdd] at hK ⊢
         obtain hbR := id hR
         have hxa := (hbR.block _ (lt_of_block X0.out.1)).trans X0.out.1
         have c90 := boxc hxa 0 _ rfl
         have c91 := boxc hxa 1 _ rfl
         have c92 := boxc hxa 2 _ rfl
         clear hxa
         rw [if_pos (by rfl)]
         go_simp
         exact hK.out _ _ (Below.refl _ _) (rfl) (fun _ _ _ => ⟨trivial, trivial⟩)
        refine FlowAll.cons ?_ ?_
        ·
         intro xF wz hR hd K hK
         have dd0 : ((xF 0) = .pointer (some ⟨q, 0, none⟩)) := hd 0 (by kernel_rfl)
         clear hd
         simp only [← hAF, Act.put, List.setIfInBounds_toArray, List.set_cons_zero, List.set_cons_succ] at hK ⊢
         clear hAF
         try simp only [Nat.zero_add] at hK ⊢
         try simp only [Nat.reduceAdd] at hK ⊢
         try generalize xF 0 = yy0 at *
         obtain rfl := dd0
         obtain hbR := id hR
         have hxa := (hbR.block _ (lt_of_block X0.out.1)).trans X0.out.1
         have c90 := boxc hxa 0 _ rfl
         have c91 := boxc hxa 1 _ rfl
         have c92 := boxc hxa 2 _ rfl
         clear hxa
         rw [if_pos (by rfl)]
         go_simp
         exact hK.out _ _ (Below.refl _ _) (rfl) (fun _ _ _ => ⟨trivial, trivial⟩)
        refine FlowAll.cons ?_ ?_
        ·
         intro xF wz hR hd K hK
         clear hd
         simp only [← hAF, Act.put, List.setIfInBounds_toArray, List.set_cons_zero, List.set_cons_succ] at hK ⊢
         clear hAF
         try simp only [Nat.zero_add] at hK ⊢
         try simp only [Nat.reduceAdd] at hK ⊢
         obtain hbR := id hR
         have hxa := (hbR.block _ (lt_of_block X0.out.1)).trans X0.out.1
         have c90 := boxc hxa 0 _ rfl
         have c91 := boxc hxa 1 _ rfl
         have c92 := boxc hxa 2 _ rfl
         clear hxa
         rw [if_pos (by rfl)]
         go_simp
         exact hK.out _ _ (Below.refl _ _) (rfl) (fun _ _ _ => ⟨trivial, trivial⟩)
        refine FlowAll.cons ?_ ?_
        ·
         intro xF wz hR hd K hK
         have dd2 : ((xF 2) = .pointer (some ⟨q, 1, none⟩)) := hd 2 (by kernel_rfl)
         clear hd
         simp only [← hAF, Act.put, List.setIfInBounds_toArray, List.set_cons_zero, List.set_cons_succ] at hK ⊢
         clear hAF
         try simp only [Nat.zero_add] at hK ⊢
         try simp only [Nat.reduceAdd] at hK ⊢
         try generalize xF 2 = yy2 at *
         obtain rfl := dd2
         obtain hbR := id hR
         have hxa := (hbR.block _ (lt_of_block X0.out.1)).trans X0.out.1
         have c90 := boxc hxa 0 _ rfl
         have c91 := boxc hxa 1 _ rfl
         have c92 := boxc hxa 2 _ rfl
         clear hxa
         rw [if_pos (by rfl)]
         go_simp
         exact hK.out _ _ (Below.refl _ _) (rfl) (fun _ _ _ => ⟨trivial, trivial⟩)
        refine FlowAll.cons ?_ ?_
        ·
         intro xF wz hR hd K hK
         have dd1 : ((xF 1) = .string S) := hd 1 (by kernel_rfl)
         have dd3 : ((xF 3) = .int .i64 (r2.p : Int)) := hd 3 (by kernel_rfl)
         clear hd
         simp only [← hAF, Act.put, List.setIfInBounds_toArray, List.set_cons_zero, List.set_cons_succ] at hK ⊢
         clear hAF
         try simp only [Nat.zero_add] at hK ⊢
         try simp only [Nat.reduceAdd] at hK ⊢
         try generalize xF 1 = yy1 at *
         try generalize xF 3 = yy3 at *
         obtain rfl := dd1
         obtain rfl := dd3
         obtain hbR := id hR
         have hxa := (hbR.block _ (lt_of_block X0.out.1)).trans X0.out.1
         have c90 := boxc hxa 0 _ rfl
         have c91 := boxc hxa 1 _ rfl
         have c92 := boxc hxa 2 _ rfl
         clear hxa
         rw [if_pos (by rfl)]
         go_simp
         exact hK.out _ _ (Below.refl _ _) (rfl) (fun _ _ _ => ⟨trivial, trivial⟩)
        refine FlowAll.cons ?_ ?_
        ·
         intro xF wz hR hd K hK
         have dd4 : ((xF 4) = .int .u8 (x : Int)) := hd 4 (by kernel_rfl)
         clear hd
         simp only [← hAF, Act.put, List.setIfInBounds_toArray, List.set_cons_zero, List.set_cons_succ] at hK ⊢
         clear hAF
         try simp only [Nat.zero_add] at hK ⊢
         try simp only [Nat.reduceAdd] at hK ⊢
         try generalize xF 4 = yy4 at *
         obtain rfl := dd4
         obtain hbR := id hR
         have hxa := (hbR.block _ (lt_of_block X0.out.1)).trans X0.out.1
         have c90 := boxc hxa 0 _ rfl
         have c91 := boxc hxa 1 _ rfl
         have c92 := boxc hxa 2 _ rfl
         clear hxa
         rw [if_pos (by rfl)]
         go_simp
         (go_at_call 64; (with_reducible refine (HDx.out _).mono ?_); rintro e wK ⟨rfl, rfl⟩)
         try go_wp2_with fail
         exact hK.out _ _ (Below.refl _ _) (rfl) (fun _ _ _ => ⟨trivial, trivial⟩)
        refine FlowAll.cons ?_ ?_
        ·
         intro xF wz hR hd K hK
         clear hd
         simp only [← hAF, Act.put, List.setIfInBounds_toArray, List.set_cons_zero, List.set_cons_succ] at hK ⊢
         clear hAF
         try simp only [Nat.zero_add] at hK ⊢
         try simp only [Nat.reduceAdd] at hK ⊢
         obtain hbR := id hR
         have hxa := (hbR.block _ (lt_of_block X0.out.1)).trans X0.out.1
         have c90 := boxc hxa 0 _ rfl
         have c91 := boxc hxa 1 _ rfl
         have c92 := boxc hxa 2 _ rfl
         clear hxa
         rw [if_pos (by rfl)]
         go_simp
         exact hK.out _ _ (Below.refl _ _) (rfl) (fun _ _ _ => ⟨trivial, trivial⟩)
        refine FlowAll.cons ?_ ?_
        ·
         intro xF wz hR hd K hK
         have dd6 : ((xF 6) = .pointer (some ⟨q, 0, none⟩)) := hd 6 (by kernel_rfl)
         clear hd
         simp only [← hAF, Act.put, List.setIfInBounds_toArray, List.set_cons_zero, List.set_cons_succ] at hK ⊢
         clear hAF
         try simp only [Nat.zero_add] at hK ⊢
         try simp only [Nat.reduceAdd] at hK ⊢
         try generalize xF 6 = yy6 at *
         obtain rfl := dd6
         obtain hbR := id hR
         have hxa := (hbR.block _ (lt_of_block X0.out.1)).trans X0.out.1
         have c90 := boxc hxa 0 _ rfl
         have c91 := boxc hxa 1 _ rfl
         have c92 := boxc hxa 2 _ rfl
         clear hxa
         rw [if_pos (by rfl)]
         go_simp
         exact hK.out _ _ (Below.refl _ _) (rfl) (fun _ _ _ => ⟨trivial, trivial⟩)
        refine FlowAll.cons ?_ ?_
        ·
         intro xF wz hR hd K hK
         clear hd
         simp only [← hAF, Act.put, List.setIfInBounds_toArray, List.set_cons_zero, List.set_cons_succ] at hK ⊢
         clear hAF
         try simp only [Nat.zero_add] at hK ⊢
         try simp only [Nat.reduceAdd] at hK ⊢
         obtain hbR := id hR
         have hxa := (hbR.block _ (lt_of_block X0.out.1)).trans X0.out.1
         have c90 := boxc hxa 0 _ rfl
         have c91 := boxc hxa 1 _ rfl
         have c92 := boxc hxa 2 _ rfl
         clear hxa
         rw [if_pos (by rfl)]
         go_simp
         exact hK.out _ _ (Below.refl _ _) (rfl) (fun _ _ _ => ⟨trivial, trivial⟩)
        refine FlowAll.cons ?_ ?_
        ·
         intro xF wz hR hd K hK
         have dd8 : ((xF 8) = .pointer (some ⟨q, 1, none⟩)) := hd 8 (by kernel_rfl)
         clear hd
         simp only [← hAF, Act.put, List.setIfInBounds_toArray, List.set_cons_zero, List.set_cons_succ] at hK ⊢
         clear hAF
         try simp only [Nat.zero_add] at hK ⊢
         try simp only [Nat.reduceAdd] at hK ⊢
         try generalize xF 8 = yy8 at *
         obtain rfl := dd8
         obtain hbR := id hR
         have hxa := (hbR.block _ (lt_of_block X0.out.1)).trans X0.out.1
         have c90 := boxc hxa 0 _ rfl
         have c91 := boxc hxa 1 _ rfl
         have c92 := boxc hxa 2 _ rfl
         clear hxa
         rw [if_pos (by rfl)]
         go_simp
         exact hK.out _ _ (Below.refl _ _) (rfl) (fun _ _ _ => ⟨trivial, trivial⟩)
        refine FlowAll.cons ?_ ?_
        ·
         intro xF wz hR hd K hK
         have dd9 : ((xF 9) = .int .i64 (r2.p : Int)) := hd 9 (by kernel_rfl)
         clear hd
         simp only [← hAF, Act.put, List.setIfInBounds_toArray, List.set_cons_zero, List.set_cons_succ] at hK ⊢
         clear hAF
         try simp only [Nat.zero_add] at hK ⊢
         try simp only [Nat.reduceAdd] at hK ⊢
         try generalize xF 9 = yy9 at *
         obtain rfl := dd9
         obtain hbR := id hR
         have hxa := (hbR.block _ (lt_of_block X0.out.1)).trans X0.out.1
         have c90 := boxc hxa 0 _ rfl
         have c91 := boxc hxa 1 _ rfl
         have c92 := boxc hxa 2 _ rfl
         clear hxa
         rw [if_pos (by rfl)]
         go_simp
         exact hK.out _ _ (Below.refl _ _) (rfl) (fun _ _ _ => ⟨trivial, trivial⟩)
        refine FlowAll.cons ?_ ?_
        ·
         intro xF wz hR hd K hK
         have dd7 : ((xF 7) = .string S) := hd 7 (by kernel_rfl)
         have dd10 : ((xF 10) = .int .i64 (r3.p : Int)) := hd 10 (by kernel_rfl)
         clear hd
         simp only [← hAF, Act.put, List.setIfInBounds_toArray, List.set_cons_zero, List.set_cons_succ] at hK ⊢
         clear hAF
         try simp only [Nat.zero_add] at hK ⊢
         try simp only [Nat.reduceAdd] at hK ⊢
         try generalize xF 7 = yy7 at *
         try generalize xF 10 = yy10 at *
         obtain rfl := dd7
         obtain rfl := dd10
         obtain hbR := id hR
         have hxa := (hbR.block _ (lt_of_block X0.out.1)).trans X0.out.1
         have c90 := boxc hxa 0 _ rfl
         have c91 := boxc hxa 1 _ rfl
         have c92 := boxc hxa 2 _ rfl
         clear hxa
         rw [if_pos (by rfl)]
         go_simp
         exact hK.out _ _ (Below.refl _ _) (rfl) (fun _ _ _ => ⟨trivial, trivial⟩)
        refine FlowAll.cons ?_ ?_
        ·
         intro xF wz hR hd K hK
         have dd11 : ((xF 11) = .int .u8 (y : Int)) := hd 11 (by kernel_rfl)
         clear hd
         simp only [← hAF, Act.put, List.setIfInBounds_toArray, List.set_cons_zero, List.set_cons_succ] at hK ⊢
         clear hAF
         try simp only [Nat.zero_add] at hK ⊢
         try simp only [Nat.reduceAdd] at hK ⊢
         try generalize xF 11 = yy11 at *
         obtain rfl := dd11
         obtain hbR := id hR
         have hxa := (hbR.block _ (lt_of_block X0.out.1)).trans X0.out.1
         have c90 := boxc hxa 0 _ rfl
         have c91 := boxc hxa 1 _ rfl
         have c92 := boxc hxa 2 _ rfl
         clear hxa
         rw [if_pos (by rfl)]
         go_simp
         (go_at_call 64; (with_reducible refine (HDy.out _).mono ?_); rintro e wK ⟨rfl, rfl⟩)
         try go_wp2_with fail
         exact hK.out _ _ (Below.refl _ _) (rfl) (fun _ _ _ => ⟨trivial, trivial⟩)
        refine FlowAll.cons ?_ ?_
        ·
         intro xF wz hR hd K hK
         have dd5 : ((xF 5) = .int .i64 dx) := hd 5 (by kernel_rfl)
         clear hd
         simp only [← hAF, Act.put, List.setIfInBounds_toArray, List.set_cons_zero, List.set_cons_succ] at hK ⊢
         clear hAF
         try simp only [Nat.zero_add] at hK ⊢
         try simp only [Nat.reduceAdd] at hK ⊢
         try generalize xF 5 = yy5 at *
         obtain rfl := dd5
         obtain hbR := id hR
         have hxa := (hbR.block _ (lt_of_block X0.out.1)).trans X0.out.1
         have c90 := boxc hxa 0 _ rfl
         have c91 := boxc hxa 1 _ rfl
         have c92 := boxc hxa 2 _ rfl
         clear hxa
         rw [if_pos (by rfl)]
         go_simp
         exact hK.out _ _ (Below.refl _ _) (rfl) (fun _ _ _ => ⟨trivial, trivial⟩)
        refine FlowAll.cons ?_ ?_
        ·
         intro xF wz hR hd K hK
         have dd12 : ((xF 12) = .int .i64 dy) := hd 12 (by kernel_rfl)
         clear hd
         simp only [← hAF, Act.put, List.setIfInBounds_toArray, List.set_cons_zero, List.set_cons_succ] at hK ⊢
         clear hAF
         try simp only [Nat.zero_add] at hK ⊢
         try simp only [Nat.reduceAdd] at hK ⊢
         try generalize xF 12 = yy12 at *
         obtain rfl := dd12
         obtain hbR := id hR
         have hxa := (hbR.block _ (lt_of_block X0.out.1)).trans X0.out.1
         have c90 := boxc hxa 0 _ rfl
         have c91 := boxc hxa 1 _ rfl
         have c92 := boxc hxa 2 _ rfl
         clear hxa
         rw [if_pos (by rfl)]
         go_simp
         exact hK.out _ _ (Below.refl _ _) (rfl) (fun _ _ _ => ⟨trivial, trivial⟩)
        exact FlowAll.nil
       intro xF wz hR hF hP
       clear hP
       have dd0 : ((xF 0) = .pointer (some ⟨q, 0, none⟩)) := hF 0 (by omega) (by decide)
       have dd1 : ((xF 1) = .string S) := hF 1 (by omega) (by decide)
       have dd2 : ((xF 2) = .pointer (some ⟨q, 1, none⟩)) := hF 2 (by omega) (by decide)
       have dd3 : ((xF 3) = .int .i64 (r2.p : Int)) := hF 3 (by omega) (by decide)
       have dd4 : ((xF 4) = .int .u8 (x : Int)) := hF 4 (by omega) (by decide)
       have dd5 : ((xF 5) = .int .i64 dx) := hF 5 (by omega) (by decide)
       have dd6 : ((xF 6) = .pointer (some ⟨q, 0, none⟩)) := hF 6 (by omega) (by decide)
       have dd7 : ((xF 7) = .string S) := hF 7 (by omega) (by decide)
       have dd8 : ((xF 8) = .pointer (some ⟨q, 1, none⟩)) := hF 8 (by omega) (by decide)
       have dd9 : ((xF 9) = .int .i64 (r2.p : Int)) := hF 9 (by omega) (by decide)
       have dd10 : ((xF 10) = .int .i64 (r3.p : Int)) := hF 10 (by omega) (by decide)
       have dd11 : ((xF 11) = .int .u8 (y : Int)) := hF 11 (by omega) (by decide)
       have dd12 : ((xF 12) = .int .i64 dy) := hF 12 (by omega) (by decide)
       have dd13 : ((xF 13) = .int .i64 dx) := hF 13 (by omega) (by decide)
       have dd14 : ((xF 14) = .int .i64 dy) := hF 14 (by omega) (by decide)
       clear hF
       simp only [List.take_succ_cons, List.take_zero, List.drop_succ_cons, List.drop_zero, fillOf, Act.put, List.setIfInBounds_toArray, List.set_cons_zero, List.set_cons_succ, Nat.reduceAdd, Nat.zero_add]
       try generalize xF 0 = yy0 at *
       try generalize xF 1 = yy1 at *
       try generalize xF 2 = yy2 at *
       try generalize xF 3 = yy3 at *
       try generalize xF 4 = yy4 at *
       try generalize xF 5 = yy5 at *
       try generalize xF 6 = yy6 at *
       try generalize xF 7 = yy7 at *
       try generalize xF 8 = yy8 at *
       try generalize xF 9 = yy9 at *
       try generalize xF 10 = yy10 at *
       try generalize xF 11 = yy11 at *
       try generalize xF 12 = yy12 at *
       try generalize xF 13 = yy13 at *
       try generalize xF 14 = yy14 at *
       clear xF
       obtain rfl := dd0
       obtain rfl := dd1
       obtain rfl := dd2
       obtain rfl := dd3
       obtain rfl := dd4
       obtain rfl := dd5
       obtain rfl := dd6
       obtain rfl := dd7
       obtain rfl := dd8
       obtain rfl := dd9
       obtain rfl := dd10
       obtain rfl := dd11
       obtain rfl := dd12
       obtain rfl := dd13
       obtain rfl := dd14
       have hRE := Lib.hid hR
       clear hR
       have X3 := Lib.hid (X0.out.call hRE.out)
       have B3_0 := Lib.hid (Z0.out.call hRE.out)
       have B3_1 := Lib.hid (Y0.out.call hRE.out)
       clear hRE X0 Z0 Y0
       by_cases gd : 0 ≤ dx ∧ 0 ≤ dy
       ·
        have jx := gd.1
        have jy := gd.2
        obtain ⟨v, hv⟩ : ∃ v, v = (16 * dx + dy).toNat := ⟨_, rfl⟩
        have hvi : 16 * dx + dy = (v : Int) := by omega
        have hv8 : v < 256 := by have := nx2.out; have := ny2.out; omega
        obtain ⟨r4, hr4⟩ : ∃ x, x = r2.fwd.fwd := ⟨_, rfl⟩
        have R4 := Lib.hid hr4
        have ii4 : (r2.p : Int) + 2 = (r4.p : Int) := by rw [hr4]; rfl
        have iw4 : IntKind.i64.wrap (r4.p : Int) = (r4.p : Int) := IntWalk.i64_in _ (by omega)
        have HV : Hid (m = (r4, Cls.one v, v, true)) := by show _ = _; rw [HM5.out, if_pos gd, hv, hr4]
        have HSG : Hid (∀ W : World, Calls Try.prog 55 #[.int .u8 (v : Int)] W (fun e w' => e = .returned (.agg #[.int .u64 (Cls.one v).a, .int .u64 (Cls.one v).b, .int .u64 (Cls.one v).c, .int .u64 (Cls.one v).d]) ∧ Below W.heap.size W w')) := fun W => rr_single v W hv8
        have hm1 : IntKind.i64.wrap (16 * dx) = 16 * dx := IntWalk.i64_in _ (by have := nx2.out; omega)
        have ha1 : IntKind.i64.wrap (v : Int) = (v : Int) := IntWalk.i64_in _ (by omega)
        have hc1 : IntKind.u8.wrap (v : Int) = (v : Int) := by simp [IntKind.wrap, IntKind.signed, IntKind.bits]; omega
        clear gd hv hr4
        have e4_0 := boxc X3.out.1 0 _ rfl
        have e4_1 := boxc X3.out.1 1 _ rfl
        have e4_2 := boxc X3.out.1 2 _ rfl
        have e4_f := boxf X3.out.1 1
        have X5 : Hid (RS q S r4 w (wz.setCell ⟨q, 1, none⟩ (.int .i64 (r4.p : Int)))) := X3.out.own KX.cell (by rw [R4.out]; exact heap_setCell_same wz q 1 _ _ _ X3.out.1)
        have B5_0 := Lib.hid (B3_0.out.kx (KX.cell (W := wz) (q := q) (i := 1) (u := (.int .i64 (r4.p : Int)))) (by have := HQ.out; omega))
        have B5_1 := Lib.hid (B3_1.out.kx (KX.cell (W := wz) (q := q) (i := 1) (u := (.int .i64 (r4.p : Int)))) (by have := HQ.out; omega))
        go_wp2_with fail
        clear e4_0 e4_1 e4_2 e4_f
        obtain ⟨V6, hV6⟩ : ∃ W, W = (wz.setCell ⟨q, 1, none⟩ (.int .i64 (r4.p : Int))) := ⟨_, rfl⟩
        have X6 := X5.out
        have B6_0 := B5_0.out
        have B6_1 := B5_1.out
        rw [← hV6] at X6 B6_0 B6_1 ⊢
        replace X6 := Lib.hid X6
        replace B6_0 := Lib.hid B6_0
        replace B6_1 := Lib.hid B6_1
        clear hV6 X5 B5_0 B5_1
        refine wp_flow 16 (fun _ => 1000) (fun ww => Dw q2 q3 V6 ww) (fun i w w' => if i = 13 then (fun (w w' : World) => KX q3 w w' ∧ w'.heap[q3]? = some (.cells #[.int .u64 (Cls.one v).a, .int .u64 (Cls.one v).b, .int .u64 (Cls.one v).c, .int .u64 (Cls.one v).d] 25)) w w' else if i = 12 then (fun (w w' : World) => KX q2 w w' ∧ w'.heap[q2]? = some (.cells #[.string S, .int .i64 ((r4).p : Int), .int .i64 (r4).co] 48)) w w' else (fun (w w' : World) => RowKit.Below w.heap.size w w') w w') (fun kF vF wF => match kF with | 0 => (vF = .agg #[.string S, .int .i64 ((r4).p : Int), .int .i64 (r4).co]) | 1 => (vF = .int .i64 dx) | 2 => (vF = .int .i64 (16 * dx)) | 3 => (vF = .int .i64 dy) | 4 => (vF = .int .i64 ((v : Int))) | 5 => (vF = .int .u8 (v : Int)) | 6 => (vF = .agg #[.int .u64 (Cls.one v).a, .int .u64 (Cls.one v).b, .int .u64 (Cls.one v).c, .int .u64 (Cls.one v).d]) | 7 => (vF = .int .i64 dx) | 8 => (vF = .int .i64 (16 * dx)) | 9 => (vF = .int .i64 dy) | 10 => (vF = .int .i64 ((v : Int))) | 11 => (vF = .int .u8 (v : Int)) | 12 => (wF.heap[q2]? = some (.cells #[.string S, .int .i64 ((r4).p : Int), .int .i64 (r4).co] 48)) | 13 => (wF.heap[q3]? = some (.cells #[.int .u64 (Cls.one v).a, .int .u64 (Cls.one v).b, .int .u64 (Cls.one v).c, .int .u64 (Cls.one v).d] 25)) | 14 => (vF = .int .u8 (v : Int)) | 15 => (vF = .bool true) | _ => True) (fun _ _ _ _ => True) (by kernel_rfl) (by kernel_rfl) ?_ ?_ ?_ ?_ ?_
        ·
         exact (Dw.refl B6_0.out B6_1.out).below (Below.refl _ _).drew
        ·
         intro iF wF1 wF2 hR hT
         have hT : (fun i w w' => if i = 13 then (fun (w w' : World) => KX q3 w w' ∧ w'.heap[q3]? = some (.cells #[.int .u64 (Cls.one v).a, .int .u64 (Cls.one v).b, .int .u64 (Cls.one v).c, .int .u64 (Cls.one v).d] 25)) w w' else if i = 12 then (fun (w w' : World) => KX q2 w w' ∧ w'.heap[q2]? = some (.cells #[.string S, .int .i64 ((r4).p : Int), .int .i64 (r4).co] 48)) w w' else (fun (w w' : World) => RowKit.Below w.heap.size w w') w w') iF wF1 wF2 := hT
         simp only at hT
         by_cases hi13 : iF = 13
         ·
          rw [if_pos hi13] at hT; first | exact hR.s2 hT rfl (by have := HQ.out; omega) | exact hR.s3 hT rfl (by have := HQ.out; omega)
         rw [if_neg hi13] at hT
         by_cases hi12 : iF = 12
         ·
          rw [if_pos hi12] at hT; first | exact hR.s2 hT rfl (by have := HQ.out; omega) | exact hR.s3 hT rfl (by have := HQ.out; omega)
         rw [if_neg hi12] at hT
         exact hR.below hT
        ·
         intro kF hkF iF hiF hne hdd hanc hdan vF wF1 wF2 h hT
         rcases (by omega : kF = 0 ∨ kF = 1 ∨ kF = 2 ∨ kF = 3 ∨ kF = 4 ∨ kF = 5 ∨ kF = 6 ∨ kF = 7 ∨ kF = 8 ∨ kF = 9 ∨ kF = 10 ∨ kF = 11 ∨ kF = 12 ∨ kF = 13 ∨ kF = 14 ∨ kF = 15) with rfl | rfl | rfl | rfl | rfl | rfl | rfl | rfl | rfl | rfl | rfl | rfl | rfl | rfl | rfl | rfl
         ·
          exact h
         ·
          exact h
         ·
          exact h
         ·
          exact h
         ·
          exact h
         ·
          exact h
         ·
          exact h
         ·
          exact h
         ·
          exact h
         ·
          exact h
         ·
          exact h
         ·
          exact h
         ·
          have h : (wF1.heap[q2]? = some (.cells #[.string S, .int .i64 ((r4).p : Int), .int .i64 (r4).co] 48)) := h
          show (wF2.heap[q2]? = some (.cells #[.string S, .int .i64 ((r4).p : Int), .int .i64 (r4).co] 48))
          have hT : (fun i w w' => if i = 13 then (fun (w w' : World) => KX q3 w w' ∧ w'.heap[q3]? = some (.cells #[.int .u64 (Cls.one v).a, .int .u64 (Cls.one v).b, .int .u64 (Cls.one v).c, .int .u64 (Cls.one v).d] 25)) w w' else if i = 12 then (fun (w w' : World) => KX q2 w w' ∧ w'.heap[q2]? = some (.cells #[.string S, .int .i64 ((r4).p : Int), .int .i64 (r4).co] 48)) w w' else (fun (w w' : World) => RowKit.Below w.heap.size w w') w w') iF wF1 wF2 := hT
          simp only at hT
          by_cases hi13 : iF = 13
          ·
           rw [if_pos hi13] at hT
           exact (hT.1.2.2 q2 (lt_of_block h) (by have := HQ.out; omega)).trans h
          rw [if_neg hi13] at hT
          by_cases hi12 : iF = 12
          ·
           exact absurd hi12.symm hne
          rw [if_neg hi12] at hT
          exact (hT.block q2 (lt_of_block h)).trans h
         ·
          have h : (wF1.heap[q3]? = some (.cells #[.int .u64 (Cls.one v).a, .int .u64 (Cls.one v).b, .int .u64 (Cls.one v).c, .int .u64 (Cls.one v).d] 25)) := h
          show (wF2.heap[q3]? = some (.cells #[.int .u64 (Cls.one v).a, .int .u64 (Cls.one v).b, .int .u64 (Cls.one v).c, .int .u64 (Cls.one v).d] 25))
          have hT : (fun i w w' => if i = 13 then (fun (w w' : World) => KX q3 w w' ∧ w'.heap[q3]? = some (.cells #[.int .u64 (Cls.one v).a, .int .u64 (Cls.one v).b, .int .u64 (Cls.one v).c, .int .u64 (Cls.one v).d] 25)) w w' else if i = 12 then (fun (w w' : World) => KX q2 w w' ∧ w'.heap[q2]? = some (.cells #[.string S, .int .i64 ((r4).p : Int), .int .i64 (r4).co] 48)) w w' else (fun (w w' : World) => RowKit.Below w.heap.size w w') w w') iF wF1 wF2 := hT
          simp only at hT
          by_cases hi13 : iF = 13
          ·
           exact absurd hi13.symm hne
          rw [if_neg hi13] at hT
          by_cases hi12 : iF = 12
          ·
           rw [if_pos hi12] at hT
           exact (hT.1.2.2 q3 (lt_of_block h) (by have := HQ.out; omega)).trans h
          rw [if_neg hi12] at hT
          exact (hT.block q3 (lt_of_block h)).trans h
         ·
          exact h
         ·
          exact h
        ·
         generalize hAF : fillOf _ _ _ = AF
         replace hAF := fun x => congrFun hAF x
         simp only [List.take_succ_cons, List.take_zero, fillOf, Act.put, List.setIfInBounds_toArray, List.set_cons_zero, List.set_cons_succ, Nat.reduceAdd, Nat.zero_add] at hAF
         refine FlowAll.cons ?_ ?_
         ·
          intro xF wz hR hd K hK
          clear hd
          simp only [← hAF, Act.put, List.setIfInBounds_toArray, List.set_cons_zero, List.set_cons_succ] at hK ⊢
          clear hAF
          try simp only [Nat.zero_add] at hK ⊢
          try simp only [Nat.reduceAdd] at hK ⊢
          obtain hbR := id hR
          have hxa := (hbR.2.2.1 _ (lt_of_block X6.out.1) (by have := HQ.out; omega) (by have := HQ.out; omega)).trans X6.out.1
          have c90 := boxc hxa 0 _ rfl
          have c91 := boxc hxa 1 _ rfl
          have c92 := boxc hxa 2 _ rfl
          clear hxa
          rw [if_pos (by rfl)]
          go_simp
          exact hK.out _ _ (Below.refl _ _) (rfl) (fun _ _ _ => ⟨trivial, trivial⟩)
         refine FlowAll.cons ?_ ?_
         ·
          intro xF wz hR hd K hK
          clear hd
          simp only [← hAF, Act.put, List.setIfInBounds_toArray, List.set_cons_zero, List.set_cons_succ] at hK ⊢
          clear hAF
          try simp only [Nat.zero_add] at hK ⊢
          try simp only [Nat.reduceAdd] at hK ⊢
          obtain hbR := id hR
          rw [if_pos (by rfl)]
          go_simp
          exact hK.out _ _ (Below.refl _ _) (rfl) (fun _ _ _ => ⟨trivial, trivial⟩)
         refine FlowAll.cons ?_ ?_
         ·
          intro xF wz hR hd K hK
          have dd1 : ((xF 1) = .int .i64 dx) := hd 1 (by kernel_rfl)
          clear hd
          simp only [← hAF, Act.put, List.setIfInBounds_toArray, List.set_cons_zero, List.set_cons_succ] at hK ⊢
          clear hAF
          try simp only [Nat.zero_add] at hK ⊢
          try simp only [Nat.reduceAdd] at hK ⊢
          try generalize xF 1 = yy1 at *
          obtain rfl := dd1
          obtain hbR := id hR
          rw [if_pos (by rfl)]
          go_simp
          exact hK.out _ _ (Below.refl _ _) (rfl) (fun _ _ _ => ⟨trivial, trivial⟩)
         refine FlowAll.cons ?_ ?_
         ·
          intro xF wz hR hd K hK
          clear hd
          simp only [← hAF, Act.put, List.setIfInBounds_toArray, List.set_cons_zero, List.set_cons_succ] at hK ⊢
          clear hAF
          try simp only [Nat.zero_add] at hK ⊢
          try simp only [Nat.reduceAdd] at hK ⊢
          obtain hbR := id hR
          rw [if_pos (by rfl)]
          go_simp
          exact hK.out _ _ (Below.refl _ _) (rfl) (fun _ _ _ => ⟨trivial, trivial⟩)
         refine FlowAll.cons ?_ ?_
         ·
          intro xF wz hR hd K hK
          have dd2 : ((xF 2) = .int .i64 (16 * dx)) := hd 2 (by kernel_rfl)
          have dd3 : ((xF 3) = .int .i64 dy) := hd 3 (by kernel_rfl)
          clear hd
          simp only [← hAF, Act.put, List.setIfInBounds_toArray, List.set_cons_zero, List.set_cons_succ] at hK ⊢
          clear hAF
          try simp only [Nat.zero_add] at hK ⊢
          try simp only [Nat.reduceAdd] at hK ⊢
          try generalize xF 2 = yy2 at *
          try generalize xF 3 = yy3 at *
          obtain rfl := dd2
          obtain rfl := dd3
          obtain hbR := id hR
          rw [if_pos (by rfl)]
          go_simp
          exact hK.out _ _ (Below.refl _ _) (rfl) (fun _ _ _ => ⟨trivial, trivial⟩)
         refine FlowAll.cons ?_ ?_
         ·
          intro xF wz hR hd K hK
          have dd4 : ((xF 4) = .int .i64 ((v : Int))) := hd 4 (by kernel_rfl)
          clear hd
          simp only [← hAF, Act.put, List.setIfInBounds_toArray, List.set_cons_zero, List.set_cons_succ] at hK ⊢
          clear hAF
          try simp only [Nat.zero_add] at hK ⊢
          try simp only [Nat.reduceAdd] at hK ⊢
          try generalize xF 4 = yy4 at *
          obtain rfl := dd4
          obtain hbR := id hR
          rw [if_pos (by rfl)]
          go_simp
          exact hK.out _ _ (Below.refl _ _) (rfl) (fun _ _ _ => ⟨trivial, trivial⟩)
         refine FlowAll.cons ?_ ?_
         ·
          intro xF wz hR hd K hK
          have dd5 : ((xF 5) = .int .u8 (v : Int)) := hd 5 (by kernel_rfl)
          clear hd
          simp only [← hAF, Act.put, List.setIfInBounds_toArray, List.set_cons_zero, List.set_cons_succ] at hK ⊢
          clear hAF
          try simp only [Nat.zero_add] at hK ⊢
          try simp only [Nat.reduceAdd] at hK ⊢
          try generalize xF 5 = yy5 at *
          obtain rfl := dd5
          obtain hbR := id hR
          rw [if_pos (by rfl)]
          go_simp
          (go_at_call 55; (with_reducible refine (HSG.out _).mono ?_); rintro e wK ⟨rfl, hbK⟩)
          try go_wp2_with fail
          exact hK.out _ _ (hbK) (rfl) (fun _ _ _ => ⟨trivial, trivial⟩)
         refine FlowAll.cons ?_ ?_
         ·
          intro xF wz hR hd K hK
          clear hd
          simp only [← hAF, Act.put, List.setIfInBounds_toArray, List.set_cons_zero, List.set_cons_succ] at hK ⊢
          clear hAF
          try simp only [Nat.zero_add] at hK ⊢
          try simp only [Nat.reduceAdd] at hK ⊢
          obtain hbR := id hR
          rw [if_pos (by rfl)]
          go_simp
          exact hK.out _ _ (Below.refl _ _) (rfl) (fun _ _ _ => ⟨trivial, trivial⟩)
         refine FlowAll.cons ?_ ?_
         ·
          intro xF wz hR hd K hK
          have dd7 : ((xF 7) = .int .i64 dx) := hd 7 (by kernel_rfl)
          clear hd
          simp only [← hAF, Act.put, List.setIfInBounds_toArray, List.set_cons_zero, List.set_cons_succ] at hK ⊢
          clear hAF
          try simp only [Nat.zero_add] at hK ⊢
          try simp only [Nat.reduceAdd] at hK ⊢
          try generalize xF 7 = yy7 at *
          obtain rfl := dd7
          obtain hbR := id hR
          rw [if_pos (by rfl)]
          go_simp
          exact hK.out _ _ (Below.refl _ _) (rfl) (fun _ _ _ => ⟨trivial, trivial⟩)
         refine FlowAll.cons ?_ ?_
         ·
          intro xF wz hR hd K hK
          clear hd
          simp only [← hAF, Act.put, List.setIfInBounds_toArray, List.set_cons_zero, List.set_cons_succ] at hK ⊢
          clear hAF
          try simp only [Nat.zero_add] at hK ⊢
          try simp only [Nat.reduceAdd] at hK ⊢
          obtain hbR := id hR
          rw [if_pos (by rfl)]
          go_simp
          exact hK.out _ _ (Below.refl _ _) (rfl) (fun _ _ _ => ⟨trivial, trivial⟩)
         refine FlowAll.cons ?_ ?_
         ·
          intro xF wz hR hd K hK
          have dd8 : ((xF 8) = .int .i64 (16 * dx)) := hd 8 (by kernel_rfl)
          have dd9 : ((xF 9) = .int .i64 dy) := hd 9 (by kernel_rfl)
          clear hd
          simp only [← hAF, Act.put, List.setIfInBounds_toArray, List.set_cons_zero, List.set_cons_succ] at hK ⊢
          clear hAF
          try simp only [Nat.zero_add] at hK ⊢
          try simp only [Nat.reduceAdd] at hK ⊢
          try generalize xF 8 = yy8 at *
          try generalize xF 9 = yy9 at *
          obtain rfl := dd8
          obtain rfl := dd9
          obtain hbR := id hR
          rw [if_pos (by rfl)]
          go_simp
          exact hK.out _ _ (Below.refl _ _) (rfl) (fun _ _ _ => ⟨trivial, trivial⟩)
         refine FlowAll.cons ?_ ?_
         ·
          intro xF wz hR hd K hK
          have dd10 : ((xF 10) = .int .i64 ((v : Int))) := hd 10 (by kernel_rfl)
          clear hd
          simp only [← hAF, Act.put, List.setIfInBounds_toArray, List.set_cons_zero, List.set_cons_succ] at hK ⊢
          clear hAF
          try simp only [Nat.zero_add] at hK ⊢
          try simp only [Nat.reduceAdd] at hK ⊢
          try generalize xF 10 = yy10 at *
          obtain rfl := dd10
          obtain hbR := id hR
          rw [if_pos (by rfl)]
          go_simp
          exact hK.out _ _ (Below.refl _ _) (rfl) (fun _ _ _ => ⟨trivial, trivial⟩)
         refine FlowAll.cons ?_ ?_
         ·
          intro xF wz hR hd K hK
          have dd0 : ((xF 0) = .agg #[.string S, .int .i64 ((r4).p : Int), .int .i64 (r4).co]) := hd 0 (by kernel_rfl)
          clear hd
          simp only [← hAF, Act.put, List.setIfInBounds_toArray, List.set_cons_zero, List.set_cons_succ] at hK ⊢
          clear hAF
          try simp only [Nat.zero_add] at hK ⊢
          try simp only [Nat.reduceAdd] at hK ⊢
          try generalize xF 0 = yy0 at *
          obtain rfl := dd0
          obtain hbR := id hR
          obtain ⟨csO, hcO, hzO⟩ := hR.2.2.2.1
          rw [if_pos (by rfl)]
          refine wp_store_row 48 (.tmp 2) (.tmp 93) rfl q2 #[.string S, .int .i64 ((r4).p : Int), .int .i64 (r4).co] rfl rfl 48 csO hzO rdsize hcO (by simp [Value.oneCell']) ?_
          exact hK.out undef _ (⟨KX.row, setRow_heap _ _ _ _ _ _ hzO⟩) (setRow_heap _ _ _ _ _ _ hzO) (fun _ _ _ => ⟨trivial, trivial⟩)
         refine FlowAll.cons ?_ ?_
         ·
          intro xF wz hR hd K hK
          have dd6 : ((xF 6) = .agg #[.int .u64 (Cls.one v).a, .int .u64 (Cls.one v).b, .int .u64 (Cls.one v).c, .int .u64 (Cls.one v).d]) := hd 6 (by kernel_rfl)
          clear hd
          simp only [← hAF, Act.put, List.setIfInBounds_toArray, List.set_cons_zero, List.set_cons_succ] at hK ⊢
          clear hAF
          try simp only [Nat.zero_add] at hK ⊢
          try simp only [Nat.reduceAdd] at hK ⊢
          try generalize xF 6 = yy6 at *
          obtain rfl := dd6
          obtain hbR := id hR
          obtain ⟨csO, hcO, hzO⟩ := hR.2.2.2.2
          rw [if_pos (by rfl)]
          refine wp_store_row 25 (.tmp 3) (.tmp 99) rfl q3 #[.int .u64 (Cls.one v).a, .int .u64 (Cls.one v).b, .int .u64 (Cls.one v).c, .int .u64 (Cls.one v).d] rfl rfl 25 csO hzO clsize hcO (by simp [Value.oneCell']) ?_
          exact hK.out undef _ (⟨KX.row, setRow_heap _ _ _ _ _ _ hzO⟩) (setRow_heap _ _ _ _ _ _ hzO) (fun _ _ _ => ⟨trivial, trivial⟩)
         refine FlowAll.cons ?_ ?_
         ·
          intro xF wz hR hd K hK
          have dd11 : ((xF 11) = .int .u8 (v : Int)) := hd 11 (by kernel_rfl)
          clear hd
          simp only [← hAF, Act.put, List.setIfInBounds_toArray, List.set_cons_zero, List.set_cons_succ] at hK ⊢
          clear hAF
          try simp only [Nat.zero_add] at hK ⊢
          try simp only [Nat.reduceAdd] at hK ⊢
          try generalize xF 11 = yy11 at *
          obtain rfl := dd11
          obtain hbR := id hR
          rw [if_pos (by rfl)]
          go_simp
          exact hK.out _ _ (Below.refl _ _) (rfl) (fun _ _ _ => ⟨trivial, trivial⟩)
         refine FlowAll.cons ?_ ?_
         ·
          intro xF wz hR hd K hK
          clear hd
          simp only [← hAF, Act.put, List.setIfInBounds_toArray, List.set_cons_zero, List.set_cons_succ] at hK ⊢
          clear hAF
          try simp only [Nat.zero_add] at hK ⊢
          try simp only [Nat.reduceAdd] at hK ⊢
          obtain hbR := id hR
          rw [if_pos (by rfl)]
          go_simp
          exact hK.out _ _ (Below.refl _ _) (rfl) (fun _ _ _ => ⟨trivial, trivial⟩)
         exact FlowAll.nil
        intro xF wz hR hF hP
        clear hP
        have dd0 : ((xF 0) = .agg #[.string S, .int .i64 ((r4).p : Int), .int .i64 (r4).co]) := hF 0 (by omega) (by decide)
        have dd1 : ((xF 1) = .int .i64 dx) := hF 1 (by omega) (by decide)
        have dd2 : ((xF 2) = .int .i64 (16 * dx)) := hF 2 (by omega) (by decide)
        have dd3 : ((xF 3) = .int .i64 dy) := hF 3 (by omega) (by decide)
        have dd4 : ((xF 4) = .int .i64 ((v : Int))) := hF 4 (by omega) (by decide)
        have dd5 : ((xF 5) = .int .u8 (v : Int)) := hF 5 (by omega) (by decide)
        have dd6 : ((xF 6) = .agg #[.int .u64 (Cls.one v).a, .int .u64 (Cls.one v).b, .int .u64 (Cls.one v).c, .int .u64 (Cls.one v).d]) := hF 6 (by omega) (by decide)
        have dd7 : ((xF 7) = .int .i64 dx) := hF 7 (by omega) (by decide)
        have dd8 : ((xF 8) = .int .i64 (16 * dx)) := hF 8 (by omega) (by decide)
        have dd9 : ((xF 9) = .int .i64 dy) := hF 9 (by omega) (by decide)
        have dd10 : ((xF 10) = .int .i64 ((v : Int))) := hF 10 (by omega) (by decide)
        have dd11 : ((xF 11) = .int .u8 (v : Int)) := hF 11 (by omega) (by decide)
        have dd12 : (wz.heap[q2]? = some (.cells #[.string S, .int .i64 ((r4).p : Int), .int .i64 (r4).co] 48)) := hF 12 (by omega) (by decide)
        have dd13 : (wz.heap[q3]? = some (.cells #[.int .u64 (Cls.one v).a, .int .u64 (Cls.one v).b, .int .u64 (Cls.one v).c, .int .u64 (Cls.one v).d] 25)) := hF 13 (by omega) (by decide)
        have dd14 : ((xF 14) = .int .u8 (v : Int)) := hF 14 (by omega) (by decide)
        have dd15 : ((xF 15) = .bool true) := hF 15 (by omega) (by decide)
        clear hF
        simp only [List.take_succ_cons, List.take_zero, List.drop_succ_cons, List.drop_zero, fillOf, Act.put, List.setIfInBounds_toArray, List.set_cons_zero, List.set_cons_succ, Nat.reduceAdd, Nat.zero_add]
        try generalize xF 0 = yy0 at *
        try generalize xF 1 = yy1 at *
        try generalize xF 2 = yy2 at *
        try generalize xF 3 = yy3 at *
        try generalize xF 4 = yy4 at *
        try generalize xF 5 = yy5 at *
        try generalize xF 6 = yy6 at *
        try generalize xF 7 = yy7 at *
        try generalize xF 8 = yy8 at *
        try generalize xF 9 = yy9 at *
        try generalize xF 10 = yy10 at *
        try generalize xF 11 = yy11 at *
        try generalize xF 12 = yy12 at *
        try generalize xF 13 = yy13 at *
        try generalize xF 14 = yy14 at *
        try generalize xF 15 = yy15 at *
        clear xF
        obtain rfl := dd0
        obtain rfl := dd1
        obtain rfl := dd2
        obtain rfl := dd3
        obtain rfl := dd4
        obtain rfl := dd5
        obtain rfl := dd6
        obtain rfl := dd7
        obtain rfl := dd8
        obtain rfl := dd9
        obtain rfl := dd10
        obtain rfl := dd11
        have hs2 := dd12
        have hs3 := dd13
        obtain rfl := dd14
        obtain rfl := dd15
        have hRE := Lib.hid hR
        clear hR
        have XR := X6.out.dw hRE.out (by have := HQ.out; omega) (by have := HQ.out; omega) (by have := HQ.out; omega) (by have := HQ.out; omega)
        have k0 := boxc hs2 0 _ rfl
        have k1 := boxc hs2 1 _ rfl
        have k2 := boxc hs2 2 _ rfl
        have m0 := boxc hs3 0 _ rfl
        have m1 := boxc hs3 1 _ rfl
        have m2 := boxc hs3 2 _ rfl
        have m3 := boxc hs3 3 _ rfl
        have b3 := XR.2.1
        clear XR hs2 hs3 hRE
        go_wp2_with fail
        refine bodyPost_ret (v := .tuple #[.agg #[.string S, .int .i64 ((r4).p : Int), .int .i64 (r4).co], .agg #[.int .u64 (Cls.one v).a, .int .u64 (Cls.one v).b, .int .u64 (Cls.one v).c, .int .u64 (Cls.one v).d], .int .u8 (v : Int), .bool true]) (by simp [results, Try.results53, go_sem, k0, k1, k2, m0, m1, m2, m3]) rfl ⟨?_, b3⟩
        first | (rw [HV.out]; done) | (rw [HV.out]; rfl)
       ·
        by_cases gx : 0 ≤ dx
        ·
         have jx : 0 ≤ dx := gx
         have jy : ¬ 0 ≤ dy := fun h => gd ⟨gx, h⟩
         clear gx
         have HV : Hid (m = (r2.fail r.p 9, .zero, 0, false)) := by show _ = _; rw [HM5.out, if_neg gd]
         clear gd
         have e4_0 := boxc X3.out.1 0 _ rfl
         have e4_1 := boxc X3.out.1 1 _ rfl
         have e4_2 := boxc X3.out.1 2 _ rfl
         have e4_f := boxf X3.out.1 1
         go_wp2_with fail
         clear e4_0 e4_1 e4_2 e4_f
         with_reducible refine (HFA.out r2 r.p 9 wz).mono ?_
         rintro e V5 ⟨rfl, b5⟩
         have X5 := Lib.hid (X3.out.call b5)
         have B5_0 := Lib.hid (B3_0.out.call b5)
         have B5_1 := Lib.hid (B3_1.out.call b5)
         clear b5 X3 B3_0 B3_1
         have z6 := B5_0.out
         have y6 := B5_1.out.kx (KX.row (W := V5) (q := q2) (cs := #[.string S, .int .i64 (((r2.fail r.p 9)).p : Int), .int .i64 ((r2.fail r.p 9)).co])) (by have := HQ.out; omega)
         have cc := setRow_heap V5 q2 _ #[.string S, .int .i64 (((r2.fail r.p 9)).p : Int), .int .i64 ((r2.fail r.p 9)).co] _ _ z6
         have bb := below_setRow X5.out.2.1 (g := q2) (by have := HQ.out; omega) #[.string S, .int .i64 (((r2.fail r.p 9)).p : Int), .int .i64 ((r2.fail r.p 9)).co]
         have c3 := setRow_heap (World.setRow V5 q2 #[.string S, .int .i64 (((r2.fail r.p 9)).p : Int), .int .i64 ((r2.fail r.p 9)).co]) q3 _ #[.int .u64 0, .int .u64 0, .int .u64 0, .int .u64 0] _ _ y6
         have b3 := below_setRow bb (g := q3) (by have := HQ.out; omega) #[.int .u64 0, .int .u64 0, .int .u64 0, .int .u64 0]
         have c2 := Bx.kx cc (KX.row (W := (World.setRow V5 q2 #[.string S, .int .i64 (((r2.fail r.p 9)).p : Int), .int .i64 ((r2.fail r.p 9)).co])) (q := q3) (cs := #[.int .u64 0, .int .u64 0, .int .u64 0, .int .u64 0])) (by have := HQ.out; omega)
         go_wp2_with (first | ((with_reducible show wpList _ _ _ (Oper.mk _ (Op.store 48 (.tmp 2) _) _ _ _ _ :: _) _ _); refine wpList_store_row rfl 48 (.tmp 2) _ rfl (q2) #[.string S, .int .i64 (((r2.fail r.p 9)).p : Int), .int .i64 ((r2.fail r.p 9)).co] rfl rfl 48 #[.string ⟨#[]⟩, .int .i64 0, .int .i64 0] z6 rdsize rfl (by simp [Value.oneCell']) ?_) | ((with_reducible show wpList _ _ _ (Oper.mk _ (Op.store 25 (.tmp 3) _) _ _ _ _ :: _) _ _); refine wpList_store_row rfl 25 (.tmp 3) _ rfl (q3) #[.int .u64 0, .int .u64 0, .int .u64 0, .int .u64 0] rfl rfl 25 #[.int .u64 0, .int .u64 0, .int .u64 0, .int .u64 0] y6 clsize rfl (by simp [Value.oneCell']) ?_))
         obtain ⟨w9, h9⟩ : ∃ W, W = (World.setRow (World.setRow V5 q2 #[.string S, .int .i64 (((r2.fail r.p 9)).p : Int), .int .i64 ((r2.fail r.p 9)).co]) q3 #[.int .u64 0, .int .u64 0, .int .u64 0, .int .u64 0]) := ⟨_, rfl⟩
         rw [← h9] at c2 c3 b3 ⊢
         clear h9 z6 y6 cc bb
         have k0 := boxc c2 0 _ rfl
         have k1 := boxc c2 1 _ rfl
         have k2 := boxc c2 2 _ rfl
         have m0 := boxc c3 0 _ rfl
         have m1 := boxc c3 1 _ rfl
         have m2 := boxc c3 2 _ rfl
         have m3 := boxc c3 3 _ rfl
         refine bodyPost_ret (v := .tuple #[.agg #[.string S, .int .i64 (((r2.fail r.p 9)).p : Int), .int .i64 ((r2.fail r.p 9)).co], .agg #[.int .u64 0, .int .u64 0, .int .u64 0, .int .u64 0], .int .u8 0, .bool false]) (by simp [results, Try.results53, go_sem, k0, k1, k2, m0, m1, m2, m3]) rfl ⟨?_, b3⟩
         first | (rw [HV.out]; done) | (rw [HV.out]; rfl)
        ·
         have jx : ¬ 0 ≤ dx := gx
         clear gx
         have HV : Hid (m = (r2.fail r.p 9, .zero, 0, false)) := by show _ = _; rw [HM5.out, if_neg gd]
         clear gd
         have e4_0 := boxc X3.out.1 0 _ rfl
         have e4_1 := boxc X3.out.1 1 _ rfl
         have e4_2 := boxc X3.out.1 2 _ rfl
         have e4_f := boxf X3.out.1 1
         go_wp2_with fail
         clear e4_0 e4_1 e4_2 e4_f
         with_reducible refine (HFA.out r2 r.p 9 wz).mono ?_
         rintro e V5 ⟨rfl, b5⟩
         have X5 := Lib.hid (X3.out.call b5)
         have B5_0 := Lib.hid (B3_0.out.call b5)
         have B5_1 := Lib.hid (B3_1.out.call b5)
         clear b5 X3 B3_0 B3_1
         have z6 := B5_0.out
         have y6 := B5_1.out.kx (KX.row (W := V5) (q := q2) (cs := #[.string S, .int .i64 (((r2.fail r.p 9)).p : Int), .int .i64 ((r2.fail r.p 9)).co])) (by have := HQ.out; omega)
         have cc := setRow_heap V5 q2 _ #[.string S, .int .i64 (((r2.fail r.p 9)).p : Int), .int .i64 ((r2.fail r.p 9)).co] _ _ z6
         have bb := below_setRow X5.out.2.1 (g := q2) (by have := HQ.out; omega) #[.string S, .int .i64 (((r2.fail r.p 9)).p : Int), .int .i64 ((r2.fail r.p 9)).co]
         have c3 := setRow_heap (World.setRow V5 q2 #[.string S, .int .i64 (((r2.fail r.p 9)).p : Int), .int .i64 ((r2.fail r.p 9)).co]) q3 _ #[.int .u64 0, .int .u64 0, .int .u64 0, .int .u64 0] _ _ y6
         have b3 := below_setRow bb (g := q3) (by have := HQ.out; omega) #[.int .u64 0, .int .u64 0, .int .u64 0, .int .u64 0]
         have c2 := Bx.kx cc (KX.row (W := (World.setRow V5 q2 #[.string S, .int .i64 (((r2.fail r.p 9)).p : Int), .int .i64 ((r2.fail r.p 9)).co])) (q := q3) (cs := #[.int .u64 0, .int .u64 0, .int .u64 0, .int .u64 0])) (by have := HQ.out; omega)
         go_wp2_with (first | ((with_reducible show wpList _ _ _ (Oper.mk _ (Op.store 48 (.tmp 2) _) _ _ _ _ :: _) _ _); refine wpList_store_row rfl 48 (.tmp 2) _ rfl (q2) #[.string S, .int .i64 (((r2.fail r.p 9)).p : Int), .int .i64 ((r2.fail r.p 9)).co] rfl rfl 48 #[.string ⟨#[]⟩, .int .i64 0, .int .i64 0] z6 rdsize rfl (by simp [Value.oneCell']) ?_) | ((with_reducible show wpList _ _ _ (Oper.mk _ (Op.store 25 (.tmp 3) _) _ _ _ _ :: _) _ _); refine wpList_store_row rfl 25 (.tmp 3) _ rfl (q3) #[.int .u64 0, .int .u64 0, .int .u64 0, .int .u64 0] rfl rfl 25 #[.int .u64 0, .int .u64 0, .int .u64 0, .int .u64 0] y6 clsize rfl (by simp [Value.oneCell']) ?_))
         obtain ⟨w9, h9⟩ : ∃ W, W = (World.setRow (World.setRow V5 q2 #[.string S, .int .i64 (((r2.fail r.p 9)).p : Int), .int .i64 ((r2.fail r.p 9)).co]) q3 #[.int .u64 0, .int .u64 0, .int .u64 0, .int .u64 0]) := ⟨_, rfl⟩
         rw [← h9] at c2 c3 b3 ⊢
         clear h9 z6 y6 cc bb
         have k0 := boxc c2 0 _ rfl
         have k1 := boxc c2 1 _ rfl
         have k2 := boxc c2 2 _ rfl
         have m0 := boxc c3 0 _ rfl
         have m1 := boxc c3 1 _ rfl
         have m2 := boxc c3 2 _ rfl
         have m3 := boxc c3 3 _ rfl
         refine bodyPost_ret (v := .tuple #[.agg #[.string S, .int .i64 (((r2.fail r.p 9)).p : Int), .int .i64 ((r2.fail r.p 9)).co], .agg #[.int .u64 0, .int .u64 0, .int .u64 0, .int .u64 0], .int .u8 0, .bool false]) (by simp [results, Try.results53, go_sem, k0, k1, k2, m0, m1, m2, m3]) rfl ⟨?_, b3⟩
         first | (rw [HV.out]; done) | (rw [HV.out]; rfl)
      ·
       have g4i := g4
       have j4 : ¬ (r2.p : Int) + 1 < (S.size : Int) := by omega
       have hno : (kit.bytes S)[r2.p + 1]? = none := byte_no (by omega)
       have HV : Hid (m = (r2.fail r.p 9, .zero, 0, false)) := by show _ = _; rw [HM4.out]; unfold rf.hex; rw [if_pos g3]; simp only; rw [show r.p + 2 + 1 = r2.p + 1 by have := I1.out; omega, hno]; cases (kit.bytes S)[r.p + 2]? <;> rfl
       clear g1 g2 g3 hno
       go_enter Try.func53, Try.ntmps53
       go_wp2_with fail
       rw [← HW3.out, ← HQ3.out, ← HQ2.out, ← HQ0.out]
       with_reducible refine (HSP.out W3).mono ?_
       rintro e V9 ⟨rfl, rfl⟩
       have e2_0 := boxc X0.out.1 0 _ rfl
       have e2_1 := boxc X0.out.1 1 _ rfl
       have e2_2 := boxc X0.out.1 2 _ rfl
       have e2_f := boxf X0.out.1 1
       go_wp2_with fail
       clear e2_0 e2_1 e2_2 e2_f
       with_reducible refine (HFA.out r2 r.p 9 V9).mono ?_
       rintro e V3 ⟨rfl, b3⟩
       have X3 := Lib.hid (X0.out.call b3)
       have B3_0 := Lib.hid (Z0.out.call b3)
       have B3_1 := Lib.hid (Y0.out.call b3)
       clear b3 X0 Z0 Y0
       have z4 := B3_0.out
       have y4 := B3_1.out.kx (KX.row (W := V3) (q := q2) (cs := #[.string S, .int .i64 (((r2.fail r.p 9)).p : Int), .int .i64 ((r2.fail r.p 9)).co])) (by have := HQ.out; omega)
       have cc := setRow_heap V3 q2 _ #[.string S, .int .i64 (((r2.fail r.p 9)).p : Int), .int .i64 ((r2.fail r.p 9)).co] _ _ z4
       have bb := below_setRow X3.out.2.1 (g := q2) (by have := HQ.out; omega) #[.string S, .int .i64 (((r2.fail r.p 9)).p : Int), .int .i64 ((r2.fail r.p 9)).co]
       have c3 := setRow_heap (World.setRow V3 q2 #[.string S, .int .i64 (((r2.fail r.p 9)).p : Int), .int .i64 ((r2.fail r.p 9)).co]) q3 _ #[.int .u64 0, .int .u64 0, .int .u64 0, .int .u64 0] _ _ y4
       have b3 := below_setRow bb (g := q3) (by have := HQ.out; omega) #[.int .u64 0, .int .u64 0, .int .u64 0, .int .u64 0]
       have c2 := Bx.kx cc (KX.row (W := (World.setRow V3 q2 #[.string S, .int .i64 (((r2.fail r.p 9)).p : Int), .int .i64 ((r2.fail r.p 9)).co])) (q := q3) (cs := #[.int .u64 0, .int .u64 0, .int .u64 0, .int .u64 0])) (by have := HQ.out; omega)
       go_wp2_with (first | ((with_reducible show wpList _ _ _ (Oper.mk _ (Op.store 48 (.tmp 2) _) _ _ _ _ :: _) _ _); refine wpList_store_row rfl 48 (.tmp 2) _ rfl (q2) #[.string S, .int .i64 (((r2.fail r.p 9)).p : Int), .int .i64 ((r2.fail r.p 9)).co] rfl rfl 48 #[.string ⟨#[]⟩, .int .i64 0, .int .i64 0] z4 rdsize rfl (by simp [Value.oneCell']) ?_) | ((with_reducible show wpList _ _ _ (Oper.mk _ (Op.store 25 (.tmp 3) _) _ _ _ _ :: _) _ _); refine wpList_store_row rfl 25 (.tmp 3) _ rfl (q3) #[.int .u64 0, .int .u64 0, .int .u64 0, .int .u64 0] rfl rfl 25 #[.int .u64 0, .int .u64 0, .int .u64 0, .int .u64 0] y4 clsize rfl (by simp [Value.oneCell']) ?_))
       obtain ⟨w9, h9⟩ : ∃ W, W = (World.setRow (World.setRow V3 q2 #[.string S, .int .i64 (((r2.fail r.p 9)).p : Int), .int .i64 ((r2.fail r.p 9)).co]) q3 #[.int .u64 0, .int .u64 0, .int .u64 0, .int .u64 0]) := ⟨_, rfl⟩
       rw [← h9] at c2 c3 b3 ⊢
       clear h9 z4 y4 cc bb
       have k0 := boxc c2 0 _ rfl
       have k1 := boxc c2 1 _ rfl
       have k2 := boxc c2 2 _ rfl
       have m0 := boxc c3 0 _ rfl
       have m1 := boxc c3 1 _ rfl
       have m2 := boxc c3 2 _ rfl
       have m3 := boxc c3 3 _ rfl
       refine bodyPost_ret (v := .tuple #[.agg #[.string S, .int .i64 (((r2.fail r.p 9)).p : Int), .int .i64 ((r2.fail r.p 9)).co], .agg #[.int .u64 0, .int .u64 0, .int .u64 0, .int .u64 0], .int .u8 0, .bool false]) (by simp [results, Try.results53, go_sem, k0, k1, k2, m0, m1, m2, m3]) rfl ⟨?_, b3⟩
       first | (rw [HV.out]; done) | (rw [HV.out]; rfl)
     ·
      have j3 : ((z : Int) == 120) = false := beq_eq_false_iff_ne.2 (by omega)
      have HV : Hid (m = (r2.fail r.p 9, .zero, 0, false)) := by show _ = _; rw [HM4.out]; unfold rf.hex; rw [if_neg g3]
      clear g1 g2 g3
      go_enter Try.func53, Try.ntmps53
      go_wp2_with fail
      rw [← HW3.out, ← HQ3.out, ← HQ2.out, ← HQ0.out]
      with_reducible refine (HSP.out W3).mono ?_
      rintro e V9 ⟨rfl, rfl⟩
      have e2_0 := boxc X0.out.1 0 _ rfl
      have e2_1 := boxc X0.out.1 1 _ rfl
      have e2_2 := boxc X0.out.1 2 _ rfl
      have e2_f := boxf X0.out.1 1
      go_wp2_with fail
      clear e2_0 e2_1 e2_2 e2_f
      with_reducible refine (HFA.out r2 r.p 9 V9).mono ?_
      rintro e V3 ⟨rfl, b3⟩
      have X3 := Lib.hid (X0.out.call b3)
      have B3_0 := Lib.hid (Z0.out.call b3)
      have B3_1 := Lib.hid (Y0.out.call b3)
      clear b3 X0 Z0 Y0
      have z4 := B3_0.out
      have y4 := B3_1.out.kx (KX.row (W := V3) (q := q2) (cs := #[.string S, .int .i64 (((r2.fail r.p 9)).p : Int), .int .i64 ((r2.fail r.p 9)).co])) (by have := HQ.out; omega)
      have cc := setRow_heap V3 q2 _ #[.string S, .int .i64 (((r2.fail r.p 9)).p : Int), .int .i64 ((r2.fail r.p 9)).co] _ _ z4
      have bb := below_setRow X3.out.2.1 (g := q2) (by have := HQ.out; omega) #[.string S, .int .i64 (((r2.fail r.p 9)).p : Int), .int .i64 ((r2.fail r.p 9)).co]
      have c3 := setRow_heap (World.setRow V3 q2 #[.string S, .int .i64 (((r2.fail r.p 9)).p : Int), .int .i64 ((r2.fail r.p 9)).co]) q3 _ #[.int .u64 0, .int .u64 0, .int .u64 0, .int .u64 0] _ _ y4
      have b3 := below_setRow bb (g := q3) (by have := HQ.out; omega) #[.int .u64 0, .int .u64 0, .int .u64 0, .int .u64 0]
      have c2 := Bx.kx cc (KX.row (W := (World.setRow V3 q2 #[.string S, .int .i64 (((r2.fail r.p 9)).p : Int), .int .i64 ((r2.fail r.p 9)).co])) (q := q3) (cs := #[.int .u64 0, .int .u64 0, .int .u64 0, .int .u64 0])) (by have := HQ.out; omega)
      go_wp2_with (first | ((with_reducible show wpList _ _ _ (Oper.mk _ (Op.store 48 (.tmp 2) _) _ _ _ _ :: _) _ _); refine wpList_store_row rfl 48 (.tmp 2) _ rfl (q2) #[.string S, .int .i64 (((r2.fail r.p 9)).p : Int), .int .i64 ((r2.fail r.p 9)).co] rfl rfl 48 #[.string ⟨#[]⟩, .int .i64 0, .int .i64 0] z4 rdsize rfl (by simp [Value.oneCell']) ?_) | ((with_reducible show wpList _ _ _ (Oper.mk _ (Op.store 25 (.tmp 3) _) _ _ _ _ :: _) _ _); refine wpList_store_row rfl 25 (.tmp 3) _ rfl (q3) #[.int .u64 0, .int .u64 0, .int .u64 0, .int .u64 0] rfl rfl 25 #[.int .u64 0, .int .u64 0, .int .u64 0, .int .u64 0] y4 clsize rfl (by simp [Value.oneCell']) ?_))
      obtain ⟨w9, h9⟩ : ∃ W, W = (World.setRow (World.setRow V3 q2 #[.string S, .int .i64 (((r2.fail r.p 9)).p : Int), .int .i64 ((r2.fail r.p 9)).co]) q3 #[.int .u64 0, .int .u64 0, .int .u64 0, .int .u64 0]) := ⟨_, rfl⟩
      rw [← h9] at c2 c3 b3 ⊢
      clear h9 z4 y4 cc bb
      have k0 := boxc c2 0 _ rfl
      have k1 := boxc c2 1 _ rfl
      have k2 := boxc c2 2 _ rfl
      have m0 := boxc c3 0 _ rfl
      have m1 := boxc c3 1 _ rfl
      have m2 := boxc c3 2 _ rfl
      have m3 := boxc c3 3 _ rfl
      refine bodyPost_ret (v := .tuple #[.agg #[.string S, .int .i64 (((r2.fail r.p 9)).p : Int), .int .i64 ((r2.fail r.p 9)).co], .agg #[.int .u64 0, .int .u64 0, .int .u64 0, .int .u64 0], .int .u8 0, .bool false]) (by simp [results, Try.results53, go_sem, k0, k1, k2, m0, m1, m2, m3]) rfl ⟨?_, b3⟩
      first | (rw [HV.out]; done) | (rw [HV.out]; rfl)
 ·
  have jl : ¬ (r1.p : Int) < (S.size : Int) := by omega
  have jl2 : (S.size : Int) ≤ (r1.p : Int) := by omega
  have HV : Hid (m = (r1.fail r.p 9, .zero, 0, false)) := by show _ = _; rw [HM.out, byte_no (by omega)]
  obtain ⟨q, hq⟩ : ∃ q, q = w.heap.size := ⟨_, rfl⟩
  obtain ⟨q2, hq2⟩ : ∃ q2, q2 = w.heap.size + 1 := ⟨_, rfl⟩
  obtain ⟨q3, hq3⟩ : ∃ q3, q3 = w.heap.size + 1 + 1 := ⟨_, rfl⟩
  obtain ⟨W3, hW3⟩ : ∃ W, W = ((w.alloc (.cells #[.string S, .int .i64 ((r1).p : Int), .int .i64 (r1).co] 48)).alloc (.cells #[.string ⟨#[]⟩, .int .i64 0, .int .i64 0] 48)).alloc (.cells #[.int .u64 0, .int .u64 0, .int .u64 0, .int .u64 0] 25) := ⟨_, rfl⟩
  have b1 : Below w.heap.size w (w.alloc (.cells #[.string S, .int .i64 ((r1).p : Int), .int .i64 (r1).co] 48)) := below1
  have b2 : Below w.heap.size w ((w.alloc (.cells #[.string S, .int .i64 ((r1).p : Int), .int .i64 (r1).co] 48)).alloc (.cells #[.string ⟨#[]⟩, .int .i64 0, .int .i64 0] 48)) := b1.trans (below1.mono b1.size)
  have s1 : (w.alloc (.cells #[.string S, .int .i64 ((r1).p : Int), .int .i64 (r1).co] 48)).heap.size = w.heap.size + 1 := by rw [World.size_alloc]
  have s2 : ((w.alloc (.cells #[.string S, .int .i64 ((r1).p : Int), .int .i64 (r1).co] 48)).alloc (.cells #[.string ⟨#[]⟩, .int .i64 0, .int .i64 0] 48)).heap.size = w.heap.size + 1 + 1 := by rw [World.size_alloc, World.size_alloc]
  have b3 : Below w.heap.size w W3 := by rw [hW3]; exact b2.trans (below1.mono b2.size)
  have X0 : Hid (RS q S r1 w W3) := by
   show _ ∧ _
   exact ⟨by rw [hW3]; exact (below1.block q (by omega)).trans ((below1.block q (by omega)).trans (by rw [hq]; exact heap_alloc_new _ _)), b3, by omega⟩
  have Z0 : Hid (Bx q2 #[.string ⟨#[]⟩, .int .i64 0, .int .i64 0] 48 W3) := by
   show _ = _
   rw [hW3]; exact (below1.block q2 (by omega)).trans (by rw [hq2, ← s1]; exact heap_alloc_new _ _)
  have Y0 : Hid (Bx q3 #[.int .u64 0, .int .u64 0, .int .u64 0, .int .u64 0] 25 W3) := by
   show _ = _
   rw [hW3, hq3, ← s2]; exact heap_alloc_new _ _
  have HQ : Hid (q2 = q + 1 ∧ q3 = q + 2 ∧ q = w.heap.size) := by show _ ∧ _; omega
  have HW3 := Lib.hid hW3
  have HQ0 := Lib.hid hq
  have HQ2 := Lib.hid hq2
  have HQ3 := Lib.hid hq3
  clear b1 b2 b3 s1 s2 hq hq2 hq3 hW3
  go_enter Try.func53, Try.ntmps53
  go_wp2_with fail
  rw [← HW3.out, ← HQ3.out, ← HQ2.out, ← HQ0.out]
  with_reducible refine (HFA.out r1 r.p 9 W3).mono ?_
  rintro e V1 ⟨rfl, b1⟩
  have X1 := Lib.hid (X0.out.call b1)
  have B1_0 := Lib.hid (Z0.out.call b1)
  have B1_1 := Lib.hid (Y0.out.call b1)
  clear b1 X0 Z0 Y0
  have z2 := B1_0.out
  have y2 := B1_1.out.kx (KX.row (W := V1) (q := q2) (cs := #[.string S, .int .i64 (((r1.fail r.p 9)).p : Int), .int .i64 ((r1.fail r.p 9)).co])) (by have := HQ.out; omega)
  have cc := setRow_heap V1 q2 _ #[.string S, .int .i64 (((r1.fail r.p 9)).p : Int), .int .i64 ((r1.fail r.p 9)).co] _ _ z2
  have bb := below_setRow X1.out.2.1 (g := q2) (by have := HQ.out; omega) #[.string S, .int .i64 (((r1.fail r.p 9)).p : Int), .int .i64 ((r1.fail r.p 9)).co]
  have c3 := setRow_heap (World.setRow V1 q2 #[.string S, .int .i64 (((r1.fail r.p 9)).p : Int), .int .i64 ((r1.fail r.p 9)).co]) q3 _ #[.int .u64 0, .int .u64 0, .int .u64 0, .int .u64 0] _ _ y2
  have b3 := below_setRow bb (g := q3) (by have := HQ.out; omega) #[.int .u64 0, .int .u64 0, .int .u64 0, .int .u64 0]
  have c2 := Bx.kx cc (KX.row (W := (World.setRow V1 q2 #[.string S, .int .i64 (((r1.fail r.p 9)).p : Int), .int .i64 ((r1.fail r.p 9)).co])) (q := q3) (cs := #[.int .u64 0, .int .u64 0, .int .u64 0, .int .u64 0])) (by have := HQ.out; omega)
  go_wp2_with (first | ((with_reducible show wpList _ _ _ (Oper.mk _ (Op.store 48 (.tmp 2) _) _ _ _ _ :: _) _ _); refine wpList_store_row rfl 48 (.tmp 2) _ rfl (q2) #[.string S, .int .i64 (((r1.fail r.p 9)).p : Int), .int .i64 ((r1.fail r.p 9)).co] rfl rfl 48 #[.string ⟨#[]⟩, .int .i64 0, .int .i64 0] z2 rdsize rfl (by simp [Value.oneCell']) ?_) | ((with_reducible show wpList _ _ _ (Oper.mk _ (Op.store 25 (.tmp 3) _) _ _ _ _ :: _) _ _); refine wpList_store_row rfl 25 (.tmp 3) _ rfl (q3) #[.int .u64 0, .int .u64 0, .int .u64 0, .int .u64 0] rfl rfl 25 #[.int .u64 0, .int .u64 0, .int .u64 0, .int .u64 0] y2 clsize rfl (by simp [Value.oneCell']) ?_))
  obtain ⟨w9, h9⟩ : ∃ W, W = (World.setRow (World.setRow V1 q2 #[.string S, .int .i64 (((r1.fail r.p 9)).p : Int), .int .i64 ((r1.fail r.p 9)).co]) q3 #[.int .u64 0, .int .u64 0, .int .u64 0, .int .u64 0]) := ⟨_, rfl⟩
  rw [← h9] at c2 c3 b3 ⊢
  clear h9 z2 y2 cc bb
  have k0 := boxc c2 0 _ rfl
  have k1 := boxc c2 1 _ rfl
  have k2 := boxc c2 2 _ rfl
  have m0 := boxc c3 0 _ rfl
  have m1 := boxc c3 1 _ rfl
  have m2 := boxc c3 2 _ rfl
  have m3 := boxc c3 3 _ rfl
  refine bodyPost_ret (v := .tuple #[.agg #[.string S, .int .i64 (((r1.fail r.p 9)).p : Int), .int .i64 ((r1.fail r.p 9)).co], .agg #[.int .u64 0, .int .u64 0, .int .u64 0, .int .u64 0], .int .u8 0, .bool false]) (by simp [results, Try.results53, go_sem, k0, k1, k2, m0, m1, m2, m3]) rfl ⟨?_, b3⟩
  first | (rw [HV.out]; done) | (rw [HV.out]; rfl)
end Go.Proofs.Ytbccejlemhgioaa
