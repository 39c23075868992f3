/- texts put together: RfSpan. -/
import Derived.Test.YtbccejlemhgioaaPa04
import Derived.Test.YtbccejlemhgioaaPa06
namespace Go.Proofs.Ytbccejlemhgioaa
open Go Go.RowKit Go.ChangeShapes cl rx
open rf
theorem span_ok : ∀ (n c : Nat) (x : Cls), c + n ≤ 256 → x.ok → (spanF n c x).ok
 | 0, _, _, _, h => h
 | n + 1, c, x, hc, h => span_ok n (c + 1) _ (by omega) (or_ok h (one_ok c (by omega)))
set_option maxHeartbeats 6400000 in
set_option maxRecDepth 100000 in
theorem rx_span (a b : Nat) (w : World) (ha : a < 256) (hb : b < 256) : Calls Try.prog 58 #[.int .u8 a, .int .u8 b] w (fun e w' => e = .returned (.agg #[.int .u64 (span a b).a, .int .u64 (span a b).b, .int .u64 (span a b).c, .int .u64 (span a b).d]) ∧ Below w.heap.size w w') := by
 obtain ⟨q, hq⟩ : ∃ q, q = w.heap.size := ⟨_, rfl⟩
 obtain ⟨W3, hW3⟩ : ∃ W, W = (w.alloc (.cells #[.int .u64 0, .int .u64 0, .int .u64 0, .int .u64 0] 25)).alloc (.cells #[.int .u64 0, .int .u64 0, .int .u64 0, .int .u64 0] 25) := ⟨_, rfl⟩
 have hs1 : (w.alloc (.cells #[.int .u64 0, .int .u64 0, .int .u64 0, .int .u64 0] 25)).heap.size = q + 1 := by rw [World.size_alloc, hq]
 have b1 : Below w.heap.size w (w.alloc (.cells #[.int .u64 0, .int .u64 0, .int .u64 0, .int .u64 0] 25)) := below1
 have b3 : Below w.heap.size w W3 := by rw [hW3]; exact b1.trans (below1.mono b1.size)
 have x0 : W3.heap[q]? = some (.cells #[.int .u64 0, .int .u64 0, .int .u64 0, .int .u64 0] 25 (0, 0)) := by
  rw [hW3]
  refine (below1.block q (by omega)).trans ?_
  rw [hq]; exact heap_alloc_new _ _
 have x1 : W3.heap[q + 1]? = some (.cells #[.int .u64 Cls.zero.a, .int .u64 Cls.zero.b, .int .u64 Cls.zero.c, .int .u64 Cls.zero.d] 25 (0, 0)) := by
  rw [hW3, ← hs1]; exact heap_alloc_new _ _
 obtain ⟨A, hA⟩ : ∃ A, A = span a b := ⟨_, rfl⟩
 rw [← hA]
 have HA := Lib.hid hA
 have B3 := Lib.hid b3
 have X0 := Lib.hid x0
 have X1 := Lib.hid x1
 have HQ := Lib.hid hq
 have HW3 := Lib.hid hW3
 clear hs1 b1 b3 x0 x1 hq hW3 hA
 go_enter Try.func58, Try.ntmps58
 go_wp2
 rw [← HW3.out]
 rw [← HQ.out]
 go_loopw [6, 14] (fun i _ wr => ∃ (c : Nat) (x : Cls), i = .int .i64 c ∧ c ≤ 256 ∧ Hid (x.ok) ∧ Hid (spanF (b + 1 - c) c x = A) ∧ Below w.heap.size w wr ∧ Hid (wr.heap[q]? = some (.cells #[.int .u64 0, .int .u64 0, .int .u64 0, .int .u64 0] 25 (0, 0))) ∧ Hid (wr.heap[q + 1]? = some (.cells #[.int .u64 x.a, .int .u64 x.b, .int .u64 x.c, .int .u64 x.d] 25 (0, 0)))) (fun i _ _ => 256 - (intOf i).toNat)
 case atStart => exact ⟨a, Cls.zero, rfl, by omega, by show Cls.ok _; unfold Cls.ok; decide, by show _ = _; rw [HA.out]; rfl, B3.out, X0.out, X1.out⟩
 case round =>
  obtain ⟨c, x, rfl, hc, OX, HE, hbl, Y0, Y1⟩ := hrel
  have HB := Lib.hid hbl
  clear hbl B3 X0 X1 HA
  by_cases hlt : c ≤ b
  ·
   have hci : (c : Int) ≤ (b : Int) := by omega
   have hc2 : c < 256 := by omega
   have HCW : Hid (IntKind.u8.wrap (c : Int) = (c : Int)) := by show _ = _; simp [IntKind.wrap, IntKind.signed, IntKind.bits]; omega
   have HSG : Hid (∀ W, Calls Try.prog 13 #[.int .u8 (c : Int)] W (fun e w' => e = .returned (.agg #[.int .u64 (Cls.one c).a, .int .u64 (Cls.one c).b, .int .u64 (Cls.one c).c, .int .u64 (Cls.one c).d]) ∧ Below W.heap.size W w')) := fun W => rx_single c W hc2
   have HUN : Hid (∀ W, Calls Try.prog 11 #[.agg #[.int .u64 x.a, .int .u64 x.b, .int .u64 x.c, .int .u64 x.d], .agg #[.int .u64 (Cls.one c).a, .int .u64 (Cls.one c).b, .int .u64 (Cls.one c).c, .int .u64 (Cls.one c).d]] W (fun e w' => e = .returned (.agg #[.int .u64 (x.or (Cls.one c)).a, .int .u64 (x.or (Cls.one c)).b, .int .u64 (x.or (Cls.one c)).c, .int .u64 (x.or (Cls.one c)).d]) ∧ Below W.heap.size W w')) := fun W => rx_union x (Cls.one c) W OX.out (one_ok c hc2)
   have ON : Hid ((x.or (Cls.one c)).ok) := or_ok OX.out (one_ok c hc2)
   have HE2 : Hid (spanF (b + 1 - (c + 1)) (c + 1) (x.or (Cls.one c)) = A) := by
    show _ = _
    rw [← HE.out, show b + 1 - c = (b + 1 - (c + 1)) + 1 by omega]
    rfl
   obtain ⟨y, hy⟩ : ∃ y, y = x.or (Cls.one c) := ⟨_, rfl⟩
   obtain ⟨z, hz⟩ : ∃ z, z = Cls.one c := ⟨_, rfl⟩
   clear hlt
   go_wp2
   refine wp_flow 5 (fun _ => 1000) (fun ww => Below wr.heap.size wr ww) (fun _ w w' => (fun (w w' : World) => RowKit.Below w.heap.size w w') w w') (fun kF vF wF => match kF with | 0 => (vF = .agg #[.int .u64 x.a, .int .u64 x.b, .int .u64 x.c, .int .u64 x.d]) | 1 => (vF = .int .i64 (c : Int)) | 2 => (vF = .int .u8 (c : Int)) | 3 => (vF = .agg #[.int .u64 (Cls.one c).a, .int .u64 (Cls.one c).b, .int .u64 (Cls.one c).c, .int .u64 (Cls.one c).d]) | 4 => (vF = .agg #[.int .u64 (x.or (Cls.one c)).a, .int .u64 (x.or (Cls.one c)).b, .int .u64 (x.or (Cls.one c)).c, .int .u64 (x.or (Cls.one c)).d]) | _ => True) (fun _ _ _ _ => True) (by kernel_rfl) (by kernel_rfl) ?_ ?_ ?_ ?_ ?_
   ·
    exact (Below.refl _ _).drew
   ·
    intro iF wF1 wF2 hR hT; exact hR.trans (Below.mono hT (Below.size hR))
   ·
    intro kF hkF iF hiF hne hdd hanc hdan vF wF1 wF2 h hT
    rcases (by omega : kF = 0 ∨ kF = 1 ∨ kF = 2 ∨ kF = 3 ∨ kF = 4) with rfl | rfl | rfl | rfl | rfl
    ·
     exact h
    ·
     exact h
    ·
     exact h
    ·
     exact h
    ·
     exact h
   ·
    generalize hAF : fillOf _ _ _ = AF
    replace hAF := fun x => congrFun hAF x
    simp only [List.take_succ_cons, List.take_zero, fillOf, Act.put, List.setIfInBounds_toArray, List.set_cons_zero, List.set_cons_succ, Nat.reduceAdd, Nat.zero_add] at hAF
    refine FlowAll.cons ?_ ?_
    ·
     intro xF wz hR hd K hK
     clear hd
     simp only [← hAF, Act.put, List.setIfInBounds_toArray, List.set_cons_zero, List.set_cons_succ] at hK ⊢
     clear hAF
     try simp only [Nat.zero_add] at hK ⊢
     try simp only [Nat.reduceAdd] at hK ⊢
     obtain hbR := id hR
     have hxa := (hbR.block _ (lt_of_block Y1.out)).trans Y1.out
     have c90 := boxc hxa 0 _ rfl
     have c91 := boxc hxa 1 _ rfl
     have c92 := boxc hxa 2 _ rfl
     have c93 := boxc hxa 3 _ rfl
     clear hxa
     rw [if_pos (by rfl)]
     go_simp
     exact hK.out _ _ (Below.refl _ _) (rfl) (fun _ _ _ => ⟨trivial, trivial⟩)
    refine FlowAll.cons ?_ ?_
    ·
     intro xF wz hR hd K hK
     clear hd
     simp only [← hAF, Act.put, List.setIfInBounds_toArray, List.set_cons_zero, List.set_cons_succ] at hK ⊢
     clear hAF
     try simp only [Nat.zero_add] at hK ⊢
     try simp only [Nat.reduceAdd] at hK ⊢
     obtain hbR := id hR
     rw [if_pos (by rfl)]
     go_simp
     exact hK.out _ _ (Below.refl _ _) (rfl) (fun _ _ _ => ⟨trivial, trivial⟩)
    refine FlowAll.cons ?_ ?_
    ·
     intro xF wz hR hd K hK
     have dd1 : ((xF 1) = .int .i64 (c : Int)) := hd 1 (by kernel_rfl)
     clear hd
     simp only [← hAF, Act.put, List.setIfInBounds_toArray, List.set_cons_zero, List.set_cons_succ] at hK ⊢
     clear hAF
     try simp only [Nat.zero_add] at hK ⊢
     try simp only [Nat.reduceAdd] at hK ⊢
     try generalize xF 1 = yy1 at *
     obtain rfl := dd1
     obtain hbR := id hR
     have hcw := HCW.out
     rw [if_pos (by rfl)]
     go_simp
     exact hK.out _ _ (Below.refl _ _) (rfl) (fun _ _ _ => ⟨trivial, trivial⟩)
    refine FlowAll.cons ?_ ?_
    ·
     intro xF wz hR hd K hK
     have dd2 : ((xF 2) = .int .u8 (c : Int)) := hd 2 (by kernel_rfl)
     clear hd
     simp only [← hAF, Act.put, List.setIfInBounds_toArray, List.set_cons_zero, List.set_cons_succ] at hK ⊢
     clear hAF
     try simp only [Nat.zero_add] at hK ⊢
     try simp only [Nat.reduceAdd] at hK ⊢
     try generalize xF 2 = yy2 at *
     obtain rfl := dd2
     obtain hbR := id hR
     rw [if_pos (by rfl)]
     go_simp
     (go_at_call 13; (with_reducible refine (HSG.out _).mono ?_); rintro e wK ⟨rfl, hbK⟩)
     try go_wp2_with fail
     exact hK.out _ _ (hbK) (rfl) (fun _ _ _ => ⟨trivial, trivial⟩)
    refine FlowAll.cons ?_ ?_
    ·
     intro xF wz hR hd K hK
     have dd0 : ((xF 0) = .agg #[.int .u64 x.a, .int .u64 x.b, .int .u64 x.c, .int .u64 x.d]) := hd 0 (by kernel_rfl)
     have dd3 : ((xF 3) = .agg #[.int .u64 (Cls.one c).a, .int .u64 (Cls.one c).b, .int .u64 (Cls.one c).c, .int .u64 (Cls.one c).d]) := hd 3 (by kernel_rfl)
     clear hd
     simp only [← hAF, Act.put, List.setIfInBounds_toArray, List.set_cons_zero, List.set_cons_succ] at hK ⊢
     clear hAF
     try simp only [Nat.zero_add] at hK ⊢
     try simp only [Nat.reduceAdd] at hK ⊢
     try generalize xF 0 = yy0 at *
     try generalize xF 3 = yy3 at *
     obtain rfl := dd0
     obtain rfl := dd3
     obtain hbR := id hR
     rw [if_pos (by rfl)]
     go_simp
     (go_at_call 11; (with_reducible refine (HUN.out _).mono ?_); rintro e wK ⟨rfl, hbK⟩)
     try go_wp2_with fail
     exact hK.out _ _ (hbK) (rfl) (fun _ _ _ => ⟨trivial, trivial⟩)
    exact FlowAll.nil
   intro xF wz hR hF hP
   clear hP
   have dd0 : ((xF 0) = .agg #[.int .u64 x.a, .int .u64 x.b, .int .u64 x.c, .int .u64 x.d]) := hF 0 (by omega) (by decide)
   have dd1 : ((xF 1) = .int .i64 (c : Int)) := hF 1 (by omega) (by decide)
   have dd2 : ((xF 2) = .int .u8 (c : Int)) := hF 2 (by omega) (by decide)
   have dd3 : ((xF 3) = .agg #[.int .u64 (Cls.one c).a, .int .u64 (Cls.one c).b, .int .u64 (Cls.one c).c, .int .u64 (Cls.one c).d]) := hF 3 (by omega) (by decide)
   have dd4 : ((xF 4) = .agg #[.int .u64 (x.or (Cls.one c)).a, .int .u64 (x.or (Cls.one c)).b, .int .u64 (x.or (Cls.one c)).c, .int .u64 (x.or (Cls.one c)).d]) := hF 4 (by omega) (by decide)
   clear hF
   simp only [List.take_succ_cons, List.take_zero, List.drop_succ_cons, List.drop_zero, fillOf, Act.put, List.setIfInBounds_toArray, List.set_cons_zero, List.set_cons_succ, Nat.reduceAdd, Nat.zero_add]
   try generalize xF 0 = yy0 at *
   try generalize xF 1 = yy1 at *
   try generalize xF 2 = yy2 at *
   try generalize xF 3 = yy3 at *
   try generalize xF 4 = yy4 at *
   clear xF
   obtain rfl := dd0
   obtain rfl := dd1
   obtain rfl := dd2
   obtain rfl := dd3
   obtain rfl := dd4
   have hRE := Lib.hid hR
   clear hR
   have z1 := (hRE.out.block _ (lt_of_block Y1.out)).trans Y1.out
   have z0 := Lib.hid ((hRE.out.block _ (lt_of_block Y0.out)).trans Y0.out)
   have bz := HB.out.trans (hRE.out.mono HB.out.size)
   go_wp2_with ((with_reducible show wpList _ _ _ (Oper.mk _ (Op.store 25 (.tmp 5) _) _ _ _ _ :: _) _ _); refine wpList_store_row rfl 25 (.tmp 5) _ rfl (q + 1) #[.int .u64 (x.or (Cls.one c)).a, .int .u64 (x.or (Cls.one c)).b, .int .u64 (x.or (Cls.one c)).c, .int .u64 (x.or (Cls.one c)).d] rfl rfl 25 #[.int .u64 x.a, .int .u64 x.b, .int .u64 x.c, .int .u64 x.d] z1 clsize rfl (by simp [Value.oneCell']) ?_)
   have cc := Lib.hid (setRow_heap _ (q + 1) _ #[.int .u64 (x.or (Cls.one c)).a, .int .u64 (x.or (Cls.one c)).b, .int .u64 (x.or (Cls.one c)).c, .int .u64 (x.or (Cls.one c)).d] _ _ z1)
   have bb := Lib.hid (below_setRow bz (g := q + 1) (by have := HQ.out; omega) #[.int .u64 (x.or (Cls.one c)).a, .int .u64 (x.or (Cls.one c)).b, .int .u64 (x.or (Cls.one c)).c, .int .u64 (x.or (Cls.one c)).d])
   have zz := Lib.hid ((setRow_other wz (q + 1) q #[.int .u64 (x.or (Cls.one c)).a, .int .u64 (x.or (Cls.one c)).b, .int .u64 (x.or (Cls.one c)).c, .int .u64 (x.or (Cls.one c)).d] (by omega)).trans z0.out)
   obtain ⟨w9, h9⟩ : ∃ W, W = World.setRow wz (q + 1) #[.int .u64 (x.or (Cls.one c)).a, .int .u64 (x.or (Cls.one c)).b, .int .u64 (x.or (Cls.one c)).c, .int .u64 (x.or (Cls.one c)).d] := ⟨_, rfl⟩
   rw [← h9] at cc bb zz ⊢
   clear h9 z1 z0 bz
   go_wp2
   go_roundw
   case rel => exact ⟨c + 1, _, by go_num, hc2, ON, HE2, bb.out, zz, cc⟩
   case measure => simp [intOf]; omega
  ·
   have hci : ¬ (c : Int) ≤ (b : Int) := by omega
   have HX : Hid (x = A) := by
    show _ = _
    rw [← HE.out, show b + 1 - c = 0 by omega]
    rfl
   have yy := Y1.out
   rw [HX.out] at yy
   have c0 := boxc yy 0 _ rfl
   have c1 := boxc yy 1 _ rfl
   have c2 := boxc yy 2 _ rfl
   have c3 := boxc yy 3 _ rfl
   have xx := Y0.out
   clear hlt hc
   go_wp2_with ((with_reducible show wpList _ _ _ (Oper.mk _ (Op.store 25 (.tmp 4) _) _ _ _ _ :: _) _ _); refine wpList_store_row rfl 25 (.tmp 4) _ rfl (q) #[.int .u64 A.a, .int .u64 A.b, .int .u64 A.c, .int .u64 A.d] rfl rfl 25 #[.int .u64 0, .int .u64 0, .int .u64 0, .int .u64 0] xx clsize rfl (by simp [Value.oneCell']) ?_)
   have cc := setRow_heap _ q _ #[.int .u64 A.a, .int .u64 A.b, .int .u64 A.c, .int .u64 A.d] _ _ xx
   have bb := below_setRow HB.out (g := q) (by have := HQ.out; omega) #[.int .u64 A.a, .int .u64 A.b, .int .u64 A.c, .int .u64 A.d]
   obtain ⟨w9, h9⟩ : ∃ W, W = World.setRow wr q #[.int .u64 A.a, .int .u64 A.b, .int .u64 A.c, .int .u64 A.d] := ⟨_, rfl⟩
   rw [← h9] at cc bb ⊢
   clear h9 c0 c1 c2 c3 xx yy
   have k0 := boxc cc 0 _ rfl
   have k1 := boxc cc 1 _ rfl
   have k2 := boxc cc 2 _ rfl
   have k3 := boxc cc 3 _ rfl
   refine bodyPost_ret (v := .agg #[.int .u64 A.a, .int .u64 A.b, .int .u64 A.c, .int .u64 A.d]) (by simp [results, Try.results58, go_sem, k0, k1, k2, k3]) rfl ⟨rfl, bb⟩
end Go.Proofs.Ytbccejlemhgioaa
