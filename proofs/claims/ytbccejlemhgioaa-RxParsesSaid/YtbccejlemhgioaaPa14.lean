/- texts put together: RrCls, RrDrw. -/
import Derived.Test.YtbccejlemhgioaaPa09
import Derived.Test.YtbccejlemhgioaaPa10
import Derived.Test.YtbccejlemhgioaaPa12
import Derived.Test.YtbccejlemhgioaaPa13
namespace Go.Proofs.Ytbccejlemhgioaa
open Go Go.RowKit Go.ChangeShapes cl rx
open rf
set_option maxHeartbeats 6400000 in
set_option maxRecDepth 100000 in
theorem rr_turned (x : Cls) (w : World) (hx : x.ok) : Calls Try.prog 52 #[.agg #[.int .u64 x.a, .int .u64 x.b, .int .u64 x.c, .int .u64 x.d]] w (fun e w' => e = .returned (.agg #[.int .u64 (oth x).a, .int .u64 (oth x).b, .int .u64 (oth x).c, .int .u64 (oth x).d]) ∧ Below w.heap.size w w') := by
 obtain ⟨q, hq⟩ : ∃ q, q = w.heap.size := ⟨_, rfl⟩
 obtain ⟨W3, hW3⟩ : ∃ W, W = (w.alloc (.cells #[.int .u64 x.a, .int .u64 x.b, .int .u64 x.c, .int .u64 x.d] 25)).alloc (.cells #[.int .u64 0, .int .u64 0, .int .u64 0, .int .u64 0] 25) := ⟨_, rfl⟩
 have hs1 : (w.alloc (.cells #[.int .u64 x.a, .int .u64 x.b, .int .u64 x.c, .int .u64 x.d] 25)).heap.size = q + 1 := by rw [World.size_alloc, hq]
 have b1 : Below w.heap.size w (w.alloc (.cells #[.int .u64 x.a, .int .u64 x.b, .int .u64 x.c, .int .u64 x.d] 25)) := below1
 have b3 : Below w.heap.size w W3 := by rw [hW3]; exact b1.trans (below1.mono b1.size)
 have x0 : W3.heap[q]? = some (.cells #[.int .u64 (otK x 0).a, .int .u64 (otK x 0).b, .int .u64 (otK x 0).c, .int .u64 (otK x 0).d] 25 (0, 0)) := by
  rw [hW3]
  refine (below1.block q (by omega)).trans ?_
  rw [hq]; exact heap_alloc_new _ _
 have x2 : W3.heap[q + 1]? = some (.cells #[.int .u64 0, .int .u64 0, .int .u64 0, .int .u64 0] 25 (0, 0)) := by
  rw [hW3, ← hs1]; exact heap_alloc_new _ _
 have B3 := Lib.hid b3
 have X0 := Lib.hid x0
 have X2 := Lib.hid x2
 have HQ := Lib.hid hq
 have HW3 := Lib.hid hW3
 have OX := Lib.hid hx
 clear hs1 b1 b3 x0 x2 hq hW3 hx
 go_enter Try.func52, Try.ntmps52
 go_wp2
 rw [← HW3.out]
 rw [← HQ.out]
 go_loopw [4, 13] (fun i _ wr => ∃ k : Nat, i = .int .i64 k ∧ k ≤ 4 ∧ Below w.heap.size w wr ∧ wr.heap[q]? = some (.cells #[.int .u64 (otK x k).a, .int .u64 (otK x k).b, .int .u64 (otK x k).c, .int .u64 (otK x k).d] 25 (0, 0)) ∧ wr.heap[q + 1]? = some (.cells #[.int .u64 0, .int .u64 0, .int .u64 0, .int .u64 0] 25 (0, 0))) (fun i _ _ => 4 - (intOf i).toNat)
 case atStart => exact ⟨0, rfl, Nat.zero_le _, B3.out, X0.out, X2.out⟩
 case round =>
  obtain ⟨k, rfl, hk, hb, y0, y2⟩ := hrel
  have HB := Lib.hid hb
  have Y2 := Lib.hid y2
  clear hb y2 B3 X0 X2
  rcases (by omega : k = 0 ∨ k = 1 ∨ k = 2 ∨ k = 3 ∨ k = 4) with rfl | rfl | rfl | rfl | rfl
  ·
   have y0 : wr.heap[q]? = some (.cells #[.int .u64 (x.a : Int), .int .u64 (x.b : Int), .int .u64 (x.c : Int), .int .u64 (x.d : Int)] 25 (0, 0)) := y0
   have ff := boxf y0 0
   have cc : wr.cell? ⟨q, 0, none⟩ = some (.int .u64 (x.a : Int)) := boxc y0 0 _ rfl
   have hlt : x.a < 18446744073709551616 := OX.out.1
   have EV := u64_not x.a hlt
   have HN : Hid ((wr.setCell ⟨q, 0, none⟩ (.int .u64 (bits .xor .u64 (if IntKind.u64.signed = true then -1 else IntKind.u64.max) (x.a : Int)))).heap[q]? = some (.cells #[.int .u64 (otK x 1).a, .int .u64 (otK x 1).b, .int .u64 (otK x 1).c, .int .u64 (otK x 1).d] 25 (0, 0))) := by
    show _ = _
    rw [EV]
    exact heap_setCell_same wr q 0 _ _ _ y0
   have HO : Hid (Below w.heap.size w (wr.setCell ⟨q, 0, none⟩ (.int .u64 (bits .xor .u64 (if IntKind.u64.signed = true then -1 else IntKind.u64.max) (x.a : Int)))) ∧ (wr.setCell ⟨q, 0, none⟩ (.int .u64 (bits .xor .u64 (if IntKind.u64.signed = true then -1 else IntKind.u64.max) (x.a : Int)))).heap[q + 1]? = some (.cells #[.int .u64 0, .int .u64 0, .int .u64 0, .int .u64 0] 25 (0, 0))) := by
    have kx : KX q wr (wr.setCell ⟨q, 0, none⟩ (.int .u64 (bits .xor .u64 (if IntKind.u64.signed = true then -1 else IntKind.u64.max) (x.a : Int)))) := KX.cell
    have hb := HB.out
    refine ⟨hb.trans ⟨kx.1.1, kx.1.2.1, kx.1.2.2, kx.2.1, fun j hj => kx.2.2 j (by have := hb.size; omega) (by have := HQ.out; omega)⟩, (kx.2.2 _ (lt_of_block Y2.out) (by omega)).trans Y2.out⟩
   clear y0 EV hk
   go_wp2
   go_roundw
   case rel => exact ⟨1, by go_num, by omega, HO.out.1, HN.out, HO.out.2⟩
   case measure => simp [intOf]
  ·
   have y0 : wr.heap[q]? = some (.cells #[.int .u64 ((18446744073709551615 - x.a : Nat) : Int), .int .u64 (x.b : Int), .int .u64 (x.c : Int), .int .u64 (x.d : Int)] 25 (0, 0)) := y0
   have ff := boxf y0 1
   have cc : wr.cell? ⟨q, 1, none⟩ = some (.int .u64 (x.b : Int)) := boxc y0 1 _ rfl
   have hlt : x.b < 18446744073709551616 := OX.out.2.1
   have EV := u64_not x.b hlt
   have HN : Hid ((wr.setCell ⟨q, 1, none⟩ (.int .u64 (bits .xor .u64 (if IntKind.u64.signed = true then -1 else IntKind.u64.max) (x.b : Int)))).heap[q]? = some (.cells #[.int .u64 (otK x 2).a, .int .u64 (otK x 2).b, .int .u64 (otK x 2).c, .int .u64 (otK x 2).d] 25 (0, 0))) := by
    show _ = _
    rw [EV]
    exact heap_setCell_same wr q 1 _ _ _ y0
   have HO : Hid (Below w.heap.size w (wr.setCell ⟨q, 1, none⟩ (.int .u64 (bits .xor .u64 (if IntKind.u64.signed = true then -1 else IntKind.u64.max) (x.b : Int)))) ∧ (wr.setCell ⟨q, 1, none⟩ (.int .u64 (bits .xor .u64 (if IntKind.u64.signed = true then -1 else IntKind.u64.max) (x.b : Int)))).heap[q + 1]? = some (.cells #[.int .u64 0, .int .u64 0, .int .u64 0, .int .u64 0] 25 (0, 0))) := by
    have kx : KX q wr (wr.setCell ⟨q, 1, none⟩ (.int .u64 (bits .xor .u64 (if IntKind.u64.signed = true then -1 else IntKind.u64.max) (x.b : Int)))) := KX.cell
    have hb := HB.out
    refine ⟨hb.trans ⟨kx.1.1, kx.1.2.1, kx.1.2.2, kx.2.1, fun j hj => kx.2.2 j (by have := hb.size; omega) (by have := HQ.out; omega)⟩, (kx.2.2 _ (lt_of_block Y2.out) (by omega)).trans Y2.out⟩
   clear y0 EV hk
   go_wp2
   go_roundw
   case rel => exact ⟨2, by go_num, by omega, HO.out.1, HN.out, HO.out.2⟩
   case measure => simp [intOf]
  ·
   have y0 : wr.heap[q]? = some (.cells #[.int .u64 ((18446744073709551615 - x.a : Nat) : Int), .int .u64 ((18446744073709551615 - x.b : Nat) : Int), .int .u64 (x.c : Int), .int .u64 (x.d : Int)] 25 (0, 0)) := y0
   have ff := boxf y0 2
   have cc : wr.cell? ⟨q, 2, none⟩ = some (.int .u64 (x.c : Int)) := boxc y0 2 _ rfl
   have hlt : x.c < 18446744073709551616 := OX.out.2.2.1
   have EV := u64_not x.c hlt
   have HN : Hid ((wr.setCell ⟨q, 2, none⟩ (.int .u64 (bits .xor .u64 (if IntKind.u64.signed = true then -1 else IntKind.u64.max) (x.c : Int)))).heap[q]? = some (.cells #[.int .u64 (otK x 3).a, .int .u64 (otK x 3).b, .int .u64 (otK x 3).c, .int .u64 (otK x 3).d] 25 (0, 0))) := by
    show _ = _
    rw [EV]
    exact heap_setCell_same wr q 2 _ _ _ y0
   have HO : Hid (Below w.heap.size w (wr.setCell ⟨q, 2, none⟩ (.int .u64 (bits .xor .u64 (if IntKind.u64.signed = true then -1 else IntKind.u64.max) (x.c : Int)))) ∧ (wr.setCell ⟨q, 2, none⟩ (.int .u64 (bits .xor .u64 (if IntKind.u64.signed = true then -1 else IntKind.u64.max) (x.c : Int)))).heap[q + 1]? = some (.cells #[.int .u64 0, .int .u64 0, .int .u64 0, .int .u64 0] 25 (0, 0))) := by
    have kx : KX q wr (wr.setCell ⟨q, 2, none⟩ (.int .u64 (bits .xor .u64 (if IntKind.u64.signed = true then -1 else IntKind.u64.max) (x.c : Int)))) := KX.cell
    have hb := HB.out
    refine ⟨hb.trans ⟨kx.1.1, kx.1.2.1, kx.1.2.2, kx.2.1, fun j hj => kx.2.2 j (by have := hb.size; omega) (by have := HQ.out; omega)⟩, (kx.2.2 _ (lt_of_block Y2.out) (by omega)).trans Y2.out⟩
   clear y0 EV hk
   go_wp2
   go_roundw
   case rel => exact ⟨3, by go_num, by omega, HO.out.1, HN.out, HO.out.2⟩
   case measure => simp [intOf]
  ·
   have y0 : wr.heap[q]? = some (.cells #[.int .u64 ((18446744073709551615 - x.a : Nat) : Int), .int .u64 ((18446744073709551615 - x.b : Nat) : Int), .int .u64 ((18446744073709551615 - x.c : Nat) : Int), .int .u64 (x.d : Int)] 25 (0, 0)) := y0
   have ff := boxf y0 3
   have cc : wr.cell? ⟨q, 3, none⟩ = some (.int .u64 (x.d : Int)) := boxc y0 3 _ rfl
   have hlt : x.d < 18446744073709551616 := OX.out.2.2.2
   have EV := u64_not x.d hlt
   have HN : Hid ((wr.setCell ⟨q, 3, none⟩ (.int .u64 (bits .xor .u64 (if IntKind.u64.signed = true then -1 else IntKind.u64.max) (x.d : Int)))).heap[q]? = some (.cells #[.int .u64 (otK x 4).a, .int .u64 (otK x 4).b, .int .u64 (otK x 4).c, .int .u64 (otK x 4).d] 25 (0, 0))) := by
    show _ = _
    rw [EV]
    exact heap_setCell_same wr q 3 _ _ _ y0
   have HO : Hid (Below w.heap.size w (wr.setCell ⟨q, 3, none⟩ (.int .u64 (bits .xor .u64 (if IntKind.u64.signed = true then -1 else IntKind.u64.max) (x.d : Int)))) ∧ (wr.setCell ⟨q, 3, none⟩ (.int .u64 (bits .xor .u64 (if IntKind.u64.signed = true then -1 else IntKind.u64.max) (x.d : Int)))).heap[q + 1]? = some (.cells #[.int .u64 0, .int .u64 0, .int .u64 0, .int .u64 0] 25 (0, 0))) := by
    have kx : KX q wr (wr.setCell ⟨q, 3, none⟩ (.int .u64 (bits .xor .u64 (if IntKind.u64.signed = true then -1 else IntKind.u64.max) (x.d : Int)))) := KX.cell
    have hb := HB.out
    refine ⟨hb.trans ⟨kx.1.1, kx.1.2.1, kx.1.2.2, kx.2.1, fun j hj => kx.2.2 j (by have := hb.size; omega) (by have := HQ.out; omega)⟩, (kx.2.2 _ (lt_of_block Y2.out) (by omega)).trans Y2.out⟩
   clear y0 EV hk
   go_wp2
   go_roundw
   case rel => exact ⟨4, by go_num, by omega, HO.out.1, HN.out, HO.out.2⟩
   case measure => simp [intOf]
  ·
   have Y0 : wr.heap[q]? = some (.cells #[.int .u64 (oth x).a, .int .u64 (oth x).b, .int .u64 (oth x).c, .int .u64 (oth x).d] 25 (0, 0)) := y0
   have c0 := boxc Y0 0 _ rfl
   have c1 := boxc Y0 1 _ rfl
   have c2 := boxc Y0 2 _ rfl
   have c3 := boxc Y0 3 _ rfl
   have xx := Y2.out
   clear y0 hk
   go_wp2_with ((with_reducible show wpList _ _ _ (Oper.mk _ (Op.store 25 (.tmp 2) _) _ _ _ _ :: _) _ _); refine wpList_store_row rfl 25 (.tmp 2) _ rfl (q + 1) #[.int .u64 (oth x).a, .int .u64 (oth x).b, .int .u64 (oth x).c, .int .u64 (oth x).d] rfl rfl 25 #[.int .u64 0, .int .u64 0, .int .u64 0, .int .u64 0] xx clsize rfl (by simp [Value.oneCell']) ?_)
   have cc := setRow_heap _ (q + 1) _ #[.int .u64 (oth x).a, .int .u64 (oth x).b, .int .u64 (oth x).c, .int .u64 (oth x).d] _ _ xx
   have bb := below_setRow HB.out (g := q + 1) (by have := HQ.out; omega) #[.int .u64 (oth x).a, .int .u64 (oth x).b, .int .u64 (oth x).c, .int .u64 (oth x).d]
   obtain ⟨w9, h9⟩ : ∃ W, W = World.setRow wr (q + 1) #[.int .u64 (oth x).a, .int .u64 (oth x).b, .int .u64 (oth x).c, .int .u64 (oth x).d] := ⟨_, rfl⟩
   rw [← h9] at cc bb ⊢
   clear h9 c0 c1 c2 c3 xx Y0
   have k0 := boxc cc 0 _ rfl
   have k1 := boxc cc 1 _ rfl
   have k2 := boxc cc 2 _ rfl
   have k3 := boxc cc 3 _ rfl
   refine bodyPost_ret (v := .agg #[.int .u64 (oth x).a, .int .u64 (oth x).b, .int .u64 (oth x).c, .int .u64 (oth x).d]) (by simp [results, Try.results52, go_sem, k0, k1, k2, k3]) rfl ⟨rfl, bb⟩
set_option maxHeartbeats 6400000 in
set_option maxRecDepth 100000 in
theorem rr_span (a b : Nat) (w : World) (ha : a < 256) (hb : b < 256) : Calls Try.prog 63 #[.int .u8 a, .int .u8 b] w (fun e w' => e = .returned (.agg #[.int .u64 (span a b).a, .int .u64 (span a b).b, .int .u64 (span a b).c, .int .u64 (span a b).d]) ∧ Below w.heap.size w w') := by
 obtain ⟨q, hq⟩ : ∃ q, q = w.heap.size := ⟨_, rfl⟩
 obtain ⟨W3, hW3⟩ : ∃ W, W = (w.alloc (.cells #[.int .u64 0, .int .u64 0, .int .u64 0, .int .u64 0] 25)).alloc (.cells #[.int .u64 0, .int .u64 0, .int .u64 0, .int .u64 0] 25) := ⟨_, rfl⟩
 have hs1 : (w.alloc (.cells #[.int .u64 0, .int .u64 0, .int .u64 0, .int .u64 0] 25)).heap.size = q + 1 := by rw [World.size_alloc, hq]
 have b1 : Below w.heap.size w (w.alloc (.cells #[.int .u64 0, .int .u64 0, .int .u64 0, .int .u64 0] 25)) := below1
 have b3 : Below w.heap.size w W3 := by rw [hW3]; exact b1.trans (below1.mono b1.size)
 have x0 : W3.heap[q]? = some (.cells #[.int .u64 0, .int .u64 0, .int .u64 0, .int .u64 0] 25 (0, 0)) := by
  rw [hW3]
  refine (below1.block q (by omega)).trans ?_
  rw [hq]; exact heap_alloc_new _ _
 have x1 : W3.heap[q + 1]? = some (.cells #[.int .u64 Cls.zero.a, .int .u64 Cls.zero.b, .int .u64 Cls.zero.c, .int .u64 Cls.zero.d] 25 (0, 0)) := by
  rw [hW3, ← hs1]; exact heap_alloc_new _ _
 obtain ⟨A, hA⟩ : ∃ A, A = span a b := ⟨_, rfl⟩
 rw [← hA]
 have HA := Lib.hid hA
 have B3 := Lib.hid b3
 have X0 := Lib.hid x0
 have X1 := Lib.hid x1
 have HQ := Lib.hid hq
 have HW3 := Lib.hid hW3
 clear hs1 b1 b3 x0 x1 hq hW3 hA
 go_enter Try.func63, Try.ntmps63
 go_wp2
 rw [← HW3.out]
 rw [← HQ.out]
 go_loopw [6, 14] (fun i _ wr => ∃ (c : Nat) (x : Cls), i = .int .i64 c ∧ c ≤ 256 ∧ Hid (x.ok) ∧ Hid (spanF (b + 1 - c) c x = A) ∧ Below w.heap.size w wr ∧ Hid (wr.heap[q]? = some (.cells #[.int .u64 0, .int .u64 0, .int .u64 0, .int .u64 0] 25 (0, 0))) ∧ Hid (wr.heap[q + 1]? = some (.cells #[.int .u64 x.a, .int .u64 x.b, .int .u64 x.c, .int .u64 x.d] 25 (0, 0)))) (fun i _ _ => 256 - (intOf i).toNat)
 case atStart => exact ⟨a, Cls.zero, rfl, by omega, by show Cls.ok _; unfold Cls.ok; decide, by show _ = _; rw [HA.out]; rfl, B3.out, X0.out, X1.out⟩
 case round =>
  obtain ⟨c, x, rfl, hc, OX, HE, hbl, Y0, Y1⟩ := hrel
  have HB := Lib.hid hbl
  clear hbl B3 X0 X1 HA
  by_cases hlt : c ≤ b
  ·
   have hci : (c : Int) ≤ (b : Int) := by omega
   have hc2 : c < 256 := by omega
   have HCW : Hid (IntKind.u8.wrap (c : Int) = (c : Int)) := by show _ = _; simp [IntKind.wrap, IntKind.signed, IntKind.bits]; omega
   have HSG : Hid (∀ W, Calls Try.prog 55 #[.int .u8 (c : Int)] W (fun e w' => e = .returned (.agg #[.int .u64 (Cls.one c).a, .int .u64 (Cls.one c).b, .int .u64 (Cls.one c).c, .int .u64 (Cls.one c).d]) ∧ Below W.heap.size W w')) := fun W => rr_single c W hc2
   have HUN : Hid (∀ W, Calls Try.prog 15 #[.agg #[.int .u64 x.a, .int .u64 x.b, .int .u64 x.c, .int .u64 x.d], .agg #[.int .u64 (Cls.one c).a, .int .u64 (Cls.one c).b, .int .u64 (Cls.one c).c, .int .u64 (Cls.one c).d]] W (fun e w' => e = .returned (.agg #[.int .u64 (x.or (Cls.one c)).a, .int .u64 (x.or (Cls.one c)).b, .int .u64 (x.or (Cls.one c)).c, .int .u64 (x.or (Cls.one c)).d]) ∧ Below W.heap.size W w')) := fun W => rrx_union x (Cls.one c) W OX.out (one_ok c hc2)
   have ON : Hid ((x.or (Cls.one c)).ok) := or_ok OX.out (one_ok c hc2)
   have HE2 : Hid (spanF (b + 1 - (c + 1)) (c + 1) (x.or (Cls.one c)) = A) := by
    show _ = _
    rw [← HE.out, show b + 1 - c = (b + 1 - (c + 1)) + 1 by omega]
    rfl
   obtain ⟨y, hy⟩ : ∃ y, y = x.or (Cls.one c) := ⟨_, rfl⟩
   obtain ⟨z, hz⟩ : ∃ z, z = Cls.one c := ⟨_, rfl⟩
   clear hlt
   go_wp2
   refine wp_flow 5 (fun _ => 1000) (fun ww => Below wr.heap.size wr ww) (fun _ w w' => (fun (w w' : World) => RowKit.Below w.heap.size w w') w w') (fun kF vF wF => match kF with | 0 => (vF = .agg #[.int .u64 x.a, .int .u64 x.b, .int .u64 x.c, .int .u64 x.d]) | 1 => (vF = .int .i64 (c : Int)) | 2 => (vF = .int .u8 (c : Int)) | 3 => (vF = .agg #[.int .u64 (Cls.one c).a, .int .u64 (Cls.one c).b, .int .u64 (Cls.one c).c, .int .u64 (Cls.one c).d]) | 4 => (vF = .agg #[.int .u64 (x.or (Cls.one c)).a, .int .u64 (x.or (Cls.one c)).b, .int .u64 (x.or (Cls.one c)).c, .int .u64 (x.or (Cls.one c)).d]) | _ => True) (fun _ _ _ _ => True) (by kernel_rfl) (by kernel_rfl) ?_ ?_ ?_ ?_ ?_
   ·
    exact (Below.refl _ _).drew
   ·
    intro iF wF1 wF2 hR hT; exact hR.trans (Below.mono hT (Below.size hR))
   ·
    intro kF hkF iF hiF hne hdd hanc hdan vF wF1 wF2 h hT
    rcases (by omega : kF = 0 ∨ kF = 1 ∨ kF = 2 ∨ kF = 3 ∨ kF = 4) with rfl | rfl | rfl | rfl | rfl
    ·
     exact h
    ·
     exact h
    ·
     exact h
    ·
     exact h
    ·
     exact h
   ·
    generalize hAF : fillOf _ _ _ = AF
    replace hAF := fun x => congrFun hAF x
    simp only [List.take_succ_cons, List.take_zero, fillOf, Act.put, List.setIfInBounds_toArray, List.set_cons_zero, List.set_cons_succ, Nat.reduceAdd, Nat.zero_add] at hAF
    refine FlowAll.cons ?_ ?_
    ·
     intro xF wz hR hd K hK
     clear hd
     simp only [← hAF, Act.put, List.setIfInBounds_toArray, List.set_cons_zero, List.set_cons_succ] at hK ⊢
     clear hAF
     try simp only [Nat.zero_add] at hK ⊢
     try simp only [Nat.reduceAdd] at hK ⊢
     obtain hbR := id hR
     have hxa := (hbR.block _ (lt_of_block Y1.out)).trans Y1.out
     have c90 := boxc hxa 0 _ rfl
     have c91 := boxc hxa 1 _ rfl
     have c92 := boxc hxa 2 _ rfl
     have c93 := boxc hxa 3 _ rfl
     clear hxa
     rw [if_pos (by rfl)]
     go_simp
     exact hK.out _ _ (Below.refl _ _) (rfl) (fun _ _ _ => ⟨trivial, trivial⟩)
    refine FlowAll.cons ?_ ?_
    ·
     intro xF wz hR hd K hK
     clear hd
     simp only [← hAF, Act.put, List.setIfInBounds_toArray, List.set_cons_zero, List.set_cons_succ] at hK ⊢
     clear hAF
     try simp only [Nat.zero_add] at hK ⊢
     try simp only [Nat.reduceAdd] at hK ⊢
     obtain hbR := id hR
     rw [if_pos (by rfl)]
     go_simp
     exact hK.out _ _ (Below.refl _ _) (rfl) (fun _ _ _ => ⟨trivial, trivial⟩)
    refine FlowAll.cons ?_ ?_
    ·
     intro xF wz hR hd K hK
     have dd1 : ((xF 1) = .int .i64 (c : Int)) := hd 1 (by kernel_rfl)
     clear hd
     simp only [← hAF, Act.put, List.setIfInBounds_toArray, List.set_cons_zero, List.set_cons_succ] at hK ⊢
     clear hAF
     try simp only [Nat.zero_add] at hK ⊢
     try simp only [Nat.reduceAdd] at hK ⊢
     try generalize xF 1 = yy1 at *
     obtain rfl := dd1
     obtain hbR := id hR
     have hcw := HCW.out
     rw [if_pos (by rfl)]
     go_simp
     exact hK.out _ _ (Below.refl _ _) (rfl) (fun _ _ _ => ⟨trivial, trivial⟩)
    refine FlowAll.cons ?_ ?_
    ·
     intro xF wz hR hd K hK
     have dd2 : ((xF 2) = .int .u8 (c : Int)) := hd 2 (by kernel_rfl)
     clear hd
     simp only [← hAF, Act.put, List.setIfInBounds_toArray, List.set_cons_zero, List.set_cons_succ] at hK ⊢
     clear hAF
     try simp only [Nat.zero_add] at hK ⊢
     try simp only [Nat.reduceAdd] at hK ⊢
     try generalize xF 2 = yy2 at *
     obtain rfl := dd2
     obtain hbR := id hR
     rw [if_pos (by rfl)]
     go_simp
     (go_at_call 55; (with_reducible refine (HSG.out _).mono ?_); rintro e wK ⟨rfl, hbK⟩)
     try go_wp2_with fail
     exact hK.out _ _ (hbK) (rfl) (fun _ _ _ => ⟨trivial, trivial⟩)
    refine FlowAll.cons ?_ ?_
    ·
     intro xF wz hR hd K hK
     have dd0 : ((xF 0) = .agg #[.int .u64 x.a, .int .u64 x.b, .int .u64 x.c, .int .u64 x.d]) := hd 0 (by kernel_rfl)
     have dd3 : ((xF 3) = .agg #[.int .u64 (Cls.one c).a, .int .u64 (Cls.one c).b, .int .u64 (Cls.one c).c, .int .u64 (Cls.one c).d]) := hd 3 (by kernel_rfl)
     clear hd
     simp only [← hAF, Act.put, List.setIfInBounds_toArray, List.set_cons_zero, List.set_cons_succ] at hK ⊢
     clear hAF
     try simp only [Nat.zero_add] at hK ⊢
     try simp only [Nat.reduceAdd] at hK ⊢
     try generalize xF 0 = yy0 at *
     try generalize xF 3 = yy3 at *
     obtain rfl := dd0
     obtain rfl := dd3
     obtain hbR := id hR
     rw [if_pos (by rfl)]
     go_simp
     (go_at_call 15; (with_reducible refine (HUN.out _).mono ?_); rintro e wK ⟨rfl, hbK⟩)
     try go_wp2_with fail
     exact hK.out _ _ (hbK) (rfl) (fun _ _ _ => ⟨trivial, trivial⟩)
    exact FlowAll.nil
   intro xF wz hR hF hP
   clear hP
   have dd0 : ((xF 0) = .agg #[.int .u64 x.a, .int .u64 x.b, .int .u64 x.c, .int .u64 x.d]) := hF 0 (by omega) (by decide)
   have dd1 : ((xF 1) = .int .i64 (c : Int)) := hF 1 (by omega) (by decide)
   have dd2 : ((xF 2) = .int .u8 (c : Int)) := hF 2 (by omega) (by decide)
   have dd3 : ((xF 3) = .agg #[.int .u64 (Cls.one c).a, .int .u64 (Cls.one c).b, .int .u64 (Cls.one c).c, .int .u64 (Cls.one c).d]) := hF 3 (by omega) (by decide)
   have dd4 : ((xF 4) = .agg #[.int .u64 (x.or (Cls.one c)).a, .int .u64 (x.or (Cls.one c)).b, .int .u64 (x.or (Cls.one c)).c, .int .u64 (x.or (Cls.one c)).d]) := hF 4 (by omega) (by decide)
   clear hF
   simp only [List.take_succ_cons, List.take_zero, List.drop_succ_cons, List.drop_zero, fillOf, Act.put, List.setIfInBounds_toArray, List.set_cons_zero, List.set_cons_succ, Nat.reduceAdd, Nat.zero_add]
   try generalize xF 0 = yy0 at *
   try generalize xF 1 = yy1 at *
   try generalize xF 2 = yy2 at *
   try generalize xF 3 = yy3 at *
   try generalize xF 4 = yy4 at *
   clear xF
   obtain rfl := dd0
   obtain rfl := dd1
   obtain rfl := dd2
   obtain rfl := dd3
   obtain rfl := dd4
   have hRE := Lib.hid hR
   clear hR
   have z1 := (hRE.out.block _ (lt_of_block Y1.out)).trans Y1.out
   have z0 := Lib.hid ((hRE.out.block _ (lt_of_block Y0.out)).trans Y0.out)
   have bz := HB.out.trans (hRE.out.mono HB.out.size)
   go_wp2_with ((with_reducible show wpList _ _ _ (Oper.mk _ (Op.store 25 (.tmp 5) _) _ _ _ _ :: _) _ _); refine wpList_store_row rfl 25 (.tmp 5) _ rfl (q + 1) #[.int .u64 (x.or (Cls.one c)).a, .int .u64 (x.or (Cls.one c)).b, .int .u64 (x.or (Cls.one c)).c, .int .u64 (x.or (Cls.one c)).d] rfl rfl 25 #[.int .u64 x.a, .int .u64 x.b, .int .u64 x.c, .int .u64 x.d] z1 clsize rfl (by simp [Value.oneCell']) ?_)
   have cc := Lib.hid (setRow_heap _ (q + 1) _ #[.int .u64 (x.or (Cls.one c)).a, .int .u64 (x.or (Cls.one c)).b, .int .u64 (x.or (Cls.one c)).c, .int .u64 (x.or (Cls.one c)).d] _ _ z1)
   have bb := Lib.hid (below_setRow bz (g := q + 1) (by have := HQ.out; omega) #[.int .u64 (x.or (Cls.one c)).a, .int .u64 (x.or (Cls.one c)).b, .int .u64 (x.or (Cls.one c)).c, .int .u64 (x.or (Cls.one c)).d])
   have zz := Lib.hid ((setRow_other wz (q + 1) q #[.int .u64 (x.or (Cls.one c)).a, .int .u64 (x.or (Cls.one c)).b, .int .u64 (x.or (Cls.one c)).c, .int .u64 (x.or (Cls.one c)).d] (by omega)).trans z0.out)
   obtain ⟨w9, h9⟩ : ∃ W, W = World.setRow wz (q + 1) #[.int .u64 (x.or (Cls.one c)).a, .int .u64 (x.or (Cls.one c)).b, .int .u64 (x.or (Cls.one c)).c, .int .u64 (x.or (Cls.one c)).d] := ⟨_, rfl⟩
   rw [← h9] at cc bb zz ⊢
   clear h9 z1 z0 bz
   go_wp2
   go_roundw
   case rel => exact ⟨c + 1, _, by go_num, hc2, ON, HE2, bb.out, zz, cc⟩
   case measure => simp [intOf]; omega
  ·
   have hci : ¬ (c : Int) ≤ (b : Int) := by omega
   have HX : Hid (x = A) := by
    show _ = _
    rw [← HE.out, show b + 1 - c = 0 by omega]
    rfl
   have yy := Y1.out
   rw [HX.out] at yy
   have c0 := boxc yy 0 _ rfl
   have c1 := boxc yy 1 _ rfl
   have c2 := boxc yy 2 _ rfl
   have c3 := boxc yy 3 _ rfl
   have xx := Y0.out
   clear hlt hc
   go_wp2_with ((with_reducible show wpList _ _ _ (Oper.mk _ (Op.store 25 (.tmp 4) _) _ _ _ _ :: _) _ _); refine wpList_store_row rfl 25 (.tmp 4) _ rfl (q) #[.int .u64 A.a, .int .u64 A.b, .int .u64 A.c, .int .u64 A.d] rfl rfl 25 #[.int .u64 0, .int .u64 0, .int .u64 0, .int .u64 0] xx clsize rfl (by simp [Value.oneCell']) ?_)
   have cc := setRow_heap _ q _ #[.int .u64 A.a, .int .u64 A.b, .int .u64 A.c, .int .u64 A.d] _ _ xx
   have bb := below_setRow HB.out (g := q) (by have := HQ.out; omega) #[.int .u64 A.a, .int .u64 A.b, .int .u64 A.c, .int .u64 A.d]
   obtain ⟨w9, h9⟩ : ∃ W, W = World.setRow wr q #[.int .u64 A.a, .int .u64 A.b, .int .u64 A.c, .int .u64 A.d] := ⟨_, rfl⟩
   rw [← h9] at cc bb ⊢
   clear h9 c0 c1 c2 c3 xx yy
   have k0 := boxc cc 0 _ rfl
   have k1 := boxc cc 1 _ rfl
   have k2 := boxc cc 2 _ rfl
   have k3 := boxc cc 3 _ rfl
   refine bodyPost_ret (v := .agg #[.int .u64 A.a, .int .u64 A.b, .int .u64 A.c, .int .u64 A.d]) (by simp [results, Try.results63, go_sem, k0, k1, k2, k3]) rfl ⟨rfl, bb⟩
end Go.Proofs.Ytbccejlemhgioaa
namespace Go.Proofs.Ytbccejlemhgioaa
open Go Go.RowKit Go.ChangeShapes cl rx
open rf
def Dw (q2 q3 : Nat) (W ww : World) : Prop := (ww.os = W.os ∧ ww.tape = W.tape ∧ ww.output = W.output) ∧ W.heap.size ≤ ww.heap.size ∧ (∀ j, j < W.heap.size → j ≠ q2 → j ≠ q3 → ww.heap[j]? = W.heap[j]?) ∧ (∃ cs : Array Value, cs.size = 3 ∧ ww.heap[q2]? = some (.cells cs 48)) ∧ ∃ cs : Array Value, cs.size = 4 ∧ ww.heap[q3]? = some (.cells cs 25)
section
variable {q q2 q3 : Nat} {S : ByteArray} {r : rr.R} {w W a b : World} {A : Array Value}
theorem Dw.refl (hz : Bx q2 #[.string ⟨#[]⟩, .int .i64 0, .int .i64 0] 48 W) (hy : Bx q3 #[.int .u64 0, .int .u64 0, .int .u64 0, .int .u64 0] 25 W) : Dw q2 q3 W W := ⟨⟨rfl, rfl, rfl⟩, Nat.le_refl _, fun _ _ _ _ => rfl, ⟨_, rfl, hz⟩, _, rfl, hy⟩
theorem Dw.below (h : Dw q2 q3 W a) (hb : Below a.heap.size a b) : Dw q2 q3 W b := by
 obtain ⟨⟨h1, h2, h3⟩, h4, h5, ⟨c2, s2, z2⟩, c3, s3, z3⟩ := h
 exact ⟨⟨hb.os.trans h1, hb.tape.trans h2, hb.output.trans h3⟩, Nat.le_trans h4 hb.size, fun j hj n2 n3 => (hb.block j (Nat.lt_of_lt_of_le hj h4)).trans (h5 j hj n2 n3), ⟨c2, s2, (hb.block q2 (lt_of_block z2)).trans z2⟩, c3, s3, (hb.block q3 (lt_of_block z3)).trans z3⟩
theorem Dw.s2 (h : Dw q2 q3 W a) (hk : KX q2 a b ∧ b.heap[q2]? = some (.cells A 48)) (hs : A.size = 3) (hn : q3 ≠ q2) : Dw q2 q3 W b := by
 obtain ⟨⟨h1, h2, h3⟩, h4, h5, ⟨c2, s2, z2⟩, c3, s3, z3⟩ := h
 obtain ⟨hk, hb⟩ := hk
 exact ⟨⟨hk.1.1.trans h1, hk.1.2.1.trans h2, hk.1.2.2.trans h3⟩, Nat.le_trans h4 hk.2.1, fun j hj n2 n3 => (hk.2.2 j (Nat.lt_of_lt_of_le hj h4) n2).trans (h5 j hj n2 n3), ⟨A, hs, hb⟩, c3, s3, (hk.2.2 q3 (lt_of_block z3) hn).trans z3⟩
theorem Dw.s3 (h : Dw q2 q3 W a) (hk : KX q3 a b ∧ b.heap[q3]? = some (.cells A 25)) (hs : A.size = 4) (hn : q3 ≠ q2) : Dw q2 q3 W b := by
 obtain ⟨⟨h1, h2, h3⟩, h4, h5, ⟨c2, s2, z2⟩, c3, s3, z3⟩ := h
 obtain ⟨hk, hb⟩ := hk
 exact ⟨⟨hk.1.1.trans h1, hk.1.2.1.trans h2, hk.1.2.2.trans h3⟩, Nat.le_trans h4 hk.2.1, fun j hj n2 n3 => (hk.2.2 j (Nat.lt_of_lt_of_le hj h4) n3).trans (h5 j hj n2 n3), ⟨c2, s2, (hk.2.2 q2 (lt_of_block z2) (Ne.symm hn)).trans z2⟩, A, hs, hb⟩
theorem RS.dw (h : RS q S r w W) (k : Dw q2 q3 W a) (n2 : q ≠ q2) (n3 : q ≠ q3) (h2 : w.heap.size ≤ q2) (h3 : w.heap.size ≤ q3) : RS q S r w a :=
 ⟨(k.2.2.1 q (lt_of_block h.1) n2 n3).trans h.1, h.2.1.trans ⟨k.1.1, k.1.2.1, k.1.2.2, k.2.1, fun j hj => k.2.2.1 j (Nat.lt_of_lt_of_le hj h.2.1.size) (by omega) (by omega)⟩, h.2.2⟩
end
end Go.Proofs.Ytbccejlemhgioaa
