/- all other bytes. -/
import Derived.Test.YtbccejlemhgioaaRfFn0
import Derived.Test.YtbccejlemhgioaaRxUni
namespace Go.Proofs.Ytbccejlemhgioaa
open Go Go.RowKit Go.ChangeShapes cl rx
open rf
/-- turned so far -/
def otK (x : Cls) (k : Nat) : Cls := ⟨if 0 < k then 18446744073709551615 - x.a else x.a, if 1 < k then 18446744073709551615 - x.b else x.b, if 2 < k then 18446744073709551615 - x.c else x.c, if 3 < k then 18446744073709551615 - x.d else x.d⟩
theorem u64_not (a : Nat) (ha : a < 18446744073709551616) : bits .xor .u64 (if IntKind.u64.signed = true then -1 else IntKind.u64.max) (a : Int) = ((18446744073709551615 - a : Nat) : Int) := by
  show IntKind.u64.wrap ((BitVec.ofInt 64 18446744073709551615 ^^^ BitVec.ofInt 64 (a : Int)).toNat : Int) = _
  have e : BitVec.ofInt 64 18446744073709551615 = BitVec.allOnes 64 := by decide
  rw [e, BitVec.allOnes_xor, BitVec.toNat_not, ofInt_u64 a (by omega)]
  exact IntWalk.u64_in _ ⟨by omega, by omega⟩
set_option maxHeartbeats 6400000 in
set_option maxRecDepth 100000 in
theorem rx_others (x : Cls) (w : World) (hx : x.ok) : Calls Try.prog 48 #[.agg #[.int .u64 x.a, .int .u64 x.b, .int .u64 x.c, .int .u64 x.d]] w (fun e w' => e = .returned (.agg #[.int .u64 (oth x).a, .int .u64 (oth x).b, .int .u64 (oth x).c, .int .u64 (oth x).d]) ∧ Below w.heap.size w w') := by
  obtain ⟨q, hq⟩ : ∃ q, q = w.heap.size := ⟨_, rfl⟩
  obtain ⟨W3, hW3⟩ : ∃ W, W = (w.alloc (.cells #[.int .u64 x.a, .int .u64 x.b, .int .u64 x.c, .int .u64 x.d] 25)).alloc (.cells #[.int .u64 0, .int .u64 0, .int .u64 0, .int .u64 0] 25) := ⟨_, rfl⟩
  have hs1 : (w.alloc (.cells #[.int .u64 x.a, .int .u64 x.b, .int .u64 x.c, .int .u64 x.d] 25)).heap.size = q + 1 := by rw [World.size_alloc, hq]
  have b1 : Below w.heap.size w (w.alloc (.cells #[.int .u64 x.a, .int .u64 x.b, .int .u64 x.c, .int .u64 x.d] 25)) := below1
  have b3 : Below w.heap.size w W3 := by rw [hW3]; exact b1.trans (below1.mono b1.size)
  have x0 : W3.heap[q]? = some (.cells #[.int .u64 (otK x 0).a, .int .u64 (otK x 0).b, .int .u64 (otK x 0).c, .int .u64 (otK x 0).d] 25 (0, 0)) := by
    rw [hW3]
    refine (below1.block q (by omega)).trans ?_
    rw [hq]; exact heap_alloc_new _ _
  have x2 : W3.heap[q + 1]? = some (.cells #[.int .u64 0, .int .u64 0, .int .u64 0, .int .u64 0] 25 (0, 0)) := by
    rw [hW3, ← hs1]; exact heap_alloc_new _ _
  have B3 := Lib.hid b3
  have X0 := Lib.hid x0
  have X2 := Lib.hid x2
  have HQ := Lib.hid hq
  have HW3 := Lib.hid hW3
  have OX := Lib.hid hx
  clear hs1 b1 b3 x0 x2 hq hW3 hx
  go_enter Try.func48, Try.ntmps48
  go_wp2
  rw [← HW3.out]
  rw [← HQ.out]
  go_loopw [4, 13] (fun i _ wr => ∃ k : Nat, i = .int .i64 k ∧ k ≤ 4 ∧ Below w.heap.size w wr ∧ wr.heap[q]? = some (.cells #[.int .u64 (otK x k).a, .int .u64 (otK x k).b, .int .u64 (otK x k).c, .int .u64 (otK x k).d] 25 (0, 0)) ∧ wr.heap[q + 1]? = some (.cells #[.int .u64 0, .int .u64 0, .int .u64 0, .int .u64 0] 25 (0, 0))) (fun i _ _ => 4 - (intOf i).toNat)
  case atStart => exact ⟨0, rfl, Nat.zero_le _, B3.out, X0.out, X2.out⟩
  case round =>
    obtain ⟨k, rfl, hk, hb, y0, y2⟩ := hrel
    have HB := Lib.hid hb
    have Y2 := Lib.hid y2
    clear hb y2 B3 X0 X2
    rcases (by omega : k = 0 ∨ k = 1 ∨ k = 2 ∨ k = 3 ∨ k = 4) with rfl | rfl | rfl | rfl | rfl
    · -- the word 0
      have y0 : wr.heap[q]? = some (.cells #[.int .u64 (x.a : Int), .int .u64 (x.b : Int), .int .u64 (x.c : Int), .int .u64 (x.d : Int)] 25 (0, 0)) := y0
      have ff := boxf y0 0
      have cc : wr.cell? ⟨q, 0, none⟩ = some (.int .u64 (x.a : Int)) := boxc y0 0 _ rfl
      have hlt : x.a < 18446744073709551616 := OX.out.1
      have EV := u64_not x.a hlt
      have HN : Hid ((wr.setCell ⟨q, 0, none⟩ (.int .u64 (bits .xor .u64 (if IntKind.u64.signed = true then -1 else IntKind.u64.max) (x.a : Int)))).heap[q]? = some (.cells #[.int .u64 (otK x 1).a, .int .u64 (otK x 1).b, .int .u64 (otK x 1).c, .int .u64 (otK x 1).d] 25 (0, 0))) := by
        show _ = _
        rw [EV]
        exact heap_setCell_same wr q 0 _ _ _ y0
      have HO : Hid (Below w.heap.size w (wr.setCell ⟨q, 0, none⟩ (.int .u64 (bits .xor .u64 (if IntKind.u64.signed = true then -1 else IntKind.u64.max) (x.a : Int)))) ∧ (wr.setCell ⟨q, 0, none⟩ (.int .u64 (bits .xor .u64 (if IntKind.u64.signed = true then -1 else IntKind.u64.max) (x.a : Int)))).heap[q + 1]? = some (.cells #[.int .u64 0, .int .u64 0, .int .u64 0, .int .u64 0] 25 (0, 0))) := by
        have kx : KX q wr (wr.setCell ⟨q, 0, none⟩ (.int .u64 (bits .xor .u64 (if IntKind.u64.signed = true then -1 else IntKind.u64.max) (x.a : Int)))) := KX.cell
        have hb := HB.out
        refine ⟨hb.trans ⟨kx.1.1, kx.1.2.1, kx.1.2.2, kx.2.1, fun j hj => kx.2.2 j (by have := hb.size; omega) (by have := HQ.out; omega)⟩, (kx.2.2 _ (lt_of_block Y2.out) (by omega)).trans Y2.out⟩
      clear y0 EV hk
      go_wp2
      go_roundw
      case rel => exact ⟨1, by go_num, by omega, HO.out.1, HN.out, HO.out.2⟩
      case measure => simp [intOf]
    · -- the word 1
      have y0 : wr.heap[q]? = some (.cells #[.int .u64 ((18446744073709551615 - x.a : Nat) : Int), .int .u64 (x.b : Int), .int .u64 (x.c : Int), .int .u64 (x.d : Int)] 25 (0, 0)) := y0
      have ff := boxf y0 1
      have cc : wr.cell? ⟨q, 1, none⟩ = some (.int .u64 (x.b : Int)) := boxc y0 1 _ rfl
      have hlt : x.b < 18446744073709551616 := OX.out.2.1
      have EV := u64_not x.b hlt
      have HN : Hid ((wr.setCell ⟨q, 1, none⟩ (.int .u64 (bits .xor .u64 (if IntKind.u64.signed = true then -1 else IntKind.u64.max) (x.b : Int)))).heap[q]? = some (.cells #[.int .u64 (otK x 2).a, .int .u64 (otK x 2).b, .int .u64 (otK x 2).c, .int .u64 (otK x 2).d] 25 (0, 0))) := by
        show _ = _
        rw [EV]
        exact heap_setCell_same wr q 1 _ _ _ y0
      have HO : Hid (Below w.heap.size w (wr.setCell ⟨q, 1, none⟩ (.int .u64 (bits .xor .u64 (if IntKind.u64.signed = true then -1 else IntKind.u64.max) (x.b : Int)))) ∧ (wr.setCell ⟨q, 1, none⟩ (.int .u64 (bits .xor .u64 (if IntKind.u64.signed = true then -1 else IntKind.u64.max) (x.b : Int)))).heap[q + 1]? = some (.cells #[.int .u64 0, .int .u64 0, .int .u64 0, .int .u64 0] 25 (0, 0))) := by
        have kx : KX q wr (wr.setCell ⟨q, 1, none⟩ (.int .u64 (bits .xor .u64 (if IntKind.u64.signed = true then -1 else IntKind.u64.max) (x.b : Int)))) := KX.cell
        have hb := HB.out
        refine ⟨hb.trans ⟨kx.1.1, kx.1.2.1, kx.1.2.2, kx.2.1, fun j hj => kx.2.2 j (by have := hb.size; omega) (by have := HQ.out; omega)⟩, (kx.2.2 _ (lt_of_block Y2.out) (by omega)).trans Y2.out⟩
      clear y0 EV hk
      go_wp2
      go_roundw
      case rel => exact ⟨2, by go_num, by omega, HO.out.1, HN.out, HO.out.2⟩
      case measure => simp [intOf]
    · -- the word 2
      have y0 : wr.heap[q]? = some (.cells #[.int .u64 ((18446744073709551615 - x.a : Nat) : Int), .int .u64 ((18446744073709551615 - x.b : Nat) : Int), .int .u64 (x.c : Int), .int .u64 (x.d : Int)] 25 (0, 0)) := y0
      have ff := boxf y0 2
      have cc : wr.cell? ⟨q, 2, none⟩ = some (.int .u64 (x.c : Int)) := boxc y0 2 _ rfl
      have hlt : x.c < 18446744073709551616 := OX.out.2.2.1
      have EV := u64_not x.c hlt
      have HN : Hid ((wr.setCell ⟨q, 2, none⟩ (.int .u64 (bits .xor .u64 (if IntKind.u64.signed = true then -1 else IntKind.u64.max) (x.c : Int)))).heap[q]? = some (.cells #[.int .u64 (otK x 3).a, .int .u64 (otK x 3).b, .int .u64 (otK x 3).c, .int .u64 (otK x 3).d] 25 (0, 0))) := by
        show _ = _
        rw [EV]
        exact heap_setCell_same wr q 2 _ _ _ y0
      have HO : Hid (Below w.heap.size w (wr.setCell ⟨q, 2, none⟩ (.int .u64 (bits .xor .u64 (if IntKind.u64.signed = true then -1 else IntKind.u64.max) (x.c : Int)))) ∧ (wr.setCell ⟨q, 2, none⟩ (.int .u64 (bits .xor .u64 (if IntKind.u64.signed = true then -1 else IntKind.u64.max) (x.c : Int)))).heap[q + 1]? = some (.cells #[.int .u64 0, .int .u64 0, .int .u64 0, .int .u64 0] 25 (0, 0))) := by
        have kx : KX q wr (wr.setCell ⟨q, 2, none⟩ (.int .u64 (bits .xor .u64 (if IntKind.u64.signed = true then -1 else IntKind.u64.max) (x.c : Int)))) := KX.cell
        have hb := HB.out
        refine ⟨hb.trans ⟨kx.1.1, kx.1.2.1, kx.1.2.2, kx.2.1, fun j hj => kx.2.2 j (by have := hb.size; omega) (by have := HQ.out; omega)⟩, (kx.2.2 _ (lt_of_block Y2.out) (by omega)).trans Y2.out⟩
      clear y0 EV hk
      go_wp2
      go_roundw
      case rel => exact ⟨3, by go_num, by omega, HO.out.1, HN.out, HO.out.2⟩
      case measure => simp [intOf]
    · -- the word 3
      have y0 : wr.heap[q]? = some (.cells #[.int .u64 ((18446744073709551615 - x.a : Nat) : Int), .int .u64 ((18446744073709551615 - x.b : Nat) : Int), .int .u64 ((18446744073709551615 - x.c : Nat) : Int), .int .u64 (x.d : Int)] 25 (0, 0)) := y0
      have ff := boxf y0 3
      have cc : wr.cell? ⟨q, 3, none⟩ = some (.int .u64 (x.d : Int)) := boxc y0 3 _ rfl
      have hlt : x.d < 18446744073709551616 := OX.out.2.2.2
      have EV := u64_not x.d hlt
      have HN : Hid ((wr.setCell ⟨q, 3, none⟩ (.int .u64 (bits .xor .u64 (if IntKind.u64.signed = true then -1 else IntKind.u64.max) (x.d : Int)))).heap[q]? = some (.cells #[.int .u64 (otK x 4).a, .int .u64 (otK x 4).b, .int .u64 (otK x 4).c, .int .u64 (otK x 4).d] 25 (0, 0))) := by
        show _ = _
        rw [EV]
        exact heap_setCell_same wr q 3 _ _ _ y0
      have HO : Hid (Below w.heap.size w (wr.setCell ⟨q, 3, none⟩ (.int .u64 (bits .xor .u64 (if IntKind.u64.signed = true then -1 else IntKind.u64.max) (x.d : Int)))) ∧ (wr.setCell ⟨q, 3, none⟩ (.int .u64 (bits .xor .u64 (if IntKind.u64.signed = true then -1 else IntKind.u64.max) (x.d : Int)))).heap[q + 1]? = some (.cells #[.int .u64 0, .int .u64 0, .int .u64 0, .int .u64 0] 25 (0, 0))) := by
        have kx : KX q wr (wr.setCell ⟨q, 3, none⟩ (.int .u64 (bits .xor .u64 (if IntKind.u64.signed = true then -1 else IntKind.u64.max) (x.d : Int)))) := KX.cell
        have hb := HB.out
        refine ⟨hb.trans ⟨kx.1.1, kx.1.2.1, kx.1.2.2, kx.2.1, fun j hj => kx.2.2 j (by have := hb.size; omega) (by have := HQ.out; omega)⟩, (kx.2.2 _ (lt_of_block Y2.out) (by omega)).trans Y2.out⟩
      clear y0 EV hk
      go_wp2
      go_roundw
      case rel => exact ⟨4, by go_num, by omega, HO.out.1, HN.out, HO.out.2⟩
      case measure => simp [intOf]
    · have Y0 : wr.heap[q]? = some (.cells #[.int .u64 (oth x).a, .int .u64 (oth x).b, .int .u64 (oth x).c, .int .u64 (oth x).d] 25 (0, 0)) := y0
      have c0 := boxc Y0 0 _ rfl
      have c1 := boxc Y0 1 _ rfl
      have c2 := boxc Y0 2 _ rfl
      have c3 := boxc Y0 3 _ rfl
      have xx := Y2.out
      clear y0 hk
      go_wp2_with ((with_reducible show wpList _ _ _ (Oper.mk _ (Op.store 25 (.tmp 2) _) _ _ _ _ :: _) _ _); refine wpList_store_row rfl 25 (.tmp 2) _ rfl (q + 1) #[.int .u64 (oth x).a, .int .u64 (oth x).b, .int .u64 (oth x).c, .int .u64 (oth x).d] rfl rfl 25 #[.int .u64 0, .int .u64 0, .int .u64 0, .int .u64 0] xx clsize rfl (by simp [Value.oneCell']) ?_)
      have cc := setRow_heap _ (q + 1) _ #[.int .u64 (oth x).a, .int .u64 (oth x).b, .int .u64 (oth x).c, .int .u64 (oth x).d] _ _ xx
      have bb := below_setRow HB.out (g := q + 1) (by have := HQ.out; omega) #[.int .u64 (oth x).a, .int .u64 (oth x).b, .int .u64 (oth x).c, .int .u64 (oth x).d]
      obtain ⟨w9, h9⟩ : ∃ W, W = World.setRow wr (q + 1) #[.int .u64 (oth x).a, .int .u64 (oth x).b, .int .u64 (oth x).c, .int .u64 (oth x).d] := ⟨_, rfl⟩
      rw [← h9] at cc bb ⊢
      clear h9 c0 c1 c2 c3 xx Y0
      have k0 := boxc cc 0 _ rfl
      have k1 := boxc cc 1 _ rfl
      have k2 := boxc cc 2 _ rfl
      have k3 := boxc cc 3 _ rfl
      refine bodyPost_ret (v := .agg #[.int .u64 (oth x).a, .int .u64 (oth x).b, .int .u64 (oth x).c, .int .u64 (oth x).d]) (by simp [results, Try.results48, go_sem, k0, k1, k2, k3]) rfl ⟨rfl, bb⟩
end Go.Proofs.Ytbccejlemhgioaa
