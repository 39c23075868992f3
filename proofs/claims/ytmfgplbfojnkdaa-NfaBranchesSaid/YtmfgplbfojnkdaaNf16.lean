/- texts put together: RfOth, RfMbs. -/
import Derived.Test.YtmfgplbfojnkdaaNf01
import Derived.Test.YtmfgplbfojnkdaaNf10
import Derived.Test.YtmfgplbfojnkdaaNf12
import Derived.Test.YtmfgplbfojnkdaaNf15
import Derived.Deep.RegionLaw
namespace Go.Proofs.Ytmfgplbfojnkdaa
open Go Go.RowKit Go.ChangeShapes cl rx
open rf
def otK (x : Cls) (k : Nat) : Cls := ⟨if 0 < k then 18446744073709551615 - x.a else x.a, if 1 < k then 18446744073709551615 - x.b else x.b, if 2 < k then 18446744073709551615 - x.c else x.c, if 3 < k then 18446744073709551615 - x.d else x.d⟩
theorem u64_not (a : Nat) (ha : a < 18446744073709551616) : bits .xor .u64 (if IntKind.u64.signed = true then -1 else IntKind.u64.max) (a : Int) = ((18446744073709551615 - a : Nat) : Int) := by
 show IntKind.u64.wrap ((BitVec.ofInt 64 18446744073709551615 ^^^ BitVec.ofInt 64 (a : Int)).toNat : Int) = _
 have e : BitVec.ofInt 64 18446744073709551615 = BitVec.allOnes 64 := by decide
 rw [e, BitVec.allOnes_xor, BitVec.toNat_not, ofInt_u64 a (by omega)]
 exact IntWalk.u64_in _ ⟨by omega, by omega⟩
set_option maxHeartbeats 6400000 in
set_option maxRecDepth 100000 in
theorem rx_others (x : Cls) (w : World) (hx : x.ok) : Calls Try.prog 71 #[.agg #[.int .u64 x.a, .int .u64 x.b, .int .u64 x.c, .int .u64 x.d]] w (fun e w' => e = .returned (.agg #[.int .u64 (oth x).a, .int .u64 (oth x).b, .int .u64 (oth x).c, .int .u64 (oth x).d]) ∧ Below w.heap.size w w') := by
 obtain ⟨q, hq⟩ : ∃ q, q = w.heap.size := ⟨_, rfl⟩
 obtain ⟨W3, hW3⟩ : ∃ W, W = (w.alloc (.cells #[.int .u64 x.a, .int .u64 x.b, .int .u64 x.c, .int .u64 x.d] 24)).alloc (.cells #[.int .u64 0, .int .u64 0, .int .u64 0, .int .u64 0] 24) := ⟨_, rfl⟩
 have hs1 : (w.alloc (.cells #[.int .u64 x.a, .int .u64 x.b, .int .u64 x.c, .int .u64 x.d] 24)).heap.size = q + 1 := by rw [World.size_alloc, hq]
 have b1 : Below w.heap.size w (w.alloc (.cells #[.int .u64 x.a, .int .u64 x.b, .int .u64 x.c, .int .u64 x.d] 24)) := below1
 have b3 : Below w.heap.size w W3 := by rw [hW3]; exact b1.trans (below1.mono b1.size)
 have x0 : W3.heap[q]? = some (.cells #[.int .u64 (otK x 0).a, .int .u64 (otK x 0).b, .int .u64 (otK x 0).c, .int .u64 (otK x 0).d] 24 (0, 0)) := by
  rw [hW3]
  refine (below1.block q (by omega)).trans ?_
  rw [hq]; exact heap_alloc_new _ _
 have x2 : W3.heap[q + 1]? = some (.cells #[.int .u64 0, .int .u64 0, .int .u64 0, .int .u64 0] 24 (0, 0)) := by
  rw [hW3, ← hs1]; exact heap_alloc_new _ _
 have B3 := Lib.hid b3
 have X0 := Lib.hid x0
 have X2 := Lib.hid x2
 have HQ := Lib.hid hq
 have HW3 := Lib.hid hW3
 have OX := Lib.hid hx
 clear hs1 b1 b3 x0 x2 hq hW3 hx
 go_enter Try.func71, Try.ntmps71
 go_wp2
 rw [← HW3.out]
 rw [← HQ.out]
 go_loopw [4, 13] (fun i _ wr => ∃ k : Nat, i = .int .i64 k ∧ k ≤ 4 ∧ Below w.heap.size w wr ∧ wr.heap[q]? = some (.cells #[.int .u64 (otK x k).a, .int .u64 (otK x k).b, .int .u64 (otK x k).c, .int .u64 (otK x k).d] 24 (0, 0)) ∧ wr.heap[q + 1]? = some (.cells #[.int .u64 0, .int .u64 0, .int .u64 0, .int .u64 0] 24 (0, 0))) (fun i _ _ => 4 - (intOf i).toNat)
 case atStart => exact ⟨0, rfl, Nat.zero_le _, B3.out, X0.out, X2.out⟩
 case round =>
  obtain ⟨k, rfl, hk, hb, y0, y2⟩ := hrel
  have HB := Lib.hid hb
  have Y2 := Lib.hid y2
  clear hb y2 B3 X0 X2
  rcases (by omega : k = 0 ∨ k = 1 ∨ k = 2 ∨ k = 3 ∨ k = 4) with rfl | rfl | rfl | rfl | rfl
  ·
   have y0 : wr.heap[q]? = some (.cells #[.int .u64 (x.a : Int), .int .u64 (x.b : Int), .int .u64 (x.c : Int), .int .u64 (x.d : Int)] 24 (0, 0)) := y0
   have ff := boxf y0 0
   have cc : wr.cell? ⟨q, 0, none⟩ = some (.int .u64 (x.a : Int)) := boxc y0 0 _ rfl
   have hlt : x.a < 18446744073709551616 := OX.out.1
   have EV := u64_not x.a hlt
   have HN : Hid ((wr.setCell ⟨q, 0, none⟩ (.int .u64 (bits .xor .u64 (if IntKind.u64.signed = true then -1 else IntKind.u64.max) (x.a : Int)))).heap[q]? = some (.cells #[.int .u64 (otK x 1).a, .int .u64 (otK x 1).b, .int .u64 (otK x 1).c, .int .u64 (otK x 1).d] 24 (0, 0))) := by
    show _ = _
    rw [EV]
    exact heap_setCell_same wr q 0 _ _ _ y0
   have HO : Hid (Below w.heap.size w (wr.setCell ⟨q, 0, none⟩ (.int .u64 (bits .xor .u64 (if IntKind.u64.signed = true then -1 else IntKind.u64.max) (x.a : Int)))) ∧ (wr.setCell ⟨q, 0, none⟩ (.int .u64 (bits .xor .u64 (if IntKind.u64.signed = true then -1 else IntKind.u64.max) (x.a : Int)))).heap[q + 1]? = some (.cells #[.int .u64 0, .int .u64 0, .int .u64 0, .int .u64 0] 24 (0, 0))) := by
    have kx : KX q wr (wr.setCell ⟨q, 0, none⟩ (.int .u64 (bits .xor .u64 (if IntKind.u64.signed = true then -1 else IntKind.u64.max) (x.a : Int)))) := KX.cell
    have hb := HB.out
    refine ⟨hb.trans ⟨kx.1.1, kx.1.2.1, kx.1.2.2, kx.2.1, fun j hj => kx.2.2 j (by have := hb.size; omega) (by have := HQ.out; omega)⟩, (kx.2.2 _ (lt_of_block Y2.out) (by omega)).trans Y2.out⟩
   clear y0 EV hk
   go_wp2
   go_roundw
   case rel => exact ⟨1, by go_num, by omega, HO.out.1, HN.out, HO.out.2⟩
   case measure => simp [intOf]
  ·
   have y0 : wr.heap[q]? = some (.cells #[.int .u64 ((18446744073709551615 - x.a : Nat) : Int), .int .u64 (x.b : Int), .int .u64 (x.c : Int), .int .u64 (x.d : Int)] 24 (0, 0)) := y0
   have ff := boxf y0 1
   have cc : wr.cell? ⟨q, 1, none⟩ = some (.int .u64 (x.b : Int)) := boxc y0 1 _ rfl
   have hlt : x.b < 18446744073709551616 := OX.out.2.1
   have EV := u64_not x.b hlt
   have HN : Hid ((wr.setCell ⟨q, 1, none⟩ (.int .u64 (bits .xor .u64 (if IntKind.u64.signed = true then -1 else IntKind.u64.max) (x.b : Int)))).heap[q]? = some (.cells #[.int .u64 (otK x 2).a, .int .u64 (otK x 2).b, .int .u64 (otK x 2).c, .int .u64 (otK x 2).d] 24 (0, 0))) := by
    show _ = _
    rw [EV]
    exact heap_setCell_same wr q 1 _ _ _ y0
   have HO : Hid (Below w.heap.size w (wr.setCell ⟨q, 1, none⟩ (.int .u64 (bits .xor .u64 (if IntKind.u64.signed = true then -1 else IntKind.u64.max) (x.b : Int)))) ∧ (wr.setCell ⟨q, 1, none⟩ (.int .u64 (bits .xor .u64 (if IntKind.u64.signed = true then -1 else IntKind.u64.max) (x.b : Int)))).heap[q + 1]? = some (.cells #[.int .u64 0, .int .u64 0, .int .u64 0, .int .u64 0] 24 (0, 0))) := by
    have kx : KX q wr (wr.setCell ⟨q, 1, none⟩ (.int .u64 (bits .xor .u64 (if IntKind.u64.signed = true then -1 else IntKind.u64.max) (x.b : Int)))) := KX.cell
    have hb := HB.out
    refine ⟨hb.trans ⟨kx.1.1, kx.1.2.1, kx.1.2.2, kx.2.1, fun j hj => kx.2.2 j (by have := hb.size; omega) (by have := HQ.out; omega)⟩, (kx.2.2 _ (lt_of_block Y2.out) (by omega)).trans Y2.out⟩
   clear y0 EV hk
   go_wp2
   go_roundw
   case rel => exact ⟨2, by go_num, by omega, HO.out.1, HN.out, HO.out.2⟩
   case measure => simp [intOf]
  ·
   have y0 : wr.heap[q]? = some (.cells #[.int .u64 ((18446744073709551615 - x.a : Nat) : Int), .int .u64 ((18446744073709551615 - x.b : Nat) : Int), .int .u64 (x.c : Int), .int .u64 (x.d : Int)] 24 (0, 0)) := y0
   have ff := boxf y0 2
   have cc : wr.cell? ⟨q, 2, none⟩ = some (.int .u64 (x.c : Int)) := boxc y0 2 _ rfl
   have hlt : x.c < 18446744073709551616 := OX.out.2.2.1
   have EV := u64_not x.c hlt
   have HN : Hid ((wr.setCell ⟨q, 2, none⟩ (.int .u64 (bits .xor .u64 (if IntKind.u64.signed = true then -1 else IntKind.u64.max) (x.c : Int)))).heap[q]? = some (.cells #[.int .u64 (otK x 3).a, .int .u64 (otK x 3).b, .int .u64 (otK x 3).c, .int .u64 (otK x 3).d] 24 (0, 0))) := by
    show _ = _
    rw [EV]
    exact heap_setCell_same wr q 2 _ _ _ y0
   have HO : Hid (Below w.heap.size w (wr.setCell ⟨q, 2, none⟩ (.int .u64 (bits .xor .u64 (if IntKind.u64.signed = true then -1 else IntKind.u64.max) (x.c : Int)))) ∧ (wr.setCell ⟨q, 2, none⟩ (.int .u64 (bits .xor .u64 (if IntKind.u64.signed = true then -1 else IntKind.u64.max) (x.c : Int)))).heap[q + 1]? = some (.cells #[.int .u64 0, .int .u64 0, .int .u64 0, .int .u64 0] 24 (0, 0))) := by
    have kx : KX q wr (wr.setCell ⟨q, 2, none⟩ (.int .u64 (bits .xor .u64 (if IntKind.u64.signed = true then -1 else IntKind.u64.max) (x.c : Int)))) := KX.cell
    have hb := HB.out
    refine ⟨hb.trans ⟨kx.1.1, kx.1.2.1, kx.1.2.2, kx.2.1, fun j hj => kx.2.2 j (by have := hb.size; omega) (by have := HQ.out; omega)⟩, (kx.2.2 _ (lt_of_block Y2.out) (by omega)).trans Y2.out⟩
   clear y0 EV hk
   go_wp2
   go_roundw
   case rel => exact ⟨3, by go_num, by omega, HO.out.1, HN.out, HO.out.2⟩
   case measure => simp [intOf]
  ·
   have y0 : wr.heap[q]? = some (.cells #[.int .u64 ((18446744073709551615 - x.a : Nat) : Int), .int .u64 ((18446744073709551615 - x.b : Nat) : Int), .int .u64 ((18446744073709551615 - x.c : Nat) : Int), .int .u64 (x.d : Int)] 24 (0, 0)) := y0
   have ff := boxf y0 3
   have cc : wr.cell? ⟨q, 3, none⟩ = some (.int .u64 (x.d : Int)) := boxc y0 3 _ rfl
   have hlt : x.d < 18446744073709551616 := OX.out.2.2.2
   have EV := u64_not x.d hlt
   have HN : Hid ((wr.setCell ⟨q, 3, none⟩ (.int .u64 (bits .xor .u64 (if IntKind.u64.signed = true then -1 else IntKind.u64.max) (x.d : Int)))).heap[q]? = some (.cells #[.int .u64 (otK x 4).a, .int .u64 (otK x 4).b, .int .u64 (otK x 4).c, .int .u64 (otK x 4).d] 24 (0, 0))) := by
    show _ = _
    rw [EV]
    exact heap_setCell_same wr q 3 _ _ _ y0
   have HO : Hid (Below w.heap.size w (wr.setCell ⟨q, 3, none⟩ (.int .u64 (bits .xor .u64 (if IntKind.u64.signed = true then -1 else IntKind.u64.max) (x.d : Int)))) ∧ (wr.setCell ⟨q, 3, none⟩ (.int .u64 (bits .xor .u64 (if IntKind.u64.signed = true then -1 else IntKind.u64.max) (x.d : Int)))).heap[q + 1]? = some (.cells #[.int .u64 0, .int .u64 0, .int .u64 0, .int .u64 0] 24 (0, 0))) := by
    have kx : KX q wr (wr.setCell ⟨q, 3, none⟩ (.int .u64 (bits .xor .u64 (if IntKind.u64.signed = true then -1 else IntKind.u64.max) (x.d : Int)))) := KX.cell
    have hb := HB.out
    refine ⟨hb.trans ⟨kx.1.1, kx.1.2.1, kx.1.2.2, kx.2.1, fun j hj => kx.2.2 j (by have := hb.size; omega) (by have := HQ.out; omega)⟩, (kx.2.2 _ (lt_of_block Y2.out) (by omega)).trans Y2.out⟩
   clear y0 EV hk
   go_wp2
   go_roundw
   case rel => exact ⟨4, by go_num, by omega, HO.out.1, HN.out, HO.out.2⟩
   case measure => simp [intOf]
  ·
   have Y0 : wr.heap[q]? = some (.cells #[.int .u64 (oth x).a, .int .u64 (oth x).b, .int .u64 (oth x).c, .int .u64 (oth x).d] 24 (0, 0)) := y0
   have c0 := boxc Y0 0 _ rfl
   have c1 := boxc Y0 1 _ rfl
   have c2 := boxc Y0 2 _ rfl
   have c3 := boxc Y0 3 _ rfl
   have xx := Y2.out
   clear y0 hk
   go_wp2_with ((with_reducible show wpList _ _ _ (Oper.mk _ (Op.store 24 (.tmp 2) _) _ _ _ _ :: _) _ _); refine wpList_store_row rfl 24 (.tmp 2) _ rfl (q + 1) #[.int .u64 (oth x).a, .int .u64 (oth x).b, .int .u64 (oth x).c, .int .u64 (oth x).d] rfl rfl 24 #[.int .u64 0, .int .u64 0, .int .u64 0, .int .u64 0] xx clsize rfl (by simp [Value.oneCell']) ?_)
   have cc := setRow_heap _ (q + 1) _ #[.int .u64 (oth x).a, .int .u64 (oth x).b, .int .u64 (oth x).c, .int .u64 (oth x).d] _ _ xx
   have bb := below_setRow HB.out (g := q + 1) (by have := HQ.out; omega) #[.int .u64 (oth x).a, .int .u64 (oth x).b, .int .u64 (oth x).c, .int .u64 (oth x).d]
   obtain ⟨w9, h9⟩ : ∃ W, W = World.setRow wr (q + 1) #[.int .u64 (oth x).a, .int .u64 (oth x).b, .int .u64 (oth x).c, .int .u64 (oth x).d] := ⟨_, rfl⟩
   rw [← h9] at cc bb ⊢
   clear h9 c0 c1 c2 c3 xx Y0
   have k0 := boxc cc 0 _ rfl
   have k1 := boxc cc 1 _ rfl
   have k2 := boxc cc 2 _ rfl
   have k3 := boxc cc 3 _ rfl
   refine bodyPost_ret (v := .agg #[.int .u64 (oth x).a, .int .u64 (oth x).b, .int .u64 (oth x).c, .int .u64 (oth x).d]) (by simp [results, Try.results71, go_sem, k0, k1, k2, k3]) rfl ⟨rfl, bb⟩
end Go.Proofs.Ytmfgplbfojnkdaa
namespace Go.Proofs.Ytmfgplbfojnkdaa
open Go Go.RowKit Go.ChangeShapes cl rx
open rf
theorem set_four {w : World} {q p : Nat} {T : TypeId} {u0 u1 u2 u3 v0 v1 v2 v3 : Value} (h : w.heap[q]? = some (.cells #[u0, u1, u2, u3] T (0, 0))) :
  ((((w.setCell ⟨q, 0, none⟩ v0).setCell ⟨q, 1, none⟩ v1).setCell ⟨q, 2, none⟩ v2).setCell ⟨q, 3, none⟩ v3).heap[q]? = some (.cells #[v0, v1, v2, v3] T (0, 0)) ∧ (p = p → KX q w ((((w.setCell ⟨q, 0, none⟩ v0).setCell ⟨q, 1, none⟩ v1).setCell ⟨q, 2, none⟩ v2).setCell ⟨q, 3, none⟩ v3)) := by
 have h1 : (w.setCell ⟨q, 0, none⟩ v0).heap[q]? = some (.cells #[v0, u1, u2, u3] T (0, 0)) := heap_setCell_same w q 0 _ _ _ h
 have h2 : ((w.setCell ⟨q, 0, none⟩ v0).setCell ⟨q, 1, none⟩ v1).heap[q]? = some (.cells #[v0, v1, u2, u3] T (0, 0)) := heap_setCell_same _ q 1 _ _ _ h1
 have h3 : (((w.setCell ⟨q, 0, none⟩ v0).setCell ⟨q, 1, none⟩ v1).setCell ⟨q, 2, none⟩ v2).heap[q]? = some (.cells #[v0, v1, v2, u3] T (0, 0)) := heap_setCell_same _ q 2 _ _ _ h2
 have h4 : ((((w.setCell ⟨q, 0, none⟩ v0).setCell ⟨q, 1, none⟩ v1).setCell ⟨q, 2, none⟩ v2).setCell ⟨q, 3, none⟩ v3).heap[q]? = some (.cells #[v0, v1, v2, v3] T (0, 0)) := heap_setCell_same _ q 3 _ _ _ h3
 exact ⟨h4, fun _ => KX.cell.trans (KX.cell.trans (KX.cell.trans KX.cell))⟩
set_option maxHeartbeats 12800000 in
set_option maxRecDepth 100000 in
theorem rf_members (q : Nat) (S : ByteArray) (dp : Int) (t : T) (a : Nat) (w : World) (h : RdT q S dp t w) (hS : S.size ≤ 60) (hp : t.p ≤ S.size) : Calls Try.prog 69 #[.pointer (some ⟨q, 0, none⟩), .int .i64 a] w (fun e w' => e = .returned (.agg #[.int .u64 (rf.members (kit.bytes S) a t).1.a, .int .u64 (rf.members (kit.bytes S) a t).1.b, .int .u64 (rf.members (kit.bytes S) a t).1.c, .int .u64 (rf.members (kit.bytes S) a t).1.d]) ∧ RKT q S dp (rf.members (kit.bytes S) a t).2 w w') := by
 have hby : ∀ c ∈ kit.bytes S, c < 256 := kit.bytes_lt S
 have hlen : (kit.bytes S).length = S.size := by simp [kit.bytes]
 obtain ⟨r, hr⟩ : ∃ r, r = rf.members (kit.bytes S) a t := ⟨_, rfl⟩
 rw [← hr]
 obtain ⟨nt, t1, hm1⟩ : ∃ b t', rf.meets (kit.bytes S) 94 t = (b, t') := ⟨_, _, rfl⟩
 have hp1 : t1.p ≤ S.size := by
  have h := (meets_pr (s := kit.bytes S) (t := t) 94).2 (by omega)
  rw [hm1] at h; simp only at h; omega
 obtain ⟨fx, ft, fo, hfin⟩ : ∃ fx ft fo, mems (kit.bytes S) a ((kit.bytes S).length + 1) .zero t1 = (fx, ft, fo) := ⟨_, _, _, rfl⟩
 have hfx : fx.ok := by have h := mems_ok hby a ((kit.bytes S).length + 1) .zero t1 zero_ok; rw [hfin] at h; exact h
 have HMG : Hid (∀ (c : Nat) (t : T) (W : World), RdT q S dp t W → Calls Try.prog 61 #[.pointer (some ⟨q, 0, none⟩), .int .u8 (c : Int)] W (fun e w' => e = .returned (.bool (rf.meets (kit.bytes S) c t).1) ∧ RKT q S dp (rf.meets (kit.bytes S) c t).2 W w')) := fun c t W hW => rf_meets q S dp t c W hW hS
 have HM1 : Hid (∀ W, RdT q S dp t W → Calls Try.prog 61 #[.pointer (some ⟨q, 0, none⟩), .int .u8 94] W (fun e w' => e = .returned (.bool nt) ∧ RKT q S dp t1 W w')) := fun W hW => by have h := HMG.out 94 t W hW; rw [hm1] at h; exact h
 have HF : Hid (∀ (t' : T) (W : World), RdT q S dp t' W → Calls Try.prog 55 #[.pointer (some ⟨q, 0, none⟩), .int .i64 (a : Int), .int .i64 9] W (fun e w' => e = .returned (.tuple #[]) ∧ RKT q S dp (t'.fail a 9) W w')) := fun t' W hW => rf_fail q S dp t' a 9 W hW
 have HNX : Hid (∀ (t : T) (W : World), RdT q S dp t W → Calls Try.prog 63 #[.pointer (some ⟨q, 0, none⟩)] W (fun e w' => e = .returned (.tuple #[.int .u8 (((rf.nxt (kit.bytes S) t).getD 0 : Nat) : Int), .bool (rf.nxt (kit.bytes S) t).isSome]) ∧ Below W.heap.size W w')) := fun t W hW => rf_next q S dp t W hW hS
 have HMM : Hid (∀ (t : T) (W : World), t.p < S.size → RdT q S dp t W → Calls Try.prog 76 #[.pointer (some ⟨q, 0, none⟩)] W (fun e w' => e = .returned (.agg #[.int .u64 (rf.member (kit.bytes S) t).1.a, .int .u64 (rf.member (kit.bytes S) t).1.b, .int .u64 (rf.member (kit.bytes S) t).1.c, .int .u64 (rf.member (kit.bytes S) t).1.d]) ∧ RKT q S dp (rf.member (kit.bytes S) t).2 W w')) := fun t W hp hW => rf_member q S dp t W hW hS hp
 have HRE : Hid (r = (if fo = false then (fx, ft) else if (if nt = true then oth fx else fx) = Cls.zero then ((if nt = true then oth fx else fx), ft.fail a 9) else ((if nt = true then oth fx else fx), ft))) := by
  show _ = _
  rw [hr]
  unfold rf.members
  simp only [hm1, hfin]
 have HLEN := Lib.hid hlen
 have HFS := Lib.hid hfin
 have HFX := Lib.hid hfx
 have HBY := Lib.hid hby
 obtain ⟨q1, hq1⟩ : ∃ q1, q1 = w.heap.size := ⟨_, rfl⟩
 have hqq : q < q1 := by rw [hq1]; exact lt_of_block h
 obtain ⟨W3, hW3⟩ : ∃ W, W = w.alloc (.cells #[.int .u64 0, .int .u64 0, .int .u64 0, .int .u64 0] 24) := ⟨_, rfl⟩
 have b3 : Below w.heap.size w W3 := by rw [hW3]; exact below1
 have R3 := Lib.hid (h.next b3)
 have K3 := Lib.hid (KX.of (q := q) b3)
 have Z3 : Hid (W3.heap[q1]? = some (.cells #[.int .u64 0, .int .u64 0, .int .u64 0, .int .u64 0] 24)) := by show _ = _; rw [hW3, hq1]; exact heap_alloc_new _ _
 have HW3 := Lib.hid hW3
 have HQ1 := Lib.hid hq1
 have HQQ := Lib.hid hqq
 clear hq1 hqq hW3 b3
 clear h hr hm1 hfin hlen hfx hby
 go_enter Try.func69, Try.ntmps69
 go_wp2_with fail
 rw [← HW3.out, ← HQ1.out]
 (with_reducible refine (HM1.out _ R3.out).mono ?_)
 rintro e4 w4 ⟨rfl, r4, k4⟩
 have R4 := Lib.hid r4
 have K4 := Lib.hid (K3.out.trans k4)
 have Z4 := Lib.hid ((k4.2.2 q1 (lt_of_block Z3.out) (by have := HQQ.out; omega)).trans Z3.out)
 clear r4 k4
 go_wp2_with fail
 obtain ⟨q2, hq5⟩ : ∃ z, z = w4.heap.size := ⟨_, rfl⟩
 obtain ⟨w5, hw5⟩ : ∃ W, W = w4.alloc (.cells #[.int .u64 0, .int .u64 0, .int .u64 0, .int .u64 0] 24) := ⟨_, rfl⟩
 have b5 : Below w4.heap.size w4 w5 := by rw [hw5]; exact below1
 have R5 := Lib.hid (R4.out.next b5)
 have K5 := Lib.hid (K4.out.next b5)
 have X5 : Hid (w5.heap[q2]? = some (.cells #[.int .u64 0, .int .u64 0, .int .u64 0, .int .u64 0] 24)) := by show _ = _; rw [hw5, hq5]; exact heap_alloc_new _ _
 have HQX : Hid (q < q2) := by show _ < _; rw [hq5]; exact lt_of_block R4.out
 have Z5 := Lib.hid ((b5.block _ (lt_of_block Z4.out)).trans Z4.out)
 have HW5 := Lib.hid hw5
 have HQE5 := Lib.hid hq5
 clear b5 hw5 hq5
 rw [← HW5.out, ← HQE5.out]
 go_loopw [] (fun wr => ∃ (f : Nat) (x : Cls) (tt : T), Hid (mems (kit.bytes S) a f x tt = (fx, ft, fo)) ∧ S.size < tt.p + f ∧ tt.p ≤ S.size ∧ Hid (x.ok) ∧ Hid (RdT q S dp tt wr) ∧ Hid (KX q w wr) ∧ Hid (wr.heap[q1]? = some (.cells #[.int .u64 0, .int .u64 0, .int .u64 0, .int .u64 0] 24)) ∧ Hid (wr.heap[q2]? = some (.cells #[.int .u64 x.a, .int .u64 x.b, .int .u64 x.c, .int .u64 x.d] 24))) (fun wr => S.size + 1 - pOf wr q)
 case atStart => exact ⟨(kit.bytes S).length + 1, Cls.zero, t1, HFS.out, by have := HLEN.out; omega, hp1, zero_ok, R5.out, K5.out, Z5.out, X5.out⟩
 case round =>
  obtain ⟨f, x, tt, HFI, hf, hts, OX, R6, K6, Z6, X6⟩ := hrel
  obtain ⟨w6, hw6⟩ : ∃ W, W = wr := ⟨_, rfl⟩
  rw [← hw6] at R6 K6 Z6 X6 ⊢
  have HWR := Lib.hid hw6
  clear hw6
  obtain ⟨f1, rfl⟩ : ∃ f', f = f' + 1 := ⟨f - 1, by omega⟩
  obtain ⟨b, te, hme⟩ : ∃ b t', rf.meets (kit.bytes S) 93 tt = (b, t') := ⟨_, _, rfl⟩
  have HME1 : Hid (∀ W, RdT q S dp tt W → Calls Try.prog 61 #[.pointer (some ⟨q, 0, none⟩), .int .u8 93] W (fun e w' => e = .returned (.bool b) ∧ RKT q S dp te W w')) := fun W hW => by have h := HMG.out 93 tt W hW; rw [hme] at h; exact h
  have HPO : Hid (pOf wr q = tt.p) := by show _ = _; rw [← HWR.out]; exact R6.out.pOf
  cases b with
  | true =>
   have HEQ : Hid (fx = x ∧ ft = te ∧ fo = true) := by
    have h := HFI.out
    unfold mems at h
    rw [hme] at h
    simp only [if_true, Prod.mk.injEq] at h
    exact ⟨h.1.symm, h.2.1.symm, h.2.2.symm⟩
   obtain ⟨e1, e2, e3⟩ := HEQ.out
   have HR2 : Hid (r = (if (if nt = true then oth x else x) = Cls.zero then ((if nt = true then oth x else x), te.fail a 9) else ((if nt = true then oth x else x), te))) := by
    show _ = _
    rw [HRE.out, e1, e2, e3, if_neg (by decide)]
   clear e1 e2 e3 hme
   go_wp2_with fail
   (with_reducible refine (HME1.out _ R6.out).mono ?_)
   rintro e7 w7 ⟨rfl, r7, k7⟩
   have R7 := Lib.hid r7
   have K7 := Lib.hid (K6.out.trans k7)
   have Z7 := Lib.hid ((k7.2.2 q1 (lt_of_block Z6.out) (by have := HQQ.out; omega)).trans Z6.out)
   have X7 := Lib.hid ((k7.2.2 q2 (lt_of_block X6.out) (by have := HQX.out; omega)).trans X6.out)
   clear r7 k7
   cases nt with
   | true =>
    have HOT : Hid (∀ W, Calls Try.prog 71 #[.agg #[.int .u64 x.a, .int .u64 x.b, .int .u64 x.c, .int .u64 x.d]] W (fun e w' => e = .returned (.agg #[.int .u64 (oth x).a, .int .u64 (oth x).b, .int .u64 (oth x).c, .int .u64 (oth x).d]) ∧ Below W.heap.size W w')) := fun W => rx_others x W OX.out
    have HR3 : Hid (r = (if oth x = Cls.zero then (oth x, te.fail a 9) else (oth x, te))) := HR2.out
    have l0 := boxc X7.out 0 _ rfl
    have l1 := boxc X7.out 1 _ rfl
    have l2 := boxc X7.out 2 _ rfl
    have l3 := boxc X7.out 3 _ rfl
    go_wp2_with fail
    clear l0 l1 l2 l3
    (with_reducible refine (HOT.out _).mono ?_)
    rintro e8 w8 ⟨rfl, b8⟩
    have R8 := Lib.hid (R7.out.next b8)
    have K8 := Lib.hid (K7.out.next b8)
    have Z8 := Lib.hid ((b8.block _ (lt_of_block Z7.out)).trans Z7.out)
    have X8 := Lib.hid ((b8.block _ (lt_of_block X7.out)).trans X7.out)
    clear b8
    obtain ⟨y, hy⟩ : ∃ y, y = oth x := ⟨_, rfl⟩
    rw [← hy] at HR3 ⊢
    clear hy
    by_cases hz : y = Cls.zero
    ·
     have HV : Hid (r = (y, te.fail a 9)) := by show _ = _; rw [HR3.out, if_pos hz]
     have hisz : y.isz = true := decide_eq_true hz
     clear hz
     have hx8 := X8.out
     have XP := setRow_heap _ q2 _ #[.int .u64 y.a, .int .u64 y.b, .int .u64 y.c, .int .u64 y.d] _ _ hx8
     have ZP := (setRow_other w8 q2 q1 #[.int .u64 y.a, .int .u64 y.b, .int .u64 y.c, .int .u64 y.d] (by have := lt_of_block Z4.out; have := HQE5.out; omega)).trans Z8.out
     have l0 := boxc XP 0 _ rfl
     have l1 := boxc XP 1 _ rfl
     have l2 := boxc XP 2 _ rfl
     have l3 := boxc XP 3 _ rfl
     go_wp2_with (first | ((with_reducible show wpList _ _ _ (Oper.mk _ (Op.store 24 (.tmp 6) _) _ _ _ _ :: _) _ _); refine wpList_store_row rfl 24 (.tmp 6) _ rfl (q2) #[.int .u64 y.a, .int .u64 y.b, .int .u64 y.c, .int .u64 y.d] rfl rfl 24 #[.int .u64 x.a, .int .u64 x.b, .int .u64 x.c, .int .u64 x.d] hx8 clsize rfl (by simp [Value.oneCell']) ?_) | ((with_reducible show wpList _ _ _ (Oper.mk _ (Op.store 24 (.tmp 4) _) _ _ _ _ :: _) _ _); refine wpList_store_row rfl 24 (.tmp 4) _ rfl (q1) #[.int .u64 y.a, .int .u64 y.b, .int .u64 y.c, .int .u64 y.d] rfl rfl 24 #[.int .u64 0, .int .u64 0, .int .u64 0, .int .u64 0] ZP clsize rfl (by simp [Value.oneCell']) ?_))
     have RZ := Lib.hid (R8.out.keep (KX.row (cs := #[.int .u64 y.a, .int .u64 y.b, .int .u64 y.c, .int .u64 y.d])) (p := q2) (by have := HQX.out; omega))
     have KZ : Hid (KX q w (World.setRow w8 q2 #[.int .u64 y.a, .int .u64 y.b, .int .u64 y.c, .int .u64 y.d])) := K8.out.trans' KX.row (by have := HQE5.out; have := K4.out.2.1; omega)
     have ZZ := Lib.hid ZP
     have XZ := Lib.hid XP
     obtain ⟨w9, hw9⟩ : ∃ W, W = (World.setRow w8 q2 #[.int .u64 y.a, .int .u64 y.b, .int .u64 y.c, .int .u64 y.d]) := ⟨_, rfl⟩
     clear hx8 l0 l1 l2 l3 XP ZP
     rw [← hw9] at RZ KZ ZZ XZ ⊢
     have R9 := RZ
     have K9 := KZ
     have Z9 := ZZ
     have X9 := XZ
     clear hw9 RZ KZ ZZ XZ
     (with_reducible refine (HF.out _ _ R9.out).mono ?_)
     rintro e10 w10 ⟨rfl, r10, k10⟩
     have R10 := Lib.hid r10
     have K10 := Lib.hid (K9.out.trans k10)
     have Z10 := Lib.hid ((k10.2.2 q1 (lt_of_block Z9.out) (by have := HQQ.out; omega)).trans Z9.out)
     have X10 := Lib.hid ((k10.2.2 q2 (lt_of_block X9.out) (by have := HQX.out; omega)).trans X9.out)
     clear r10 k10
     have l0 := boxc X10.out 0 _ rfl
     have l1 := boxc X10.out 1 _ rfl
     have l2 := boxc X10.out 2 _ rfl
     have l3 := boxc X10.out 3 _ rfl
     go_wp2_with ((with_reducible show wpList _ _ _ (Oper.mk _ (Op.store 24 (.tmp 4) _) _ _ _ _ :: _) _ _); refine wpList_store_row rfl 24 (.tmp 4) _ rfl (q1) #[.int .u64 y.a, .int .u64 y.b, .int .u64 y.c, .int .u64 y.d] rfl rfl 24 #[.int .u64 0, .int .u64 0, .int .u64 0, .int .u64 0] Z10.out clsize rfl (by simp [Value.oneCell']) ?_)
     have cc := setRow_heap _ q1 _ #[.int .u64 y.a, .int .u64 y.b, .int .u64 y.c, .int .u64 y.d] _ _ Z10.out
     have rr : RdT q S dp _ (World.setRow w10 q1 #[.int .u64 y.a, .int .u64 y.b, .int .u64 y.c, .int .u64 y.d]) := R10.out.keep KX.row (by have := HQQ.out; omega)
     have kk : KX q w (World.setRow w10 q1 #[.int .u64 y.a, .int .u64 y.b, .int .u64 y.c, .int .u64 y.d]) := K10.out.trans' KX.row (by have := HQ1.out; omega)
     obtain ⟨w99, h99⟩ : ∃ W, W = World.setRow w10 q1 #[.int .u64 y.a, .int .u64 y.b, .int .u64 y.c, .int .u64 y.d] := ⟨_, rfl⟩
     rw [← h99] at cc rr kk ⊢
     clear h99
     have k0 := boxc cc 0 _ rfl
     have k1 := boxc cc 1 _ rfl
     have k2 := boxc cc 2 _ rfl
     have k3 := boxc cc 3 _ rfl
     refine bodyPost_ret (v := .agg #[.int .u64 y.a, .int .u64 y.b, .int .u64 y.c, .int .u64 y.d]) (by simp [results, Try.results69, go_sem, k0, k1, k2, k3]) rfl ⟨by rw [HV.out]; try rfl, by rw [HV.out]; exact rr, kk⟩
    ·
     have HV : Hid (r = (y, te)) := by show _ = _; rw [HR3.out, if_neg hz]
     have hisz : y.isz = false := decide_eq_false hz
     clear hz
     have hx8 := X8.out
     have XP := setRow_heap _ q2 _ #[.int .u64 y.a, .int .u64 y.b, .int .u64 y.c, .int .u64 y.d] _ _ hx8
     have ZP := (setRow_other w8 q2 q1 #[.int .u64 y.a, .int .u64 y.b, .int .u64 y.c, .int .u64 y.d] (by have := lt_of_block Z4.out; have := HQE5.out; omega)).trans Z8.out
     have l0 := boxc XP 0 _ rfl
     have l1 := boxc XP 1 _ rfl
     have l2 := boxc XP 2 _ rfl
     have l3 := boxc XP 3 _ rfl
     go_wp2_with (first | ((with_reducible show wpList _ _ _ (Oper.mk _ (Op.store 24 (.tmp 6) _) _ _ _ _ :: _) _ _); refine wpList_store_row rfl 24 (.tmp 6) _ rfl (q2) #[.int .u64 y.a, .int .u64 y.b, .int .u64 y.c, .int .u64 y.d] rfl rfl 24 #[.int .u64 x.a, .int .u64 x.b, .int .u64 x.c, .int .u64 x.d] hx8 clsize rfl (by simp [Value.oneCell']) ?_) | ((with_reducible show wpList _ _ _ (Oper.mk _ (Op.store 24 (.tmp 4) _) _ _ _ _ :: _) _ _); refine wpList_store_row rfl 24 (.tmp 4) _ rfl (q1) #[.int .u64 y.a, .int .u64 y.b, .int .u64 y.c, .int .u64 y.d] rfl rfl 24 #[.int .u64 0, .int .u64 0, .int .u64 0, .int .u64 0] ZP clsize rfl (by simp [Value.oneCell']) ?_))
     have RZ := Lib.hid (R8.out.keep (KX.row (cs := #[.int .u64 y.a, .int .u64 y.b, .int .u64 y.c, .int .u64 y.d])) (p := q2) (by have := HQX.out; omega))
     have KZ : Hid (KX q w (World.setRow w8 q2 #[.int .u64 y.a, .int .u64 y.b, .int .u64 y.c, .int .u64 y.d])) := K8.out.trans' KX.row (by have := HQE5.out; have := K4.out.2.1; omega)
     have ZZ := Lib.hid ZP
     have XZ := Lib.hid XP
     obtain ⟨w9, hw9⟩ : ∃ W, W = (World.setRow w8 q2 #[.int .u64 y.a, .int .u64 y.b, .int .u64 y.c, .int .u64 y.d]) := ⟨_, rfl⟩
     clear hx8 l0 l1 l2 l3 XP ZP
     rw [← hw9] at RZ KZ ZZ XZ ⊢
     have R9 := RZ
     have K9 := KZ
     have Z9 := ZZ
     have X9 := XZ
     clear hw9 RZ KZ ZZ XZ
     have cc := setRow_heap _ q1 _ #[.int .u64 y.a, .int .u64 y.b, .int .u64 y.c, .int .u64 y.d] _ _ Z9.out
     have rr : RdT q S dp _ (World.setRow w9 q1 #[.int .u64 y.a, .int .u64 y.b, .int .u64 y.c, .int .u64 y.d]) := R9.out.keep KX.row (by have := HQQ.out; omega)
     have kk : KX q w (World.setRow w9 q1 #[.int .u64 y.a, .int .u64 y.b, .int .u64 y.c, .int .u64 y.d]) := K9.out.trans' KX.row (by have := HQ1.out; omega)
     obtain ⟨w99, h99⟩ : ∃ W, W = World.setRow w9 q1 #[.int .u64 y.a, .int .u64 y.b, .int .u64 y.c, .int .u64 y.d] := ⟨_, rfl⟩
     rw [← h99] at cc rr kk ⊢
     clear h99
     have k0 := boxc cc 0 _ rfl
     have k1 := boxc cc 1 _ rfl
     have k2 := boxc cc 2 _ rfl
     have k3 := boxc cc 3 _ rfl
     refine bodyPost_ret (v := .agg #[.int .u64 y.a, .int .u64 y.b, .int .u64 y.c, .int .u64 y.d]) (by simp [results, Try.results69, go_sem, k0, k1, k2, k3]) rfl ⟨by rw [HV.out]; try rfl, by rw [HV.out]; exact rr, kk⟩
   | false =>
    have HR3 : Hid (r = (if x = Cls.zero then (x, te.fail a 9) else (x, te))) := HR2.out
    by_cases hz : x = Cls.zero
    ·
     have HV : Hid (r = (x, te.fail a 9)) := by show _ = _; rw [HR3.out, if_pos hz]
     have hisz : x.isz = true := decide_eq_true hz
     clear hz
     have l0 := boxc X7.out 0 _ rfl
     have l1 := boxc X7.out 1 _ rfl
     have l2 := boxc X7.out 2 _ rfl
     have l3 := boxc X7.out 3 _ rfl
     go_wp2_with fail
     clear l0 l1 l2 l3
     (with_reducible refine (HF.out _ _ R7.out).mono ?_)
     rintro e8 w8 ⟨rfl, r8, k8⟩
     have R8 := Lib.hid r8
     have K8 := Lib.hid (K7.out.trans k8)
     have Z8 := Lib.hid ((k8.2.2 q1 (lt_of_block Z7.out) (by have := HQQ.out; omega)).trans Z7.out)
     have X8 := Lib.hid ((k8.2.2 q2 (lt_of_block X7.out) (by have := HQX.out; omega)).trans X7.out)
     clear r8 k8
     have l0 := boxc X8.out 0 _ rfl
     have l1 := boxc X8.out 1 _ rfl
     have l2 := boxc X8.out 2 _ rfl
     have l3 := boxc X8.out 3 _ rfl
     go_wp2_with ((with_reducible show wpList _ _ _ (Oper.mk _ (Op.store 24 (.tmp 4) _) _ _ _ _ :: _) _ _); refine wpList_store_row rfl 24 (.tmp 4) _ rfl (q1) #[.int .u64 x.a, .int .u64 x.b, .int .u64 x.c, .int .u64 x.d] rfl rfl 24 #[.int .u64 0, .int .u64 0, .int .u64 0, .int .u64 0] Z8.out clsize rfl (by simp [Value.oneCell']) ?_)
     have cc := setRow_heap _ q1 _ #[.int .u64 x.a, .int .u64 x.b, .int .u64 x.c, .int .u64 x.d] _ _ Z8.out
     have rr : RdT q S dp _ (World.setRow w8 q1 #[.int .u64 x.a, .int .u64 x.b, .int .u64 x.c, .int .u64 x.d]) := R8.out.keep KX.row (by have := HQQ.out; omega)
     have kk : KX q w (World.setRow w8 q1 #[.int .u64 x.a, .int .u64 x.b, .int .u64 x.c, .int .u64 x.d]) := K8.out.trans' KX.row (by have := HQ1.out; omega)
     obtain ⟨w99, h99⟩ : ∃ W, W = World.setRow w8 q1 #[.int .u64 x.a, .int .u64 x.b, .int .u64 x.c, .int .u64 x.d] := ⟨_, rfl⟩
     rw [← h99] at cc rr kk ⊢
     clear h99
     have k0 := boxc cc 0 _ rfl
     have k1 := boxc cc 1 _ rfl
     have k2 := boxc cc 2 _ rfl
     have k3 := boxc cc 3 _ rfl
     refine bodyPost_ret (v := .agg #[.int .u64 x.a, .int .u64 x.b, .int .u64 x.c, .int .u64 x.d]) (by simp [results, Try.results69, go_sem, k0, k1, k2, k3]) rfl ⟨by rw [HV.out]; try rfl, by rw [HV.out]; exact rr, kk⟩
    ·
     have HV : Hid (r = (x, te)) := by show _ = _; rw [HR3.out, if_neg hz]
     have hisz : x.isz = false := decide_eq_false hz
     clear hz
     have l0 := boxc X7.out 0 _ rfl
     have l1 := boxc X7.out 1 _ rfl
     have l2 := boxc X7.out 2 _ rfl
     have l3 := boxc X7.out 3 _ rfl
     go_wp2_with ((with_reducible show wpList _ _ _ (Oper.mk _ (Op.store 24 (.tmp 4) _) _ _ _ _ :: _) _ _); refine wpList_store_row rfl 24 (.tmp 4) _ rfl (q1) #[.int .u64 x.a, .int .u64 x.b, .int .u64 x.c, .int .u64 x.d] rfl rfl 24 #[.int .u64 0, .int .u64 0, .int .u64 0, .int .u64 0] Z7.out clsize rfl (by simp [Value.oneCell']) ?_)
     have cc := setRow_heap _ q1 _ #[.int .u64 x.a, .int .u64 x.b, .int .u64 x.c, .int .u64 x.d] _ _ Z7.out
     have rr : RdT q S dp _ (World.setRow w7 q1 #[.int .u64 x.a, .int .u64 x.b, .int .u64 x.c, .int .u64 x.d]) := R7.out.keep KX.row (by have := HQQ.out; omega)
     have kk : KX q w (World.setRow w7 q1 #[.int .u64 x.a, .int .u64 x.b, .int .u64 x.c, .int .u64 x.d]) := K7.out.trans' KX.row (by have := HQ1.out; omega)
     obtain ⟨w99, h99⟩ : ∃ W, W = World.setRow w7 q1 #[.int .u64 x.a, .int .u64 x.b, .int .u64 x.c, .int .u64 x.d] := ⟨_, rfl⟩
     rw [← h99] at cc rr kk ⊢
     clear h99
     have k0 := boxc cc 0 _ rfl
     have k1 := boxc cc 1 _ rfl
     have k2 := boxc cc 2 _ rfl
     have k3 := boxc cc 3 _ rfl
     refine bodyPost_ret (v := .agg #[.int .u64 x.a, .int .u64 x.b, .int .u64 x.c, .int .u64 x.d]) (by simp [results, Try.results69, go_sem, k0, k1, k2, k3]) rfl ⟨by rw [HV.out]; try rfl, by rw [HV.out]; exact rr, kk⟩
  | false =>
   have hte : te = tt := by
    have h := hme
    unfold rf.meets at h
    split at h
    ·
     cases h
    ·
     simp only [Prod.mk.injEq] at h; exact h.2.symm
   subst hte
   obtain ⟨o, ho⟩ : ∃ o, o = rf.nxt (kit.bytes S) te := ⟨_, rfl⟩
   have HN1 := Lib.hid (HNX.out te)
   rw [← ho] at HN1
   cases o with
   | none =>
    simp only [Option.getD_none, Option.isSome_none] at HN1
    have HEQ : Hid (fx = x ∧ ft = te.fail a 9 ∧ fo = false) := by
     have h := HFI.out
     unfold mems at h
     rw [hme] at h
     simp only [Bool.false_eq_true, if_false, ← ho, Prod.mk.injEq] at h
     exact ⟨h.1.symm, h.2.1.symm, h.2.2.symm⟩
    obtain ⟨e1, e2, e3⟩ := HEQ.out
    have HV : Hid (r = (x, te.fail a 9)) := by
     show _ = _
     rw [HRE.out, e1, e2, e3, if_pos rfl]
    clear e1 e2 e3 hme ho
    go_wp2_with fail
    (with_reducible refine (HME1.out _ R6.out).mono ?_)
    rintro e7 w7 ⟨rfl, r7, k7⟩
    have R7 := Lib.hid r7
    have K7 := Lib.hid (K6.out.trans k7)
    have Z7 := Lib.hid ((k7.2.2 q1 (lt_of_block Z6.out) (by have := HQQ.out; omega)).trans Z6.out)
    have X7 := Lib.hid ((k7.2.2 q2 (lt_of_block X6.out) (by have := HQX.out; omega)).trans X6.out)
    clear r7 k7
    go_wp2_with fail
    (with_reducible refine (HN1.out _ R7.out).mono ?_)
    rintro e8 w8 ⟨rfl, b8⟩
    have R8 := Lib.hid (R7.out.next b8)
    have K8 := Lib.hid (K7.out.next b8)
    have Z8 := Lib.hid ((b8.block _ (lt_of_block Z7.out)).trans Z7.out)
    have X8 := Lib.hid ((b8.block _ (lt_of_block X7.out)).trans X7.out)
    clear b8
    go_wp2_with fail
    (with_reducible refine (HF.out _ _ R8.out).mono ?_)
    rintro e9 w9 ⟨rfl, r9, k9⟩
    have R9 := Lib.hid r9
    have K9 := Lib.hid (K8.out.trans k9)
    have Z9 := Lib.hid ((k9.2.2 q1 (lt_of_block Z8.out) (by have := HQQ.out; omega)).trans Z8.out)
    have X9 := Lib.hid ((k9.2.2 q2 (lt_of_block X8.out) (by have := HQX.out; omega)).trans X8.out)
    clear r9 k9
    have l0 := boxc X9.out 0 _ rfl
    have l1 := boxc X9.out 1 _ rfl
    have l2 := boxc X9.out 2 _ rfl
    have l3 := boxc X9.out 3 _ rfl
    go_wp2_with ((with_reducible show wpList _ _ _ (Oper.mk _ (Op.store 24 (.tmp 4) _) _ _ _ _ :: _) _ _); refine wpList_store_row rfl 24 (.tmp 4) _ rfl (q1) #[.int .u64 x.a, .int .u64 x.b, .int .u64 x.c, .int .u64 x.d] rfl rfl 24 #[.int .u64 0, .int .u64 0, .int .u64 0, .int .u64 0] Z9.out clsize rfl (by simp [Value.oneCell']) ?_)
    have cc := setRow_heap _ q1 _ #[.int .u64 x.a, .int .u64 x.b, .int .u64 x.c, .int .u64 x.d] _ _ Z9.out
    have rr : RdT q S dp _ (World.setRow w9 q1 #[.int .u64 x.a, .int .u64 x.b, .int .u64 x.c, .int .u64 x.d]) := R9.out.keep KX.row (by have := HQQ.out; omega)
    have kk : KX q w (World.setRow w9 q1 #[.int .u64 x.a, .int .u64 x.b, .int .u64 x.c, .int .u64 x.d]) := K9.out.trans' KX.row (by have := HQ1.out; omega)
    obtain ⟨w99, h99⟩ : ∃ W, W = World.setRow w9 q1 #[.int .u64 x.a, .int .u64 x.b, .int .u64 x.c, .int .u64 x.d] := ⟨_, rfl⟩
    rw [← h99] at cc rr kk ⊢
    clear h99
    have k0 := boxc cc 0 _ rfl
    have k1 := boxc cc 1 _ rfl
    have k2 := boxc cc 2 _ rfl
    have k3 := boxc cc 3 _ rfl
    refine bodyPost_ret (v := .agg #[.int .u64 x.a, .int .u64 x.b, .int .u64 x.c, .int .u64 x.d]) (by simp [results, Try.results69, go_sem, k0, k1, k2, k3]) rfl ⟨by rw [HV.out]; try rfl, by rw [HV.out]; exact rr, kk⟩
   | some c =>
    obtain ⟨hco, hpl, hc⟩ := rf_nxt_lt ho.symm
    simp only [Option.getD_some, Option.isSome_some] at HN1
    obtain ⟨m, tm, hmm⟩ : ∃ m tm, rf.member (kit.bytes S) te = (m, tm) := ⟨_, _, rfl⟩
    have HMB : Hid (∀ W, RdT q S dp te W → Calls Try.prog 76 #[.pointer (some ⟨q, 0, none⟩)] W (fun e w' => e = .returned (.agg #[.int .u64 m.a, .int .u64 m.b, .int .u64 m.c, .int .u64 m.d]) ∧ RKT q S dp tm W w')) := fun W hW => by have h := HMM.out te W hpl hW; rw [hmm] at h; exact h
    have hmo : m.ok := by have h := member_ok HBY.out te; rw [hmm] at h; exact h
    have hlt : te.p < tm.p := by have h := member_lt (s := kit.bytes S) (t := te) (by have := HLEN.out; omega); rw [hmm] at h; exact h
    have hle : tm.p ≤ S.size := by have h := (member_pr (s := kit.bytes S) (t := te)).1.2 (by have := HLEN.out; omega); rw [hmm] at h; simp only at h; have := HLEN.out; omega
    have HUN : Hid (∀ W, Calls Try.prog 75 #[.agg #[.int .u64 x.a, .int .u64 x.b, .int .u64 x.c, .int .u64 x.d], .agg #[.int .u64 m.a, .int .u64 m.b, .int .u64 m.c, .int .u64 m.d]] W (fun e w' => e = .returned (.agg #[.int .u64 (x.or m).a, .int .u64 (x.or m).b, .int .u64 (x.or m).c, .int .u64 (x.or m).d]) ∧ Below W.heap.size W w')) := fun W => rx_union x m W OX.out hmo
    have OY : Hid ((x.or m).ok) := or_ok OX.out hmo
    have HFN : Hid (mems (kit.bytes S) a f1 (x.or m) tm = (fx, ft, fo)) := by
     have h := HFI.out
     unfold mems at h
     rw [hme] at h
     simp only [Bool.false_eq_true, if_false, ← ho, hmm] at h
     exact h
    clear hme ho hmm hmo hco
    go_wp2_with fail
    (with_reducible refine (HME1.out _ R6.out).mono ?_)
    rintro e7 w7 ⟨rfl, r7, k7⟩
    have R7 := Lib.hid r7
    have K7 := Lib.hid (K6.out.trans k7)
    have Z7 := Lib.hid ((k7.2.2 q1 (lt_of_block Z6.out) (by have := HQQ.out; omega)).trans Z6.out)
    have X7 := Lib.hid ((k7.2.2 q2 (lt_of_block X6.out) (by have := HQX.out; omega)).trans X6.out)
    clear r7 k7
    go_wp2_with fail
    (with_reducible refine (HN1.out _ R7.out).mono ?_)
    rintro e8 w8 ⟨rfl, b8⟩
    have R8 := Lib.hid (R7.out.next b8)
    have K8 := Lib.hid (K7.out.next b8)
    have Z8 := Lib.hid ((b8.block _ (lt_of_block Z7.out)).trans Z7.out)
    have X8 := Lib.hid ((b8.block _ (lt_of_block X7.out)).trans X7.out)
    clear b8
    go_wp2
    have l0 := boxc X8.out 0 _ rfl
    have l1 := boxc X8.out 1 _ rfl
    have l2 := boxc X8.out 2 _ rfl
    have l3 := boxc X8.out 3 _ rfl
    have RD : Hid (RdT q S dp te w8.drew) := R8.out.next (Below.refl _ _).drew
    have XD : Hid (w8.drew.heap[q2]? = some (.cells #[.int .u64 x.a, .int .u64 x.b, .int .u64 x.c, .int .u64 x.d] 24 (0, 0))) := ((Below.refl w8.heap.size w8).drew.block _ (lt_of_block X8.out)).trans X8.out
    have ZD : Hid (w8.drew.heap[q1]? = some (.cells #[.int .u64 0, .int .u64 0, .int .u64 0, .int .u64 0] 24)) := ((Below.refl w8.heap.size w8).drew.block _ (lt_of_block Z8.out)).trans Z8.out
    have KD : Hid (KX q w w8.drew) := K8.out.next (Below.refl _ _).drew
    go_region_law (first | (go_simp; go_at_call 76; (with_reducible refine (HMB.out _ RD.out).mono ?_); rintro eK wK ⟨rfl, rK, kK⟩; have xK := (kK.2.2 q2 (lt_of_block XD.out) (by have := HQX.out; omega)).trans XD.out; have l0 := boxc xK 0 _ rfl; have l1 := boxc xK 1 _ rfl; have l2 := boxc xK 2 _ rfl; have l3 := boxc xK 3 _ rfl) | (go_simp; go_at_call 75; (with_reducible refine (HUN.out _).mono ?_); rintro eK2 wK2 ⟨rfl, bK2⟩; have xK2 := (bK2.block _ (lt_of_block xK)).trans xK; have s0 := boxc xK2 0 _ rfl; have s1 := boxc xK2 1 _ rfl; have s2 := boxc xK2 2 _ rfl; have s3 := boxc xK2 3 _ rfl; have g0 := boxf xK2 0; have g1 := boxf xK2 1; have g2 := boxf xK2 2; have g3 := boxf xK2 3))
    all_goals
     skip
     have hst := set_four (p := q) (v0 := .int .u64 (x.or m).a) (v1 := .int .u64 (x.or m).b) (v2 := .int .u64 (x.or m).c) (v3 := .int .u64 (x.or m).d) xK2
     have kst := hst.2 rfl
     have RZ := Lib.hid ((rK.next bK2).keep kst (by have := HQX.out; omega))
     have KZ : Hid (KX q w ((((wK2.setCell ⟨q2, 0, none⟩ (.int .u64 (x.or m).a)).setCell ⟨q2, 1, none⟩ (.int .u64 (x.or m).b)).setCell ⟨q2, 2, none⟩ (.int .u64 (x.or m).c)).setCell ⟨q2, 3, none⟩ (.int .u64 (x.or m).d))) := (KX.trans KD.out (kK.next bK2)).trans' kst (by have := HQE5.out; have := K4.out.2.1; omega)
     have ZZ : Hid (((((wK2.setCell ⟨q2, 0, none⟩ (.int .u64 (x.or m).a)).setCell ⟨q2, 1, none⟩ (.int .u64 (x.or m).b)).setCell ⟨q2, 2, none⟩ (.int .u64 (x.or m).c)).setCell ⟨q2, 3, none⟩ (.int .u64 (x.or m).d)).heap[q1]? = some (.cells #[.int .u64 0, .int .u64 0, .int .u64 0, .int .u64 0] 24)) := by
      have z1 := (kK.2.2 q1 (lt_of_block ZD.out) (by have := HQQ.out; omega)).trans ZD.out
      have z2 := (bK2.block _ (lt_of_block z1)).trans z1
      exact (kst.2.2 q1 (lt_of_block z2) (by have := lt_of_block Z4.out; have := HQE5.out; omega)).trans z2
     have XZ := Lib.hid hst.1
     obtain ⟨w12, hw12⟩ : ∃ W, W = ((((wK2.setCell ⟨q2, 0, none⟩ (.int .u64 (x.or m).a)).setCell ⟨q2, 1, none⟩ (.int .u64 (x.or m).b)).setCell ⟨q2, 2, none⟩ (.int .u64 (x.or m).c)).setCell ⟨q2, 3, none⟩ (.int .u64 (x.or m).d)) := ⟨_, rfl⟩
     rw [← hw12] at RZ KZ ZZ XZ ⊢
     clear hw12 hst kst xK2 xK s0 s1 s2 s3 g0 g1 g2 g3
     go_wp2
     go_roundw
     case rel => exact ⟨f1, _, tm, HFN.out, by omega, hle, OY, RZ, KZ, ZZ, XZ⟩
     case measure => rw [RZ.out.pOf, R6.out.pOf]; omega
end Go.Proofs.Ytmfgplbfojnkdaa
