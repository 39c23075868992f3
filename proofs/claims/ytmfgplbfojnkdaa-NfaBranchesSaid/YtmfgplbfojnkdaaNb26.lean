/- texts put together: LawNfB. -/
import Derived.Test.YtmfgplbfojnkdaaNf00
import Derived.Test.YtmfgplbfojnkdaaNf01
import Derived.Test.YtmfgplbfojnkdaaNf02
import Derived.Test.YtmfgplbfojnkdaaNf03
import Derived.Test.YtmfgplbfojnkdaaNf04
import Derived.Test.YtmfgplbfojnkdaaNf05
import Derived.Test.YtmfgplbfojnkdaaNf06
import Derived.Test.YtmfgplbfojnkdaaNf07
import Derived.Test.YtmfgplbfojnkdaaNf08
import Derived.Test.YtmfgplbfojnkdaaNf09
import Derived.Test.YtmfgplbfojnkdaaNf10
import Derived.Test.YtmfgplbfojnkdaaNf11
import Derived.Test.YtmfgplbfojnkdaaNf12
import Derived.Test.YtmfgplbfojnkdaaNf13
import Derived.Test.YtmfgplbfojnkdaaNf14
import Derived.Test.YtmfgplbfojnkdaaNf15
import Derived.Test.YtmfgplbfojnkdaaNf16
import Derived.Test.YtmfgplbfojnkdaaNf17
import Derived.Test.YtmfgplbfojnkdaaNf18
import Derived.Test.YtmfgplbfojnkdaaNf19
import Derived.Test.YtmfgplbfojnkdaaNf20
import Derived.Test.YtmfgplbfojnkdaaNf21
import Derived.Test.YtmfgplbfojnkdaaNf22
import Derived.Test.YtmfgplbfojnkdaaNf23
import Derived.Test.YtmfgplbfojnkdaaNf24
import Derived.Test.YtmfgplbfojnkdaaNb00
import Derived.Test.YtmfgplbfojnkdaaNb09
import Derived.Test.YtmfgplbfojnkdaaNb10
import Derived.Test.YtmfgplbfojnkdaaNb25
open List (setIfInBounds_toArray set_cons_zero set_cons_succ take_succ_cons take_zero drop_succ_cons drop_zero)
namespace Go.Proofs.Ytmfgplbfojnkdaa
open Go Go.RowKit Go.ChangeShapes cl rx
theorem rx_form8 {d : Nat} {w : World} {B : Nat} {c : List Value} {x : Pat} (h : rxR d w B c x) : ∃ v0 v1 v2 v3 v4 v5 v6 v7, c = [v0, v1, v2, v3, v4, v5, v6, v7] := by
 obtain ⟨_, _, _, rfl⟩ := rx_form h
 exact ⟨_, _, _, _, _, _, _, _, rfl⟩
def nf.cutF (d : Nat) (x y : Pat) (s : List Nat) (j : Nat) : Bool := (List.range j).any fun i => nf.runs d x (s.take i) && nf.runs d y (s.drop i)
theorem nf.cutF_succ (d : Nat) (x y : Pat) (s : List Nat) (j : Nat) : nf.cutF d x y s (j + 1) = (nf.cutF d x y s j || (nf.runs d x (s.take j) && nf.runs d y (s.drop j))) := by
 unfold nf.cutF
 rw [List.range_succ, List.any_append]
 simp
theorem nf.cut_all {d : Nat} {x y P : Pat} (hk : P.k = 3) (hs : P.ks = [x, y]) (hx : nf.code d x = 0) (hy : nf.code d y = 0) (hp : nf.code (d + 1) P = 0) (s : List Nat) : nf.runs (d + 1) P s = nf.cutF d x y s (s.length + 1) := by
 rw [Bool.eq_iff_iff, nf.then_runs hk hs hx hy hp, nf.cutF, List.any_eq_true]
 constructor
 ·
  rintro ⟨s1, s2, rfl, h1, h2⟩
  refine ⟨s1.length, List.mem_range.2 (by rw [List.length_append]; omega), ?_⟩
  rw [List.take_left, List.drop_left, h1, h2]; rfl
 ·
  rintro ⟨i, _, h⟩
  rw [Bool.and_eq_true] at h
  exact ⟨s.take i, s.drop i, (List.take_append_drop i s).symm, h.1, h.2⟩
theorem nf.bytes_len (A : ByteArray) : (kit.bytes A).length = A.size := by simp [kit.bytes]
theorem nf.bytes_take (A : ByteArray) (i : Nat) : kit.bytes (A.extract 0 i) = (kit.bytes A).take i := by
 simp only [kit.bytes, ByteArray.data_extract, Array.toList_extract, List.extract_eq_take_drop, List.map_take, drop_zero, Nat.sub_zero]
theorem nf.bytes_drop (A : ByteArray) (i : Nat) : kit.bytes (A.extract i A.size) = (kit.bytes A).drop i := by
 show List.map UInt8.toNat (A.extract i A.size).data.toList = (List.map UInt8.toNat A.data.toList).drop i
 rw [ByteArray.data_extract, Array.toList_extract, List.extract_eq_take_drop, List.map_take, List.map_drop]
 rw [List.take_of_length_le]
 simp
theorem ok_pair {k : Int} {x y : Pat} (hx : ∀ e, okP e x) (hy : ∀ e, okP e y) : ∀ e, okP e (.mk k .zero [x, y] 0 0)
 | 0 => trivial
 | e + 1 => ⟨nf.zero_ok, fun z hz => by
  rcases List.mem_cons.1 hz with rfl | hz
  ·
   exact hx e
  ·
   rw [List.mem_singleton.1 hz]; exact hy e⟩
set_option maxHeartbeats 12800000 in
set_option maxRecDepth 100000 in
theorem law_branches (d : Nat) (x y : Pat) (cx cy : List Value) (S : ByteArray) (w : World) (hx : rxR d w w.heap.size cx x) (hy : rxR d w w.heap.size cy y) (ox : ∀ e, okP e x) (oy : ∀ e, okP e y) : Calls Try.prog 7 #[.agg cx.toArray, .agg cy.toArray, .string S] w (Said true w) := by
 obtain ⟨v0, v1, v2, v3, v4, v5, v6, v7, rfl⟩ := rx_form8 hx
 obtain ⟨u0, u1, u2, u3, u4, u5, u6, u7, rfl⟩ := rx_form8 hy
 obtain ⟨P, hP⟩ : ∃ P, P = w.heap.size := ⟨_, rfl⟩
 obtain ⟨w0, hw0⟩ : ∃ W, W = w.alloc (.cells #[v0, v1, v2, v3, v4, v5, v6, v7] 27) := ⟨_, rfl⟩
 obtain ⟨Q, hQ⟩ : ∃ Q, Q = w.heap.size + 1 := ⟨_, rfl⟩
 have hQ0 : w0.heap.size = w.heap.size + 1 := by rw [hw0, World.size_alloc]
 obtain ⟨w1, hw1⟩ : ∃ W, W = w0.alloc (.cells #[u0, u1, u2, u3, u4, u5, u6, u7] 27) := ⟨_, rfl⟩
 have b0 : Below w.heap.size w w0 := by rw [hw0]; exact below1
 have b01 : Below w0.heap.size w0 w1 := by rw [hw1]; exact below1
 have b1 : Below w.heap.size w w1 := b0.trans (b01.mono b0.size)
 have x0 : w0.heap[P]? = some (.cells #[v0, v1, v2, v3, v4, v5, v6, v7] 27 (0, 0)) := by rw [hw0, hP]; exact heap_alloc_new w _
 have x1 : w1.heap[P]? = some (.cells #[v0, v1, v2, v3, v4, v5, v6, v7] 27 (0, 0)) := (b01.block _ (lt_of_block x0)).trans x0
 have y1 : w1.heap[Q]? = some (.cells #[u0, u1, u2, u3, u4, u5, u6, u7] 27 (0, 0)) := by rw [hw1, hQ, ← hQ0]; exact heap_alloc_new w0 _
 have HRX : Hid (∀ W, Below w1.heap.size w1 W → rxR d W W.heap.size [v0, v1, v2, v3, v4, v5, v6, v7] x) := fun W hW => by
  have hb := b1.trans (hW.mono b1.size)
  exact rxR_steady d _ _ _ _ _ _ hx hb hb.size
 have HRY : Hid (∀ W, Below w1.heap.size w1 W → rxR d W W.heap.size [u0, u1, u2, u3, u4, u5, u6, u7] y) := fun W hW => by
  have hb := b1.trans (hW.mono b1.size)
  exact rxR_steady d _ _ _ _ _ _ hy hb hb.size
 have HX : Hid (∀ W, Below w1.heap.size w1 W → W.heap[P]? = some (.cells #[v0, v1, v2, v3, v4, v5, v6, v7] 27 (0, 0))) := fun W hW => (hW.block _ (lt_of_block x1)).trans x1
 have HY : Hid (∀ W, Below w1.heap.size w1 W → W.heap[Q]? = some (.cells #[u0, u1, u2, u3, u4, u5, u6, u7] 27 (0, 0))) := fun W hW => (hW.block _ (lt_of_block y1)).trans y1
 have HFIN : Hid (∀ W, Below w1.heap.size w1 W → Below w.heap.size w W) := fun W hW => b1.trans (hW.mono b1.size)
 have HG := Lib.hid (good_any d x _ w1 (HRX.out w1 (Below.refl _ _)))
 have HOX := Lib.hid ox
 have HOY := Lib.hid oy
 have HW0 := Lib.hid hw0
 have HW1 := Lib.hid hw1
 have HP := Lib.hid hP
 have HQ := Lib.hid hQ
 have c0 := boxc x1 0 _ rfl
 have c1 := boxc x1 1 _ rfl
 have c2 := boxc x1 2 _ rfl
 have c3 := boxc x1 3 _ rfl
 have c4 := boxc x1 4 _ rfl
 have c5 := boxc x1 5 _ rfl
 have c6 := boxc x1 6 _ rfl
 have c7 := boxc x1 7 _ rfl
 rw [hw1, hw0, hP] at c0 c1 c2 c3 c4 c5 c6 c7
 have d0 := boxc y1 0 _ rfl
 have d1 := boxc y1 1 _ rfl
 have d2 := boxc y1 2 _ rfl
 have d3 := boxc y1 3 _ rfl
 have d4 := boxc y1 4 _ rfl
 have d5 := boxc y1 5 _ rfl
 have d6 := boxc y1 6 _ rfl
 have d7 := boxc y1 7 _ rfl
 rw [hw1, hQ, hw0] at d0 d1 d2 d3 d4 d5 d6 d7
 clear hx hy ox oy b0 b01 b1 x0 x1 y1 hw0 hw1 hP hQ hQ0
 go_enter Try.func7, Try.ntmps7
 go_wp2_with fail
 rw [← HW0.out, ← HW1.out, ← HQ.out, ← HP.out]
 (with_reducible refine HG.out.mono ?_)
 rintro en w2 ⟨g, rfl, hb2⟩
 have HB2 := Lib.hid hb2
 clear hb2 d0 d1 d2 d3 d4 d5 d6 d7 c0 c1 c2 c3 c4 c5 c6 c7 HG
 have HAW : Hid (∀ W, Below w1.heap.size w1 W → Calls Try.prog 9 #[] W fun e w' => e = .returned (.bool true) ∧ Below w.heap.size w w' ∧ Below W.heap.size W w') := by
  refine fun W hW => (awake_any W).mono ?_
  rintro e w' ⟨rfl, hb⟩
  exact ⟨rfl, (HFIN.out _ (hW.trans (hb.mono hW.size))), hb⟩
 cases g
 ·
  go_wp2_with fail
  (with_reducible refine (HAW.out _ HB2.out).mono ?_)
  rintro en w3 ⟨rfl, hb3, _⟩
  have HB3 := Lib.hid hb3
  clear hb3
  go_wp2
  go_ret
  exact ⟨rfl, HB3.out⟩
 have y2 := HY.out _ HB2.out
 have d0 := boxc y2 0 _ rfl
 have d1 := boxc y2 1 _ rfl
 have d2 := boxc y2 2 _ rfl
 have d3 := boxc y2 3 _ rfl
 have d4 := boxc y2 4 _ rfl
 have d5 := boxc y2 5 _ rfl
 have d6 := boxc y2 6 _ rfl
 have d7 := boxc y2 7 _ rfl
 have HG := Lib.hid (good_any d y _ w2 (HRY.out w2 HB2.out))
 clear y2
 go_wp2_with fail
 (with_reducible refine HG.out.mono ?_)
 rintro en w3 ⟨g, rfl, hb3⟩
 have HB3 := Lib.hid (HB2.out.trans (hb3.mono HB2.out.size))
 clear hb3 d0 d1 d2 d3 d4 d5 d6 d7 HG
 cases g
 ·
  go_wp2_with fail
  (with_reducible refine (HAW.out _ HB3.out).mono ?_)
  rintro en w4 ⟨rfl, hb4, _⟩
  have HB4 := Lib.hid hb4
  clear hb4
  go_wp2
  go_ret
  exact ⟨rfl, HB4.out⟩
 by_cases hS : S.size ≤ 20
 case neg =>
  have hS2 : (20 : Int) < (S.size : Int) := by omega
  have hS3 : 20 < S.size := by omega
  go_wp2_with fail
  (with_reducible refine (HAW.out _ HB3.out).mono ?_)
  rintro en w4 ⟨rfl, hb4, _⟩
  have HB4 := Lib.hid hb4
  clear hb4
  go_wp2
  go_ret
  exact ⟨rfl, HB4.out⟩
 have hS2 : ¬ (20 : Int) < (S.size : Int) := by omega
 have hS3 : ¬ 20 < S.size := by omega
 have x3 := HX.out _ HB3.out
 have c0 := boxc x3 0 _ rfl
 have c1 := boxc x3 1 _ rfl
 have c2 := boxc x3 2 _ rfl
 have c3 := boxc x3 3 _ rfl
 have c4 := boxc x3 4 _ rfl
 have c5 := boxc x3 5 _ rfl
 have c6 := boxc x3 6 _ rfl
 have c7 := boxc x3 7 _ rfl
 have HBL := Lib.hid (nf_build d x _ w3 (HRX.out w3 HB3.out))
 clear x3
 go_wp2_with fail
 (with_reducible refine HBL.out.mono ?_)
 rintro en w4 hbl
 obtain ⟨az, af, ao, am, ac, rfl, hb4, hm4⟩ := bld_open (HOX.out d) hbl
 clear hbl HBL c0 c1 c2 c3 c4 c5 c6 c7
 obtain ⟨ca, hca⟩ : ∃ z, z = nf.code d x := ⟨_, rfl⟩
 rw [← hca] at hm4 ⊢
 obtain ⟨A, hA⟩ : ∃ Q, Q = w4.heap.size := ⟨_, rfl⟩
 obtain ⟨w5, hw5⟩ : ∃ W, W = w4.alloc (.cells #[.int .i64 (az : Int), .int .i64 0, .int .i64 (af : Int), .slice ao am ac] 32) := ⟨_, rfl⟩
 have b5 : Below w4.heap.size w4 w5 := by rw [hw5]; exact below1
 have HB5 : Hid (Below w1.heap.size w1 w5) := HB3.out.trans ((hb4.trans (b5.mono hb4.size)).mono HB3.out.size)
 have HMA : Hid (ca = 0 → Mch w5 #[.int .i64 (az : Int), .int .i64 0, .int .i64 (af : Int), .slice ao am ac] d x) := fun h => (hm4 h).next b5
 have a5 : w5.heap[A]? = some (.cells #[.int .i64 (az : Int), .int .i64 0, .int .i64 (af : Int), .slice ao am ac] 32 (0, 0)) := by rw [hw5, hA]; exact heap_alloc_new w4 _
 have HXA : Hid (∀ W, Below w5.heap.size w5 W → W.heap[A]? = some (.cells #[.int .i64 (az : Int), .int .i64 0, .int .i64 (af : Int), .slice ao am ac] 32 (0, 0))) := fun W hW => (hW.block _ (lt_of_block a5)).trans a5
 have y5 := HY.out _ HB5.out
 have d0 := boxc y5 0 _ rfl
 have d1 := boxc y5 1 _ rfl
 have d2 := boxc y5 2 _ rfl
 have d3 := boxc y5 3 _ rfl
 have d4 := boxc y5 4 _ rfl
 have d5 := boxc y5 5 _ rfl
 have d6 := boxc y5 6 _ rfl
 have d7 := boxc y5 7 _ rfl
 rw [hw5] at d0 d1 d2 d3 d4 d5 d6 d7
 have HBL := Lib.hid (nf_build d y _ w5 (HRY.out w5 HB5.out))
 have HW5 := Lib.hid hw5
 have HA := Lib.hid hA
 have HCA := Lib.hid hca
 clear hb4 hm4 hw5 b5 a5 y5 hA hca
 go_wp2_with fail
 rw [← HW5.out]
 try rw [← HA.out]
 (with_reducible refine HBL.out.mono ?_)
 rintro en w6 hbl
 obtain ⟨bz, bf, bo, bm, bc, rfl, hb6, hm6⟩ := bld_open (HOY.out d) hbl
 clear hbl HBL d0 d1 d2 d3 d4 d5 d6 d7
 obtain ⟨cb, hcb⟩ : ∃ z, z = nf.code d y := ⟨_, rfl⟩
 rw [← hcb] at hm6 ⊢
 obtain ⟨B, hB⟩ : ∃ Q, Q = w6.heap.size := ⟨_, rfl⟩
 obtain ⟨w7, hw7⟩ : ∃ W, W = w6.alloc (.cells #[.int .i64 (bz : Int), .int .i64 0, .int .i64 (bf : Int), .slice bo bm bc] 32) := ⟨_, rfl⟩
 have b7 : Below w6.heap.size w6 w7 := by rw [hw7]; exact below1
 have b57 : Below w5.heap.size w5 w7 := hb6.trans (b7.mono hb6.size)
 have HB57 := Lib.hid b57
 have HB7 : Hid (Below w1.heap.size w1 w7) := HB5.out.trans (b57.mono HB5.out.size)
 have HMB : Hid (cb = 0 → Mch w7 #[.int .i64 (bz : Int), .int .i64 0, .int .i64 (bf : Int), .slice bo bm bc] d y) := fun h => (hm6 h).next b7
 have a7 : w7.heap[B]? = some (.cells #[.int .i64 (bz : Int), .int .i64 0, .int .i64 (bf : Int), .slice bo bm bc] 32 (0, 0)) := by rw [hw7, hB]; exact heap_alloc_new w6 _
 have HXB : Hid (∀ W, Below w7.heap.size w7 W → W.heap[B]? = some (.cells #[.int .i64 (bz : Int), .int .i64 0, .int .i64 (bf : Int), .slice bo bm bc] 32 (0, 0))) := fun W hW => (hW.block _ (lt_of_block a7)).trans a7
 have HW7 := Lib.hid hw7
 have HB := Lib.hid hB
 have HCB := Lib.hid hcb
 clear hb6 hm6 b7 b57 a7 hB hcb
 by_cases ha0 : ca = 0
 case neg =>
  have ha1 : (ca == 0) = false := by simpa using ha0
  have ha2 : (ca != 0) = true := by simpa using ha0
  clear hw7
  go_wp2_with fail
  rw [← HW7.out]
  (with_reducible refine (HAW.out _ HB7.out).mono ?_)
  rintro en w8 ⟨rfl, hb8, _⟩
  have HB8 := Lib.hid hb8
  clear hb8
  go_wp2
  go_ret
  exact ⟨rfl, HB8.out⟩
 by_cases hb0 : cb = 0
 case neg =>
  have hb1 : (cb == 0) = false := by simpa using hb0
  have hb2 : (cb != 0) = true := by simpa using hb0
  subst ha0
  clear hw7
  go_wp2_with fail
  rw [← HW7.out]
  (with_reducible refine (HAW.out _ HB7.out).mono ?_)
  rintro en w8 ⟨rfl, hb8, _⟩
  have HB8 := Lib.hid hb8
  clear hb8
  go_wp2
  go_ret
  exact ⟨rfl, HB8.out⟩
 subst ha0
 subst hb0
 have x7 := HX.out _ HB7.out
 have c0 := boxc x7 0 _ rfl
 have c1 := boxc x7 1 _ rfl
 have c2 := boxc x7 2 _ rfl
 have c3 := boxc x7 3 _ rfl
 have c4 := boxc x7 4 _ rfl
 have c5 := boxc x7 5 _ rfl
 have c6 := boxc x7 6 _ rfl
 have c7 := boxc x7 7 _ rfl
 rw [hw7] at c0 c1 c2 c3 c4 c5 c6 c7
 have y7 := HY.out _ HB7.out
 have d0 := boxc y7 0 _ rfl
 have d1 := boxc y7 1 _ rfl
 have d2 := boxc y7 2 _ rfl
 have d3 := boxc y7 3 _ rfl
 have d4 := boxc y7 4 _ rfl
 have d5 := boxc y7 5 _ rfl
 have d6 := boxc y7 6 _ rfl
 have d7 := boxc y7 7 _ rfl
 rw [hw7] at d0 d1 d2 d3 d4 d5 d6 d7
 clear x7 y7 hw7
 generalize (Value.agg #[v0, v1, v2, v3, v4, v5, v6, v7]) = vx
 generalize (Value.agg #[u0, u1, u2, u3, u4, u5, u6, u7]) = vy
 generalize (Value.agg #[.int .i64 (az : Int), .int .i64 0, .int .i64 (af : Int), .slice ao am ac]) = va
 go_wp2_with fail
 have h7s : w7.heap.size = w6.heap.size + 1 := by rw [HW7.out, World.size_alloc]
 rw [← HW7.out, ← h7s]
 try rw [← HB.out]
 have HBL : Hid (Calls Try.prog 10 #[.agg #[.int .i64 4, .int .u64 0, .int .u64 0, .int .u64 0, .int .u64 0, .slice (some ⟨w7.heap.size, 0, none⟩) 2 2, .int .i64 0, .int .i64 0]] (w7.alloc (.cells #[v0, v1, v2, v3, v4, v5, v6, v7, u0, u1, u2, u3, u4, u5, u6, u7] 27)) (BldP (d + 1) (.mk 4 .zero [x, y] 0 0) (w7.alloc (.cells #[v0, v1, v2, v3, v4, v5, v6, v7, u0, u1, u2, u3, u4, u5, u6, u7] 27)))) := nf_build (d + 1) (.mk 4 .zero [x, y] 0 0) _ _ (rx_pair (T := 27) 4 (HRX.out w7 HB7.out) (HRY.out w7 HB7.out))
 have b8 : Below w7.heap.size w7 (w7.alloc (.cells #[v0, v1, v2, v3, v4, v5, v6, v7, u0, u1, u2, u3, u4, u5, u6, u7] 27)) := below1
 (with_reducible refine HBL.out.mono ?_)
 rintro en w9 hbl
 obtain ⟨oz, of, oo, om, oc, rfl, hb9, hm9⟩ := bld_open (ok_pair HOX.out HOY.out _) hbl
 have hb79 := b8.trans (hb9.mono b8.size)
 clear hbl HBL c0 c1 c2 c3 c4 c5 c6 c7 d0 d1 d2 d3 d4 d5 d6 d7 b8 hb9 h7s
 obtain ⟨co, hco⟩ : ∃ z, z = nf.code (d + 1) (.mk 4 .zero [x, y] 0 0) := ⟨_, rfl⟩
 rw [← hco] at hm9 ⊢
 obtain ⟨C, hC⟩ : ∃ Q, Q = w9.heap.size := ⟨_, rfl⟩
 obtain ⟨w10, hw10⟩ : ∃ W, W = w9.alloc (.cells #[.int .i64 (oz : Int), .int .i64 0, .int .i64 (of : Int), .slice oo om oc] 32) := ⟨_, rfl⟩
 have b10 : Below w9.heap.size w9 w10 := by rw [hw10]; exact below1
 have b7a : Below w7.heap.size w7 w10 := hb79.trans (b10.mono hb79.size)
 have HB7A := Lib.hid b7a
 have HBA : Hid (Below w1.heap.size w1 w10) := HB7.out.trans (b7a.mono HB7.out.size)
 have HMC : Hid (co = 0 → Mch w10 #[.int .i64 (oz : Int), .int .i64 0, .int .i64 (of : Int), .slice oo om oc] (d + 1) (.mk 4 .zero [x, y] 0 0)) := fun h => (hm9 h).next b10
 have a10 : w10.heap[C]? = some (.cells #[.int .i64 (oz : Int), .int .i64 0, .int .i64 (of : Int), .slice oo om oc] 32 (0, 0)) := by rw [hw10, hC]; exact heap_alloc_new w9 _
 have HXC : Hid (∀ W, Below w10.heap.size w10 W → W.heap[C]? = some (.cells #[.int .i64 (oz : Int), .int .i64 0, .int .i64 (of : Int), .slice oo om oc] 32 (0, 0))) := fun W hW => (hW.block _ (lt_of_block a10)).trans a10
 have HWA := Lib.hid hw10
 have HC := Lib.hid hC
 have HCO := Lib.hid hco
 have x7 := HX.out _ HBA.out
 have c0 := boxc x7 0 _ rfl
 have c1 := boxc x7 1 _ rfl
 have c2 := boxc x7 2 _ rfl
 have c3 := boxc x7 3 _ rfl
 have c4 := boxc x7 4 _ rfl
 have c5 := boxc x7 5 _ rfl
 have c6 := boxc x7 6 _ rfl
 have c7 := boxc x7 7 _ rfl
 rw [hw10] at c0 c1 c2 c3 c4 c5 c6 c7
 have y7 := HY.out _ HBA.out
 have d0 := boxc y7 0 _ rfl
 have d1 := boxc y7 1 _ rfl
 have d2 := boxc y7 2 _ rfl
 have d3 := boxc y7 3 _ rfl
 have d4 := boxc y7 4 _ rfl
 have d5 := boxc y7 5 _ rfl
 have d6 := boxc y7 6 _ rfl
 have d7 := boxc y7 7 _ rfl
 rw [hw10] at d0 d1 d2 d3 d4 d5 d6 d7
 clear x7 y7 hw10 b7a b10 hb79 hm9 a10 hC hco
 generalize (Value.agg #[.int .i64 (bz : Int), .int .i64 0, .int .i64 (bf : Int), .slice bo bm bc]) = vb
 go_wp2_with fail
 have h7s : w10.heap.size = w9.heap.size + 1 := by rw [HWA.out, World.size_alloc]
 rw [← HWA.out, ← h7s]
 try rw [← HC.out]
 have HBL : Hid (Calls Try.prog 10 #[.agg #[.int .i64 3, .int .u64 0, .int .u64 0, .int .u64 0, .int .u64 0, .slice (some ⟨w10.heap.size, 0, none⟩) 2 2, .int .i64 0, .int .i64 0]] (w10.alloc (.cells #[v0, v1, v2, v3, v4, v5, v6, v7, u0, u1, u2, u3, u4, u5, u6, u7] 27)) (BldP (d + 1) (.mk 3 .zero [x, y] 0 0) (w10.alloc (.cells #[v0, v1, v2, v3, v4, v5, v6, v7, u0, u1, u2, u3, u4, u5, u6, u7] 27)))) := nf_build (d + 1) (.mk 3 .zero [x, y] 0 0) _ _ (rx_pair (T := 27) 3 (HRX.out w10 HBA.out) (HRY.out w10 HBA.out))
 have b8 : Below w10.heap.size w10 (w10.alloc (.cells #[v0, v1, v2, v3, v4, v5, v6, v7, u0, u1, u2, u3, u4, u5, u6, u7] 27)) := below1
 (with_reducible refine HBL.out.mono ?_)
 rintro en w12 hbl
 obtain ⟨tz, tf, to, tm, tc, rfl, hb12, hm12⟩ := bld_open (ok_pair HOX.out HOY.out _) hbl
 have hbac := b8.trans (hb12.mono b8.size)
 clear hbl HBL c0 c1 c2 c3 c4 c5 c6 c7 d0 d1 d2 d3 d4 d5 d6 d7 b8 hb12 h7s
 obtain ⟨ct, hct⟩ : ∃ z, z = nf.code (d + 1) (.mk 3 .zero [x, y] 0 0) := ⟨_, rfl⟩
 rw [← hct] at hm12 ⊢
 obtain ⟨D, hD⟩ : ∃ Q, Q = w12.heap.size := ⟨_, rfl⟩
 obtain ⟨w13, hw13⟩ : ∃ W, W = w12.alloc (.cells #[.int .i64 (tz : Int), .int .i64 0, .int .i64 (tf : Int), .slice to tm tc] 32) := ⟨_, rfl⟩
 have b13 : Below w12.heap.size w12 w13 := by rw [hw13]; exact below1
 have bad : Below w10.heap.size w10 w13 := hbac.trans (b13.mono hbac.size)
 have HBAD := Lib.hid bad
 have HBD : Hid (Below w1.heap.size w1 w13) := HBA.out.trans (bad.mono HBA.out.size)
 have HMD : Hid (ct = 0 → Mch w13 #[.int .i64 (tz : Int), .int .i64 0, .int .i64 (tf : Int), .slice to tm tc] (d + 1) (.mk 3 .zero [x, y] 0 0)) := fun h => (hm12 h).next b13
 have a13 : w13.heap[D]? = some (.cells #[.int .i64 (tz : Int), .int .i64 0, .int .i64 (tf : Int), .slice to tm tc] 32 (0, 0)) := by rw [hw13, hD]; exact heap_alloc_new w12 _
 have HXD : Hid (∀ W, Below w13.heap.size w13 W → W.heap[D]? = some (.cells #[.int .i64 (tz : Int), .int .i64 0, .int .i64 (tf : Int), .slice to tm tc] 32 (0, 0))) := fun W hW => (hW.block _ (lt_of_block a13)).trans a13
 have HWD := Lib.hid hw13
 have HD := Lib.hid hD
 have HCT := Lib.hid hct
 clear hw13 bad b13 hbac hm12 a13 hD hct
 generalize (Value.agg #[.int .i64 (oz : Int), .int .i64 0, .int .i64 (of : Int), .slice oo om oc]) = vc
 have HB7D : Hid (Below w7.heap.size w7 w13) := HB7A.out.trans (HBAD.out.mono HB7A.out.size)
 have HB5D : Hid (Below w5.heap.size w5 w13) := HB57.out.trans (HB7D.out.mono HB57.out.size)
 obtain ⟨ra, hra⟩ : ∃ z, z = nf.runs d x (kit.bytes S) := ⟨_, rfl⟩
 obtain ⟨rb, hrb⟩ : ∃ z, z = nf.runs d y (kit.bytes S) := ⟨_, rfl⟩
 have hS10 : S.size ≤ 10000 := by omega
 have HMA5 : Hid (Mch w5 #[.int .i64 (az : Int), .int .i64 0, .int .i64 (af : Int), .slice ao am ac] d x) := HMA.out trivial
 have HMB7 : Hid (Mch w7 #[.int .i64 (bz : Int), .int .i64 0, .int .i64 (bf : Int), .slice bo bm bc] d y) := HMB.out trivial
 have HRA : Hid (∀ W, Below w13.heap.size w13 W → Calls Try.prog 13 #[.agg #[.int .i64 (az : Int), .int .i64 0, .int .i64 (af : Int), .slice ao am ac], .string S] W fun e w' => e = .returned (.bool ra) ∧ Below W.heap.size W w') := fun W hW => by
  rw [hra]; exact HMA5.out W (HB5D.out.trans (hW.mono HB5D.out.size)) S hS10
 have HRB : Hid (∀ W, Below w13.heap.size w13 W → Calls Try.prog 13 #[.agg #[.int .i64 (bz : Int), .int .i64 0, .int .i64 (bf : Int), .slice bo bm bc], .string S] W fun e w' => e = .returned (.bool rb) ∧ Below W.heap.size W w') := fun W hW => by
  rw [hrb]; exact HMB7.out W (HB7D.out.trans (hW.mono HB7D.out.size)) S hS10
 have hcs : co ≠ 0 ∨ (co = 0 ∧ ra = true) ∨ (co = 0 ∧ ra = false ∧ rb = true) ∨ (co = 0 ∧ ra = false ∧ rb = false) := by
  cases ra <;> cases rb <;> by_cases h : co = 0 <;> simp [h]
 have HRO : Hid (co = 0 → ∀ W, Below w13.heap.size w13 W → Calls Try.prog 13 #[.agg #[.int .i64 (oz : Int), .int .i64 0, .int .i64 (of : Int), .slice oo om oc], .string S] W fun e w' => e = .returned (.bool (ra || rb)) ∧ Below W.heap.size W w') := fun h0 W hW => by
  have h1 := HMC.out h0 W (HBAD.out.trans (hW.mono HBAD.out.size)) S hS10
  rw [nf.or_runs rfl rfl HCA.out.symm HCB.out.symm (by rw [← HCO.out]; exact h0), ← hra, ← hrb] at h1
  exact h1
 have HRAE := Lib.hid hra
 have HRBE := Lib.hid hrb
 clear hra hrb HMA HMB
 have HPRE : True := trivial
 refine hcs.elim (fun k1 => ?g1) fun k1 => k1.elim (fun k2 => ?g2) fun k2 => k2.elim (fun k3 => ?g3) fun k3 => ?g4
 case' g1 =>
  clear hcs
  have hcs1 : (co == 0) = false := by simpa using k1
  have hcs2 : ¬ (co = 0) := k1
  go_wp2_with fail
  rw [← HWD.out]
  try rw [← HD.out]
  refine wp_flow 16 (fun _ => 1000) (fun ww => RowKit.Below w13.heap.size w13 ww) (fun _ w w' => (fun (w w' : World) => RowKit.Below w.heap.size w w') w w') (fun kF vF wF => match kF with | 0 => (vF = .int .i64 co) | 1 => (vF = .bool false) | 2 => (vF = .bool false) | 3 => (vF = undef) | 4 => (vF = undef) | 5 => (vF = undef) | 6 => (vF = undef) | 7 => (vF = undef) | 8 => (vF = undef) | 9 => (vF = undef) | 10 => (vF = undef) | 11 => (vF = undef) | 12 => (vF = undef) | 13 => (vF = undef) | 14 => (vF = undef) | 15 => (vF = .bool false) | _ => True) (fun _ _ _ _ => True) (by kernel_rfl) (by kernel_rfl) ?_ ?_ ?_ ?_ ?_
  ·
   exact (Below.refl _ _).drew
  ·
   intro iF wF1 wF2 hR hT; exact hR.trans (hT.mono hR.size)
  ·
   intro kF hkF iF hiF hne hdd hanc hdan vF wF1 wF2 h hT
   rcases (by omega : kF = 0 ∨ kF = 1 ∨ kF = 2 ∨ kF = 3 ∨ kF = 4 ∨ kF = 5 ∨ kF = 6 ∨ kF = 7 ∨ kF = 8 ∨ kF = 9 ∨ kF = 10 ∨ kF = 11 ∨ kF = 12 ∨ kF = 13 ∨ kF = 14 ∨ kF = 15) with rfl | rfl | rfl | rfl | rfl | rfl | rfl | rfl | rfl | rfl | rfl | rfl | rfl | rfl | rfl | rfl
   iterate 16 exact h
  ·
   generalize hAF : fillOf _ _ _ = AF
   replace hAF := fun x => congrFun hAF x
   simp only [take_succ_cons, take_zero, fillOf, Act.put, setIfInBounds_toArray, set_cons_zero, set_cons_succ, Nat.reduceAdd, Nat.zero_add] at hAF
   refine .cons ?_ (.cons ?_ (.cons ?_ (.cons ?_ (.cons ?_ (.cons ?_ (.cons ?_ (.cons ?_ (.cons ?_ (.cons ?_ (.cons ?_ (.cons ?_ (.cons ?_ (.cons ?_ (.cons ?_ (.cons ?_ (.nil))))))))))))))))
   all_goals
    intro xF ww1 hR hd K hK
    first | simp only [← hAF, Act.put, setIfInBounds_toArray, set_cons_zero, set_cons_succ] at hK ⊢ | simp only [← hAF, Act.put] at hK ⊢
    clear hAF
    try simp only [Nat.zero_add, Nat.reduceAdd] at hK ⊢
   ·
    clear hd
    obtain hbl := id hR
    rw [if_pos (by rfl)]
    go_simp
    exact hK.out _ _ (Below.refl _ _) (rfl) (fun _ _ _ => ⟨trivial, trivial⟩)
   ·
    have dd0 := hd 0 (by kernel_rfl)
    clear hd
    try generalize xF 0 = yy0 at *
    obtain rfl := dd0
    obtain hbl := id hR
    rw [if_pos (by rfl)]
    go_simp
    exact hK.out _ _ (Below.refl _ _) (rfl) (fun _ _ _ => ⟨trivial, trivial⟩)
   ·
    have dd1 := hd 1 (by kernel_rfl)
    clear hd
    try generalize xF 1 = yy1 at *
    obtain rfl := dd1
    obtain hbl := id hR
    rw [if_pos (by rfl)]
    go_simp
    exact hK.out _ _ (Below.refl _ _) (rfl) (fun _ _ _ => ⟨trivial, trivial⟩)
   ·
    have dd2 := hd 2 (by kernel_rfl)
    clear hd
    try generalize xF 2 = yy2 at *
    obtain rfl := dd2
    obtain hbl := id hR
    rw [if_neg (by intro h; exact absurd (show false = true from h) Bool.false_ne_true)]
    try simp only [Act.put, setIfInBounds_toArray, set_cons_zero, set_cons_succ]
    exact hK.out _ _ (Below.refl _ _) (rfl) (fun _ _ _ => ⟨trivial, trivial⟩)
   ·
    have dd2 := hd 2 (by kernel_rfl)
    clear hd
    try generalize xF 2 = yy2 at *
    obtain rfl := dd2
    obtain hbl := id hR
    rw [if_neg (by intro h; exact absurd (show false = true from h) Bool.false_ne_true)]
    try simp only [Act.put, setIfInBounds_toArray, set_cons_zero, set_cons_succ]
    exact hK.out _ _ (Below.refl _ _) (rfl) (fun _ _ _ => ⟨trivial, trivial⟩)
   ·
    have dd2 := hd 2 (by kernel_rfl)
    clear hd
    try generalize xF 2 = yy2 at *
    obtain rfl := dd2
    obtain hbl := id hR
    rw [if_neg (by intro h; exact absurd (show false = true from h) Bool.false_ne_true)]
    try simp only [Act.put, setIfInBounds_toArray, set_cons_zero, set_cons_succ]
    exact hK.out _ _ (Below.refl _ _) (rfl) (fun _ _ _ => ⟨trivial, trivial⟩)
   ·
    have dd2 := hd 2 (by kernel_rfl)
    clear hd
    try generalize xF 2 = yy2 at *
    obtain rfl := dd2
    obtain hbl := id hR
    rw [if_neg (by intro h; exact absurd (show false = true from h) Bool.false_ne_true)]
    try simp only [Act.put, setIfInBounds_toArray, set_cons_zero, set_cons_succ]
    exact hK.out _ _ (Below.refl _ _) (rfl) (fun _ _ _ => ⟨trivial, trivial⟩)
   ·
    have dd2 := hd 2 (by kernel_rfl)
    clear hd
    try generalize xF 2 = yy2 at *
    obtain rfl := dd2
    obtain hbl := id hR
    rw [if_neg (by intro h; exact absurd (show false = true from h) Bool.false_ne_true)]
    try simp only [Act.put, setIfInBounds_toArray, set_cons_zero, set_cons_succ]
    exact hK.out _ _ (Below.refl _ _) (rfl) (fun _ _ _ => ⟨trivial, trivial⟩)
   ·
    have dd2 := hd 2 (by kernel_rfl)
    clear hd
    try generalize xF 2 = yy2 at *
    obtain rfl := dd2
    obtain hbl := id hR
    rw [if_neg (by intro h; exact absurd (show false = true from h) Bool.false_ne_true)]
    try simp only [Act.put, setIfInBounds_toArray, set_cons_zero, set_cons_succ]
    exact hK.out _ _ (Below.refl _ _) (rfl) (fun _ _ _ => ⟨trivial, trivial⟩)
   ·
    have dd2 := hd 2 (by kernel_rfl)
    clear hd
    try generalize xF 2 = yy2 at *
    obtain rfl := dd2
    obtain hbl := id hR
    rw [if_neg (by intro h; exact absurd (show false = true from h) Bool.false_ne_true)]
    try simp only [Act.put, setIfInBounds_toArray, set_cons_zero, set_cons_succ]
    exact hK.out _ _ (Below.refl _ _) (rfl) (fun _ _ _ => ⟨trivial, trivial⟩)
   ·
    have dd9 := hd 9 (by kernel_rfl)
    clear hd
    try generalize xF 9 = yy9 at *
    obtain rfl := dd9
    obtain hbl := id hR
    rw [if_neg (by intro h; exact absurd (show false = true from h) Bool.false_ne_true)]
    try simp only [Act.put, setIfInBounds_toArray, set_cons_zero, set_cons_succ]
    exact hK.out _ _ (Below.refl _ _) (rfl) (fun _ _ _ => ⟨trivial, trivial⟩)
   ·
    have dd9 := hd 9 (by kernel_rfl)
    clear hd
    try generalize xF 9 = yy9 at *
    obtain rfl := dd9
    obtain hbl := id hR
    rw [if_neg (by intro h; exact absurd (show false = true from h) Bool.false_ne_true)]
    try simp only [Act.put, setIfInBounds_toArray, set_cons_zero, set_cons_succ]
    exact hK.out _ _ (Below.refl _ _) (rfl) (fun _ _ _ => ⟨trivial, trivial⟩)
   ·
    have dd9 := hd 9 (by kernel_rfl)
    clear hd
    try generalize xF 9 = yy9 at *
    obtain rfl := dd9
    obtain hbl := id hR
    rw [if_neg (by intro h; exact absurd (show false = true from h) Bool.false_ne_true)]
    try simp only [Act.put, setIfInBounds_toArray, set_cons_zero, set_cons_succ]
    exact hK.out _ _ (Below.refl _ _) (rfl) (fun _ _ _ => ⟨trivial, trivial⟩)
   ·
    have dd2 := hd 2 (by kernel_rfl)
    clear hd
    try generalize xF 2 = yy2 at *
    obtain rfl := dd2
    obtain hbl := id hR
    rw [if_neg (by intro h; exact absurd (show false = true from h) Bool.false_ne_true)]
    try simp only [Act.put, setIfInBounds_toArray, set_cons_zero, set_cons_succ]
    exact hK.out _ _ (Below.refl _ _) (rfl) (fun _ _ _ => ⟨trivial, trivial⟩)
   ·
    have dd2 := hd 2 (by kernel_rfl)
    clear hd
    try generalize xF 2 = yy2 at *
    obtain rfl := dd2
    obtain hbl := id hR
    rw [if_neg (by intro h; exact absurd (show false = true from h) Bool.false_ne_true)]
    try simp only [Act.put, setIfInBounds_toArray, set_cons_zero, set_cons_succ]
    exact hK.out _ _ (Below.refl _ _) (rfl) (fun _ _ _ => ⟨trivial, trivial⟩)
   ·
    have dd2 := hd 2 (by kernel_rfl)
    have dd14 := hd 14 (by kernel_rfl)
    clear hd
    try generalize xF 2 = yy2 at *
    try generalize xF 14 = yy14 at *
    obtain rfl := dd2
    obtain rfl := dd14
    obtain hbl := id hR
    rw [if_pos (by rfl)]
    go_simp
    exact hK.out _ _ (Below.refl _ _) (rfl) (fun _ _ _ => ⟨trivial, trivial⟩)
  intro xF ww1 hR hF hP
  clear hP
  have dd0 := hF 0 (by omega) (by decide)
  have dd1 := hF 1 (by omega) (by decide)
  have dd2 := hF 2 (by omega) (by decide)
  have dd3 := hF 3 (by omega) (by decide)
  have dd4 := hF 4 (by omega) (by decide)
  have dd5 := hF 5 (by omega) (by decide)
  have dd6 := hF 6 (by omega) (by decide)
  have dd7 := hF 7 (by omega) (by decide)
  have dd8 := hF 8 (by omega) (by decide)
  have dd9 := hF 9 (by omega) (by decide)
  have dd10 := hF 10 (by omega) (by decide)
  have dd11 := hF 11 (by omega) (by decide)
  have dd12 := hF 12 (by omega) (by decide)
  have dd13 := hF 13 (by omega) (by decide)
  have dd14 := hF 14 (by omega) (by decide)
  have dd15 := hF 15 (by omega) (by decide)
  clear hF
  simp only [take_succ_cons, take_zero, drop_succ_cons, drop_zero, fillOf, Act.put, setIfInBounds_toArray, set_cons_zero, set_cons_succ, Nat.reduceAdd, Nat.zero_add]
  try generalize xF 0 = yy0 at *
  try generalize xF 1 = yy1 at *
  try generalize xF 2 = yy2 at *
  try generalize xF 3 = yy3 at *
  try generalize xF 4 = yy4 at *
  try generalize xF 5 = yy5 at *
  try generalize xF 6 = yy6 at *
  try generalize xF 7 = yy7 at *
  try generalize xF 8 = yy8 at *
  try generalize xF 9 = yy9 at *
  try generalize xF 10 = yy10 at *
  try generalize xF 11 = yy11 at *
  try generalize xF 12 = yy12 at *
  try generalize xF 13 = yy13 at *
  try generalize xF 14 = yy14 at *
  try generalize xF 15 = yy15 at *
  clear xF
  obtain rfl := dd0
  obtain rfl := dd1
  obtain rfl := dd2
  obtain rfl := dd3
  obtain rfl := dd4
  obtain rfl := dd5
  obtain rfl := dd6
  obtain rfl := dd7
  obtain rfl := dd8
  obtain rfl := dd9
  obtain rfl := dd10
  obtain rfl := dd11
  obtain rfl := dd12
  obtain rfl := dd13
  obtain rfl := dd14
  obtain rfl := dd15
  have hRE1 := Lib.hid hR
  clear hR
  skip
 case' g2 =>
  clear k1 hcs
  obtain ⟨hcs, ha⟩ := k2
  subst hcs; subst ha
  replace HRO : Hid (∀ W, Below w13.heap.size w13 W → Calls Try.prog 13 #[.agg #[.int .i64 (oz : Int), .int .i64 0, .int .i64 (of : Int), .slice oo om oc], .string S] W fun e w' => e = .returned (.bool true) ∧ Below W.heap.size W w') := HRO.out rfl
  go_wp2_with fail
  rw [← HWD.out]
  try rw [← HD.out]
  refine wp_flow 16 (fun _ => 1000) (fun ww => RowKit.Below w13.heap.size w13 ww) (fun _ w w' => (fun (w w' : World) => RowKit.Below w.heap.size w w') w w') (fun kF vF wF => match kF with | 0 => (vF = .int .i64 0) | 1 => (vF = .bool true) | 2 => (vF = .bool true) | 3 => (vF = .agg #[.int .i64 (oz : Int), .int .i64 0, .int .i64 (of : Int), .slice oo om oc]) | 4 => (vF = .string S) | 5 => (vF = .bool true) | 6 => (vF = .agg #[.int .i64 (az : Int), .int .i64 0, .int .i64 (af : Int), .slice ao am ac]) | 7 => (vF = .string S) | 8 => (vF = .bool true) | 9 => (vF = .bool true) | 10 => (vF = undef) | 11 => (vF = undef) | 12 => (vF = undef) | 13 => (vF = .bool true) | 14 => (vF = .bool false) | 15 => (vF = .bool false) | _ => True) (fun _ _ _ _ => True) (by kernel_rfl) (by kernel_rfl) ?_ ?_ ?_ ?_ ?_
  ·
   exact (Below.refl _ _).drew
  ·
   intro iF wF1 wF2 hR hT; exact hR.trans (hT.mono hR.size)
  ·
   intro kF hkF iF hiF hne hdd hanc hdan vF wF1 wF2 h hT
   rcases (by omega : kF = 0 ∨ kF = 1 ∨ kF = 2 ∨ kF = 3 ∨ kF = 4 ∨ kF = 5 ∨ kF = 6 ∨ kF = 7 ∨ kF = 8 ∨ kF = 9 ∨ kF = 10 ∨ kF = 11 ∨ kF = 12 ∨ kF = 13 ∨ kF = 14 ∨ kF = 15) with rfl | rfl | rfl | rfl | rfl | rfl | rfl | rfl | rfl | rfl | rfl | rfl | rfl | rfl | rfl | rfl
   iterate 16 exact h
  ·
   generalize hAF : fillOf _ _ _ = AF
   replace hAF := fun x => congrFun hAF x
   simp only [take_succ_cons, take_zero, fillOf, Act.put, setIfInBounds_toArray, set_cons_zero, set_cons_succ, Nat.reduceAdd, Nat.zero_add] at hAF
   refine .cons ?_ (.cons ?_ (.cons ?_ (.cons ?_ (.cons ?_ (.cons ?_ (.cons ?_ (.cons ?_ (.cons ?_ (.cons ?_ (.cons ?_ (.cons ?_ (.cons ?_ (.cons ?_ (.cons ?_ (.cons ?_ (.nil))))))))))))))))
   all_goals
    intro xF ww1 hR hd K hK
    first | simp only [← hAF, Act.put, setIfInBounds_toArray, set_cons_zero, set_cons_succ] at hK ⊢ | simp only [← hAF, Act.put] at hK ⊢
    clear hAF
    try simp only [Nat.zero_add, Nat.reduceAdd] at hK ⊢
   ·
    clear hd
    obtain hbl := id hR
    rw [if_pos (by rfl)]
    go_simp
    exact hK.out _ _ (Below.refl _ _) (rfl) (fun _ _ _ => ⟨trivial, trivial⟩)
   ·
    have dd0 := hd 0 (by kernel_rfl)
    clear hd
    try generalize xF 0 = yy0 at *
    obtain rfl := dd0
    obtain hbl := id hR
    rw [if_pos (by rfl)]
    go_simp
    exact hK.out _ _ (Below.refl _ _) (rfl) (fun _ _ _ => ⟨trivial, trivial⟩)
   ·
    have dd1 := hd 1 (by kernel_rfl)
    clear hd
    try generalize xF 1 = yy1 at *
    obtain rfl := dd1
    obtain hbl := id hR
    rw [if_pos (by rfl)]
    go_simp
    exact hK.out _ _ (Below.refl _ _) (rfl) (fun _ _ _ => ⟨trivial, trivial⟩)
   ·
    have dd2 := hd 2 (by kernel_rfl)
    clear hd
    try generalize xF 2 = yy2 at *
    obtain rfl := dd2
    obtain hbl := id hR
    have cc := HXC.out _ (HBAD.out.trans (hbl.mono HBAD.out.size))
    have q0 := boxc cc 0 _ rfl
    have q1 := boxc cc 1 _ rfl
    have q2 := boxc cc 2 _ rfl
    have q3 := boxc cc 3 _ rfl
    rw [if_pos (by rfl)]
    go_simp
    exact hK.out _ _ (Below.refl _ _) (rfl) (fun _ _ _ => ⟨trivial, trivial⟩)
   ·
    have dd2 := hd 2 (by kernel_rfl)
    clear hd
    try generalize xF 2 = yy2 at *
    obtain rfl := dd2
    obtain hbl := id hR
    rw [if_pos (by rfl)]
    go_simp
    exact hK.out _ _ (Below.refl _ _) (rfl) (fun _ _ _ => ⟨trivial, trivial⟩)
   ·
    have dd2 := hd 2 (by kernel_rfl)
    have dd3 := hd 3 (by kernel_rfl)
    have dd4 := hd 4 (by kernel_rfl)
    clear hd
    try generalize xF 2 = yy2 at *
    try generalize xF 3 = yy3 at *
    try generalize xF 4 = yy4 at *
    obtain rfl := dd2
    obtain rfl := dd3
    obtain rfl := dd4
    obtain hbl := id hR
    rw [if_pos (by rfl)]
    go_simp
    (go_at_call 13; (with_reducible refine (HRO.out ww1 hbl).mono ?_); rintro e wK ⟨rfl, hbK⟩)
    try go_wp2_with fail
    exact hK.out _ _ (hbK) (rfl) (fun _ _ _ => ⟨trivial, trivial⟩)
   ·
    have dd2 := hd 2 (by kernel_rfl)
    clear hd
    try generalize xF 2 = yy2 at *
    obtain rfl := dd2
    obtain hbl := id hR
    have cc := HXA.out _ (HB5D.out.trans (hbl.mono HB5D.out.size))
    have q0 := boxc cc 0 _ rfl
    have q1 := boxc cc 1 _ rfl
    have q2 := boxc cc 2 _ rfl
    have q3 := boxc cc 3 _ rfl
    rw [if_pos (by rfl)]
    go_simp
    exact hK.out _ _ (Below.refl _ _) (rfl) (fun _ _ _ => ⟨trivial, trivial⟩)
   ·
    have dd2 := hd 2 (by kernel_rfl)
    clear hd
    try generalize xF 2 = yy2 at *
    obtain rfl := dd2
    obtain hbl := id hR
    rw [if_pos (by rfl)]
    go_simp
    exact hK.out _ _ (Below.refl _ _) (rfl) (fun _ _ _ => ⟨trivial, trivial⟩)
   ·
    have dd2 := hd 2 (by kernel_rfl)
    have dd6 := hd 6 (by kernel_rfl)
    have dd7 := hd 7 (by kernel_rfl)
    clear hd
    try generalize xF 2 = yy2 at *
    try generalize xF 6 = yy6 at *
    try generalize xF 7 = yy7 at *
    obtain rfl := dd2
    obtain rfl := dd6
    obtain rfl := dd7
    obtain hbl := id hR
    rw [if_pos (by rfl)]
    go_simp
    (go_at_call 13; (with_reducible refine (HRA.out ww1 hbl).mono ?_); rintro e wK ⟨rfl, hbK⟩)
    try go_wp2_with fail
    exact hK.out _ _ (hbK) (rfl) (fun _ _ _ => ⟨trivial, trivial⟩)
   ·
    have dd2 := hd 2 (by kernel_rfl)
    have dd8 := hd 8 (by kernel_rfl)
    clear hd
    try generalize xF 2 = yy2 at *
    try generalize xF 8 = yy8 at *
    obtain rfl := dd2
    obtain rfl := dd8
    obtain hbl := id hR
    rw [if_pos (by rfl)]
    go_simp
    exact hK.out _ _ (Below.refl _ _) (rfl) (fun _ _ _ => ⟨trivial, trivial⟩)
   ·
    have dd9 := hd 9 (by kernel_rfl)
    clear hd
    try generalize xF 9 = yy9 at *
    obtain rfl := dd9
    obtain hbl := id hR
    rw [if_neg (by intro h; exact absurd (show false = true from h) Bool.false_ne_true)]
    try simp only [Act.put, setIfInBounds_toArray, set_cons_zero, set_cons_succ]
    exact hK.out _ _ (Below.refl _ _) (rfl) (fun _ _ _ => ⟨trivial, trivial⟩)
   ·
    have dd9 := hd 9 (by kernel_rfl)
    clear hd
    try generalize xF 9 = yy9 at *
    obtain rfl := dd9
    obtain hbl := id hR
    rw [if_neg (by intro h; exact absurd (show false = true from h) Bool.false_ne_true)]
    try simp only [Act.put, setIfInBounds_toArray, set_cons_zero, set_cons_succ]
    exact hK.out _ _ (Below.refl _ _) (rfl) (fun _ _ _ => ⟨trivial, trivial⟩)
   ·
    have dd9 := hd 9 (by kernel_rfl)
    clear hd
    try generalize xF 9 = yy9 at *
    obtain rfl := dd9
    obtain hbl := id hR
    rw [if_neg (by intro h; exact absurd (show false = true from h) Bool.false_ne_true)]
    try simp only [Act.put, setIfInBounds_toArray, set_cons_zero, set_cons_succ]
    exact hK.out _ _ (Below.refl _ _) (rfl) (fun _ _ _ => ⟨trivial, trivial⟩)
   ·
    have dd2 := hd 2 (by kernel_rfl)
    have dd9 := hd 9 (by kernel_rfl)
    have dd12 := hd 12 (by kernel_rfl)
    clear hd
    try generalize xF 2 = yy2 at *
    try generalize xF 9 = yy9 at *
    try generalize xF 12 = yy12 at *
    obtain rfl := dd2
    obtain rfl := dd9
    obtain rfl := dd12
    obtain hbl := id hR
    rw [if_pos (by rfl)]
    go_simp
    exact hK.out _ _ (Below.refl _ _) (rfl) (fun _ _ _ => ⟨trivial, trivial⟩)
   ·
    have dd2 := hd 2 (by kernel_rfl)
    have dd5 := hd 5 (by kernel_rfl)
    have dd13 := hd 13 (by kernel_rfl)
    clear hd
    try generalize xF 2 = yy2 at *
    try generalize xF 5 = yy5 at *
    try generalize xF 13 = yy13 at *
    obtain rfl := dd2
    obtain rfl := dd5
    obtain rfl := dd13
    obtain hbl := id hR
    rw [if_pos (by rfl)]
    go_simp
    exact hK.out _ _ (Below.refl _ _) (rfl) (fun _ _ _ => ⟨trivial, trivial⟩)
   ·
    have dd2 := hd 2 (by kernel_rfl)
    have dd14 := hd 14 (by kernel_rfl)
    clear hd
    try generalize xF 2 = yy2 at *
    try generalize xF 14 = yy14 at *
    obtain rfl := dd2
    obtain rfl := dd14
    obtain hbl := id hR
    rw [if_pos (by rfl)]
    go_simp
    exact hK.out _ _ (Below.refl _ _) (rfl) (fun _ _ _ => ⟨trivial, trivial⟩)
  intro xF ww1 hR hF hP
  clear hP
  have dd0 := hF 0 (by omega) (by decide)
  have dd1 := hF 1 (by omega) (by decide)
  have dd2 := hF 2 (by omega) (by decide)
  have dd3 := hF 3 (by omega) (by decide)
  have dd4 := hF 4 (by omega) (by decide)
  have dd5 := hF 5 (by omega) (by decide)
  have dd6 := hF 6 (by omega) (by decide)
  have dd7 := hF 7 (by omega) (by decide)
  have dd8 := hF 8 (by omega) (by decide)
  have dd9 := hF 9 (by omega) (by decide)
  have dd10 := hF 10 (by omega) (by decide)
  have dd11 := hF 11 (by omega) (by decide)
  have dd12 := hF 12 (by omega) (by decide)
  have dd13 := hF 13 (by omega) (by decide)
  have dd14 := hF 14 (by omega) (by decide)
  have dd15 := hF 15 (by omega) (by decide)
  clear hF
  simp only [take_succ_cons, take_zero, drop_succ_cons, drop_zero, fillOf, Act.put, setIfInBounds_toArray, set_cons_zero, set_cons_succ, Nat.reduceAdd, Nat.zero_add]
  try generalize xF 0 = yy0 at *
  try generalize xF 1 = yy1 at *
  try generalize xF 2 = yy2 at *
  try generalize xF 3 = yy3 at *
  try generalize xF 4 = yy4 at *
  try generalize xF 5 = yy5 at *
  try generalize xF 6 = yy6 at *
  try generalize xF 7 = yy7 at *
  try generalize xF 8 = yy8 at *
  try generalize xF 9 = yy9 at *
  try generalize xF 10 = yy10 at *
  try generalize xF 11 = yy11 at *
  try generalize xF 12 = yy12 at *
  try generalize xF 13 = yy13 at *
  try generalize xF 14 = yy14 at *
  try generalize xF 15 = yy15 at *
  clear xF
  obtain rfl := dd0
  obtain rfl := dd1
  obtain rfl := dd2
  obtain rfl := dd3
  obtain rfl := dd4
  obtain rfl := dd5
  obtain rfl := dd6
  obtain rfl := dd7
  obtain rfl := dd8
  obtain rfl := dd9
  obtain rfl := dd10
  obtain rfl := dd11
  obtain rfl := dd12
  obtain rfl := dd13
  obtain rfl := dd14
  obtain rfl := dd15
  have hRE1 := Lib.hid hR
  clear hR
  skip
 case' g3 =>
  clear k1 k2 hcs
  obtain ⟨hcs, ha, hb⟩ := k3
  subst hcs; subst ha; subst hb
  replace HRO : Hid (∀ W, Below w13.heap.size w13 W → Calls Try.prog 13 #[.agg #[.int .i64 (oz : Int), .int .i64 0, .int .i64 (of : Int), .slice oo om oc], .string S] W fun e w' => e = .returned (.bool true) ∧ Below W.heap.size W w') := HRO.out rfl
  go_wp2_with fail
  rw [← HWD.out]
  try rw [← HD.out]
  refine wp_flow 16 (fun _ => 1000) (fun ww => RowKit.Below w13.heap.size w13 ww) (fun _ w w' => (fun (w w' : World) => RowKit.Below w.heap.size w w') w w') (fun kF vF wF => match kF with | 0 => (vF = .int .i64 0) | 1 => (vF = .bool true) | 2 => (vF = .bool true) | 3 => (vF = .agg #[.int .i64 (oz : Int), .int .i64 0, .int .i64 (of : Int), .slice oo om oc]) | 4 => (vF = .string S) | 5 => (vF = .bool true) | 6 => (vF = .agg #[.int .i64 (az : Int), .int .i64 0, .int .i64 (af : Int), .slice ao am ac]) | 7 => (vF = .string S) | 8 => (vF = .bool false) | 9 => (vF = .bool false) | 10 => (vF = .agg #[.int .i64 (bz : Int), .int .i64 0, .int .i64 (bf : Int), .slice bo bm bc]) | 11 => (vF = .string S) | 12 => (vF = .bool true) | 13 => (vF = .bool true) | 14 => (vF = .bool false) | 15 => (vF = .bool false) | _ => True) (fun _ _ _ _ => True) (by kernel_rfl) (by kernel_rfl) ?_ ?_ ?_ ?_ ?_
  ·
   exact (Below.refl _ _).drew
  ·
   intro iF wF1 wF2 hR hT; exact hR.trans (hT.mono hR.size)
  ·
   intro kF hkF iF hiF hne hdd hanc hdan vF wF1 wF2 h hT
   rcases (by omega : kF = 0 ∨ kF = 1 ∨ kF = 2 ∨ kF = 3 ∨ kF = 4 ∨ kF = 5 ∨ kF = 6 ∨ kF = 7 ∨ kF = 8 ∨ kF = 9 ∨ kF = 10 ∨ kF = 11 ∨ kF = 12 ∨ kF = 13 ∨ kF = 14 ∨ kF = 15) with rfl | rfl | rfl | rfl | rfl | rfl | rfl | rfl | rfl | rfl | rfl | rfl | rfl | rfl | rfl | rfl
   iterate 16 exact h
  ·
   generalize hAF : fillOf _ _ _ = AF
   replace hAF := fun x => congrFun hAF x
   simp only [take_succ_cons, take_zero, fillOf, Act.put, setIfInBounds_toArray, set_cons_zero, set_cons_succ, Nat.reduceAdd, Nat.zero_add] at hAF
   refine .cons ?_ (.cons ?_ (.cons ?_ (.cons ?_ (.cons ?_ (.cons ?_ (.cons ?_ (.cons ?_ (.cons ?_ (.cons ?_ (.cons ?_ (.cons ?_ (.cons ?_ (.cons ?_ (.cons ?_ (.cons ?_ (.nil))))))))))))))))
   all_goals
    intro xF ww1 hR hd K hK
    first | simp only [← hAF, Act.put, setIfInBounds_toArray, set_cons_zero, set_cons_succ] at hK ⊢ | simp only [← hAF, Act.put] at hK ⊢
    clear hAF
    try simp only [Nat.zero_add, Nat.reduceAdd] at hK ⊢
   ·
    clear hd
    obtain hbl := id hR
    rw [if_pos (by rfl)]
    go_simp
    exact hK.out _ _ (Below.refl _ _) (rfl) (fun _ _ _ => ⟨trivial, trivial⟩)
   ·
    have dd0 := hd 0 (by kernel_rfl)
    clear hd
    try generalize xF 0 = yy0 at *
    obtain rfl := dd0
    obtain hbl := id hR
    rw [if_pos (by rfl)]
    go_simp
    exact hK.out _ _ (Below.refl _ _) (rfl) (fun _ _ _ => ⟨trivial, trivial⟩)
   ·
    have dd1 := hd 1 (by kernel_rfl)
    clear hd
    try generalize xF 1 = yy1 at *
    obtain rfl := dd1
    obtain hbl := id hR
    rw [if_pos (by rfl)]
    go_simp
    exact hK.out _ _ (Below.refl _ _) (rfl) (fun _ _ _ => ⟨trivial, trivial⟩)
   ·
    have dd2 := hd 2 (by kernel_rfl)
    clear hd
    try generalize xF 2 = yy2 at *
    obtain rfl := dd2
    obtain hbl := id hR
    have cc := HXC.out _ (HBAD.out.trans (hbl.mono HBAD.out.size))
    have q0 := boxc cc 0 _ rfl
    have q1 := boxc cc 1 _ rfl
    have q2 := boxc cc 2 _ rfl
    have q3 := boxc cc 3 _ rfl
    rw [if_pos (by rfl)]
    go_simp
    exact hK.out _ _ (Below.refl _ _) (rfl) (fun _ _ _ => ⟨trivial, trivial⟩)
   ·
    have dd2 := hd 2 (by kernel_rfl)
    clear hd
    try generalize xF 2 = yy2 at *
    obtain rfl := dd2
    obtain hbl := id hR
    rw [if_pos (by rfl)]
    go_simp
    exact hK.out _ _ (Below.refl _ _) (rfl) (fun _ _ _ => ⟨trivial, trivial⟩)
   ·
    have dd2 := hd 2 (by kernel_rfl)
    have dd3 := hd 3 (by kernel_rfl)
    have dd4 := hd 4 (by kernel_rfl)
    clear hd
    try generalize xF 2 = yy2 at *
    try generalize xF 3 = yy3 at *
    try generalize xF 4 = yy4 at *
    obtain rfl := dd2
    obtain rfl := dd3
    obtain rfl := dd4
    obtain hbl := id hR
    rw [if_pos (by rfl)]
    go_simp
    (go_at_call 13; (with_reducible refine (HRO.out ww1 hbl).mono ?_); rintro e wK ⟨rfl, hbK⟩)
    try go_wp2_with fail
    exact hK.out _ _ (hbK) (rfl) (fun _ _ _ => ⟨trivial, trivial⟩)
   ·
    have dd2 := hd 2 (by kernel_rfl)
    clear hd
    try generalize xF 2 = yy2 at *
    obtain rfl := dd2
    obtain hbl := id hR
    have cc := HXA.out _ (HB5D.out.trans (hbl.mono HB5D.out.size))
    have q0 := boxc cc 0 _ rfl
    have q1 := boxc cc 1 _ rfl
    have q2 := boxc cc 2 _ rfl
    have q3 := boxc cc 3 _ rfl
    rw [if_pos (by rfl)]
    go_simp
    exact hK.out _ _ (Below.refl _ _) (rfl) (fun _ _ _ => ⟨trivial, trivial⟩)
   ·
    have dd2 := hd 2 (by kernel_rfl)
    clear hd
    try generalize xF 2 = yy2 at *
    obtain rfl := dd2
    obtain hbl := id hR
    rw [if_pos (by rfl)]
    go_simp
    exact hK.out _ _ (Below.refl _ _) (rfl) (fun _ _ _ => ⟨trivial, trivial⟩)
   ·
    have dd2 := hd 2 (by kernel_rfl)
    have dd6 := hd 6 (by kernel_rfl)
    have dd7 := hd 7 (by kernel_rfl)
    clear hd
    try generalize xF 2 = yy2 at *
    try generalize xF 6 = yy6 at *
    try generalize xF 7 = yy7 at *
    obtain rfl := dd2
    obtain rfl := dd6
    obtain rfl := dd7
    obtain hbl := id hR
    rw [if_pos (by rfl)]
    go_simp
    (go_at_call 13; (with_reducible refine (HRA.out ww1 hbl).mono ?_); rintro e wK ⟨rfl, hbK⟩)
    try go_wp2_with fail
    exact hK.out _ _ (hbK) (rfl) (fun _ _ _ => ⟨trivial, trivial⟩)
   ·
    have dd2 := hd 2 (by kernel_rfl)
    have dd8 := hd 8 (by kernel_rfl)
    clear hd
    try generalize xF 2 = yy2 at *
    try generalize xF 8 = yy8 at *
    obtain rfl := dd2
    obtain rfl := dd8
    obtain hbl := id hR
    rw [if_pos (by rfl)]
    go_simp
    exact hK.out _ _ (Below.refl _ _) (rfl) (fun _ _ _ => ⟨trivial, trivial⟩)
   ·
    have dd9 := hd 9 (by kernel_rfl)
    clear hd
    try generalize xF 9 = yy9 at *
    obtain rfl := dd9
    obtain hbl := id hR
    have cc := HXB.out _ (HB7D.out.trans (hbl.mono HB7D.out.size))
    have q0 := boxc cc 0 _ rfl
    have q1 := boxc cc 1 _ rfl
    have q2 := boxc cc 2 _ rfl
    have q3 := boxc cc 3 _ rfl
    rw [if_pos (by rfl)]
    go_simp
    exact hK.out _ _ (Below.refl _ _) (rfl) (fun _ _ _ => ⟨trivial, trivial⟩)
   ·
    have dd9 := hd 9 (by kernel_rfl)
    clear hd
    try generalize xF 9 = yy9 at *
    obtain rfl := dd9
    obtain hbl := id hR
    rw [if_pos (by rfl)]
    go_simp
    exact hK.out _ _ (Below.refl _ _) (rfl) (fun _ _ _ => ⟨trivial, trivial⟩)
   ·
    have dd9 := hd 9 (by kernel_rfl)
    have dd10 := hd 10 (by kernel_rfl)
    have dd11 := hd 11 (by kernel_rfl)
    clear hd
    try generalize xF 9 = yy9 at *
    try generalize xF 10 = yy10 at *
    try generalize xF 11 = yy11 at *
    obtain rfl := dd9
    obtain rfl := dd10
    obtain rfl := dd11
    obtain hbl := id hR
    rw [if_pos (by rfl)]
    go_simp
    (go_at_call 13; (with_reducible refine (HRB.out ww1 hbl).mono ?_); rintro e wK ⟨rfl, hbK⟩)
    try go_wp2_with fail
    exact hK.out _ _ (hbK) (rfl) (fun _ _ _ => ⟨trivial, trivial⟩)
   ·
    have dd2 := hd 2 (by kernel_rfl)
    have dd9 := hd 9 (by kernel_rfl)
    have dd12 := hd 12 (by kernel_rfl)
    clear hd
    try generalize xF 2 = yy2 at *
    try generalize xF 9 = yy9 at *
    try generalize xF 12 = yy12 at *
    obtain rfl := dd2
    obtain rfl := dd9
    obtain rfl := dd12
    obtain hbl := id hR
    rw [if_pos (by rfl)]
    go_simp
    exact hK.out _ _ (Below.refl _ _) (rfl) (fun _ _ _ => ⟨trivial, trivial⟩)
   ·
    have dd2 := hd 2 (by kernel_rfl)
    have dd5 := hd 5 (by kernel_rfl)
    have dd13 := hd 13 (by kernel_rfl)
    clear hd
    try generalize xF 2 = yy2 at *
    try generalize xF 5 = yy5 at *
    try generalize xF 13 = yy13 at *
    obtain rfl := dd2
    obtain rfl := dd5
    obtain rfl := dd13
    obtain hbl := id hR
    rw [if_pos (by rfl)]
    go_simp
    exact hK.out _ _ (Below.refl _ _) (rfl) (fun _ _ _ => ⟨trivial, trivial⟩)
   ·
    have dd2 := hd 2 (by kernel_rfl)
    have dd14 := hd 14 (by kernel_rfl)
    clear hd
    try generalize xF 2 = yy2 at *
    try generalize xF 14 = yy14 at *
    obtain rfl := dd2
    obtain rfl := dd14
    obtain hbl := id hR
    rw [if_pos (by rfl)]
    go_simp
    exact hK.out _ _ (Below.refl _ _) (rfl) (fun _ _ _ => ⟨trivial, trivial⟩)
  intro xF ww1 hR hF hP
  clear hP
  have dd0 := hF 0 (by omega) (by decide)
  have dd1 := hF 1 (by omega) (by decide)
  have dd2 := hF 2 (by omega) (by decide)
  have dd3 := hF 3 (by omega) (by decide)
  have dd4 := hF 4 (by omega) (by decide)
  have dd5 := hF 5 (by omega) (by decide)
  have dd6 := hF 6 (by omega) (by decide)
  have dd7 := hF 7 (by omega) (by decide)
  have dd8 := hF 8 (by omega) (by decide)
  have dd9 := hF 9 (by omega) (by decide)
  have dd10 := hF 10 (by omega) (by decide)
  have dd11 := hF 11 (by omega) (by decide)
  have dd12 := hF 12 (by omega) (by decide)
  have dd13 := hF 13 (by omega) (by decide)
  have dd14 := hF 14 (by omega) (by decide)
  have dd15 := hF 15 (by omega) (by decide)
  clear hF
  simp only [take_succ_cons, take_zero, drop_succ_cons, drop_zero, fillOf, Act.put, setIfInBounds_toArray, set_cons_zero, set_cons_succ, Nat.reduceAdd, Nat.zero_add]
  try generalize xF 0 = yy0 at *
  try generalize xF 1 = yy1 at *
  try generalize xF 2 = yy2 at *
  try generalize xF 3 = yy3 at *
  try generalize xF 4 = yy4 at *
  try generalize xF 5 = yy5 at *
  try generalize xF 6 = yy6 at *
  try generalize xF 7 = yy7 at *
  try generalize xF 8 = yy8 at *
  try generalize xF 9 = yy9 at *
  try generalize xF 10 = yy10 at *
  try generalize xF 11 = yy11 at *
  try generalize xF 12 = yy12 at *
  try generalize xF 13 = yy13 at *
  try generalize xF 14 = yy14 at *
  try generalize xF 15 = yy15 at *
  clear xF
  obtain rfl := dd0
  obtain rfl := dd1
  obtain rfl := dd2
  obtain rfl := dd3
  obtain rfl := dd4
  obtain rfl := dd5
  obtain rfl := dd6
  obtain rfl := dd7
  obtain rfl := dd8
  obtain rfl := dd9
  obtain rfl := dd10
  obtain rfl := dd11
  obtain rfl := dd12
  obtain rfl := dd13
  obtain rfl := dd14
  obtain rfl := dd15
  have hRE1 := Lib.hid hR
  clear hR
  skip
 case' g4 =>
  clear k1 k2 hcs
  obtain ⟨hcs, ha, hb⟩ := k3
  subst hcs; subst ha; subst hb
  replace HRO : Hid (∀ W, Below w13.heap.size w13 W → Calls Try.prog 13 #[.agg #[.int .i64 (oz : Int), .int .i64 0, .int .i64 (of : Int), .slice oo om oc], .string S] W fun e w' => e = .returned (.bool false) ∧ Below W.heap.size W w') := HRO.out rfl
  go_wp2_with fail
  rw [← HWD.out]
  try rw [← HD.out]
  refine wp_flow 16 (fun _ => 1000) (fun ww => RowKit.Below w13.heap.size w13 ww) (fun _ w w' => (fun (w w' : World) => RowKit.Below w.heap.size w w') w w') (fun kF vF wF => match kF with | 0 => (vF = .int .i64 0) | 1 => (vF = .bool true) | 2 => (vF = .bool true) | 3 => (vF = .agg #[.int .i64 (oz : Int), .int .i64 0, .int .i64 (of : Int), .slice oo om oc]) | 4 => (vF = .string S) | 5 => (vF = .bool false) | 6 => (vF = .agg #[.int .i64 (az : Int), .int .i64 0, .int .i64 (af : Int), .slice ao am ac]) | 7 => (vF = .string S) | 8 => (vF = .bool false) | 9 => (vF = .bool false) | 10 => (vF = .agg #[.int .i64 (bz : Int), .int .i64 0, .int .i64 (bf : Int), .slice bo bm bc]) | 11 => (vF = .string S) | 12 => (vF = .bool false) | 13 => (vF = .bool false) | 14 => (vF = .bool false) | 15 => (vF = .bool false) | _ => True) (fun _ _ _ _ => True) (by kernel_rfl) (by kernel_rfl) ?_ ?_ ?_ ?_ ?_
  ·
   exact (Below.refl _ _).drew
  ·
   intro iF wF1 wF2 hR hT; exact hR.trans (hT.mono hR.size)
  ·
   intro kF hkF iF hiF hne hdd hanc hdan vF wF1 wF2 h hT
   rcases (by omega : kF = 0 ∨ kF = 1 ∨ kF = 2 ∨ kF = 3 ∨ kF = 4 ∨ kF = 5 ∨ kF = 6 ∨ kF = 7 ∨ kF = 8 ∨ kF = 9 ∨ kF = 10 ∨ kF = 11 ∨ kF = 12 ∨ kF = 13 ∨ kF = 14 ∨ kF = 15) with rfl | rfl | rfl | rfl | rfl | rfl | rfl | rfl | rfl | rfl | rfl | rfl | rfl | rfl | rfl | rfl
   iterate 16 exact h
  ·
   generalize hAF : fillOf _ _ _ = AF
   replace hAF := fun x => congrFun hAF x
   simp only [take_succ_cons, take_zero, fillOf, Act.put, setIfInBounds_toArray, set_cons_zero, set_cons_succ, Nat.reduceAdd, Nat.zero_add] at hAF
   refine .cons ?_ (.cons ?_ (.cons ?_ (.cons ?_ (.cons ?_ (.cons ?_ (.cons ?_ (.cons ?_ (.cons ?_ (.cons ?_ (.cons ?_ (.cons ?_ (.cons ?_ (.cons ?_ (.cons ?_ (.cons ?_ (.nil))))))))))))))))
   all_goals
    intro xF ww1 hR hd K hK
    first | simp only [← hAF, Act.put, setIfInBounds_toArray, set_cons_zero, set_cons_succ] at hK ⊢ | simp only [← hAF, Act.put] at hK ⊢
    clear hAF
    try simp only [Nat.zero_add, Nat.reduceAdd] at hK ⊢
   ·
    clear hd
    obtain hbl := id hR
    rw [if_pos (by rfl)]
    go_simp
    exact hK.out _ _ (Below.refl _ _) (rfl) (fun _ _ _ => ⟨trivial, trivial⟩)
   ·
    have dd0 := hd 0 (by kernel_rfl)
    clear hd
    try generalize xF 0 = yy0 at *
    obtain rfl := dd0
    obtain hbl := id hR
    rw [if_pos (by rfl)]
    go_simp
    exact hK.out _ _ (Below.refl _ _) (rfl) (fun _ _ _ => ⟨trivial, trivial⟩)
   ·
    have dd1 := hd 1 (by kernel_rfl)
    clear hd
    try generalize xF 1 = yy1 at *
    obtain rfl := dd1
    obtain hbl := id hR
    rw [if_pos (by rfl)]
    go_simp
    exact hK.out _ _ (Below.refl _ _) (rfl) (fun _ _ _ => ⟨trivial, trivial⟩)
   ·
    have dd2 := hd 2 (by kernel_rfl)
    clear hd
    try generalize xF 2 = yy2 at *
    obtain rfl := dd2
    obtain hbl := id hR
    have cc := HXC.out _ (HBAD.out.trans (hbl.mono HBAD.out.size))
    have q0 := boxc cc 0 _ rfl
    have q1 := boxc cc 1 _ rfl
    have q2 := boxc cc 2 _ rfl
    have q3 := boxc cc 3 _ rfl
    rw [if_pos (by rfl)]
    go_simp
    exact hK.out _ _ (Below.refl _ _) (rfl) (fun _ _ _ => ⟨trivial, trivial⟩)
   ·
    have dd2 := hd 2 (by kernel_rfl)
    clear hd
    try generalize xF 2 = yy2 at *
    obtain rfl := dd2
    obtain hbl := id hR
    rw [if_pos (by rfl)]
    go_simp
    exact hK.out _ _ (Below.refl _ _) (rfl) (fun _ _ _ => ⟨trivial, trivial⟩)
   ·
    have dd2 := hd 2 (by kernel_rfl)
    have dd3 := hd 3 (by kernel_rfl)
    have dd4 := hd 4 (by kernel_rfl)
    clear hd
    try generalize xF 2 = yy2 at *
    try generalize xF 3 = yy3 at *
    try generalize xF 4 = yy4 at *
    obtain rfl := dd2
    obtain rfl := dd3
    obtain rfl := dd4
    obtain hbl := id hR
    rw [if_pos (by rfl)]
    go_simp
    (go_at_call 13; (with_reducible refine (HRO.out ww1 hbl).mono ?_); rintro e wK ⟨rfl, hbK⟩)
    try go_wp2_with fail
    exact hK.out _ _ (hbK) (rfl) (fun _ _ _ => ⟨trivial, trivial⟩)
   ·
    have dd2 := hd 2 (by kernel_rfl)
    clear hd
    try generalize xF 2 = yy2 at *
    obtain rfl := dd2
    obtain hbl := id hR
    have cc := HXA.out _ (HB5D.out.trans (hbl.mono HB5D.out.size))
    have q0 := boxc cc 0 _ rfl
    have q1 := boxc cc 1 _ rfl
    have q2 := boxc cc 2 _ rfl
    have q3 := boxc cc 3 _ rfl
    rw [if_pos (by rfl)]
    go_simp
    exact hK.out _ _ (Below.refl _ _) (rfl) (fun _ _ _ => ⟨trivial, trivial⟩)
   ·
    have dd2 := hd 2 (by kernel_rfl)
    clear hd
    try generalize xF 2 = yy2 at *
    obtain rfl := dd2
    obtain hbl := id hR
    rw [if_pos (by rfl)]
    go_simp
    exact hK.out _ _ (Below.refl _ _) (rfl) (fun _ _ _ => ⟨trivial, trivial⟩)
   ·
    have dd2 := hd 2 (by kernel_rfl)
    have dd6 := hd 6 (by kernel_rfl)
    have dd7 := hd 7 (by kernel_rfl)
    clear hd
    try generalize xF 2 = yy2 at *
    try generalize xF 6 = yy6 at *
    try generalize xF 7 = yy7 at *
    obtain rfl := dd2
    obtain rfl := dd6
    obtain rfl := dd7
    obtain hbl := id hR
    rw [if_pos (by rfl)]
    go_simp
    (go_at_call 13; (with_reducible refine (HRA.out ww1 hbl).mono ?_); rintro e wK ⟨rfl, hbK⟩)
    try go_wp2_with fail
    exact hK.out _ _ (hbK) (rfl) (fun _ _ _ => ⟨trivial, trivial⟩)
   ·
    have dd2 := hd 2 (by kernel_rfl)
    have dd8 := hd 8 (by kernel_rfl)
    clear hd
    try generalize xF 2 = yy2 at *
    try generalize xF 8 = yy8 at *
    obtain rfl := dd2
    obtain rfl := dd8
    obtain hbl := id hR
    rw [if_pos (by rfl)]
    go_simp
    exact hK.out _ _ (Below.refl _ _) (rfl) (fun _ _ _ => ⟨trivial, trivial⟩)
   ·
    have dd9 := hd 9 (by kernel_rfl)
    clear hd
    try generalize xF 9 = yy9 at *
    obtain rfl := dd9
    obtain hbl := id hR
    have cc := HXB.out _ (HB7D.out.trans (hbl.mono HB7D.out.size))
    have q0 := boxc cc 0 _ rfl
    have q1 := boxc cc 1 _ rfl
    have q2 := boxc cc 2 _ rfl
    have q3 := boxc cc 3 _ rfl
    rw [if_pos (by rfl)]
    go_simp
    exact hK.out _ _ (Below.refl _ _) (rfl) (fun _ _ _ => ⟨trivial, trivial⟩)
   ·
    have dd9 := hd 9 (by kernel_rfl)
    clear hd
    try generalize xF 9 = yy9 at *
    obtain rfl := dd9
    obtain hbl := id hR
    rw [if_pos (by rfl)]
    go_simp
    exact hK.out _ _ (Below.refl _ _) (rfl) (fun _ _ _ => ⟨trivial, trivial⟩)
   ·
    have dd9 := hd 9 (by kernel_rfl)
    have dd10 := hd 10 (by kernel_rfl)
    have dd11 := hd 11 (by kernel_rfl)
    clear hd
    try generalize xF 9 = yy9 at *
    try generalize xF 10 = yy10 at *
    try generalize xF 11 = yy11 at *
    obtain rfl := dd9
    obtain rfl := dd10
    obtain rfl := dd11
    obtain hbl := id hR
    rw [if_pos (by rfl)]
    go_simp
    (go_at_call 13; (with_reducible refine (HRB.out ww1 hbl).mono ?_); rintro e wK ⟨rfl, hbK⟩)
    try go_wp2_with fail
    exact hK.out _ _ (hbK) (rfl) (fun _ _ _ => ⟨trivial, trivial⟩)
   ·
    have dd2 := hd 2 (by kernel_rfl)
    have dd9 := hd 9 (by kernel_rfl)
    have dd12 := hd 12 (by kernel_rfl)
    clear hd
    try generalize xF 2 = yy2 at *
    try generalize xF 9 = yy9 at *
    try generalize xF 12 = yy12 at *
    obtain rfl := dd2
    obtain rfl := dd9
    obtain rfl := dd12
    obtain hbl := id hR
    rw [if_pos (by rfl)]
    go_simp
    exact hK.out _ _ (Below.refl _ _) (rfl) (fun _ _ _ => ⟨trivial, trivial⟩)
   ·
    have dd2 := hd 2 (by kernel_rfl)
    have dd5 := hd 5 (by kernel_rfl)
    have dd13 := hd 13 (by kernel_rfl)
    clear hd
    try generalize xF 2 = yy2 at *
    try generalize xF 5 = yy5 at *
    try generalize xF 13 = yy13 at *
    obtain rfl := dd2
    obtain rfl := dd5
    obtain rfl := dd13
    obtain hbl := id hR
    rw [if_pos (by rfl)]
    go_simp
    exact hK.out _ _ (Below.refl _ _) (rfl) (fun _ _ _ => ⟨trivial, trivial⟩)
   ·
    have dd2 := hd 2 (by kernel_rfl)
    have dd14 := hd 14 (by kernel_rfl)
    clear hd
    try generalize xF 2 = yy2 at *
    try generalize xF 14 = yy14 at *
    obtain rfl := dd2
    obtain rfl := dd14
    obtain hbl := id hR
    rw [if_pos (by rfl)]
    go_simp
    exact hK.out _ _ (Below.refl _ _) (rfl) (fun _ _ _ => ⟨trivial, trivial⟩)
  intro xF ww1 hR hF hP
  clear hP
  have dd0 := hF 0 (by omega) (by decide)
  have dd1 := hF 1 (by omega) (by decide)
  have dd2 := hF 2 (by omega) (by decide)
  have dd3 := hF 3 (by omega) (by decide)
  have dd4 := hF 4 (by omega) (by decide)
  have dd5 := hF 5 (by omega) (by decide)
  have dd6 := hF 6 (by omega) (by decide)
  have dd7 := hF 7 (by omega) (by decide)
  have dd8 := hF 8 (by omega) (by decide)
  have dd9 := hF 9 (by omega) (by decide)
  have dd10 := hF 10 (by omega) (by decide)
  have dd11 := hF 11 (by omega) (by decide)
  have dd12 := hF 12 (by omega) (by decide)
  have dd13 := hF 13 (by omega) (by decide)
  have dd14 := hF 14 (by omega) (by decide)
  have dd15 := hF 15 (by omega) (by decide)
  clear hF
  simp only [take_succ_cons, take_zero, drop_succ_cons, drop_zero, fillOf, Act.put, setIfInBounds_toArray, set_cons_zero, set_cons_succ, Nat.reduceAdd, Nat.zero_add]
  try generalize xF 0 = yy0 at *
  try generalize xF 1 = yy1 at *
  try generalize xF 2 = yy2 at *
  try generalize xF 3 = yy3 at *
  try generalize xF 4 = yy4 at *
  try generalize xF 5 = yy5 at *
  try generalize xF 6 = yy6 at *
  try generalize xF 7 = yy7 at *
  try generalize xF 8 = yy8 at *
  try generalize xF 9 = yy9 at *
  try generalize xF 10 = yy10 at *
  try generalize xF 11 = yy11 at *
  try generalize xF 12 = yy12 at *
  try generalize xF 13 = yy13 at *
  try generalize xF 14 = yy14 at *
  try generalize xF 15 = yy15 at *
  clear xF
  obtain rfl := dd0
  obtain rfl := dd1
  obtain rfl := dd2
  obtain rfl := dd3
  obtain rfl := dd4
  obtain rfl := dd5
  obtain rfl := dd6
  obtain rfl := dd7
  obtain rfl := dd8
  obtain rfl := dd9
  obtain rfl := dd10
  obtain rfl := dd11
  obtain rfl := dd12
  obtain rfl := dd13
  obtain rfl := dd14
  obtain rfl := dd15
  have hRE1 := Lib.hid hR
  clear hR
  skip
 all_goals
  have HBE : Hid (Below w1.heap.size w1 ww1) := HBD.out.trans (hRE1.out.mono HBD.out.size)
  by_cases ht0 : ct = 0
  case neg =>
   have ht1 : (ct == 0) = false := by simpa using ht0
   have ht2 : (ct != 0) = true := by simpa using ht0
   go_wp2_with fail
   (with_reducible refine (HAW.out _ HBE.out).mono ?_)
   rintro en w19 ⟨rfl, hb19, _⟩
   have HB19 := Lib.hid hb19
   clear hb19
   go_wp2
   go_ret
   exact ⟨rfl, HB19.out⟩
  subst ht0
  have HMT : Hid (Mch w13 #[.int .i64 (tz : Int), .int .i64 0, .int .i64 (tf : Int), .slice to tm tc] (d + 1) (.mk 3 .zero [x, y] 0 0)) := HMD.out rfl
  have y1 : ¬ (9223372036854775807 : Int) < (S.size : Int) + 1 := by omega
  have y2 : ¬ 9223372036854775807 < S.size + 1 := by omega
  have y3 : (S.size : Int) + 1 ≤ 9223372036854775807 := by omega
  go_wp2
  go_loopw [15, 86] (fun cu i wr => ∃ (j : Nat), cu = .bool (nf.cutF d x y (kit.bytes S) j) ∧ i = .int .i64 j ∧ j ≤ S.size + 1 ∧ Hid (Below ww1.heap.size ww1 wr)) (fun _ i _ => S.size + 1 - (intOf i).toNat)
  case atStart => exact ⟨0, rfl, rfl, by omega, Lib.hid (Below.refl _ _)⟩
  case round =>
   obtain ⟨j, rfl, rfl, hj, HBR⟩ := hrel
   have HBW : Hid (Below w13.heap.size w13 wr) := hRE1.out.trans (HBR.out.mono hRE1.out.size)
   by_cases hjl : j < S.size + 1
   ·
    have hjI : (j : Int) < (S.size : Int) + 1 := by omega
    have hjn : (j : Int) ≤ (S.size : Int) := by omega
    have hjn2 : j ≤ S.size := by omega
    obtain ⟨pa, hpa⟩ : ∃ z, z = nf.runs d x (kit.bytes (S.extract 0 j)) := ⟨_, rfl⟩
    obtain ⟨pb, hpb⟩ : ∃ z, z = nf.runs d y (kit.bytes (S.extract j S.size)) := ⟨_, rfl⟩
    obtain ⟨cu, hcu⟩ : ∃ z, z = nf.cutF d x y (kit.bytes S) j := ⟨_, rfl⟩
    have HNX : Hid (nf.cutF d x y (kit.bytes S) (j + 1) = (cu || (pa && pb))) := by
     show _ = _
     rw [nf.cutF_succ, hcu, hpa, hpb, nf.bytes_take, nf.bytes_drop]
    have HPA : Hid (∀ W, Below w13.heap.size w13 W → Calls Try.prog 13 #[.agg #[.int .i64 (az : Int), .int .i64 0, .int .i64 (af : Int), .slice ao am ac], .string (S.extract 0 j)] W fun e w' => e = .returned (.bool pa) ∧ Below W.heap.size W w') := fun W hW => by
     rw [hpa]; exact HMA5.out W (HB5D.out.trans (hW.mono HB5D.out.size)) _ (by rw [ByteArray.size_extract]; omega)
    have HPB : Hid (∀ W, Below w13.heap.size w13 W → Calls Try.prog 13 #[.agg #[.int .i64 (bz : Int), .int .i64 0, .int .i64 (bf : Int), .slice bo bm bc], .string (S.extract j S.size)] W fun e w' => e = .returned (.bool pb) ∧ Below W.heap.size W w') := fun W hW => by
     rw [hpb]; exact HMB7.out W (HB7D.out.trans (hW.mono HB7D.out.size)) _ (by rw [ByteArray.size_extract]; omega)
    rw [← hcu]
    clear hpa hpb hcu
    go_wp2_with fail
    have hc3 : cu = true ∨ (cu = false ∧ pa = false) ∨ (cu = false ∧ pa = true) := by cases cu <;> cases pa <;> simp
    refine hc3.elim (fun k1 => ?_) fun k1 => k1.elim (fun k2 => ?_) fun k2 => ?_
    clear hc3
    subst k1
    refine wp_flow 15 (fun _ => 1000) (fun ww => RowKit.Below wr.heap.size wr ww) (fun _ w w' => (fun (w w' : World) => RowKit.Below w.heap.size w w') w w') (fun kF vF wF => match kF with | 0 => (vF = .bool true) | 1 => (vF = .bool true) | 2 => (vF = undef) | 3 => (vF = undef) | 4 => (vF = undef) | 5 => (vF = undef) | 6 => (vF = undef) | 7 => (vF = undef) | 8 => (vF = undef) | 9 => (vF = undef) | 10 => (vF = undef) | 11 => (vF = undef) | 12 => (vF = undef) | 13 => (vF = undef) | 14 => (vF = .bool true) | _ => True) (fun _ _ _ _ => True) (by kernel_rfl) (by kernel_rfl) ?_ ?_ ?_ ?_ ?_
    ·
     exact (Below.refl _ _).drew
    ·
     intro iF wF1 wF2 hR hT; exact hR.trans (hT.mono hR.size)
    ·
     intro kF hkF iF hiF hne hdd hanc hdan vF wF1 wF2 h hT
     rcases (by omega : kF = 0 ∨ kF = 1 ∨ kF = 2 ∨ kF = 3 ∨ kF = 4 ∨ kF = 5 ∨ kF = 6 ∨ kF = 7 ∨ kF = 8 ∨ kF = 9 ∨ kF = 10 ∨ kF = 11 ∨ kF = 12 ∨ kF = 13 ∨ kF = 14) with rfl | rfl | rfl | rfl | rfl | rfl | rfl | rfl | rfl | rfl | rfl | rfl | rfl | rfl | rfl
     iterate 15 exact h
    ·
     generalize hAF : fillOf _ _ _ = AF
     replace hAF := fun x => congrFun hAF x
     simp only [take_succ_cons, take_zero, fillOf, Act.put, setIfInBounds_toArray, set_cons_zero, set_cons_succ, Nat.reduceAdd, Nat.zero_add] at hAF
     refine .cons ?_ (.cons ?_ (.cons ?_ (.cons ?_ (.cons ?_ (.cons ?_ (.cons ?_ (.cons ?_ (.cons ?_ (.cons ?_ (.cons ?_ (.cons ?_ (.cons ?_ (.cons ?_ (.cons ?_ (.nil)))))))))))))))
     all_goals
      intro xF ww2 hR hd K hK
      first | simp only [← hAF, Act.put, setIfInBounds_toArray, set_cons_zero, set_cons_succ] at hK ⊢ | simp only [← hAF, Act.put] at hK ⊢
      clear hAF
      try simp only [Nat.zero_add, Nat.reduceAdd] at hK ⊢
     ·
      clear hd
      obtain hbl := id hR
      rw [if_pos (by rfl)]
      go_simp
      exact hK.out _ _ (Below.refl _ _) (rfl) (fun _ _ _ => ⟨trivial, trivial⟩)
     ·
      have dd0 := hd 0 (by kernel_rfl)
      clear hd
      try generalize xF 0 = yy0 at *
      obtain rfl := dd0
      obtain hbl := id hR
      rw [if_pos (by rfl)]
      go_simp
      exact hK.out _ _ (Below.refl _ _) (rfl) (fun _ _ _ => ⟨trivial, trivial⟩)
     ·
      have dd1 := hd 1 (by kernel_rfl)
      clear hd
      try generalize xF 1 = yy1 at *
      obtain rfl := dd1
      obtain hbl := id hR
      rw [if_neg (by intro h; exact absurd (show false = true from h) Bool.false_ne_true)]
      try simp only [Act.put, setIfInBounds_toArray, set_cons_zero, set_cons_succ]
      exact hK.out _ _ (Below.refl _ _) (rfl) (fun _ _ _ => ⟨trivial, trivial⟩)
     ·
      have dd1 := hd 1 (by kernel_rfl)
      clear hd
      try generalize xF 1 = yy1 at *
      obtain rfl := dd1
      obtain hbl := id hR
      rw [if_neg (by intro h; exact absurd (show false = true from h) Bool.false_ne_true)]
      try simp only [Act.put, setIfInBounds_toArray, set_cons_zero, set_cons_succ]
      exact hK.out _ _ (Below.refl _ _) (rfl) (fun _ _ _ => ⟨trivial, trivial⟩)
     ·
      have dd1 := hd 1 (by kernel_rfl)
      clear hd
      try generalize xF 1 = yy1 at *
      obtain rfl := dd1
      obtain hbl := id hR
      rw [if_neg (by intro h; exact absurd (show false = true from h) Bool.false_ne_true)]
      try simp only [Act.put, setIfInBounds_toArray, set_cons_zero, set_cons_succ]
      exact hK.out _ _ (Below.refl _ _) (rfl) (fun _ _ _ => ⟨trivial, trivial⟩)
     ·
      have dd1 := hd 1 (by kernel_rfl)
      clear hd
      try generalize xF 1 = yy1 at *
      obtain rfl := dd1
      obtain hbl := id hR
      rw [if_neg (by intro h; exact absurd (show false = true from h) Bool.false_ne_true)]
      try simp only [Act.put, setIfInBounds_toArray, set_cons_zero, set_cons_succ]
      exact hK.out _ _ (Below.refl _ _) (rfl) (fun _ _ _ => ⟨trivial, trivial⟩)
     ·
      have dd1 := hd 1 (by kernel_rfl)
      clear hd
      try generalize xF 1 = yy1 at *
      obtain rfl := dd1
      obtain hbl := id hR
      rw [if_neg (by intro h; exact absurd (show false = true from h) Bool.false_ne_true)]
      try simp only [Act.put, setIfInBounds_toArray, set_cons_zero, set_cons_succ]
      exact hK.out _ _ (Below.refl _ _) (rfl) (fun _ _ _ => ⟨trivial, trivial⟩)
     ·
      have dd1 := hd 1 (by kernel_rfl)
      clear hd
      try generalize xF 1 = yy1 at *
      obtain rfl := dd1
      obtain hbl := id hR
      rw [if_neg (by intro h; exact absurd (show false = true from h) Bool.false_ne_true)]
      try simp only [Act.put, setIfInBounds_toArray, set_cons_zero, set_cons_succ]
      exact hK.out _ _ (Below.refl _ _) (rfl) (fun _ _ _ => ⟨trivial, trivial⟩)
     ·
      have dd7 := hd 7 (by kernel_rfl)
      clear hd
      try generalize xF 7 = yy7 at *
      obtain rfl := dd7
      obtain hbl := id hR
      rw [if_neg (by intro h; exact absurd (show false = true from h) Bool.false_ne_true)]
      try simp only [Act.put, setIfInBounds_toArray, set_cons_zero, set_cons_succ]
      exact hK.out _ _ (Below.refl _ _) (rfl) (fun _ _ _ => ⟨trivial, trivial⟩)
     ·
      have dd7 := hd 7 (by kernel_rfl)
      clear hd
      try generalize xF 7 = yy7 at *
      obtain rfl := dd7
      obtain hbl := id hR
      rw [if_neg (by intro h; exact absurd (show false = true from h) Bool.false_ne_true)]
      try simp only [Act.put, setIfInBounds_toArray, set_cons_zero, set_cons_succ]
      exact hK.out _ _ (Below.refl _ _) (rfl) (fun _ _ _ => ⟨trivial, trivial⟩)
     ·
      have dd7 := hd 7 (by kernel_rfl)
      clear hd
      try generalize xF 7 = yy7 at *
      obtain rfl := dd7
      obtain hbl := id hR
      rw [if_neg (by intro h; exact absurd (show false = true from h) Bool.false_ne_true)]
      try simp only [Act.put, setIfInBounds_toArray, set_cons_zero, set_cons_succ]
      exact hK.out _ _ (Below.refl _ _) (rfl) (fun _ _ _ => ⟨trivial, trivial⟩)
     ·
      have dd7 := hd 7 (by kernel_rfl)
      clear hd
      try generalize xF 7 = yy7 at *
      obtain rfl := dd7
      obtain hbl := id hR
      rw [if_neg (by intro h; exact absurd (show false = true from h) Bool.false_ne_true)]
      try simp only [Act.put, setIfInBounds_toArray, set_cons_zero, set_cons_succ]
      exact hK.out _ _ (Below.refl _ _) (rfl) (fun _ _ _ => ⟨trivial, trivial⟩)
     ·
      have dd7 := hd 7 (by kernel_rfl)
      clear hd
      try generalize xF 7 = yy7 at *
      obtain rfl := dd7
      obtain hbl := id hR
      rw [if_neg (by intro h; exact absurd (show false = true from h) Bool.false_ne_true)]
      try simp only [Act.put, setIfInBounds_toArray, set_cons_zero, set_cons_succ]
      exact hK.out _ _ (Below.refl _ _) (rfl) (fun _ _ _ => ⟨trivial, trivial⟩)
     ·
      have dd1 := hd 1 (by kernel_rfl)
      clear hd
      try generalize xF 1 = yy1 at *
      obtain rfl := dd1
      obtain hbl := id hR
      rw [if_neg (by intro h; exact absurd (show false = true from h) Bool.false_ne_true)]
      try simp only [Act.put, setIfInBounds_toArray, set_cons_zero, set_cons_succ]
      exact hK.out _ _ (Below.refl _ _) (rfl) (fun _ _ _ => ⟨trivial, trivial⟩)
     ·
      have dd1 := hd 1 (by kernel_rfl)
      have dd13 := hd 13 (by kernel_rfl)
      clear hd
      try generalize xF 1 = yy1 at *
      try generalize xF 13 = yy13 at *
      obtain rfl := dd1
      obtain rfl := dd13
      obtain hbl := id hR
      rw [if_pos (by rfl)]
      go_simp
      exact hK.out _ _ (Below.refl _ _) (rfl) (fun _ _ _ => ⟨trivial, trivial⟩)
    intro xF ww2 hR hF hP
    clear hP
    have dd0 := hF 0 (by omega) (by decide)
    have dd1 := hF 1 (by omega) (by decide)
    have dd2 := hF 2 (by omega) (by decide)
    have dd3 := hF 3 (by omega) (by decide)
    have dd4 := hF 4 (by omega) (by decide)
    have dd5 := hF 5 (by omega) (by decide)
    have dd6 := hF 6 (by omega) (by decide)
    have dd7 := hF 7 (by omega) (by decide)
    have dd8 := hF 8 (by omega) (by decide)
    have dd9 := hF 9 (by omega) (by decide)
    have dd10 := hF 10 (by omega) (by decide)
    have dd11 := hF 11 (by omega) (by decide)
    have dd12 := hF 12 (by omega) (by decide)
    have dd13 := hF 13 (by omega) (by decide)
    have dd14 := hF 14 (by omega) (by decide)
    clear hF
    simp only [take_succ_cons, take_zero, drop_succ_cons, drop_zero, fillOf, Act.put, setIfInBounds_toArray, set_cons_zero, set_cons_succ, Nat.reduceAdd, Nat.zero_add]
    try generalize xF 0 = yy0 at *
    try generalize xF 1 = yy1 at *
    try generalize xF 2 = yy2 at *
    try generalize xF 3 = yy3 at *
    try generalize xF 4 = yy4 at *
    try generalize xF 5 = yy5 at *
    try generalize xF 6 = yy6 at *
    try generalize xF 7 = yy7 at *
    try generalize xF 8 = yy8 at *
    try generalize xF 9 = yy9 at *
    try generalize xF 10 = yy10 at *
    try generalize xF 11 = yy11 at *
    try generalize xF 12 = yy12 at *
    try generalize xF 13 = yy13 at *
    try generalize xF 14 = yy14 at *
    clear xF
    obtain rfl := dd0
    obtain rfl := dd1
    obtain rfl := dd2
    obtain rfl := dd3
    obtain rfl := dd4
    obtain rfl := dd5
    obtain rfl := dd6
    obtain rfl := dd7
    obtain rfl := dd8
    obtain rfl := dd9
    obtain rfl := dd10
    obtain rfl := dd11
    obtain rfl := dd12
    obtain rfl := dd13
    obtain rfl := dd14
    have hRE2 := Lib.hid hR
    clear hR
    rotate_left
    clear k1 hc3
    obtain ⟨h1, h2⟩ := k2
    subst h1; subst h2
    refine wp_flow 15 (fun _ => 1000) (fun ww => RowKit.Below wr.heap.size wr ww) (fun _ w w' => (fun (w w' : World) => RowKit.Below w.heap.size w w') w w') (fun kF vF wF => match kF with | 0 => (vF = .bool false) | 1 => (vF = .bool false) | 2 => (vF = .agg #[.int .i64 (az : Int), .int .i64 0, .int .i64 (af : Int), .slice ao am ac]) | 3 => (vF = .string S) | 4 => (vF = .int .i64 (j : Int)) | 5 => (vF = .string (S.extract 0 j)) | 6 => (vF = .bool false) | 7 => (vF = .bool false) | 8 => (vF = undef) | 9 => (vF = undef) | 10 => (vF = undef) | 11 => (vF = undef) | 12 => (vF = undef) | 13 => (vF = .bool false) | 14 => (vF = .bool false) | _ => True) (fun _ _ _ _ => True) (by kernel_rfl) (by kernel_rfl) ?_ ?_ ?_ ?_ ?_
    ·
     exact (Below.refl _ _).drew
    ·
     intro iF wF1 wF2 hR hT; exact hR.trans (hT.mono hR.size)
    ·
     intro kF hkF iF hiF hne hdd hanc hdan vF wF1 wF2 h hT
     rcases (by omega : kF = 0 ∨ kF = 1 ∨ kF = 2 ∨ kF = 3 ∨ kF = 4 ∨ kF = 5 ∨ kF = 6 ∨ kF = 7 ∨ kF = 8 ∨ kF = 9 ∨ kF = 10 ∨ kF = 11 ∨ kF = 12 ∨ kF = 13 ∨ kF = 14) with rfl | rfl | rfl | rfl | rfl | rfl | rfl | rfl | rfl | rfl | rfl | rfl | rfl | rfl | rfl
     iterate 15 exact h
    ·
     generalize hAF : fillOf _ _ _ = AF
     replace hAF := fun x => congrFun hAF x
     simp only [take_succ_cons, take_zero, fillOf, Act.put, setIfInBounds_toArray, set_cons_zero, set_cons_succ, Nat.reduceAdd, Nat.zero_add] at hAF
     refine .cons ?_ (.cons ?_ (.cons ?_ (.cons ?_ (.cons ?_ (.cons ?_ (.cons ?_ (.cons ?_ (.cons ?_ (.cons ?_ (.cons ?_ (.cons ?_ (.cons ?_ (.cons ?_ (.cons ?_ (.nil)))))))))))))))
     all_goals
      intro xF ww2 hR hd K hK
      first | simp only [← hAF, Act.put, setIfInBounds_toArray, set_cons_zero, set_cons_succ] at hK ⊢ | simp only [← hAF, Act.put] at hK ⊢
      clear hAF
      try simp only [Nat.zero_add, Nat.reduceAdd] at hK ⊢
     ·
      clear hd
      obtain hbl := id hR
      rw [if_pos (by rfl)]
      go_simp
      exact hK.out _ _ (Below.refl _ _) (rfl) (fun _ _ _ => ⟨trivial, trivial⟩)
     ·
      have dd0 := hd 0 (by kernel_rfl)
      clear hd
      try generalize xF 0 = yy0 at *
      obtain rfl := dd0
      obtain hbl := id hR
      rw [if_pos (by rfl)]
      go_simp
      exact hK.out _ _ (Below.refl _ _) (rfl) (fun _ _ _ => ⟨trivial, trivial⟩)
     ·
      have dd1 := hd 1 (by kernel_rfl)
      clear hd
      try generalize xF 1 = yy1 at *
      obtain rfl := dd1
      obtain hbl := id hR
      have cc := HXA.out _ ((HB5D.out.trans (HBW.out.mono HB5D.out.size)).trans (hbl.mono (HB5D.out.trans (HBW.out.mono HB5D.out.size)).size))
      have q0 := boxc cc 0 _ rfl
      have q1 := boxc cc 1 _ rfl
      have q2 := boxc cc 2 _ rfl
      have q3 := boxc cc 3 _ rfl
      rw [if_pos (by rfl)]
      go_simp
      exact hK.out _ _ (Below.refl _ _) (rfl) (fun _ _ _ => ⟨trivial, trivial⟩)
     ·
      have dd1 := hd 1 (by kernel_rfl)
      clear hd
      try generalize xF 1 = yy1 at *
      obtain rfl := dd1
      obtain hbl := id hR
      rw [if_pos (by rfl)]
      go_simp
      exact hK.out _ _ (Below.refl _ _) (rfl) (fun _ _ _ => ⟨trivial, trivial⟩)
     ·
      have dd1 := hd 1 (by kernel_rfl)
      clear hd
      try generalize xF 1 = yy1 at *
      obtain rfl := dd1
      obtain hbl := id hR
      rw [if_pos (by rfl)]
      go_simp
      exact hK.out _ _ (Below.refl _ _) (rfl) (fun _ _ _ => ⟨trivial, trivial⟩)
     ·
      have dd1 := hd 1 (by kernel_rfl)
      have dd3 := hd 3 (by kernel_rfl)
      have dd4 := hd 4 (by kernel_rfl)
      clear hd
      try generalize xF 1 = yy1 at *
      try generalize xF 3 = yy3 at *
      try generalize xF 4 = yy4 at *
      obtain rfl := dd1
      obtain rfl := dd3
      obtain rfl := dd4
      obtain hbl := id hR
      rw [if_pos (by rfl)]
      go_simp
      exact hK.out _ _ (Below.refl _ _) (rfl) (fun _ _ _ => ⟨trivial, trivial⟩)
     ·
      have dd1 := hd 1 (by kernel_rfl)
      have dd2 := hd 2 (by kernel_rfl)
      have dd5 := hd 5 (by kernel_rfl)
      clear hd
      try generalize xF 1 = yy1 at *
      try generalize xF 2 = yy2 at *
      try generalize xF 5 = yy5 at *
      obtain rfl := dd1
      obtain rfl := dd2
      obtain rfl := dd5
      obtain hbl := id hR
      rw [if_pos (by rfl)]
      go_simp
      (go_at_call 13; (with_reducible refine (HPA.out ww2 (HBW.out.trans (hbl.mono HBW.out.size))).mono ?_); rintro e wK ⟨rfl, hbK⟩)
      try go_wp2_with fail
      exact hK.out _ _ (hbK) (rfl) (fun _ _ _ => ⟨trivial, trivial⟩)
     ·
      have dd1 := hd 1 (by kernel_rfl)
      have dd6 := hd 6 (by kernel_rfl)
      clear hd
      try generalize xF 1 = yy1 at *
      try generalize xF 6 = yy6 at *
      obtain rfl := dd1
      obtain rfl := dd6
      obtain hbl := id hR
      rw [if_pos (by rfl)]
      go_simp
      exact hK.out _ _ (Below.refl _ _) (rfl) (fun _ _ _ => ⟨trivial, trivial⟩)
     ·
      have dd7 := hd 7 (by kernel_rfl)
      clear hd
      try generalize xF 7 = yy7 at *
      obtain rfl := dd7
      obtain hbl := id hR
      rw [if_neg (by intro h; exact absurd (show false = true from h) Bool.false_ne_true)]
      try simp only [Act.put, setIfInBounds_toArray, set_cons_zero, set_cons_succ]
      exact hK.out _ _ (Below.refl _ _) (rfl) (fun _ _ _ => ⟨trivial, trivial⟩)
     ·
      have dd7 := hd 7 (by kernel_rfl)
      clear hd
      try generalize xF 7 = yy7 at *
      obtain rfl := dd7
      obtain hbl := id hR
      rw [if_neg (by intro h; exact absurd (show false = true from h) Bool.false_ne_true)]
      try simp only [Act.put, setIfInBounds_toArray, set_cons_zero, set_cons_succ]
      exact hK.out _ _ (Below.refl _ _) (rfl) (fun _ _ _ => ⟨trivial, trivial⟩)
     ·
      have dd7 := hd 7 (by kernel_rfl)
      clear hd
      try generalize xF 7 = yy7 at *
      obtain rfl := dd7
      obtain hbl := id hR
      rw [if_neg (by intro h; exact absurd (show false = true from h) Bool.false_ne_true)]
      try simp only [Act.put, setIfInBounds_toArray, set_cons_zero, set_cons_succ]
      exact hK.out _ _ (Below.refl _ _) (rfl) (fun _ _ _ => ⟨trivial, trivial⟩)
     ·
      have dd7 := hd 7 (by kernel_rfl)
      clear hd
      try generalize xF 7 = yy7 at *
      obtain rfl := dd7
      obtain hbl := id hR
      rw [if_neg (by intro h; exact absurd (show false = true from h) Bool.false_ne_true)]
      try simp only [Act.put, setIfInBounds_toArray, set_cons_zero, set_cons_succ]
      exact hK.out _ _ (Below.refl _ _) (rfl) (fun _ _ _ => ⟨trivial, trivial⟩)
     ·
      have dd7 := hd 7 (by kernel_rfl)
      clear hd
      try generalize xF 7 = yy7 at *
      obtain rfl := dd7
      obtain hbl := id hR
      rw [if_neg (by intro h; exact absurd (show false = true from h) Bool.false_ne_true)]
      try simp only [Act.put, setIfInBounds_toArray, set_cons_zero, set_cons_succ]
      exact hK.out _ _ (Below.refl _ _) (rfl) (fun _ _ _ => ⟨trivial, trivial⟩)
     ·
      have dd1 := hd 1 (by kernel_rfl)
      have dd7 := hd 7 (by kernel_rfl)
      have dd12 := hd 12 (by kernel_rfl)
      clear hd
      try generalize xF 1 = yy1 at *
      try generalize xF 7 = yy7 at *
      try generalize xF 12 = yy12 at *
      obtain rfl := dd1
      obtain rfl := dd7
      obtain rfl := dd12
      obtain hbl := id hR
      rw [if_pos (by rfl)]
      go_simp
      exact hK.out _ _ (Below.refl _ _) (rfl) (fun _ _ _ => ⟨trivial, trivial⟩)
     ·
      have dd1 := hd 1 (by kernel_rfl)
      have dd13 := hd 13 (by kernel_rfl)
      clear hd
      try generalize xF 1 = yy1 at *
      try generalize xF 13 = yy13 at *
      obtain rfl := dd1
      obtain rfl := dd13
      obtain hbl := id hR
      rw [if_pos (by rfl)]
      go_simp
      exact hK.out _ _ (Below.refl _ _) (rfl) (fun _ _ _ => ⟨trivial, trivial⟩)
    intro xF ww2 hR hF hP
    clear hP
    have dd0 := hF 0 (by omega) (by decide)
    have dd1 := hF 1 (by omega) (by decide)
    have dd2 := hF 2 (by omega) (by decide)
    have dd3 := hF 3 (by omega) (by decide)
    have dd4 := hF 4 (by omega) (by decide)
    have dd5 := hF 5 (by omega) (by decide)
    have dd6 := hF 6 (by omega) (by decide)
    have dd7 := hF 7 (by omega) (by decide)
    have dd8 := hF 8 (by omega) (by decide)
    have dd9 := hF 9 (by omega) (by decide)
    have dd10 := hF 10 (by omega) (by decide)
    have dd11 := hF 11 (by omega) (by decide)
    have dd12 := hF 12 (by omega) (by decide)
    have dd13 := hF 13 (by omega) (by decide)
    have dd14 := hF 14 (by omega) (by decide)
    clear hF
    simp only [take_succ_cons, take_zero, drop_succ_cons, drop_zero, fillOf, Act.put, setIfInBounds_toArray, set_cons_zero, set_cons_succ, Nat.reduceAdd, Nat.zero_add]
    try generalize xF 0 = yy0 at *
    try generalize xF 1 = yy1 at *
    try generalize xF 2 = yy2 at *
    try generalize xF 3 = yy3 at *
    try generalize xF 4 = yy4 at *
    try generalize xF 5 = yy5 at *
    try generalize xF 6 = yy6 at *
    try generalize xF 7 = yy7 at *
    try generalize xF 8 = yy8 at *
    try generalize xF 9 = yy9 at *
    try generalize xF 10 = yy10 at *
    try generalize xF 11 = yy11 at *
    try generalize xF 12 = yy12 at *
    try generalize xF 13 = yy13 at *
    try generalize xF 14 = yy14 at *
    clear xF
    obtain rfl := dd0
    obtain rfl := dd1
    obtain rfl := dd2
    obtain rfl := dd3
    obtain rfl := dd4
    obtain rfl := dd5
    obtain rfl := dd6
    obtain rfl := dd7
    obtain rfl := dd8
    obtain rfl := dd9
    obtain rfl := dd10
    obtain rfl := dd11
    obtain rfl := dd12
    obtain rfl := dd13
    obtain rfl := dd14
    have hRE2 := Lib.hid hR
    clear hR
    rotate_left
    clear k1 hc3
    obtain ⟨h1, h2⟩ := k2
    subst h1; subst h2
    refine wp_flow 15 (fun _ => 1000) (fun ww => RowKit.Below wr.heap.size wr ww) (fun _ w w' => (fun (w w' : World) => RowKit.Below w.heap.size w w') w w') (fun kF vF wF => match kF with | 0 => (vF = .bool false) | 1 => (vF = .bool false) | 2 => (vF = .agg #[.int .i64 (az : Int), .int .i64 0, .int .i64 (af : Int), .slice ao am ac]) | 3 => (vF = .string S) | 4 => (vF = .int .i64 (j : Int)) | 5 => (vF = .string (S.extract 0 j)) | 6 => (vF = .bool true) | 7 => (vF = .bool true) | 8 => (vF = .agg #[.int .i64 (bz : Int), .int .i64 0, .int .i64 (bf : Int), .slice bo bm bc]) | 9 => (vF = .string S) | 10 => (vF = .int .i64 (j : Int)) | 11 => (vF = .string (S.extract j S.size)) | 12 => (vF = .bool pb) | 13 => (vF = .bool pb) | 14 => (vF = .bool pb) | _ => True) (fun _ _ _ _ => True) (by kernel_rfl) (by kernel_rfl) ?_ ?_ ?_ ?_ ?_
    ·
     exact (Below.refl _ _).drew
    ·
     intro iF wF1 wF2 hR hT; exact hR.trans (hT.mono hR.size)
    ·
     intro kF hkF iF hiF hne hdd hanc hdan vF wF1 wF2 h hT
     rcases (by omega : kF = 0 ∨ kF = 1 ∨ kF = 2 ∨ kF = 3 ∨ kF = 4 ∨ kF = 5 ∨ kF = 6 ∨ kF = 7 ∨ kF = 8 ∨ kF = 9 ∨ kF = 10 ∨ kF = 11 ∨ kF = 12 ∨ kF = 13 ∨ kF = 14) with rfl | rfl | rfl | rfl | rfl | rfl | rfl | rfl | rfl | rfl | rfl | rfl | rfl | rfl | rfl
     iterate 15 exact h
    ·
     generalize hAF : fillOf _ _ _ = AF
     replace hAF := fun x => congrFun hAF x
     simp only [take_succ_cons, take_zero, fillOf, Act.put, setIfInBounds_toArray, set_cons_zero, set_cons_succ, Nat.reduceAdd, Nat.zero_add] at hAF
     refine .cons ?_ (.cons ?_ (.cons ?_ (.cons ?_ (.cons ?_ (.cons ?_ (.cons ?_ (.cons ?_ (.cons ?_ (.cons ?_ (.cons ?_ (.cons ?_ (.cons ?_ (.cons ?_ (.cons ?_ (.nil)))))))))))))))
     all_goals
      intro xF ww2 hR hd K hK
      first | simp only [← hAF, Act.put, setIfInBounds_toArray, set_cons_zero, set_cons_succ] at hK ⊢ | simp only [← hAF, Act.put] at hK ⊢
      clear hAF
      try simp only [Nat.zero_add, Nat.reduceAdd] at hK ⊢
     ·
      clear hd
      obtain hbl := id hR
      rw [if_pos (by rfl)]
      go_simp
      exact hK.out _ _ (Below.refl _ _) (rfl) (fun _ _ _ => ⟨trivial, trivial⟩)
     ·
      have dd0 := hd 0 (by kernel_rfl)
      clear hd
      try generalize xF 0 = yy0 at *
      obtain rfl := dd0
      obtain hbl := id hR
      rw [if_pos (by rfl)]
      go_simp
      exact hK.out _ _ (Below.refl _ _) (rfl) (fun _ _ _ => ⟨trivial, trivial⟩)
     ·
      have dd1 := hd 1 (by kernel_rfl)
      clear hd
      try generalize xF 1 = yy1 at *
      obtain rfl := dd1
      obtain hbl := id hR
      have cc := HXA.out _ ((HB5D.out.trans (HBW.out.mono HB5D.out.size)).trans (hbl.mono (HB5D.out.trans (HBW.out.mono HB5D.out.size)).size))
      have q0 := boxc cc 0 _ rfl
      have q1 := boxc cc 1 _ rfl
      have q2 := boxc cc 2 _ rfl
      have q3 := boxc cc 3 _ rfl
      rw [if_pos (by rfl)]
      go_simp
      exact hK.out _ _ (Below.refl _ _) (rfl) (fun _ _ _ => ⟨trivial, trivial⟩)
     ·
      have dd1 := hd 1 (by kernel_rfl)
      clear hd
      try generalize xF 1 = yy1 at *
      obtain rfl := dd1
      obtain hbl := id hR
      rw [if_pos (by rfl)]
      go_simp
      exact hK.out _ _ (Below.refl _ _) (rfl) (fun _ _ _ => ⟨trivial, trivial⟩)
     ·
      have dd1 := hd 1 (by kernel_rfl)
      clear hd
      try generalize xF 1 = yy1 at *
      obtain rfl := dd1
      obtain hbl := id hR
      rw [if_pos (by rfl)]
      go_simp
      exact hK.out _ _ (Below.refl _ _) (rfl) (fun _ _ _ => ⟨trivial, trivial⟩)
     ·
      have dd1 := hd 1 (by kernel_rfl)
      have dd3 := hd 3 (by kernel_rfl)
      have dd4 := hd 4 (by kernel_rfl)
      clear hd
      try generalize xF 1 = yy1 at *
      try generalize xF 3 = yy3 at *
      try generalize xF 4 = yy4 at *
      obtain rfl := dd1
      obtain rfl := dd3
      obtain rfl := dd4
      obtain hbl := id hR
      rw [if_pos (by rfl)]
      go_simp
      exact hK.out _ _ (Below.refl _ _) (rfl) (fun _ _ _ => ⟨trivial, trivial⟩)
     ·
      have dd1 := hd 1 (by kernel_rfl)
      have dd2 := hd 2 (by kernel_rfl)
      have dd5 := hd 5 (by kernel_rfl)
      clear hd
      try generalize xF 1 = yy1 at *
      try generalize xF 2 = yy2 at *
      try generalize xF 5 = yy5 at *
      obtain rfl := dd1
      obtain rfl := dd2
      obtain rfl := dd5
      obtain hbl := id hR
      rw [if_pos (by rfl)]
      go_simp
      (go_at_call 13; (with_reducible refine (HPA.out ww2 (HBW.out.trans (hbl.mono HBW.out.size))).mono ?_); rintro e wK ⟨rfl, hbK⟩)
      try go_wp2_with fail
      exact hK.out _ _ (hbK) (rfl) (fun _ _ _ => ⟨trivial, trivial⟩)
     ·
      have dd1 := hd 1 (by kernel_rfl)
      have dd6 := hd 6 (by kernel_rfl)
      clear hd
      try generalize xF 1 = yy1 at *
      try generalize xF 6 = yy6 at *
      obtain rfl := dd1
      obtain rfl := dd6
      obtain hbl := id hR
      rw [if_pos (by rfl)]
      go_simp
      exact hK.out _ _ (Below.refl _ _) (rfl) (fun _ _ _ => ⟨trivial, trivial⟩)
     ·
      have dd7 := hd 7 (by kernel_rfl)
      clear hd
      try generalize xF 7 = yy7 at *
      obtain rfl := dd7
      obtain hbl := id hR
      have cc := HXB.out _ ((HB7D.out.trans (HBW.out.mono HB7D.out.size)).trans (hbl.mono (HB7D.out.trans (HBW.out.mono HB7D.out.size)).size))
      have q0 := boxc cc 0 _ rfl
      have q1 := boxc cc 1 _ rfl
      have q2 := boxc cc 2 _ rfl
      have q3 := boxc cc 3 _ rfl
      rw [if_pos (by rfl)]
      go_simp
      exact hK.out _ _ (Below.refl _ _) (rfl) (fun _ _ _ => ⟨trivial, trivial⟩)
     ·
      have dd7 := hd 7 (by kernel_rfl)
      clear hd
      try generalize xF 7 = yy7 at *
      obtain rfl := dd7
      obtain hbl := id hR
      rw [if_pos (by rfl)]
      go_simp
      exact hK.out _ _ (Below.refl _ _) (rfl) (fun _ _ _ => ⟨trivial, trivial⟩)
     ·
      have dd7 := hd 7 (by kernel_rfl)
      clear hd
      try generalize xF 7 = yy7 at *
      obtain rfl := dd7
      obtain hbl := id hR
      rw [if_pos (by rfl)]
      go_simp
      exact hK.out _ _ (Below.refl _ _) (rfl) (fun _ _ _ => ⟨trivial, trivial⟩)
     ·
      have dd7 := hd 7 (by kernel_rfl)
      have dd9 := hd 9 (by kernel_rfl)
      have dd10 := hd 10 (by kernel_rfl)
      clear hd
      try generalize xF 7 = yy7 at *
      try generalize xF 9 = yy9 at *
      try generalize xF 10 = yy10 at *
      obtain rfl := dd7
      obtain rfl := dd9
      obtain rfl := dd10
      obtain hbl := id hR
      rw [if_pos (by rfl)]
      go_simp
      exact hK.out _ _ (Below.refl _ _) (rfl) (fun _ _ _ => ⟨trivial, trivial⟩)
     ·
      have dd7 := hd 7 (by kernel_rfl)
      have dd8 := hd 8 (by kernel_rfl)
      have dd11 := hd 11 (by kernel_rfl)
      clear hd
      try generalize xF 7 = yy7 at *
      try generalize xF 8 = yy8 at *
      try generalize xF 11 = yy11 at *
      obtain rfl := dd7
      obtain rfl := dd8
      obtain rfl := dd11
      obtain hbl := id hR
      rw [if_pos (by rfl)]
      go_simp
      (go_at_call 13; (with_reducible refine (HPB.out ww2 (HBW.out.trans (hbl.mono HBW.out.size))).mono ?_); rintro e wK ⟨rfl, hbK⟩)
      try go_wp2_with fail
      exact hK.out _ _ (hbK) (rfl) (fun _ _ _ => ⟨trivial, trivial⟩)
     ·
      have dd1 := hd 1 (by kernel_rfl)
      have dd7 := hd 7 (by kernel_rfl)
      have dd12 := hd 12 (by kernel_rfl)
      clear hd
      try generalize xF 1 = yy1 at *
      try generalize xF 7 = yy7 at *
      try generalize xF 12 = yy12 at *
      obtain rfl := dd1
      obtain rfl := dd7
      obtain rfl := dd12
      obtain hbl := id hR
      rw [if_pos (by rfl)]
      go_simp
      exact hK.out _ _ (Below.refl _ _) (rfl) (fun _ _ _ => ⟨trivial, trivial⟩)
     ·
      have dd1 := hd 1 (by kernel_rfl)
      have dd13 := hd 13 (by kernel_rfl)
      clear hd
      try generalize xF 1 = yy1 at *
      try generalize xF 13 = yy13 at *
      obtain rfl := dd1
      obtain rfl := dd13
      obtain hbl := id hR
      rw [if_pos (by rfl)]
      go_simp
      exact hK.out _ _ (Below.refl _ _) (rfl) (fun _ _ _ => ⟨trivial, trivial⟩)
    intro xF ww2 hR hF hP
    clear hP
    have dd0 := hF 0 (by omega) (by decide)
    have dd1 := hF 1 (by omega) (by decide)
    have dd2 := hF 2 (by omega) (by decide)
    have dd3 := hF 3 (by omega) (by decide)
    have dd4 := hF 4 (by omega) (by decide)
    have dd5 := hF 5 (by omega) (by decide)
    have dd6 := hF 6 (by omega) (by decide)
    have dd7 := hF 7 (by omega) (by decide)
    have dd8 := hF 8 (by omega) (by decide)
    have dd9 := hF 9 (by omega) (by decide)
    have dd10 := hF 10 (by omega) (by decide)
    have dd11 := hF 11 (by omega) (by decide)
    have dd12 := hF 12 (by omega) (by decide)
    have dd13 := hF 13 (by omega) (by decide)
    have dd14 := hF 14 (by omega) (by decide)
    clear hF
    simp only [take_succ_cons, take_zero, drop_succ_cons, drop_zero, fillOf, Act.put, setIfInBounds_toArray, set_cons_zero, set_cons_succ, Nat.reduceAdd, Nat.zero_add]
    try generalize xF 0 = yy0 at *
    try generalize xF 1 = yy1 at *
    try generalize xF 2 = yy2 at *
    try generalize xF 3 = yy3 at *
    try generalize xF 4 = yy4 at *
    try generalize xF 5 = yy5 at *
    try generalize xF 6 = yy6 at *
    try generalize xF 7 = yy7 at *
    try generalize xF 8 = yy8 at *
    try generalize xF 9 = yy9 at *
    try generalize xF 10 = yy10 at *
    try generalize xF 11 = yy11 at *
    try generalize xF 12 = yy12 at *
    try generalize xF 13 = yy13 at *
    try generalize xF 14 = yy14 at *
    clear xF
    obtain rfl := dd0
    obtain rfl := dd1
    obtain rfl := dd2
    obtain rfl := dd3
    obtain rfl := dd4
    obtain rfl := dd5
    obtain rfl := dd6
    obtain rfl := dd7
    obtain rfl := dd8
    obtain rfl := dd9
    obtain rfl := dd10
    obtain rfl := dd11
    obtain rfl := dd12
    obtain rfl := dd13
    obtain rfl := dd14
    have hRE2 := Lib.hid hR
    clear hR
    rotate_left
    all_goals
     have HBN : Hid (Below ww1.heap.size ww1 ww2) := HBR.out.trans (hRE2.out.mono HBR.out.size)
     go_wp2
     go_roundw
     case rel => exact ⟨j + 1, by rw [HNX.out]; rfl, by go_num, by omega, HBN⟩
     case measure => simp [intOf]; omega
   ·
    obtain rfl : j = S.size + 1 := by omega
    have hjI : ¬ ((S.size + 1 : Nat) : Int) < (S.size : Int) + 1 := by omega
    have HTH : Hid (∀ W, Below w13.heap.size w13 W → Calls Try.prog 13 #[.agg #[.int .i64 (tz : Int), .int .i64 0, .int .i64 (tf : Int), .slice to tm tc], .string S] W fun e w' => e = .returned (.bool (nf.cutF d x y (kit.bytes S) (S.size + 1))) ∧ Below W.heap.size W w') := fun W hW => by
     have h1 := HMT.out W hW S hS10
     rw [nf.cut_all rfl rfl HCA.out.symm HCB.out.symm HCT.out.symm, nf.bytes_len] at h1
     exact h1
    obtain ⟨cu, hcu⟩ : ∃ z, z = nf.cutF d x y (kit.bytes S) (S.size + 1) := ⟨_, rfl⟩
    rw [← hcu] at HTH ⊢
    clear hcu
    have cc := HXD.out _ HBW.out
    have c0 := boxc cc 0 _ rfl
    have c1 := boxc cc 1 _ rfl
    have c2 := boxc cc 2 _ rfl
    have c3 := boxc cc 3 _ rfl
    have HT1 := Lib.hid (HTH.out wr HBW.out)
    clear cc
    go_wp2_with fail
    (with_reducible refine HT1.out.mono ?_)
    rintro en w20 ⟨rfl, hb20⟩
    have HB20 : Hid (Below w1.heap.size w1 w20) := HBE.out.trans ((HBR.out.trans (hb20.mono HBR.out.size)).mono HBE.out.size)
    clear hb20 c0 c1 c2 c3 HTH HT1
    cases cu
    all_goals
     go_wp2_with fail
     (with_reducible refine (HAW.out _ HB20.out).mono ?_)
     rintro en w21 ⟨rfl, hb21, _⟩
     have HB21 := Lib.hid hb21
     clear hb21
     go_wp2
     go_ret
     exact ⟨rfl, HB21.out⟩
end Go.Proofs.Ytmfgplbfojnkdaa

