/- texts put together: OrsWins. -/
import Derived.Test.YthpdmfkpiekonaaGreatOh16
import Derived.Test.YthpdmfkpiekonaaGreatOw31
open List (setIfInBounds_toArray set_cons_zero set_cons_succ take_succ_cons take_zero drop_succ_cons drop_zero)
namespace Go.Proofs.YthpdmfkpiekonaaGreat
open Go Go.RowKit Go.ChangeShapes cl
theorem cho_one {B : Nat} {w : World} {C : List Chg} {D : List (List Value)} (h0 : D.length = C.length) (h1 : ∀ (j : Nat) (c : List Value) (x : Chg), D[j]? = some c → C[j]? = some x → DltO B w c x) : ∀ u ∈ D.flatten, u.oneCell' = true := by
 intro u hu
 obtain ⟨c, hc, hu⟩ := List.mem_flatten.1 hu
 obtain ⟨j, hj, rfl⟩ := List.mem_iff_getElem.1 hc
 obtain ⟨t0, t1, t2, t3, e, g1, g2, g3⟩ := h1 j _ C[j] (List.getElem?_eq_getElem hj) (List.getElem?_eq_getElem (by omega))
 obtain ⟨_, _, rfl⟩ := own_slice g1
 obtain ⟨_, _, rfl⟩ := own_slice g2
 obtain ⟨_, _, _, _, _, _, e2⟩ := g3.form
 simp only [Value.agg.injEq, Array.mk.injEq, List.cons.injEq, and_true] at e2
 obtain ⟨rfl, rfl⟩ := e2
 rw [e] at hu
 simp only [List.mem_cons, List.not_mem_nil, or_false] at hu
 rcases hu with rfl | rfl | rfl | rfl <;> rfl
theorem rem_out {B n : Nat} {s : PS} {p : Ent → Bool} {v0 v1 v2 : Value} {w w' : World} {e : Ending} (hI : Inv n s) (hB : B ≤ w.heap.size) (h0 : EntO B w v0 (s.l 1)) (h1 : OwnC B w (.agg #[v1, v2]) (s.c 1)) (h : DropR p (s.l 1) (s.c 1) (s.nd 1) (.agg #[v0, v1, v2]) w e w') :
  ∃ b0 m0 k0 b1 m1 k1 b2 m2 k2 x5 y5 z5 x6 y6 z6 lt ct cx, e = .returned (.tuple #[.agg #[.slice b0 m0 k0, .slice b1 m1 k1, .slice b2 m2 k2], .agg #[.slice none 0 0, .slice none 0 0, .slice x5 y5 z5, .slice x6 y6 z6]]) ∧ EntO B w' (.slice b0 m0 k0) lt ∧ OwnC B w' (.agg #[.slice b1 m1 k1, .slice b2 m2 k2]) ct ∧ OwnC B w' (.agg #[.slice x5 y5 z5, .slice x6 y6 z6]) cx ∧ Rem1 s lt ct cx ∧ Below w.heap.size w w' := by
 rcases h with ⟨_, rfl, hb⟩ | ⟨_, u0, u1, u2, t2, t3, c', dc, rfl, g1, g2, g3, g4, ⟨m, g5⟩, g6⟩
 ·
  obtain ⟨a, x, rfl⟩ := own_slice h0
  obtain ⟨a1, n1, c1, a2, n2, c2, e1⟩ := h1.form
  simp only [Value.agg.injEq, Array.mk.injEq, List.cons.injEq, and_true] at e1
  obtain ⟨rfl, rfl⟩ := e1
  exact ⟨_, _, _, _, _, _, _, _, _, none, 0, 0, none, 0, 0, _, _, ([], []), rfl, h0.on hb, h1.on hb, ⟨_, _, _, _, rfl, World.ownsRow_nil _ _ _ _, World.ownsRow_nil _ _ _ _⟩, rem1_none hI, hb⟩
 ·
  obtain ⟨a, x, rfl⟩ := own_slice g1
  obtain ⟨a1, n1, c1, a2, n2, c2, e1⟩ := g2.form
  obtain ⟨a3, n3, c3, a4, n4, c4, e2⟩ := g3.form
  simp only [Value.agg.injEq, Array.mk.injEq, List.cons.injEq, and_true] at e1 e2
  obtain ⟨rfl, rfl⟩ := e1
  obtain ⟨rfl, rfl⟩ := e2
  exact ⟨_, _, _, _, _, _, _, _, _, _, _, _, _, _, _, _, _, _, rfl, g1.low hB, g2.low hB, g3.low hB, rem1_some hI g4 g5, g6⟩
set_option maxHeartbeats 12800000 in
set_option maxRecDepth 100000 in
theorem wins_any (l : List (List Int)) (v : Value) (a : Int) (w : World) (hm : MX w) (h : KInts 4 w w.heap.size v l) :
  Calls Tryz.prog 6 #[v, .int .i64 a] w (Said true w) := by
 obtain ⟨B, hBe⟩ : ∃ B, B = w.heap.size := ⟨_, rfl⟩
 have h0 : 0 < B := by rw [hBe]; exact mx_pos hm
 have HMX : Hid (∀ W, Below B w W → MX W) := fun W hW => hm.b hW h0
 have HAW : Hid (∀ W, Below B w W → Calls Tryz.prog 8 #[] W (Said true W)) := fun W hW => awake_any W (HMX.out W hW)
 have HBG : Hid (∀ W, Calls Tryz.prog 15 #[] W fun e w' => e = .returned (.agg #[.slice none 0 0, .slice none 0 0, .slice none 0 0, .slice none 0 0, .slice none 0 0, .slice none 0 0, .slice none 0 0, .slice none 0 0, .slice none 0 0, .int .i64 0, .int .i64 0, .int .i64 0, .slice none 0 0, .slice none 0 0, .slice none 0 0, .slice none 0 0]) ∧ Below W.heap.size W w') := begun_any
 obtain ⟨m, hq⟩ : ∃ m, m = l.length := ⟨_, rfl⟩
 obtain ⟨so, sc, rfl, hmm⟩ : ∃ ao cap, v = .slice ao m cap ∧ m ≤ 9223372036854775807 := by
  obtain ⟨ao, cap, e, _, h9⟩ := h.form
  unfold maxLen at h9
  exact ⟨ao, cap, by rw [hq]; exact e, by rw [hq]; exact h9⟩
 have HK := Lib.hid h
 have HQ := Lib.hid hq
 have HBE := Lib.hid hBe
 clear h hq hm
 by_cases hbig : 50 < m
 ·
  have hbI : (50 : Int) < (m : Int) := by omega
  clear hBe
  go_enter Tryz.func6, Tryz.ntmps6
  go_wp2_with fail
  (with_reducible refine (HAW.out _ (Below.refl _ _)).mono ?_)
  rintro e w2 ⟨rfl, hb2⟩
  go_wp2_with fail
  go_ret
  exact ⟨rfl, hb2⟩
 have hbI : ¬ (50 : Int) < (m : Int) := by omega
 have hbN : ¬ 50 < m := hbig
 clear hbig hBe
 go_enter Tryz.func6, Tryz.ntmps6
 go_wp2_with fail
 (with_reducible refine (HBG.out _).mono ?_)
 rintro e w1 ⟨rfl, hb1⟩
 obtain ⟨q, hqe⟩ : ∃ q, q = w1.heap.size := ⟨_, rfl⟩
 obtain ⟨w2, hw2⟩ : ∃ W, W = w1.alloc (.cells #[.slice none 0 0, .slice none 0 0, .slice none 0 0, .slice none 0 0, .slice none 0 0, .slice none 0 0, .slice none 0 0, .slice none 0 0, .slice none 0 0, .int .i64 0, .int .i64 0, .int .i64 0, .slice none 0 0, .slice none 0 0, .slice none 0 0, .slice none 0 0] 43) := ⟨_, rfl⟩
 have hb2 : Below w1.heap.size w1 w2 := by rw [hw2]; exact below1
 have x2 : w2.heap[q]? = some (.cells #[.slice none 0 0, .slice none 0 0, .slice none 0 0, .slice none 0 0, .slice none 0 0, .slice none 0 0, .slice none 0 0, .slice none 0 0, .slice none 0 0, .int .i64 0, .int .i64 0, .int .i64 0, .slice none 0 0, .slice none 0 0, .slice none 0 0, .slice none 0 0] 43 (0, 0)) := by rw [hw2, hqe]; exact heap_alloc_new w1 _
 have hBq : B ≤ q := by rw [hqe, HBE.out]; exact hb1.size
 have hb12 : Below B w w2 := by rw [HBE.out]; exact hb1.trans (hb2.mono hb1.size)
 have HX0 := Lib.hid (box_zero x2)
 have HP0 := Lib.hid (pin_zero B w2)
 have HI0 := Lib.hid (inv_zero 0)
 have HB0 := Lib.hid hb12
 have HW2 := Lib.hid hw2
 have HQE := Lib.hid hqe
 clear hqe hw2 hb2 x2 hb12 hb1
 go_wp2_with fail
 rw [← HW2.out, ← HQE.out]
 go_loopw [34] (fun i wr => ∃ (k : Nat) (g : Nat → Value) (s : PS), i = .int .i64 (k : Int) ∧ k ≤ m ∧ Hid (Box16 wr q g) ∧ Hid (PIn B wr g s) ∧ Hid (Inv k s) ∧ Hid (Below B w wr)) (fun i _ => m - (intOf i).toNat)
 case atStart => exact ⟨0, g16, PS.zero, rfl, by omega, HX0, HP0, HI0, HB0⟩
 case round =>
  obtain ⟨k, g, s, rfl, hk, HX, HP, HI, HB⟩ := hrel
  by_cases hlt : k < m
  ·
   have hkI : (k : Int) < (m : Int) := by omega
   have hk0 : 0 ≤ (k : Int) := by omega
   obtain ⟨b, off, rfl, hbB, hcc, -⟩ := HK.out.get HQ.out hlt
   have hz : B ≤ wr.heap.size := Nat.le_trans hBq (Nat.le_of_lt HX.out.lt)
   have hcc2 : ∀ i : Nat, i < 4 → wr.cell? ⟨b, off + k * 4 + i, none⟩ = some (.int .i64 ((l.getD k []).getD i 0)) := fun i hi => (HB.out.cell (p := ⟨b, _, none⟩) (by rw [HBE.out]; exact hbB)).trans (by rw [Nat.add_assoc]; exact hcc i hi)
   obtain ⟨oK, hoK⟩ : ∃ x, x = (l.getD k []).getD 0 0 := ⟨_, rfl⟩
   obtain ⟨oW, hoW⟩ : ∃ x, x = (l.getD k []).getD 1 0 := ⟨_, rfl⟩
   obtain ⟨oA, hoA⟩ : ∃ x, x = (l.getD k []).getD 2 0 := ⟨_, rfl⟩
   obtain ⟨oB, hoB⟩ : ∃ x, x = (l.getD k []).getD 3 0 := ⟨_, rfl⟩
   have q0 : wr.cell? ⟨b, off + k * 4, none⟩ = some (.int .i64 ((l.getD k []).getD 0 0)) := hcc2 0 (by decide)
   have q1 := hcc2 1 (by decide)
   have q2 := hcc2 2 (by decide)
   have q3 := hcc2 3 (by decide)
   rw [← hoK] at q0
   rw [← hoW] at q1
   rw [← hoA] at q2
   rw [← hoB] at q3
   obtain ⟨w3, hw3⟩ : ∃ W, W = wr.alloc (.cells #[.int .i64 oK, .int .i64 oW, .int .i64 oA, .int .i64 oB] 46) := ⟨_, rfl⟩
   have hb3 : Below wr.heap.size wr w3 := by rw [hw3]; exact below1
   have HST := Lib.hid (step_any B q k s g oK oW oA oB w3 (HX.out.on hb3) (HP.out.on hb3) HI.out (by omega) hBq (HMX.out w3 (HB.out.trans (hb3.mono hz))) h0)
   have HB3 := Lib.hid (HB.out.trans (hb3.mono hz))
   have HW3 := Lib.hid hw3
   clear hcc hcc2 hoK hoW hoA hoB hbB hw3 hb3
   go_wp2_with fail
   rw [← HW3.out]
   (with_reducible refine HST.out.mono ?_)
   rintro e w4 ⟨rfl, g', s', hx', hp', hi', hb'⟩
   have HX' := Lib.hid hx'
   have HP' := Lib.hid hp'
   have HI' := Lib.hid hi'
   have HB' := Lib.hid (HB3.out.trans hb')
   clear hx' hp' hi' hb' q0 q1 q2 q3
   go_wp2_with fail
   go_roundw
   case rel => exact ⟨k + 1, g', s', by go_num, by omega, HX', HP', HI', HB'⟩
   case measure => simp [intOf]; omega
  ·
   have hkm : k = m := by omega
   subst hkm
   have hbI' : B ≤ wr.heap.size := Nat.le_trans hBq (Nat.le_of_lt HX.out.lt)
   obtain ⟨W0, hW0⟩ : ∃ W, W = wr := ⟨_, rfl⟩
   rw [← hW0] at HX HP HB hbI' ⊢
   have hk50 : k ≤ 60 := by omega
   clear hW0 HK hk hmm hbI hbN hlt
   obtain ⟨J, hJ0, hJ4⟩ := u64_rem a 4 (by decide)
   have hJe : (IntKind.u64.wrap a).tmod 4 = (J : Int) := hJ0
   have hJi : (J : Int) < 4 := by omega
   have hJp : 0 ≤ (J : Int) := by omega
   clear hJ0
   go_wp2_with fail
   (with_reducible refine (names_any _).mono ?_)
   rintro e w1 ⟨bN, rfl, hs, hb1⟩
   have nm := names_cell hs J hJ4
   have HB1 := Lib.hid hb1
   obtain ⟨g0, gn, g2, g3, g4, g5, g6, g7, g8, e0, e1, e2, hE, hC, hgn⟩ := (HP.out.on hb1).sets (i := 0) (by decide)
   have hx1 := HX.out.on hb1
   have k0 := hx1.cell (j := 0) (by decide)
   have k1 := hx1.cell (j := 1) (by decide)
   have k2 := hx1.cell (j := 2) (by decide)
   have k9 := hx1.cell (j := 9) (by decide)
   rw [show g 0 = _ from e0] at k0
   rw [show g 1 = _ from e1] at k1
   rw [show g 2 = _ from e2] at k2
   rw [show g 9 = _ from HP.out.made 0 (by decide)] at k9
   obtain ⟨m0, hm0⟩ : ∃ n, n = s.made 0 := ⟨_, rfl⟩
   rw [← hm0] at k9
   have hm60 : (m0 : Int) ≤ 60 := by rw [hm0]; have := HI.out.made_le (i := 0) (by decide); omega
   obtain ⟨x, hx⟩ : ∃ x : Ent, x = ⟨nam J, s.nd 0, 1⟩ := ⟨_, rfl⟩
   have hfx : os.Fine x := by rw [hx]; exact nam_fine (HI.out.nd_valid (by decide) (by omega)) (by decide) (by decide)
   have hxd : x.d = s.nd 0 := by rw [hx]
   have hxs : x.s = nam J := by rw [hx]
   have HADD : Hid (Calls Tryz.prog 20 #[.agg #[.slice g0 gn g2, .slice g3 g4 g5, .slice g6 g7 g8], .agg #[.string (nam J), .int .i64 0, .int .i64 ((m0 : Int) + 1), .int .i64 1, .slice none 0 0]] w1 (AddP (s.l 0) (s.c 0) x w1)) := by
    have := oadd_yes (s.l 0) (s.c 0) x _ _ _ w1 hE.at hC.at (HI.out.set 0 (by decide)) hfx (by rw [hxd]; exact HI.out.fresh (by decide)) (Nat.le_trans (HI.out.len (by decide)) (by omega)) (Nat.le_trans (HI.out.cloud (by decide)) (by omega)) (HMX.out w1 (HB.out.trans (hb1.mono hbI')))
    have ev : eval' x = .agg #[.string (nam J), .int .i64 0, .int .i64 ((m0 : Int) + 1), .int .i64 1, .slice none 0 0] := by rw [hx, hm0]; rfl
    rwa [ev] at this
   have HXE := Lib.hid hx
   have HFX := Lib.hid hfx
   have HXD := Lib.hid hxd
   have HXS := Lib.hid hxs
   have HM0 := Lib.hid hm0
   clear hs hb1 e0 e1 e2 hE hC hgn hx1 hx hfx hxd hxs hm0
   go_wp2_with fail
   (with_reducible refine HADD.out.mono ?_)
   rintro e w2 ⟨u0, u1, u2, t0, t1, t2, t3, L1, cA, dA, rfl, h1, h2, h3, h4, h5, h6, h7, h8, ⟨m9, h9⟩, hb2⟩
   obtain ⟨a0, c0, rfl⟩ := own_slice h1
   obtain ⟨a1, n1, c1, a2, n2, c2, e1⟩ := h2.form
   obtain ⟨d3, f3, rfl⟩ := own_slice h3
   obtain ⟨d4, f4, rfl⟩ := own_slice h4
   obtain ⟨d5, e5, f5, d6, e6, f6, e2⟩ := h5.form
   simp only [Value.agg.injEq, Array.mk.injEq, List.cons.injEq, and_true] at e1 e2
   obtain ⟨rfl, rfl⟩ := e1
   obtain ⟨rfl, rfl⟩ := e2
   obtain ⟨n0, hn0⟩ : ∃ n, n = L1.length := ⟨_, rfl⟩
   obtain ⟨e3, he3⟩ : ∃ n, n = ([x] : List Ent).length := ⟨_, rfl⟩
   obtain ⟨e4, he4⟩ : ∃ n, n = ([x.d] : List Dot).length := ⟨_, rfl⟩
   rw [← hn0] at h1 ⊢
   rw [← he3] at h3 ⊢
   rw [← he4] at h4 ⊢
   have HH0 := Lib.hid (has0_add HI.out HFX.out HXD.out h6 h7 h8)
   have HDA : Hid (RDel [x] [x.d] dA) := rdel_add HFX.out h9
   have HDN : Hid (∀ d, dm.Knows dA d → s.Near d) := add_near HI.out HXD.out h9
   have hb12 := HB1.out.trans (hb2.mono HB1.out.size)
   obtain ⟨w3, hw3⟩ : ∃ W, W = (w2.alloc (.cells #[.slice a0 n0 c0, .slice a1 n1 c1, .slice a2 n2 c2] 27)).alloc (.cells #[.slice d3 e3 f3, .slice d4 e4 f4, .slice d5 e5 f5, .slice d6 e6 f6] 29) := ⟨_, rfl⟩
   have y1 : Below w2.heap.size w2 (w2.alloc (.cells #[.slice a0 n0 c0, .slice a1 n1 c1, .slice a2 n2 c2] 27)) := below1
   have y2 : Below (w2.alloc (.cells #[.slice a0 n0 c0, .slice a1 n1 c1, .slice a2 n2 c2] 27)).heap.size (w2.alloc (.cells #[.slice a0 n0 c0, .slice a1 n1 c1, .slice a2 n2 c2] 27)) w3 := by rw [hw3]; exact below1
   have y3 : Below w2.heap.size w2 w3 := y1.trans (y2.mono y1.size)
   obtain ⟨b9, hb9⟩ : ∃ b, b = w2.heap.size := ⟨_, rfl⟩
   obtain ⟨b10, hb10⟩ : ∃ b, b = w2.heap.size + 1 := ⟨_, rfl⟩
   have x9 : w3.heap[b9]? = some (.cells #[.slice a0 n0 c0, .slice a1 n1 c1, .slice a2 n2 c2] 27 (0, 0)) := (y2.block _ (by rw [World.size_alloc]; omega)).trans (by rw [hb9]; exact heap_alloc_new w2 _)
   have x10 : w3.heap[b10]? = some (.cells #[.slice d3 e3 f3, .slice d4 e4 f4, .slice d5 e5 f5, .slice d6 e6 f6] 29 (0, 0)) := by rw [hw3, hb10, ← World.size_alloc w2 (.cells #[.slice a0 n0 c0, .slice a1 n1 c1, .slice a2 n2 c2] 27)]; exact heap_alloc_new _ _
   have HB03 := Lib.hid (hb12.trans (y3.mono hb12.size))
   have hzB : B ≤ w1.heap.size := Nat.le_trans hbI' HB1.out.size
   have R9 : Hid (∀ W, Below w3.heap.size w3 W → W.heap[b9]? = some (.cells #[.slice a0 n0 c0, .slice a1 n1 c1, .slice a2 n2 c2] 27 (0, 0)) ∧ EntO B W (.slice a0 n0 c0) L1 ∧ OwnC B W (.agg #[.slice a1 n1 c1, .slice a2 n2 c2]) cA) := fun W hW => ⟨(hW.block _ (lt_of_block x9)).trans x9, ((EntO.low (show EntO _ w2 (.slice a0 n0 c0) L1 by rw [hn0] at h1 ⊢; exact h1) hzB).on y3).on hW, ((h2.low hzB).on y3).on hW⟩
   have R10 : Hid (∀ W, Below w3.heap.size w3 W → W.heap[b10]? = some (.cells #[.slice d3 e3 f3, .slice d4 e4 f4, .slice d5 e5 f5, .slice d6 e6 f6] 29 (0, 0)) ∧ EntO B W (.slice d3 e3 f3) [x] ∧ DotO B W (.slice d4 e4 f4) [x.d] ∧ OwnC B W (.agg #[.slice d5 e5 f5, .slice d6 e6 f6]) dA) := fun W hW => ⟨(hW.block _ (lt_of_block x10)).trans x10, ((EntO.low (show EntO _ w2 (.slice d3 e3 f3) [x] by rw [he3] at h3 ⊢; exact h3) hzB).on y3).on hW, ((DotO.low (show DotO _ w2 (.slice d4 e4 f4) [x.d] by rw [he4] at h4 ⊢; exact h4) hzB).on y3).on hW, ((h5.low hzB).on y3).on hW⟩
   have hx3 := HX.out.on HB03.out
   obtain ⟨g0', gn', g2', g3', g4', g5', g6', g7', g8', e0, e1, e2, hE, hC, hgn'⟩ := (HP.out.on HB03.out).sets (i := 1) (by decide)
   clear k0 k1 k2 k9
   have k0 := hx3.cell (j := 3) (by decide)
   have k1 := hx3.cell (j := 4) (by decide)
   have k2 := hx3.cell (j := 5) (by decide)
   have k9 := hx3.cell (j := 10) (by decide)
   rw [show g 3 = _ from e0] at k0
   rw [show g 4 = _ from e1] at k1
   rw [show g 5 = _ from e2] at k2
   rw [show g 10 = _ from HP.out.made 1 (by decide)] at k9
   obtain ⟨m1, hm1⟩ : ∃ n, n = s.made 1 := ⟨_, rfl⟩
   rw [← hm1] at k9
   have hm61 : (m1 : Int) ≤ 60 := by rw [hm1]; have := HI.out.made_le (i := 1) (by decide); omega
   have HB3B := Lib.hid (HB.out.trans (HB03.out.mono hbI'))
   have HREM : Hid (Calls Tryz.prog 21 #[.agg #[.slice g0' gn' g2', .slice g3' g4' g5', .slice g6' g7' g8'], .string (nam J), .agg #[.int .i64 1, .int .i64 ((m1 : Int) + 1)]] w3 (DropR (fun y => decide (y.s = nam J)) (s.l 1) (s.c 1) (s.nd 1) (.agg #[.slice g0' gn' g2', .slice g3' g4' g5', .slice g6' g7' g8']) w3)) := by
    have := orem_any (s.l 1) (s.c 1) (s.nd 1) (nam J) _ _ _ w3 hE.at hC.at (HI.out.set 1 (by decide)) (HI.out.nd_valid (by decide) (by omega)) (HI.out.fresh (by decide)) (Nat.le_trans (HI.out.len (by decide)) (by omega)) (Nat.le_trans (HI.out.cloud (by decide)) (by omega)) (HMX.out w3 HB3B.out)
    unfold PS.nd at this
    rw [← hm1] at this
    unfold PS.nd
    rw [← hm1]
    exact this
   have HEO := Lib.hid hE
   have HCO := Lib.hid hC
   have HW3 := Lib.hid hw3
   have HE9 := Lib.hid hb9
   have HE10 := Lib.hid hb10
   have hz3 : B ≤ w3.heap.size := Nat.le_trans hbI' HB03.out.size
   rw [hw3] at k0 k1 k2 k9
   clear h1 h2 h3 h4 h5 h6 h7 h8 h9 hn0 he3 he4 hb12 hw3 y1 y2 y3 hb9 hb10 x9 x10 hzB hx3 e0 e1 e2 hE hC hm1 hb2 nm hgn'
   go_wp2_with fail
   rw [← HW3.out, ← HE10.out, ← HE9.out]
   (with_reducible refine HREM.out.mono ?_)
   intro e w4 hrem
   obtain ⟨b0, q0, k0', b1, q1, k1', b2, q2, k2', x5, y5, z5, x6, y6, z6, lt, ct, cx, rfl, h1, h2, h3, h4, hb4⟩ := rem_out HI.out hz3 HEO.out HCO.out hrem
   obtain ⟨w5, hw5⟩ : ∃ W, W = (w4.alloc (.cells #[.slice b0 q0 k0', .slice b1 q1 k1', .slice b2 q2 k2'] 27)).alloc (.cells #[.slice none 0 0, .slice none 0 0, .slice x5 y5 z5, .slice x6 y6 z6] 29) := ⟨_, rfl⟩
   have y1 : Below w4.heap.size w4 (w4.alloc (.cells #[.slice b0 q0 k0', .slice b1 q1 k1', .slice b2 q2 k2'] 27)) := below1
   have y2 : Below (w4.alloc (.cells #[.slice b0 q0 k0', .slice b1 q1 k1', .slice b2 q2 k2'] 27)).heap.size (w4.alloc (.cells #[.slice b0 q0 k0', .slice b1 q1 k1', .slice b2 q2 k2'] 27)) w5 := by rw [hw5]; exact below1
   have y3 : Below w4.heap.size w4 w5 := y1.trans (y2.mono y1.size)
   obtain ⟨b12, hb12⟩ : ∃ b, b = w4.heap.size := ⟨_, rfl⟩
   obtain ⟨b13, hb13⟩ : ∃ b, b = w4.heap.size + 1 := ⟨_, rfl⟩
   have x12 : w5.heap[b12]? = some (.cells #[.slice b0 q0 k0', .slice b1 q1 k1', .slice b2 q2 k2'] 27 (0, 0)) := (y2.block _ (by rw [World.size_alloc]; omega)).trans (by rw [hb12]; exact heap_alloc_new w4 _)
   have x13 : w5.heap[b13]? = some (.cells #[.slice none 0 0, .slice none 0 0, .slice x5 y5 z5, .slice x6 y6 z6] 29 (0, 0)) := by rw [hw5, hb13, ← World.size_alloc w4 (.cells #[.slice b0 q0 k0', .slice b1 q1 k1', .slice b2 q2 k2'] 27)]; exact heap_alloc_new _ _
   have HB35 := Lib.hid (hb4.trans (y3.mono hb4.size))
   have R12 : Hid (∀ W, Below w5.heap.size w5 W → W.heap[b12]? = some (.cells #[.slice b0 q0 k0', .slice b1 q1 k1', .slice b2 q2 k2'] 27 (0, 0)) ∧ EntO B W (.slice b0 q0 k0') lt ∧ OwnC B W (.agg #[.slice b1 q1 k1', .slice b2 q2 k2']) ct) := fun W hW => ⟨(hW.block _ (lt_of_block x12)).trans x12, (h1.on y3).on hW, (h2.on y3).on hW⟩
   have R13 : Hid (∀ W, Below w5.heap.size w5 W → W.heap[b13]? = some (.cells #[.slice none 0 0, .slice none 0 0, .slice x5 y5 z5, .slice x6 y6 z6] 29 (0, 0)) ∧ OwnC B W (.agg #[.slice x5 y5 z5, .slice x6 y6 z6]) cx) := fun W hW => ⟨(hW.block _ (lt_of_block x13)).trans x13, (h3.on y3).on hW⟩
   have HR1 := Lib.hid h4
   have HB5B := Lib.hid (HB3B.out.trans (HB35.out.mono hz3))
   have hz5 : B ≤ w5.heap.size := Nat.le_trans hz3 HB35.out.size
   obtain ⟨r9, hE9, hC9⟩ := R9.out w5 HB35.out
   obtain ⟨r13, hC13⟩ := R13.out w5 (Below.refl _ _)
   have k0 := boxc r9 0 _ rfl
   have k1 := boxc r9 1 _ rfl
   have k2 := boxc r9 2 _ rfl
   have p0 := boxc r13 0 _ rfl
   have p1 := boxc r13 1 _ rfl
   have p2 := boxc r13 2 _ rfl
   have p3 := boxc r13 3 _ rfl
   have HAP1 := Lib.hid (oapply_yes L1 cA [] [] cx _ _ _ _ _ _ _ w5 hE9.at hC9.at (Cells.nil _ _ _) (Cells.nil _ _ _) hC13.at HH0.out.set HR1.out.del (fun d hd => by cases hd) (Nat.le_trans (near_ents HI.out HH0.out.set HH0.out.kn) (by omega)) (by simp) (by simp) (Nat.le_trans (near_len HI.out HH0.out.set.right HH0.out.kn) (by omega)) (Nat.le_trans (near_len HI.out HR1.out.right (fun d hd => or_near (HR1.out.knx d hd))) (by omega)) (HMX.out w5 HB5B.out))
   have HW5 := Lib.hid hw5
   have HE12 := Lib.hid hb12
   have HE13 := Lib.hid hb13
   rw [hw5] at k0 k1 k2 p0 p1 p2 p3
   rw [hb13] at p0 p1 p2 p3
   clear h1 h2 h3 h4 hb4 hw5 y1 y2 y3 hb12 hb13 x12 x13 hrem r9 hE9 hC9 r13 hC13
   go_wp2_with fail
   rw [← HW5.out, ← HE13.out, ← HE12.out]
   (with_reducible refine HAP1.out.mono ?_)
   rintro e w6 ⟨u0, u1, u2, L2, cB, rfl, h1, h2, h3, h4, h5, hb6⟩
   have hh2 := HH0.out.apply HR1.out.del (by rw [HXD.out]; exact HR1.out.no.2) (fun d hd => or_near (HR1.out.knx d hd)) h3 h4 h5
   obtain ⟨⟨nv, nb⟩, hnv⟩ : ∃ p, p = nwF (nam J) L2 := ⟨_, rfl⟩
   obtain rfl : nb = true := by rw [show nb = (nwF (nam J) L2).2 by rw [← hnv]]; exact (newest_iff _ _).2 ⟨x, hh2.mem, HXS.out⟩
   have HNW1 := newest_any (nam J) L2 u0 u1 u2 w6 h1.at
   rw [← hnv] at HNW1
   have HNW1 := Lib.hid HNW1
   have HB56 := Lib.hid hb6
   clear h1 h2 h3 h4 h5 hh2 hnv hb6 k0 k1 k2 p0 p1 p2 p3 HAP1
   go_wp2_with fail
   (with_reducible refine HNW1.out.mono ?_)
   rintro e w7 ⟨rfl, hb7⟩
   have HB57 := Lib.hid (HB56.out.trans (hb7.mono HB56.out.size))
   obtain ⟨r12, hE12, hC12⟩ := R12.out w7 HB57.out
   obtain ⟨r10, hE10, hA10, hC10⟩ := R10.out w7 (HB35.out.trans (HB57.out.mono HB35.out.size))
   have k0 := boxc r12 0 _ rfl
   have k1 := boxc r12 1 _ rfl
   have k2 := boxc r12 2 _ rfl
   have p0 := boxc r10 0 _ rfl
   have p1 := boxc r10 1 _ rfl
   have p2 := boxc r10 2 _ rfl
   have p3 := boxc r10 3 _ rfl
   have HAP2 := Lib.hid (oapply_yes lt ct [x] [x.d] dA _ _ _ _ _ _ _ w7 hE12.at hC12.at hE10.at hA10.at hC10.at HR1.out.set HDA.out (told_add x _) (Nat.le_trans (near_ents HI.out HR1.out.set (fun d hd => or_near (HR1.out.kn d hd))) (by omega)) (by simp) (by simp) (Nat.le_trans (near_len HI.out HR1.out.set.right (fun d hd => or_near (HR1.out.kn d hd))) (by omega)) (Nat.le_trans (near_len HI.out HDA.out.set.right HDN.out) (by omega)) (HMX.out w7 (HB5B.out.trans (HB57.out.mono hz5))))
   clear r12 hE12 hC12 r10 hE10 hA10 hC10 hb7
   go_wp2_with fail
   (with_reducible refine HAP2.out.mono ?_)
   rintro e w8 ⟨u0, u1, u2, L3, cD, rfl, h1, h2, h3, h4, h5, hb8⟩
   have hx3 : x ∈ L3 := by
    rw [h3.mem_iff, new_one (by rw [HXD.out]; exact HR1.out.no.1)]
    simp
   obtain ⟨⟨nv2, nb⟩, hnv⟩ : ∃ p, p = nwF (nam J) L3 := ⟨_, rfl⟩
   obtain rfl : nb = true := by rw [show nb = (nwF (nam J) L3).2 by rw [← hnv]]; exact (newest_iff _ _).2 ⟨x, hx3, HXS.out⟩
   have HNW2 := newest_any (nam J) L3 u0 u1 u2 w8 h1.at
   rw [← hnv] at HNW2
   have HNW2 := Lib.hid HNW2
   have HB58 := Lib.hid (HB57.out.trans (hb8.mono HB57.out.size))
   clear h1 h2 h3 h4 h5 hx3 hnv hb8 k0 k1 k2 p0 p1 p2 p3 HAP2
   go_wp2_with fail
   (with_reducible refine HNW2.out.mono ?_)
   rintro e w9 ⟨rfl, hb9⟩
   have HB59 := Lib.hid (HB58.out.trans (hb9.mono HB58.out.size))
   have HB39 := Lib.hid (HB35.out.trans (HB59.out.mono HB35.out.size))
   obtain ⟨r9, _, _⟩ := R9.out w9 HB39.out
   have k0 := boxc r9 0 _ rfl
   have k1 := boxc r9 1 _ rfl
   have k2 := boxc r9 2 _ rfl
   obtain ⟨W16, hW16⟩ : ∃ W, W = w9.alloc (.cells #[.slice a0 n0 c0, .slice a1 n1 c1, .slice a2 n2 c2] 27) := ⟨_, rfl⟩
   obtain ⟨b18, hb18⟩ : ∃ b, b = w9.heap.size := ⟨_, rfl⟩
   have y1 : Below w9.heap.size w9 W16 := by rw [hW16]; exact below1
   have x18 : W16.heap[b18]? = some (.cells #[.slice a0 n0 c0, .slice a1 n1 c1, .slice a2 n2 c2] 27 (0, 0)) := by rw [hW16, hb18]; exact heap_alloc_new w9 _
   have HB516 := Lib.hid (HB59.out.trans (y1.mono HB59.out.size))
   have HB316 := Lib.hid (HB39.out.trans (y1.mono HB39.out.size))
   have HB016 := Lib.hid (HB03.out.trans (HB316.out.mono HB03.out.size))
   have X18 := Lib.hid x18
   have HW16 := Lib.hid hW16
   have HE18 := Lib.hid hb18
   obtain ⟨nC, hnC⟩ : ∃ n, n = s.C.length := ⟨_, rfl⟩
   obtain ⟨nC1, hn1⟩ : ∃ n, n = nC + 1 := ⟨_, rfl⟩
   obtain ⟨aC, cC, hgC⟩ : ∃ a c, g 12 = .slice a nC c := by
    obtain ⟨a, c, e⟩ := HP.out.chg.len
    exact ⟨a, c, by rw [e, hnC]⟩
   have hC60 : nC ≤ 60 := by rw [hnC]; have := HI.out.many; omega
   have HNC := Lib.hid hnC
   have HN1 := Lib.hid hn1
   have hn61 : nC1 ≤ 61 := by omega
   have XC16 : Hid (∀ ww, Below W16.heap.size W16 ww → ww.cell? ⟨q, 12, none⟩ = some (.slice aC nC cC)) := fun ww hw => by rw [← hgC]; exact (HX.out.on (HB016.out.trans (hw.mono HB016.out.size))).cell (by decide)
   have RX16 : Hid (∀ ww, Below W16.heap.size W16 ww → ww.heap[b13]? = some (.cells #[.slice none 0 0, .slice none 0 0, .slice x5 y5 z5, .slice x6 y6 z6] 29 (0, 0))) := fun ww hw => (R13.out ww (HB516.out.trans (hw.mono HB516.out.size))).1
   obtain ⟨D, hD0, hD1, hD2⟩ := HP.out.chg
   rw [hgC, ← hnC] at hD2
   have HDL : Hid (D.flatten.length = nC * 4) := hD2.1
   have HD1 : Hid (∀ u ∈ D.flatten, u.oneCell' = true) := cho_one hD0 hD1
   have HCN : Hid (aC = none → nC = 0 ∧ cC = 0) := fun e => by
    rcases hD2.2 with ⟨e2, e3⟩ | ⟨r, _, _, e2, _⟩
    ·
     cases e2; exact ⟨rfl, rfl⟩
    ·
     rw [e] at e2; cases e2
   have HDC : Hid (∀ ww, Below W16.heap.size W16 ww → ∀ ad, aC = some ad → ∀ j u, D.flatten[j]? = some u → ww.cell? (ad.add j) = some u) := fun ww hw ad e j u hu => by
    have ho := own_stay hD2 (HB016.out.trans (hw.mono HB016.out.size))
    rcases ho.2 with ⟨e2, _⟩ | ⟨r, cap, cur, e2, _⟩
    ·
     rw [e] at e2; cases e2
    ·
     have e3 : ad = ⟨r, 0, none⟩ := by rw [e] at e2; cases e2; rfl
     rw [e3]
     exact ho.cells (g := r) (by rw [e, e3]; rfl) j u hu
   have HD0 : Hid (D.length = s.C.length) := hD0
   have HDD : Hid (∀ W, Below W0.heap.size W0 W → ∀ (j : Nat) (c : List Value) (x : Chg), D[j]? = some c → s.C[j]? = some x → DltO B W c x) := fun W hW j c x h1 h2 => (hD1 j c x h1 h2).on hW
   clear r9 y1 x18 hW16 hb18 hnC hn1 hgC hD0 hD1 hD2 hb9
   go_wp2_with fail
   rw [← HW16.out, ← HE18.out]
   clear k0 k1 k2
   refine wp_flowG 9 (fun kF => match kF with | 0 => 3 | 3 => 6 | 5 => 6 | _ => 1000) (fun ww => RowKit.Below W16.heap.size W16 ww) (fun i w w' => if i = 6 then (fun (w w' : World) => ∃ r, w.grownBy w' r ∧ ∀ j, r = some j → W16.heap.size ≤ j) w w' else (fun (w w' : World) => RowKit.Below w.heap.size w w') w w') (fun sF wF => match sF with  | _ => True) (fun kF vF wF => match kF with | 0 => (∃ g, vF = .slice (some ⟨g, 0, none⟩) 0 0 ∧ wF.ownsRow W16.heap.size 29 4 (.slice (some ⟨g, 0, none⟩) 0 0) 0 []) | 1 => (vF = .pointer (some ⟨q, 12, none⟩)) | 2 => (vF = .slice aC nC cC) | 3 => (∃ v, vF = v ∧ wF.ownsRow W16.heap.size 29 4 v nC D.flatten) | 4 => (vF = .agg #[.slice none 0 0, .slice none 0 0, .slice x5 y5 z5, .slice x6 y6 z6]) | 5 => (∃ g, vF = .slice (some ⟨g, 0, none⟩) 1 1 ∧ wF.heap[g]? = some (.cells #[.slice none 0 0, .slice none 0 0, .slice x5 y5 z5, .slice x6 y6 z6] 29 (0, 0))) | 6 => (∃ a c, vF = .slice a nC1 c ∧ wF.ownsRow W16.heap.size 29 4 (.slice a nC1 c) nC1 (D.flatten ++ [.slice none 0 0, .slice none 0 0, .slice x5 y5 z5, .slice x6 y6 z6])) | 7 => (vF = .int .i64 (nC1 : Int)) | 8 => (vF = .int .i64 0) | _ => True) (fun _ _ _ _ => True) (by kernel_rfl) (by kernel_rfl) ?_ ?_ ?_ ?_ ?_ ?_ ?_
   ·
    exact (Below.refl _ _).drew
   ·
    intro sF hsF
    rcases (by omega : sF = 0 ∨ sF = 1 ∨ sF = 2 ∨ sF = 3 ∨ sF = 4 ∨ sF = 5 ∨ sF = 6 ∨ sF = 7 ∨ sF = 8) with rfl | rfl | rfl | rfl | rfl | rfl | rfl | rfl | rfl
    iterate 9 exact trivial
   ·
    intro iF wF1 wF2 hR hT
    have hT : (fun i w w' => if i = 6 then (fun (w w' : World) => ∃ r, w.grownBy w' r ∧ ∀ j, r = some j → W16.heap.size ≤ j) w w' else (fun (w w' : World) => RowKit.Below w.heap.size w w') w w') iF wF1 wF2 := hT
    simp only at hT
    by_cases hi6 : iF = 6
    ·
     rw [if_pos hi6] at hT; (obtain ⟨r, hg, hj⟩ := hT; exact hR.grown hg hR.size hj)
    rw [if_neg hi6] at hT
    exact hR.trans (hT.mono hR.size)
   ·
    intro sF hsF iF hiF hne hanc wF1 wF2 hRF hgF hT
    rcases (by omega : sF = 0 ∨ sF = 1 ∨ sF = 2 ∨ sF = 3 ∨ sF = 4 ∨ sF = 5 ∨ sF = 6 ∨ sF = 7 ∨ sF = 8) with rfl | rfl | rfl | rfl | rfl | rfl | rfl | rfl | rfl
    iterate 9 exact trivial
   ·
    intro kF hkF iF hiF hne hdd hanc hdan vF wF1 wF2 h hT
    rcases (by omega : kF = 0 ∨ kF = 1 ∨ kF = 2 ∨ kF = 3 ∨ kF = 4 ∨ kF = 5 ∨ kF = 6 ∨ kF = 7 ∨ kF = 8) with rfl | rfl | rfl | rfl | rfl | rfl | rfl | rfl | rfl
    ·
     have h : (∃ g, vF = .slice (some ⟨g, 0, none⟩) 0 0 ∧ wF1.ownsRow W16.heap.size 29 4 (.slice (some ⟨g, 0, none⟩) 0 0) 0 []) := h
     show (∃ g, vF = .slice (some ⟨g, 0, none⟩) 0 0 ∧ wF2.ownsRow W16.heap.size 29 4 (.slice (some ⟨g, 0, none⟩) 0 0) 0 [])
     have hT : (fun i w w' => if i = 6 then (fun (w w' : World) => ∃ r, w.grownBy w' r ∧ ∀ j, r = some j → W16.heap.size ≤ j) w w' else (fun (w w' : World) => RowKit.Below w.heap.size w w') w w') iF wF1 wF2 := hT
     simp only at hT
     by_cases hi6 : iF = 6
     ·
      subst hi6; exact (anc_no hdan (by kernel_rfl)).elim
     rw [if_neg hi6] at hT
     obtain ⟨g, e, h1⟩ := h
     exact ⟨g, e, own_stay h1 hT⟩
    iterate 2 exact h
    ·
     have h : (∃ v, vF = v ∧ wF1.ownsRow W16.heap.size 29 4 v nC D.flatten) := h
     show (∃ v, vF = v ∧ wF2.ownsRow W16.heap.size 29 4 v nC D.flatten)
     have hT : (fun i w w' => if i = 6 then (fun (w w' : World) => ∃ r, w.grownBy w' r ∧ ∀ j, r = some j → W16.heap.size ≤ j) w w' else (fun (w w' : World) => RowKit.Below w.heap.size w w') w w') iF wF1 wF2 := hT
     simp only at hT
     by_cases hi6 : iF = 6
     ·
      exact absurd hi6.symm hdd
     rw [if_neg hi6] at hT
     obtain ⟨v, e, h1⟩ := h
     exact ⟨v, e, own_stay h1 hT⟩
    ·
     exact h
    ·
     have h : (∃ g, vF = .slice (some ⟨g, 0, none⟩) 1 1 ∧ wF1.heap[g]? = some (.cells #[.slice none 0 0, .slice none 0 0, .slice x5 y5 z5, .slice x6 y6 z6] 29 (0, 0))) := h
     show (∃ g, vF = .slice (some ⟨g, 0, none⟩) 1 1 ∧ wF2.heap[g]? = some (.cells #[.slice none 0 0, .slice none 0 0, .slice x5 y5 z5, .slice x6 y6 z6] 29 (0, 0)))
     have hT : (fun i w w' => if i = 6 then (fun (w w' : World) => ∃ r, w.grownBy w' r ∧ ∀ j, r = some j → W16.heap.size ≤ j) w w' else (fun (w w' : World) => RowKit.Below w.heap.size w w') w w') iF wF1 wF2 := hT
     simp only at hT
     by_cases hi6 : iF = 6
     ·
      exact absurd hi6.symm hdd
     rw [if_neg hi6] at hT
     obtain ⟨g, e, h1⟩ := h
     exact ⟨g, e, (hT.block _ (lt_of_block h1)).trans h1⟩
    ·
     have h : (∃ a c, vF = .slice a nC1 c ∧ wF1.ownsRow W16.heap.size 29 4 (.slice a nC1 c) nC1 (D.flatten ++ [.slice none 0 0, .slice none 0 0, .slice x5 y5 z5, .slice x6 y6 z6])) := h
     show (∃ a c, vF = .slice a nC1 c ∧ wF2.ownsRow W16.heap.size 29 4 (.slice a nC1 c) nC1 (D.flatten ++ [.slice none 0 0, .slice none 0 0, .slice x5 y5 z5, .slice x6 y6 z6]))
     have hT : (fun i w w' => if i = 6 then (fun (w w' : World) => ∃ r, w.grownBy w' r ∧ ∀ j, r = some j → W16.heap.size ≤ j) w w' else (fun (w w' : World) => RowKit.Below w.heap.size w w') w w') iF wF1 wF2 := hT
     simp only at hT
     by_cases hi6 : iF = 6
     ·
      exact absurd hi6.symm hne
     rw [if_neg hi6] at hT
     obtain ⟨a, c, e, h1⟩ := h
     exact ⟨a, c, e, own_stay h1 hT⟩
    iterate 2 exact h
   ·
    generalize hAF : fillOf _ _ _ = AF
    replace hAF := fun x => congrFun hAF x
    simp only [take_succ_cons, take_zero, fillOf, Act.put, setIfInBounds_toArray, set_cons_zero, set_cons_succ, Nat.reduceAdd, Nat.zero_add] at hAF
    refine .cons ?_ (.cons ?_ (.cons ?_ (.cons ?_ (.cons ?_ (.cons ?_ (.cons ?_ (.cons ?_ (.cons ?_ (.nil)))))))))
    all_goals
     intro xF w17 hR hg hd K hK
     first | simp only [← hAF, Act.put, setIfInBounds_toArray, set_cons_zero, set_cons_succ] at hK ⊢ | simp only [← hAF, Act.put] at hK ⊢
     clear hAF
     try simp only [Nat.zero_add, Nat.reduceAdd] at hK ⊢
    ·
     clear hg hd
     rw [if_pos (by rfl)]
     go_simp
     exact hK.out _ _ (below1) (⟨_, rfl, own_box (heap_alloc_new _ _) rfl rfl (by decide) hR.size⟩) (fun _ _ _ => ⟨trivial, trivial⟩)
    ·
     clear hg hd
     rw [if_pos (by rfl)]
     go_simp
     exact hK.out _ _ (Below.refl _ _) (rfl) (fun _ _ _ => ⟨trivial, trivial⟩)
    ·
     clear hg
     have dd1 := hd 1 (by kernel_rfl)
     clear hd
     try generalize xF 1 = yy1 at *
     obtain rfl := dd1
     have kc := XC16.out _ hR
     rw [if_pos (by rfl)]
     go_simp
     exact hK.out _ _ (Below.refl _ _) (rfl) (fun _ _ _ => ⟨trivial, trivial⟩)
    ·
     clear hg
     have dd0 := hd 0 (by kernel_rfl)
     have dd2 := hd 2 (by kernel_rfl)
     clear hd
     try generalize xF 0 = yy0 at *
     try generalize xF 2 = yy2 at *
     obtain ⟨g0, rfl, ho0⟩ := dd0
     obtain rfl := dd2
     rw [if_pos (by rfl)]
     refine wp_of_list1 (fun Q' hQ' => ?_)
     refine kit.appZ (.tmp 94) (.tmp 96) 39 rfl rfl W16.heap.size Tryz.underlying39 infoDlt rfl (by decide) (by decide) ho0 rfl D.flatten rfl HDL.out HCN.out (fun ad e j u hu => HDC.out _ hR ad e j u hu) HD1.out (by omega) hR.size ?_
     intro vN wN hownN hgN
     refine hQ' _ _ ?_
     simp only [Act.put, setIfInBounds_toArray, set_cons_zero, set_cons_succ]
     exact hK.out _ _ (hgN) (⟨vN, rfl, hownN⟩) (fun _ _ _ => ⟨trivial, trivial⟩)
    ·
     clear hg hd
     have y8 := RX16.out _ hR
     have e0 := boxc y8 0 _ rfl
     have e1 := boxc y8 1 _ rfl
     have e2 := boxc y8 2 _ rfl
     have e3 := boxc y8 3 _ rfl
     rw [if_pos (by rfl)]
     go_simp
     exact hK.out _ _ (Below.refl _ _) (rfl) (fun _ _ _ => ⟨trivial, trivial⟩)
    ·
     clear hg
     have dd4 := hd 4 (by kernel_rfl)
     clear hd
     try generalize xF 4 = yy4 at *
     obtain rfl := dd4
     rw [if_pos (by rfl)]
     go_simp
     exact hK.out _ _ (below1) (⟨_, rfl, heap_alloc_new _ _⟩) (fun _ _ _ => ⟨trivial, trivial⟩)
    ·
     clear hg
     have dd3 := hd 3 (by kernel_rfl)
     have dd5 := hd 5 (by kernel_rfl)
     clear hd
     try generalize xF 3 = yy3 at *
     try generalize xF 5 = yy5 at *
     obtain ⟨v3, rfl, ho3⟩ := dd3
     obtain ⟨g5, rfl, hg5⟩ := dd5
     rw [if_pos (by rfl)]
     refine wp_of_list1 (fun Q' hQ' => ?_)
     refine appNg (.tmp 97) (.tmp 99) 39 rfl rfl W16.heap.size Tryz.underlying39 infoDlt rfl (by decide) (by decide) ho3 rfl rfl [.slice none 0 0, .slice none 0 0, .slice x5 y5 z5, .slice x6 y6 z6] rfl (fun j u hu => by rw [Addr.add_lit, Nat.zero_add]; exact boxc' hg5 j u (by simpa using hu)) (by intro u hu; simp at hu; rcases hu with rfl | rfl | rfl | rfl <;> rfl) (by omega) hR.size ?_
     intro vN wN hownN hgN
     rw [← HN1.out] at hownN
     obtain ⟨aN, cN, rfl⟩ := own_slice hownN
     refine hQ' _ _ ?_
     simp only [Act.put, setIfInBounds_toArray, set_cons_zero, set_cons_succ]
     exact hK.out _ _ (⟨_, hgN, fun j hj => (ho3.lt j hj).1⟩) (⟨_, _, rfl, hownN⟩) (fun _ _ _ => ⟨trivial, trivial⟩)
    ·
     clear hg
     have dd6 := hd 6 (by kernel_rfl)
     clear hd
     try generalize xF 6 = yy6 at *
     obtain ⟨a6, c6, rfl, ho6⟩ := dd6
     rw [if_pos (by rfl)]
     go_simp
     exact hK.out _ _ (Below.refl _ _) (rfl) (fun _ _ _ => ⟨trivial, trivial⟩)
    ·
     clear hg hd
     rw [if_pos (by rfl)]
     go_simp
     exact hK.out _ _ (Below.refl _ _) (rfl) (fun _ _ _ => ⟨trivial, trivial⟩)
   intro xF w17 hR hF hP
   clear hP
   have dd1 := hF 1 (by omega) (by decide)
   have dd2 := hF 2 (by omega) (by decide)
   have dd4 := hF 4 (by omega) (by decide)
   have dd6 := hF 6 (by omega) (by decide)
   have dd7 := hF 7 (by omega) (by decide)
   have dd8 := hF 8 (by omega) (by decide)
   clear hF
   simp only [take_succ_cons, take_zero, drop_succ_cons, drop_zero, fillOf, Act.put, setIfInBounds_toArray, set_cons_zero, set_cons_succ, Nat.reduceAdd, Nat.zero_add]
   try generalize xF 0 = yy0 at *
   try generalize xF 1 = yy1 at *
   try generalize xF 2 = yy2 at *
   try generalize xF 3 = yy3 at *
   try generalize xF 4 = yy4 at *
   try generalize xF 5 = yy5 at *
   try generalize xF 6 = yy6 at *
   try generalize xF 7 = yy7 at *
   try generalize xF 8 = yy8 at *
   clear xF
   obtain rfl := dd1
   obtain rfl := dd2
   obtain rfl := dd4
   obtain ⟨a6, c6, rfl, ho6⟩ := dd6
   obtain rfl := dd7
   obtain rfl := dd8
   have hRE := Lib.hid hR
   clear hR
   have HCH : Hid (ChO B w17 (.slice a6 nC1 c6) (s.C ++ [⟨[], [], cx⟩])) :=
    ChO.snocD (w := w17) HD0.out (HDD.out w17 (HB016.out.trans (hRE.mono HB016.out.size))) (Kt.of_below (Below.refl _ _)) ⟨_, _, _, _, rfl, World.ownsRow_nil _ _ _ _, World.ownsRow_nil _ _ _ _, (R13.out w17 (HB516.out.trans (hRE.mono HB516.out.size))).2⟩ (by
     rw [← HNC.out, ← HN1.out]
     exact own_base ho6 (Nat.le_trans hbI' HB016.out.size))
   have HAL : Hid (All s (s.C ++ [⟨[], [], cx⟩])) := all_of HI.out HR1.out
   have HLC : Hid (nC1 = (s.C ++ [(⟨[], [], cx⟩ : Chg)]).length) := by show _ = _; rw [HN1.out, HNC.out]; simp
   have HB017 := Lib.hid (HB016.out.trans (hRE.mono HB016.out.size))
   obtain ⟨_, hE9, hC9⟩ := R9.out w17 (HB316.out.trans (hRE.mono HB316.out.size))
   have HE9' := Lib.hid hE9
   have HC9' := Lib.hid hC9
   have X17 := Lib.hid ((hRE.block _ (lt_of_block X18.out)).trans X18.out)
   have HZB : Hid (W0.heap.size ≤ b18) := by show _ ≤ _; rw [HE18.out]; exact Nat.le_trans HB03.out.size HB39.out.size
   have hB17 : B ≤ w17.heap.size := Nat.le_trans hbI' HB017.out.size
   have HGB : Hid (∀ W, w17.grownBy W (some b18) → Below B w W) := fun W hW => (HB.out.trans (HB017.out.mono hbI')).trans ((Below.refl B w17).grown hW hB17 (fun j hj => by cases hj; exact Nat.le_trans hbI' HZB.out))
   have HKT : Hid (∀ W, w17.grownBy W (some b18) → Kt 27 w17 W) := fun W hW => Kt.of_grown hW X17.out
   have HBXW : Hid (∀ W, w17.grownBy W (some b18) → Box16 W q g) := fun W hW => (HX.out.on HB017.out).far hW (fun e => by have := Option.some.inj e; have h1 := HX.out.lt; have h2 := HZB.out; omega)
   clear ho6 hRE hE9 hC9
   go_wp2_with fail
   go_loopw [102] (fun v wr => ∃ (k1 : Nat) (la : List Ent) (ca : dm.Ctx) (a0 : Option Addr) (n0 c0 : Nat) (a1 : Option Addr) (n1 c1 : Nat) (a2 : Option Addr) (n2 c2 : Nat), v = .int .i64 (k1 : Int) ∧ k1 ≤ nC1 ∧ Hid (wr.heap[b18]? = some (.cells #[.slice a0 n0 c0, .slice a1 n1 c1, .slice a2 n2 c2] 27 (0, 0))) ∧ Hid (EntO B wr (.slice a0 n0 c0) la) ∧ Hid (OwnC B wr (.agg #[.slice a1 n1 c1, .slice a2 n2 c2]) ca) ∧ Hid (Has0 s x la ca) ∧ Hid (w17.grownBy wr (some b18))) (fun v _ => nC1 - (intOf v).toNat)
   case atStart => exact ⟨0, L1, cA, a0, n0, c0, a1, n1, c1, a2, n2, c2, rfl, Nat.zero_le _, X17, HE9', HC9', HH0, grown_below' (Below.refl _ _)⟩
   case round =>
    obtain ⟨k1, la, ca, v0, m0', o0, v1, m1', o1, v2, m2', o2, rfl, hk1, HBOX, HEA, HCA, HHA, HGR⟩ := hrel
    by_cases hlt : k1 < nC1
    ·
     have hkI : (k1 : Int) < (nC1 : Int) := by omega
     have hk0 : 0 ≤ (k1 : Int) := by omega
     have hkC : k1 < (s.C ++ [(⟨[], [], cx⟩ : Chg)]).length := by rw [← HLC.out]; exact hlt
     obtain ⟨rC, t0, t1, t2, t3, era, hrl, q0'', q1'', q2'', q3'', hL, hA, hC⟩ := (HCH.out.kt (HKT.out _ HGR.out) (by decide) (by decide) (by decide)).get hkC
     obtain ⟨t0a, t0c, rfl⟩ := own_slice hL
     obtain ⟨t1a, t1c, rfl⟩ := own_slice hA
     obtain ⟨t2a, t2b, t2c, t3a, t3b, t3c, e2⟩ := hC.form
     simp only [Value.agg.injEq, Array.mk.injEq, List.cons.injEq, and_true] at e2
     obtain ⟨rfl, rfl⟩ := e2
     obtain ⟨x', hx'⟩ : ∃ y : Chg, y = (s.C ++ [(⟨[], [], cx⟩ : Chg)]).getD k1 default := ⟨_, rfl⟩
     have hR1 : RDel x'.L x'.A x'.c := by rw [hx']; exact HAL.out.right k1 hkC
     have hT1 : ∀ d ∈ x'.A, d ∈ x'.L.map Ent.d ∨ dm.Knows ca d := by rw [hx']; exact fun d hd => Or.inl (HAL.out.told k1 hkC d hd)
     have hF1 : x'.L.length ≤ 1 ∧ x'.A.length ≤ 1 := by rw [hx']; exact HAL.out.few k1 hkC
     have hK1 : ∀ d, dm.Knows x'.c d → s.Near d := by rw [hx']; exact fun d hd => or_near (HAL.out.kn k1 hkC d hd)
     have hN1 : ¬ dm.Knows x'.c x.d := by rw [hx', HXD.out]; exact HAL.out.no hkC
     rw [← hx'] at hL hA hC q0'' q1''
     obtain ⟨t0b, ht0⟩ : ∃ n, n = x'.L.length := ⟨_, rfl⟩
     obtain ⟨t1b, ht1⟩ : ∃ n, n = x'.A.length := ⟨_, rfl⟩
     rw [← ht0] at hL q0''
     rw [← ht1] at hA q1''
     subst era
     obtain ⟨w20, hw20⟩ : ∃ W, W = wr.alloc (.cells #[.slice t0a t0b t0c, .slice t1a t1b t1c, .slice t2a t2b t2c, .slice t3a t3b t3c] 29) := ⟨_, rfl⟩
     obtain ⟨b20, hb20⟩ : ∃ b, b = wr.heap.size := ⟨_, rfl⟩
     have y1 : Below wr.heap.size wr w20 := by rw [hw20]; exact below1
     have x20 : w20.heap[b20]? = some (.cells #[.slice t0a t0b t0c, .slice t1a t1b t1c, .slice t2a t2b t2c, .slice t3a t3b t3c] 29 (0, 0)) := by rw [hw20, hb20]; exact heap_alloc_new wr _
     have x18 := (y1.block _ (lt_of_block HBOX.out)).trans HBOX.out
     have hg20 : w17.grownBy w20 (some b18) := grown_trans HGR.out (grown_below' y1)
     have k0 := boxc x18 0 _ rfl
     have k1' := boxc x18 1 _ rfl
     have k2 := boxc x18 2 _ rfl
     have p0 := boxc x20 0 _ rfl
     have p1 := boxc x20 1 _ rfl
     have p2 := boxc x20 2 _ rfl
     have p3 := boxc x20 3 _ rfl
     have HAPK := Lib.hid (oapply_yes la ca x'.L x'.A x'.c _ _ _ _ _ _ _ w20 (HEA.out.on y1).at (HCA.out.on y1).at (EntO.at (EntO.on hL y1)) (DotO.at (DotO.on hA y1)) (hC.on y1).at HHA.out.set hR1 hT1 (Nat.le_trans (near_ents HI.out HHA.out.set HHA.out.kn) (by omega)) (by omega) (by omega) (Nat.le_trans (near_len HI.out HHA.out.set.right HHA.out.kn) (by omega)) (Nat.le_trans (near_len HI.out hR1.set.right hK1) (by omega)) (HMX.out w20 (by have := HGB.out w20 hg20; rw [HBE.out] at this ⊢; exact this)))
     have HLT := Lib.hid hlt
     have HR1' := Lib.hid hR1
     have HK1 := Lib.hid hK1
     have HN1' := Lib.hid hN1
     have HG20 := Lib.hid hg20
     have X18' := Lib.hid x18
     have HW20 := Lib.hid hw20
     have HE20 := Lib.hid hb20
     rw [hw20] at k0 k1' k2 p0 p1 p2 p3
     rw [hb20] at p0 p1 p2 p3
     clear hx' hR1 hT1 hF1 hK1 hN1 hL hA hC ht0 ht1 hw20 hb20 y1 x20 x18 hg20 hkC hrl
     go_wp2_with fail
     rw [← HW20.out, ← HE20.out]
     clear k0 k1' k2 p0 p1 p2 p3 q0'' q1'' q2'' q3''
     (with_reducible refine HAPK.out.mono ?_)
     rintro e w21 ⟨u0, u1, u2, L2', c2', rfl, g1', g2', g3', g4', g5', hb21⟩
     obtain ⟨z0, zc0, rfl⟩ := own_slice g1'
     obtain ⟨z1, zn1, zc1, z2, zn2, zc2, e2⟩ := g2'.form
     simp only [Value.agg.injEq, Array.mk.injEq, List.cons.injEq, and_true] at e2
     obtain ⟨rfl, rfl⟩ := e2
     obtain ⟨zn0, hzn⟩ : ∃ n, n = L2'.length := ⟨_, rfl⟩
     rw [← hzn] at g1' ⊢
     have hBz : B ≤ w20.heap.size := Nat.le_trans hB17 HG20.out.size
     have x18 := (hb21.block _ (lt_of_block X18'.out)).trans X18'.out
     obtain ⟨w22, hw22⟩ : ∃ W, W = ((w21.setCell ⟨b18, 0, none⟩ (.slice z0 zn0 zc0)).setCell ⟨b18, 1, none⟩ (.slice z1 zn1 zc1)).setCell ⟨b18, 2, none⟩ (.slice z2 zn2 zc2) := ⟨_, rfl⟩
     have hk22 : Kt 27 w21 w22 := by rw [hw22]; exact set3_kt x18 _ _ _
     have HBOX2 : Hid (w22.heap[b18]? = some (.cells #[.slice z0 zn0 zc0, .slice z1 zn1 zc1, .slice z2 zn2 zc2] 27 (0, 0))) := by
      show _ = _
      rw [hw22]; exact heap_setCell_same _ b18 2 _ _ _ (heap_setCell_same _ b18 1 _ _ _ (heap_setCell_same _ b18 0 _ _ _ x18))
     have HEA2 : Hid (EntO B w22 (.slice z0 zn0 zc0) L2') := EntO.kt (EntO.low g1' hBz) hk22 (by decide)
     have HCA2 : Hid (OwnC B w22 (.agg #[.slice z1 zn1 zc1, .slice z2 zn2 zc2]) c2') := (g2'.low hBz).kt hk22 (by decide)
     have HHA2 := Lib.hid (HHA.out.apply HR1'.out HN1'.out HK1.out g3' g4' g5')
     have HGR2 : Hid (w17.grownBy w22 (some b18)) := by
      show World.grownBy _ _ _
      rw [hw22]; exact grown_trans (grown_trans HG20.out (grown_below' hb21)) (set3_grown _)
     have k0 := boxc x18 0 _ rfl
     have k1' := boxc x18 1 _ rfl
     have k2 := boxc x18 2 _ rfl
     have fz0 := boxf x18 0
     have fz1 := boxf x18 1
     have fz2 := boxf x18 2
     have HW22 := Lib.hid hw22
     clear g1' g2' g3' g4' g5' hzn hBz hk22 hw22 x18 hb21
     go_wp2_with fail
     go_roundw
     case rel => exact ⟨k1 + 1, L2', c2', z0, zn0, zc0, z1, zn1, zc1, z2, zn2, zc2, by go_num, by have := HLT.out; omega, by rw [← HW22.out]; exact HBOX2, by rw [← HW22.out]; exact HEA2, by rw [← HW22.out]; exact HCA2, HHA2, by rw [← HW22.out]; exact HGR2⟩
     case measure => have := HLT.out; simp [intOf]; omega
    ·
     have hkk : k1 = nC1 := by omega
     subst hkk
     have hBr : B ≤ wr.heap.size := Nat.le_trans hB17 HGR.out.size
     have hbx := HBXW.out wr HGR.out
     have k0 := boxc HBOX.out 0 _ rfl
     have k1' := boxc HBOX.out 1 _ rfl
     have k2 := boxc HBOX.out 2 _ rfl
     have k9 := hbx.cell (j := 11) (by decide)
     rw [show g 11 = _ from HP.out.made 2 (by decide)] at k9
     obtain ⟨m2, hm2⟩ : ∃ n, n = s.made 2 := ⟨_, rfl⟩
     rw [← hm2] at k9
     have hm62 : (m2 : Int) ≤ 60 := by rw [hm2]; have := HI.out.made_le (i := 2) (by decide); omega
     have HBr := Lib.hid (HGB.out wr HGR.out)
     have HREM2 : Hid (Calls Tryz.prog 21 #[.agg #[.slice v0 m0' o0, .slice v1 m1' o1, .slice v2 m2' o2], .string (nam J), .agg #[.int .i64 2, .int .i64 ((m2 : Int) + 1)]] wr (DropR (fun y => decide (y.s = nam J)) la ca (s.nd 2) (.agg #[.slice v0 m0' o0, .slice v1 m1' o1, .slice v2 m2' o2]) wr)) := by
      have := orem_any la ca (s.nd 2) (nam J) _ _ _ wr HEA.out.at HCA.out.at HHA.out.set (HI.out.nd_valid (by decide) (by omega)) (fun hk => not_near2 (HHA.out.kn _ hk)) (Nat.le_trans (near_ents HI.out HHA.out.set HHA.out.kn) (by omega)) (Nat.le_trans (near_len HI.out HHA.out.set.right HHA.out.kn) (by omega)) (HMX.out wr HBr.out)
      unfold PS.nd at this
      rw [← hm2] at this
      unfold PS.nd
      rw [← hm2]
      exact this
     have HGN : Hid (goneOf (fun y => decide (y.s = nam J)) la ≠ []) := fun e => by
      have : x.d ∈ goneOf (fun y => decide (y.s = nam J)) la := mem_gone.2 ⟨x, HHA.out.mem, by simp [HXS.out], rfl⟩
      rw [e] at this; cases this
     clear hbx hm2
     go_wp2_with fail
     clear k0 k1' k2 k9
     (with_reducible refine HREM2.out.mono ?_)
     intro e w30 hrem
     obtain ⟨h, _⟩ | ⟨_, u0, u1, u2, t2, t3, c', dc, rfl, g1', g2', g3', g4', ⟨m', g5'⟩, hb30⟩ := hrem
     ·
      exact absurd h HGN.out
     obtain ⟨z0, zc0, rfl⟩ := own_slice g1'
     obtain ⟨z1, zn1, zc1, z2, zn2, zc2, e1⟩ := g2'.form
     obtain ⟨z3, zn3, zc3, z4, zn4, zc4, e2⟩ := g3'.form
     simp only [Value.agg.injEq, Array.mk.injEq, List.cons.injEq, and_true] at e1 e2
     obtain ⟨rfl, rfl⟩ := e1
     obtain ⟨rfl, rfl⟩ := e2
     obtain ⟨zn0, hzn⟩ : ∃ n, n = (staysOf (fun y => decide (y.s = nam J)) la).length := ⟨_, rfl⟩
     rw [← hzn] at g1' ⊢
     obtain ⟨w31, hw31⟩ : ∃ W, W = (w30.alloc (.cells #[.slice z0 zn0 zc0, .slice z1 zn1 zc1, .slice z2 zn2 zc2] 27)).alloc (.cells #[.slice none 0 0, .slice none 0 0, .slice z3 zn3 zc3, .slice z4 zn4 zc4] 29) := ⟨_, rfl⟩
     obtain ⟨b21, hb21⟩ : ∃ b, b = w30.heap.size := ⟨_, rfl⟩
     obtain ⟨b22, hb22⟩ : ∃ b, b = w30.heap.size + 1 := ⟨_, rfl⟩
     have y1 : Below w30.heap.size w30 (w30.alloc (.cells #[.slice z0 zn0 zc0, .slice z1 zn1 zc1, .slice z2 zn2 zc2] 27)) := below1
     have y2 : Below (w30.alloc (.cells #[.slice z0 zn0 zc0, .slice z1 zn1 zc1, .slice z2 zn2 zc2] 27)).heap.size (w30.alloc (.cells #[.slice z0 zn0 zc0, .slice z1 zn1 zc1, .slice z2 zn2 zc2] 27)) w31 := by rw [hw31]; exact below1
     have y3 : Below w30.heap.size w30 w31 := y1.trans (y2.mono y1.size)
     have x21 : w31.heap[b21]? = some (.cells #[.slice z0 zn0 zc0, .slice z1 zn1 zc1, .slice z2 zn2 zc2] 27 (0, 0)) := (y2.block _ (by rw [World.size_alloc]; omega)).trans (by rw [hb21]; exact heap_alloc_new w30 _)
     have hr31 : Below wr.heap.size wr w31 := hb30.trans (y3.mono hb30.size)
     have x18 := (hr31.block _ (lt_of_block HBOX.out)).trans HBOX.out
     have k0 := boxc x18 0 _ rfl
     have k1' := boxc x18 1 _ rfl
     have k2 := boxc x18 2 _ rfl
     obtain ⟨⟨nv3, nb⟩, hnv⟩ : ∃ p, p = nwF (nam J) la := ⟨_, rfl⟩
     obtain rfl : nb = true := by rw [show nb = (nwF (nam J) la).2 by rw [← hnv]]; exact (newest_iff _ _).2 ⟨x, HHA.out.mem, HXS.out⟩
     have HNW3 := newest_any (nam J) la _ (.slice v1 m1' o1) (.slice v2 m2' o2) w31 (HEA.out.on hr31).at
     rw [← hnv] at HNW3
     have HNW3 := Lib.hid HNW3
     have X21 := Lib.hid x21
     have hE21 : EntO B w31 (.slice z0 zn0 zc0) (staysOf (fun y => decide (y.s = nam J)) la) := by
      have := EntO.on (EntO.low g1' hBr) y3
      exact this
     have HE21 := Lib.hid hE21
     have HB31 := Lib.hid (HBr.out.trans (hr31.mono hBr))
     have HW31 := Lib.hid hw31
     have HEB21 := Lib.hid hb21
     have HEB22 := Lib.hid hb22
     rw [hw31] at k0 k1' k2
     clear g1' g2' g3' g4' g5' hzn hw31 hb21 hb22 y1 y2 y3 x21 x18 hnv hE21 hr31 hb30
     go_wp2_with fail
     rw [← HW31.out, ← HEB22.out, ← HEB21.out]
     clear k0 k1' k2
     (with_reducible refine HNW3.out.mono ?_)
     rintro e w32 ⟨rfl, hb32⟩
     have x21 := (hb32.block _ (lt_of_block X21.out)).trans X21.out
     have k0 := boxc x21 0 _ rfl
     have k1' := boxc x21 1 _ rfl
     have k2 := boxc x21 2 _ rfl
     obtain ⟨⟨nv4, nb⟩, hnv⟩ : ∃ p, p = nwF (nam J) (staysOf (fun y => decide (y.s = nam J)) la) := ⟨_, rfl⟩
     obtain rfl : nb = false := by
      rw [show nb = (nwF (nam J) (staysOf (fun y => decide (y.s = nam J)) la)).2 by rw [← hnv]]
      cases e3 : (nwF (nam J) (staysOf (fun y => decide (y.s = nam J)) la)).2
      ·
       rfl
      ·
       obtain ⟨y, hy, e4⟩ := (newest_iff _ _).1 e3
       have := (mem_stays.1 hy).2
       rw [e4] at this
       simp at this
     have HNW4 := newest_any (nam J) (staysOf (fun y => decide (y.s = nam J)) la) _ (.slice z1 zn1 zc1) (.slice z2 zn2 zc2) w32 (HE21.out.on hb32).at
     rw [← hnv] at HNW4
     have HNW4 := Lib.hid HNW4
     have HB32 := Lib.hid (HB31.out.trans (hb32.mono (Nat.le_trans (by have := HBE.out; omega) HB31.out.size)))
     clear x21 hnv hb32
     go_wp2_with fail
     clear k0 k1' k2
     (with_reducible refine HNW4.out.mono ?_)
     rintro e w33 ⟨rfl, hb33⟩
     have HB33 := Lib.hid (HB32.out.trans (hb33.mono (Nat.le_trans (by have := HBE.out; omega) HB32.out.size)))
     clear hb33
     go_wp2_with fail
     (with_reducible refine (HAW.out _ HB33.out).mono ?_)
     rintro e w34 ⟨rfl, hb34⟩
     have hfin : Below w.heap.size w w34 := by
      have := HB33.out.trans (hb34.mono (by have h1 := HB33.out.size; have h2 := HBE.out; omega))
      rw [HBE.out] at this; exact this
     go_wp2_with fail
     go_ret
     exact ⟨rfl, hfin⟩
end Go.Proofs.YthpdmfkpiekonaaGreat
