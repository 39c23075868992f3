/- BlockBack, walked. -/
import Derived.Test.YtniphmfkccaccaaGaps
import Derived.Test.YtniphmfkccaccaaBlkRight
import Derived.Test.YtniphmfkccaccaaInts5
namespace Go.Proofs.Ytniphmfkccaccaa
open Go.RowKit Go.ChangeShapes at_ cl

set_option maxHeartbeats 3200000 in
set_option maxRecDepth 100000 in
theorem back_any (l : List Int) (v : Value) (c : Int) (D : ByteArray) (S : List (Int × Int)) (vs : Value) (w : World) (hl : At w w.heap.size v l) (hD : D.size ≤ maxLen) (hs : Skps w w.heap.size vs S) :
    Calls Try.prog 5 #[v, .agg #[.int .i64 c, .string D, vs]] w (Said true w) := by
  obtain ⟨n, hn⟩ : ∃ n, n = l.length := ⟨_, rfl⟩
  have HG : Hid (n ≤ 600 → ∀ W, Below w.heap.size w W → Calls Try.prog 20 #[v] W (GapP n W)) := fun h6 W hW => by
    rw [hn]; exact gaps_any l v W ((hl.below hW).mono hW.size) (by omega)
  obtain ⟨la, lc, rfl, _, hla, _⟩ := hl
  unfold maxLen at hla
  rw [← hn] at hla HG ⊢
  clear hn
  have HA0 : Hid (∀ u0 u1 u2, Below w.heap.size w (w.alloc (.cells #[u0, u1, u2] 26))) := fun _ _ _ => (Below.refl _ _).alloc (Nat.le_refl _) _
  have HFAR : Hid (∀ W, Below w.heap.size w W → Calls Try.prog 12 #[.agg #[.int .i64 c, .string D, vs]] W (Said (decide (9000 < D.size ∨ 400 < S.length)) W)) := fun W hW => far_any c D S vs W hD ((hs.below hW).mono hW.size)
  have HDEC : Hid (¬ (9000 < D.size ∨ 400 < S.length) → ∀ W, Below w.heap.size w W → Calls Try.prog 13 #[.agg #[.int .i64 c, .string D, vs]] W (DecF c D S W)) := fun hf W hW => decode_full c D S vs W (by omega) (by omega) ((hs.below hW).mono hW.size)
  have HSAME : Hid (∀ (K : List Int) (va : Value) W, GoodK c D S K → Below w.heap.size w W → Skps W W.heap.size va (bm.skp K K.length) → Calls Try.prog 11 #[.agg #[.int .i64 (K.length : Int), .string (kit.str (bm.dat K K.length)), va], .agg #[.int .i64 c, .string D, vs]] W (Said true W)) := fun K va W hK hW ha => by
    have h := same_any (K.length : Int) c (kit.str (bm.dat K K.length)) D (bm.skp K K.length) S va vs W ha ((hs.below hW).mono hW.size)
    rw [show decide ((K.length : Int) = c ∧ kit.str (bm.dat K K.length) = D ∧ bm.skp K K.length = S) = true from decide_eq_true ⟨hK.2.2.1.symm, hK.2.2.2.1.symm, hK.2.2.2.2.symm⟩] at h
    exact h
  have HAW : Hid (∀ W, Calls Try.prog 8 #[] W (Said true W)) := fun W => awake_any W
  obtain ⟨so, sc, rfl, _, _⟩ := hs.form
  obtain ⟨q, hq⟩ : ∃ q, q = S.length := ⟨_, rfl⟩
  rw [← hq] at HFAR HDEC HSAME ⊢
  clear hq hs hD
  have hA := HA0.out (.int .i64 c) (.string D) (.slice so q sc)
  have HFA := Lib.hid (HFAR.out _ hA)
  by_cases h6 : 600 < n
  · have hlI : (600 : Int) < (n : Int) := by omega
    go_enter Try.func5, Try.ntmps5
    go_wp2_with fail
    with_reducible refine (HAW.out _).mono ?_
    rintro e w1 ⟨rfl, hb⟩
    have hbf := hA.trans (hb.mono hA.size)
    go_wp2
    go_ret
    exact ⟨rfl, hbf⟩
  have hlI : ¬ (600 : Int) < (n : Int) := by omega
  by_cases hf : 9000 < D.size ∨ 400 < q
  · rw [decide_eq_true hf] at HFA
    clear hf
    go_enter Try.func5, Try.ntmps5
    go_wp2_with fail
    with_reducible refine HFA.out.mono ?_
    rintro e w1 ⟨rfl, hb1⟩
    have hb01 := hA.trans (hb1.mono hA.size)
    go_wp2_with fail
    with_reducible refine (HAW.out _).mono ?_
    rintro e w2 ⟨rfl, hb2⟩
    have hbf := hb01.trans (hb2.mono hb01.size)
    go_wp2
    go_ret
    exact ⟨rfl, hbf⟩
  rw [decide_eq_false hf] at HFA
  have HD1 := Lib.hid (HDEC.out hf)
  have HG1 := Lib.hid (HG.out (by omega))
  clear hf HDEC HG HFAR
  go_enter Try.func5, Try.ntmps5
  go_wp2_with fail
  with_reducible refine HFA.out.mono ?_
  rintro e w1 ⟨rfl, hb1⟩
  have hb01 := hA.trans (hb1.mono hA.size)
  have HGW := Lib.hid (HG1.out _ hb01)
  go_wp2_with fail
  with_reducible refine HGW.out.mono ?_
  rintro e w2 ⟨v2, G, rfl, hr, hgn, ho2, hb2⟩
  have hbx2 := hb1.trans (hb2.mono hb1.size)
  have HR := Lib.hid hr
  have HAT2 := Lib.hid (at_.own ho2)
  have HEN := Lib.hid (enc_good G (by omega) hr v2 w2 HAT2.out)
  obtain ⟨m, hm⟩ : ∃ m, m = G.length := ⟨_, rfl⟩
  have HM := Lib.hid hm
  have hm6 : m ≤ 600 := by omega
  obtain ⟨a2, c2, rfl⟩ := own_slice ho2
  rw [← hm] at HAT2 HEN ⊢
  clear ho2 hr hgn HGW hm
  go_wp2_with fail
  with_reducible refine HEN.out.mono ?_
  rintro e w3 ⟨a3, c3, rfl, ho3, hb3⟩
  have hbx3 := hbx2.trans (hb3.mono hbx2.size)
  have HS3 : Hid (Skps w3 w3.heap.size (.slice a3 (bm.skp G G.length).length c3) (bm.skp G G.length)) := by
    have h := Cells.own ho3
    rw [HM.out] at h; exact h
  clear ho3
  have HDR : Hid (∀ W, Below w3.heap.size w3 W → Calls Try.prog 13 #[.agg #[.int .i64 (G.length : Int), .string (kit.str (bm.dat G G.length)), .slice a3 (bm.skp G G.length).length c3]] W (DecP G W)) := fun W hW => decode_right G _ W (by rw [← HM.out]; omega) HR.out (Cells.next HS3.out hW)
  have HRR : Hid (∀ W, Below w3.heap.size w3 W → Calls Try.prog 18 #[.agg #[.int .i64 (G.length : Int), .string (kit.str (bm.dat G G.length)), .slice a3 (bm.skp G G.length).length c3]] W (Said true W)) := fun W hW => by
    have h := right_any (G.length : Int) (kit.str (bm.dat G G.length)) (bm.skp G G.length) (.slice a3 (bm.skp G G.length).length c3) W (by rw [kit.str_size]; have := bm.dat_len HR.out; have := HM.out; omega) (by rw [bm.skp_len]; have := HM.out; omega) (Cells.next HS3.out hW)
    rw [goodB_true (K := G) ⟨by have := HM.out; omega, HR.out, rfl, rfl, rfl⟩] at h
    exact h
  have HDE : Hid (∀ W e w', DecP G W e w' → ∃ v, e = .returned (.tuple #[v, .int .i64 0]) ∧ w'.ownsRow W.heap.size 3 1 v m (i64s G) ∧ Below W.heap.size W w') := fun W e w' ⟨v, h1, h2, h3⟩ => ⟨v, h1, by rw [HM.out]; exact h2, h3⟩
  obtain ⟨DG, hDG⟩ : ∃ D, D = kit.str (bm.dat G m) := ⟨_, rfl⟩
  obtain ⟨qg, hqg⟩ : ∃ q, q = (bm.skp G m).length := ⟨_, rfl⟩
  have hm := HM.out
  rw [← hm, ← hDG, ← hqg] at HDR HRR
  rw [← hDG, ← hqg]
  clear HEN hDG hqg HS3 hm
  have hB3 : Below w3.heap.size w3 (w3.alloc (.cells #[.int .i64 (m : Int), .string DG, .slice a3 qg c3] 26)) := (Below.refl _ _).alloc (Nat.le_refl _) _
  have HD3 := Lib.hid (HDR.out _ hB3)
  go_wp2_with fail
  with_reducible refine HD3.out.mono ?_
  intro e w4 h4
  obtain ⟨v4, rfl, ho4, hb4⟩ := HDE.out _ _ _ h4
  clear h4
  obtain ⟨d0, d1, d2, g0, g1, g2, hz4⟩ := cl.three (w := w3) (w2 := w4) (t := 26) hb4
  have hb34 := hB3.trans (hb4.mono hB3.size)
  have hbx4 := hbx3.trans (hb34.mono hbx3.size)
  have HAT4 : Hid (At w4 w4.heap.size v4 G) := by rw [HM.out] at ho4; exact at_.own ho4
  have HAT24 : Hid (At w4 w4.heap.size (.slice a2 m c2) G) := by
    have h23 := hb3.trans (hb34.mono hb3.size)
    exact (HAT2.out.below h23).mono h23.size
  have HIN := Lib.hid (ints_any G G v4 (.slice a2 m c2) w4 HAT4.out HAT24.out)
  rw [show decide (G = G) = true from decide_eq_true rfl] at HIN
  obtain ⟨a4, c4, rfl⟩ := own_slice ho4
  clear ho4
  go_wp2_with fail
  with_reducible refine HIN.out.mono ?_
  rintro e w5 ⟨rfl, hb5⟩
  have hb45 := hb4.trans (hb5.mono hb4.size)
  obtain ⟨d0, d1, d2, g0, g1, g2, hz5⟩ := cl.three (w := w3) (w2 := w5) (t := 26) hb45
  have hb35 := hb34.trans (hb5.mono hb34.size)
  have hbx5 := hbx4.trans (hb5.mono hbx4.size)
  have HR5 := Lib.hid (HRR.out _ hb35)
  go_wp2_with fail
  with_reducible refine HR5.out.mono ?_
  rintro e w6 ⟨rfl, hb6⟩
  have hb46 := hb45.trans (hb6.mono hb45.size)
  obtain ⟨d0, d1, d2, g0, g1, g2, hz6⟩ := cl.three (w := w3) (w2 := w6) (t := 26) hb46
  have hbx6 := hbx5.trans (hb6.mono hbx5.size)
  obtain ⟨x0, x1, x2, y0, y1, y2, hzx⟩ := cl.three (w := w) (w2 := w6) (t := 26) hbx6
  have hb06 := hA.trans (hbx6.mono hA.size)
  have HD6 := Lib.hid (HD1.out _ hb06)
  go_wp2_with fail
  with_reducible refine HD6.out.mono ?_
  intro e w7 h7
  rcases h7 with ⟨rfl, _, hb7⟩ | ⟨v7, K, rfl, hk7, ho7, hb7⟩
  · have hb07 := hb06.trans (hb7.mono hb06.size)
    go_wp2_with fail
    with_reducible refine (HAW.out _).mono ?_
    rintro e w8 ⟨rfl, hb8⟩
    have hbf := hb07.trans (hb8.mono hb07.size)
    go_wp2
    go_ret
    exact ⟨rfl, hbf⟩
  · have hb07 := hb06.trans (hb7.mono hb06.size)
    have hbx7 := hbx6.trans (hb7.mono hbx6.size)
    have HK := Lib.hid hk7
    have HE7 := Lib.hid (enc_good K hk7.1 hk7.2.1 v7 w7 (at_.own ho7))
    obtain ⟨a7, c7, rfl⟩ := own_slice ho7
    clear ho7 hk7
    go_wp2_with fail
    with_reducible refine HE7.out.mono ?_
    rintro e w8 ⟨a8, c8, rfl, ho8, hb8⟩
    have hB8 : Below w8.heap.size w8 (w8.alloc (.cells #[.int .i64 (K.length : Int), .string (kit.str (bm.dat K K.length)), .slice a8 (bm.skp K K.length).length c8] 26)) := (Below.refl _ _).alloc (Nat.le_refl _) _
    have hb78 := hb8.trans (hB8.mono hb8.size)
    have hb08 := hb07.trans (hb78.mono hb07.size)
    have hbx8 := hbx7.trans (hb78.mono hbx7.size)
    obtain ⟨x0, x1, x2, y0, y1, y2, hzx⟩ := cl.three (w := w) (w2 := (w8.alloc (.cells #[.int .i64 (K.length : Int), .string (kit.str (bm.dat K K.length)), .slice a8 (bm.skp K K.length).length c8] 26))) (t := 26) hbx8
    have HSA := Lib.hid (HSAME.out K _ _ HK.out hb08 (Cells.next (Cells.own ho8) hB8))
    clear ho8
    obtain ⟨DK, hDK⟩ : ∃ D, D = kit.str (bm.dat K K.length) := ⟨_, rfl⟩
    obtain ⟨qk, hqk⟩ : ∃ q, q = (bm.skp K K.length).length := ⟨_, rfl⟩
    rw [← hDK, ← hqk] at HSA hb08 x0 x1 x2 y0 y1 y2 hzx
    rw [← hDK, ← hqk]
    clear HE7 hDK hqk hB8 hb78 hbx8
    go_wp2_with fail
    with_reducible refine HSA.out.mono ?_
    rintro e w9 ⟨rfl, hb9⟩
    have hb09 := hb08.trans (hb9.mono hb08.size)
    go_wp2_with fail
    with_reducible refine (HAW.out _).mono ?_
    rintro e w10 ⟨rfl, hb10⟩
    have hbf := hb09.trans (hb10.mono hb09.size)
    go_wp2
    go_ret
    exact ⟨rfl, hbf⟩
end Go.Proofs.Ytniphmfkccaccaa
