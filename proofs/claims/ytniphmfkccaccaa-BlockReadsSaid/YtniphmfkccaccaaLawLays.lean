/- awake and BlockLays, walked. -/
import Derived.Test.YtniphmfkccaccaaBlkSeek
import Derived.Test.YtniphmfkccaccaaRefEnc2
namespace Go.Proofs.Ytniphmfkccaccaa
open Go.RowKit Go.ChangeShapes at_ cl

theorem rise_aw : bm.Rise [3, 4, 300] 3 := by
  intro j hj
  rcases (by omega : j = 0 ∨ j = 1 ∨ j = 2) with rfl | rfl | rfl <;> simp
theorem dat_aw : bm.dat [3, 4, 300] 3 = [0, 167, 2] := by
  have g1 : bm.gap [3, 4, 300] 1 = 0 := rfl
  have g2 : bm.gap [3, 4, 300] 2 = 295 := rfl
  rw [bm.dat_next (by decide), bm.dat_next (by decide), bm.dat_head (by decide), g1, g2, vm.enc_lt (by decide), vm.enc_ge (by decide), vm.enc_lt (by decide)]
  rfl
theorem skp_aw : bm.skp [3, 4, 300] 3 = [(3, 0)] := by
  rw [bm.skp_next (by decide), bm.skp_next (by decide), bm.skp_head (by decide)]
  rfl
theorem str_aw : kit.str [0, 167, 2] = ⟨#[0, 167, 2]⟩ := rfl
theorem at_lit (w : World) : At (w.alloc (.cells #[.int .i64 3, .int .i64 4, .int .i64 300] 3)) (w.alloc (.cells #[.int .i64 3, .int .i64 4, .int .i64 300] 3)).heap.size (.slice (some ⟨w.heap.size, 0, none⟩) 3 3) [3, 4, 300] :=
  at_.own (base := w.heap.size) (e := 3) (World.ownsRow_lit (size := 1) w _ 3 (Nat.le_refl _) (by simp [maxLen]) rfl)

set_option maxHeartbeats 1600000 in
set_option maxRecDepth 100000 in
theorem awake_any (w : World) :
    Calls Try.prog 8 #[] w (Said true w) := by
  have hA : Below w.heap.size w (w.alloc (.cells #[.int .i64 3, .int .i64 4, .int .i64 300] 3)) := (Below.refl _ _).alloc (Nat.le_refl _) _
  have HE := Lib.hid (enc_good [3, 4, 300] (by decide) rise_aw _ _ (at_lit w))
  have HDE : Hid (∀ (vs : Value) (W : World), Skps W W.heap.size vs [(3, 0)] → Calls Try.prog 13 #[.agg #[.int .i64 3, .string ⟨#[0, 167, 2]⟩, vs]] W (DecP [3, 4, 300] W)) := fun vs W h => by
    have := decode_right [3, 4, 300] vs W (by decide) rise_aw (by show Skps _ _ _ (bm.skp [3, 4, 300] 3); rw [skp_aw]; exact h)
    rw [show ([3, 4, 300] : List Int).length = 3 from rfl, dat_aw, str_aw] at this
    exact this
  have HSE : Hid (∀ (vs : Value) (W : World), Skps W W.heap.size vs [(3, 0)] → Calls Try.prog 15 #[.agg #[.int .i64 3, .string ⟨#[0, 167, 2]⟩, vs], .int .i64 5] W fun e w' => e = .returned (.tuple #[.int .i64 300, .bool true]) ∧ Below W.heap.size W w') := fun vs W h => by
    have := seek_right [3, 4, 300] 5 vs W (by decide) rise_aw (by show Skps _ _ _ (bm.skp [3, 4, 300] 3); rw [skp_aw]; exact h)
    rw [show ([3, 4, 300] : List Int).length = 3 from rfl, dat_aw, str_aw] at this
    exact this
  rw [show ([3, 4, 300] : List Int).length = 3 from rfl, dat_aw, skp_aw, str_aw] at HE
  go_enter Try.func8, Try.ntmps8
  go_wp2_with fail
  refine HE.out.mono ?_
  rintro e w1 ⟨a, c, rfl, ho, hb1⟩
  have hb01 := hA.trans (hb1.mono hA.size)
  have hs1 : Skps w1 w1.heap.size (.slice a 1 c) [(3, 0)] := Cells.own ho
  have hB2 : Below w1.heap.size w1 (w1.alloc (.cells #[.int .i64 3, .string ⟨#[0, 167, 2]⟩, .slice a 1 c] 26)) := (Below.refl _ _).alloc (Nat.le_refl _) _
  have hs2 := Cells.next hs1 hB2
  have HS2 := Lib.hid hs2
  have HD := Lib.hid (HDE.out _ _ hs2)
  have hb02 := hb01.trans (hB2.mono hb01.size)
  clear ho hs1 hs2
  go_wp2_with fail
  refine HD.out.mono ?_
  rintro e w3 ⟨v3, rfl, ho3, hb3⟩
  have HS3 : Hid (Skps w3 w3.heap.size (.slice a 1 c) [(3, 0)]) := Cells.next HS2.out hb3
  have HAT3 := Lib.hid (at_.own ho3)
  have hb03 := hb02.trans (hb3.mono hb02.size)
  obtain ⟨q0, q1, q2, f0, f1, f2, _⟩ := cl.three (w := w1) (w2 := w3) (t := 26) hb3
  obtain ⟨a3, c3, rfl⟩ := own_slice ho3
  have HSK := Lib.hid (HSE.out _ _ HS3.out)
  clear ho3
  go_wp2_with fail
  refine HSK.out.mono ?_
  rintro e w4 ⟨rfl, hb4⟩
  have hb04 := hb03.trans (hb4.mono hb03.size)
  obtain ⟨p0, p1, p2, g0, g1, g2, _⟩ := cl.three (w := w1) (w2 := w4) (t := 26) (hb3.trans (hb4.mono hb3.size))
  obtain ⟨ao', c', e, _, _, hc⟩ := HAT3.out.later hb4 (Nat.le_refl _)
  simp only [Value.slice.injEq] at e
  obtain ⟨rfl, _, rfl⟩ := e
  obtain ⟨b, o, rfl, _, hcell⟩ := hc (by decide)
  have k2 : w4.cell? ⟨b, o + 2, none⟩ = some (.int .i64 300) := hcell 2 (by decide)
  clear hcell hc
  go_wp2
  go_ret
  exact ⟨rfl, hb04⟩

set_option maxHeartbeats 1600000 in
set_option maxRecDepth 100000 in
theorem lays_any (l : List Int) (v : Value) (w : World) (h : At w w.heap.size v l) :
    Calls Try.prog 3 #[v] w (Said true w) := by
  have HH := Lib.hid h
  have HE := Lib.hid (encode_any l v w h)
  obtain ⟨ao, ca, rfl, _, hla, _⟩ := h
  unfold maxLen at hla
  obtain ⟨n, hn⟩ : ∃ n, n = l.length := ⟨_, rfl⟩
  have HN := Lib.hid hn
  rw [← hn] at hla HE HH ⊢
  clear hn
  by_cases hl : 5000 < n
  · have hlI : (5000 : Int) < (n : Int) := by omega
    have HA := Lib.hid (awake_any w)
    go_enter Try.func3, Try.ntmps3
    go_wp2_with fail
    refine HA.out.mono ?_
    rintro e w1 ⟨rfl, hb⟩
    go_wp2
    go_ret
    exact ⟨rfl, hb⟩
  · have hlI : ¬ (5000 : Int) < (n : Int) := by omega
    obtain ⟨c, hc⟩ : ∃ c, c = bm.code l := ⟨_, rfl⟩
    obtain ⟨k, hk⟩ : ∃ c, c = bm.cnt l := ⟨_, rfl⟩
    obtain ⟨D, hD⟩ : ∃ c, c = kit.str (bm.dats l) := ⟨_, rfl⟩
    obtain ⟨S, hS⟩ : ∃ c, c = bm.skps l := ⟨_, rfl⟩
    have HP : Hid (∀ (W : World) e w', EncP l W e w' → ∃ a c', e = .returned (.tuple #[.agg #[.int .i64 k, .string D, .slice a S.length c'], .int .i64 c]) ∧ Skps w' w'.heap.size (.slice a S.length c') S ∧ Below W.heap.size W w') := fun W e w' ⟨sv, he, ho, hb⟩ => by
      rw [← hc, ← hk, ← hD] at he
      rw [← hS] at ho
      obtain ⟨a, c', rfl⟩ := own_slice ho
      exact ⟨a, c', he, Cells.own ho, hb⟩
    clear hc hk hD hS
    obtain ⟨q, hq⟩ : ∃ q, q = S.length := ⟨_, rfl⟩
    rw [← hq] at HP
    have HQ := Lib.hid hq
    clear hq
    go_enter Try.func3, Try.ntmps3
    go_wp2_with fail
    refine HE.out.mono ?_
    intro e w1 he1
    obtain ⟨a1, c1, rfl, hs1, hb1⟩ := HP.out _ _ _ he1
    have hB1 : Below w1.heap.size w1 (w1.alloc (.cells #[.int .i64 k, .string D, .slice a1 q c1] 26)) := (Below.refl _ _).alloc (Nat.le_refl _) _
    have hb01 := hb1.trans (hB1.mono hb1.size)
    have hat1 := HH.out.later hb01 (Nat.le_refl _)
    have HR := Lib.hid (rencode_any l _ _ (hat1.mono hb01.size))
    have HS1 := Lib.hid (Cells.next hs1 hB1)
    clear he1 hs1 hat1
    go_wp2_with fail
    refine HR.out.mono ?_
    intro e w2 he2
    obtain ⟨a2, c2, rfl, hs2, hb2⟩ := HP.out _ _ _ he2
    have hbx := hb2
    have hB2 : Below w2.heap.size w2 (w2.alloc (.cells #[.int .i64 k, .string D, .slice a2 q c2] 26)) := (Below.refl _ _).alloc (Nat.le_refl _) _
    have hb12 := hb2.trans (hB2.mono hb2.size)
    obtain ⟨q0, q1, q2, f0, f1, f2, _⟩ := cl.three (w := w1) (t := 26) hb12
    have hb03 := hb01.trans (hb12.mono hb01.size)
    have hs13 : Skps _ _ (.slice a1 q c1) S := Cells.next HS1.out hb12
    have hs23 : Skps _ _ (.slice a2 q c2) S := Cells.next hs2 hB2
    have HSA := Lib.hid (same_eq k D S _ _ _ hs13 hs23)
    clear he2 hs2 hs13 hs23 hbx
    go_wp2_with fail
    refine HSA.out.mono ?_
    rintro e w4 ⟨rfl, hb4⟩
    have hb04 := hb03.trans (hb4.mono hb03.size)
    have HA := Lib.hid (awake_any w4)
    go_wp2_with fail
    refine HA.out.mono ?_
    rintro e w5 ⟨rfl, hb5⟩
    have hfin := hb04.trans (hb5.mono hb04.size)
    go_wp2
    go_ret
    exact ⟨rfl, hfin⟩
end Go.Proofs.Ytniphmfkccaccaa
