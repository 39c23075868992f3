/- SymtabUses, walked. -/
import Derived.Test.YtagmlpenhogoeaaSymPlays
namespace Go.Proofs.Ytagmlpenhogoeaa
open Go.RowKit Go.ChangeShapes Go.Maps Go.WideMaps cl at_

theorem drewN_map {W : World} {P : Program} {k b n : Nat} {R : Value → Option (DataW Unit × List MemPlace)} {D : DataW Unit} (h : W.ownsMap P k R b n D) (q : Nat) : (W.drewN q).ownsMap P k R b n D := omap_step h (below_drewN (Below.refl _ _) q)

set_option maxHeartbeats 6400000 in
set_option maxRecDepth 100000 in
theorem uses_any (room : Int) (l : List Op3) (v : Value) (w : World) (hlw : ∀ x ∈ l, x.2.2.size ≤ maxLen) (h : Ops w w.heap.size v l) :
    Calls Try.prog 4 #[.int .i64 room, v] w (Said true w) := by
  have HAW : Hid (∀ W, Calls Try.prog 9 #[] W (Said true W)) := fun W => awake_any W
  have HPL := Lib.hid (plays_any room l v w hlw h)
  obtain ⟨q, hq⟩ : ∃ q, q = l.length := ⟨_, rfl⟩
  obtain ⟨so, sc, rfl, hqm⟩ : ∃ ao cap, v = .slice ao q cap ∧ q ≤ maxLen := by
    obtain ⟨ao, cap, e, _, hm⟩ := h.form
    exact ⟨ao, cap, by rw [hq]; exact e, by rw [hq]; exact hm⟩
  unfold maxLen at hqm
  have HC := Lib.hid h
  have HQ := Lib.hid hq
  have HLW := Lib.hid hlw
  clear hlw h hq
  go_enter Try.func4, Try.ntmps4
  go_wp2_with fail
  (with_reducible refine HPL.out.mono ?_)
  intro e w1 hp
  obtain ⟨a, n, cap, c, L, D, mb, N, ok, rfl, hn, hr, ht, ho, hcn, hb1, hmb, _⟩ := hp
  have HN := Lib.hid hn
  have HR := Lib.hid hr
  by_cases hok : ok = true
  case neg =>
    obtain rfl : ok = false := by simpa using hok
    clear hn hr ht hok ho hcn
    go_wp2_with fail
    (with_reducible refine (HAW.out _).mono ?_)
    rintro e w9 ⟨rfl, hb9⟩
    have hbf := (hb1.alloc hb1.size (.cells #[.slice a n cap, .int .i64 c] 24)).trans (hb9.mono (by rw [World.size_alloc]; have := hb1.size; omega))
    go_wp2
    go_ret
    exact ⟨rfl, hbf⟩
  subst hok
  have hB1 : Below w1.heap.size w1 (w1.alloc (.cells #[.slice a n cap, .int .i64 c] 24)) := (Below.refl _ _).alloc (Nat.le_refl _) _
  have HRC := Lib.hid (symright_true c L (.slice a n cap) _ hr (Cells.next ht hB1))
  have HT1 := Lib.hid (Cells.next ht hB1)
  have HO1 := Lib.hid (omap_step ho hB1)
  have HCN := Lib.hid hcn
  have hb01 := hb1.trans (hB1.mono hb1.size)
  have hnil : ∀ (W : World) (b : Nat), (binOp .eql 45 (.map (some b)) (.map none)).run Try.prog W = .ok (.bool false) W := fun W b => run_eql_map_nil W _ _ _ (some b) Try.underlying45
  clear hn hr ht ho hcn
  go_wp2_with fail
  (with_reducible refine HRC.out.mono ?_)
  rintro e w4 ⟨rfl, hb4⟩
  have HT4 := Lib.hid (Cells.next HT1.out hb4)
  have HO4 := Lib.hid (omap_step HO1.out hb4)
  have hb04 := hb01.trans (hb4.mono hb01.size)
  have HB4 := Lib.hid (two (w := w1) (w2 := w4) (t := 24) hb4)
  go_wp2
  go_loopw [33] (fun u wr => ∃ i : Nat, u = .int .i64 i ∧ i ≤ q ∧ Below w4.heap.size w4 wr) (fun u _ => q - (intOf u).toNat)
  case atStart => exact ⟨0, rfl, by omega, Below.refl _ _⟩
  case round =>
    obtain ⟨i, rfl, hi, hbl⟩ := hrel
    have hb0 := hb04.trans (hbl.mono hb04.size)
    have hz := hbl.size
    obtain ⟨r0, r1, _, _, hx1⟩ := HB4.out
    have q0 := (hbl.cell (p := ⟨w1.heap.size, 0, none⟩) hx1).trans r0
    have q1 := (hbl.cell (p := ⟨w1.heap.size, 1, none⟩) hx1).trans r1
    clear r0 r1
    by_cases hlt : i < q
    · have hiI : (i : Int) < (q : Int) := by omega
      obtain ⟨b, off, rfl, hB, p0, p1, p2⟩ := Ops.get HC.out HQ.out hlt
      have e0 := (hb0.cell (p := ⟨b, off + i * 3, none⟩) hB).trans p0
      have e1 := (hb0.cell (p := ⟨b, off + i * 3 + 1, none⟩) hB).trans p1
      have e2 := (hb0.cell (p := ⟨b, off + i * 3 + 2, none⟩) hB).trans p2
      have hxw : (l.getD i (0, 0, .empty)).2.2.size ≤ maxLen := HLW.out _ (by simp [List.getD, show i < l.length by rw [← HQ.out]; exact hlt])
      obtain ⟨⟨kd, M, S⟩, hx⟩ : ∃ x, x = l.getD i (0, 0, .empty) := ⟨_, rfl⟩
      rw [← hx] at e0 e1 e2 hxw
      simp only at e0 e1 e2 hxw
      have HKEY : Hid (keyOf Try.prog 9 (.string S) = some (.string S.data.toList)) := keyOf_string_mk Try.underlying9 hxw
      unfold maxLen at hxw
      clear p0 p1 p2 hx
      have hAo : Below wr.heap.size wr (wr.alloc (.cells #[.int .i64 kd, .int .i64 M, .string S] 49)) := (Below.refl _ _).alloc (Nat.le_refl _) _
      have HTA := Lib.hid (Cells.next (Cells.next HT4.out hbl) hAo)
      have HOA := Lib.hid (omap_step (omap_step HO4.out hbl) hAo)
      have HF := Lib.hid (find_any c L S (.slice a n cap) _ HTA.out)
      unfold FindP at HF
      have hne1 : ¬ w1.heap.size = wr.heap.size := by omega
      have t0 := (hAo.cell (p := ⟨w1.heap.size, 0, none⟩) (show w1.heap.size < wr.heap.size by omega)).trans q0
      have t1 := (hAo.cell (p := ⟨w1.heap.size, 1, none⟩) (show w1.heap.size < wr.heap.size by omega)).trans q1
      have HCT : Hid (tb.cnt L S = if tb.find L S < L.length then (tb.at_ L (tb.find L S)).2 else 0) := rfl
      have HFY : Hid (tb.find L S < L.length → 0 < (tb.at_ L (tb.find L S)).2 ∧ (tb.at_ L (tb.find L S)).1 = S) := tb.find_yes
      obtain ⟨K, hK⟩ : ∃ K, K = tb.find L S := ⟨_, rfl⟩
      rw [← hK, ← HN.out] at HF HCT HFY
      have hKn : K ≤ n := by rw [hK, HN.out]; exact tb.find_le L S
      have hbd := tb.cnt_bd (s := S) HR.out
      obtain ⟨ct, hct⟩ : ∃ z, z = tb.cnt L S := ⟨_, rfl⟩
      have HCC := Lib.hid hct
      rw [← hct] at HCT hbd
      clear hK hct
      by_cases hf : K < n
      · rw [if_pos hf, decide_eq_true hf] at HF
        obtain ⟨g1, g2⟩ := HFY.out hf
        have hcr : ct = (tb.at_ L K).2 := by rw [HCT.out, if_pos hf]
        have HU : Hid (tb.used L (K : Int) = true) := by
          show _ = _
          unfold tb.used
          rw [← HN.out]
          exact decide_eq_true ⟨by omega, by omega, by rw [Int.toNat_natCast]; exact g1⟩
        have HTX : Hid (∀ W, Tabs W W.heap.size (.slice a n cap) L → Calls Try.prog 24 #[.agg #[.slice a n cap, .int .i64 c], .int .i64 (K : Int)] W (fun e w' => e = .returned (.tuple #[.string S, .bool true]) ∧ Below W.heap.size W w')) := fun W htt => by
          have h := text_any c (K : Int) L (.slice a n cap) W htt
          unfold TextP at h
          rw [HU.out, if_pos rfl, Int.toNat_natCast, g2] at h
          exact h
        have hct0 : 0 < ct := by rw [hcr]; exact g1
        have HCR := Lib.hid hcr
        clear g1 g2 hcr HFY HCT
        go_wp2_with fail
        (with_reducible refine HF.out.mono ?_)
        rintro e w5 ⟨rfl, hb5⟩
        obtain ⟨y0, y1, y2, _, _, _, hyz⟩ := cl.three (w := wr) (w2 := w5) (t := 49) hb5
        have HO5 := Lib.hid (omap_step HOA.out hb5)
        have HT5 := Lib.hid (Cells.next HTA.out hb5)
        have hbr5 := hAo.trans (hb5.mono hAo.size)
        have s0 := (hbr5.cell (p := ⟨w1.heap.size, 0, none⟩) (show w1.heap.size < wr.heap.size by omega)).trans q0
        have s1 := (hbr5.cell (p := ⟨w1.heap.size, 1, none⟩) (show w1.heap.size < wr.heap.size by omega)).trans q1
        have HTX5 := Lib.hid (HTX.out _ HT5.out)
        clear q0 q1 t0 t1
        go_wp2_with (at_lookup; refine wpList_lookup_own_int _ rfl _ _ 45 rfl 9 3 .i64 mlaw Try.underlying45 Try.underlying3 (zeroI _) mb N D rfl HO5.out _ _ rfl HKEY.out ?_; intro cv hat hwc; obtain rfl : cv = ct := ((CNT.get HCN.out hat).trans HCC.out.symm); clear hat hwc)
        (with_reducible refine HTX5.out.mono ?_)
        rintro e w6 ⟨rfl, hb6⟩
        have hb56 := hb5.trans (hb6.mono hb5.size)
        obtain ⟨y0, y1, y2, _, _, _, hyz⟩ := cl.three (w := wr) (w2 := w6) (t := 49) hb56
        have hbr6 := hAo.trans (hb56.mono hAo.size)
        have q0' := (hb6.cell (p := ⟨w1.heap.size, 0, none⟩) (show w1.heap.size < w5.heap.size by have := hbr5.size; omega)).trans s0
        have HO6 := Lib.hid (omap_step HO5.out hb6)
        have hlk : ∀ N' : Nat, (Instr.lookup 45 (.map (some mb)) (.string S) false).run Try.prog (w6.drewN N') = .ok (.int .i64 cv) (w6.drewN N') := fun N' => by
          obtain ⟨c', hrun, hat, _⟩ := (drewN_map HO6.out N').lookup_int mlaw Try.underlying45 Try.underlying3 (zeroI _) HKEY.out
          rw [hrun, CNT.get HCN.out hat, HCC.out]
        obtain ⟨b2, off2, rfl, hB2, z0, z1⟩ := Tabs.get (Cells.next HT5.out hb6) HN.out hf
        rw [← HCR.out] at z1
        have hKI : (K : Int) < (n : Int) := by omega
        have hK0 : (0 : Int) ≤ (K : Int) := by omega
        have hKw : IntKind.i64.wrap (K : Int) = (K : Int) := IntWalk.i64_in _ (by have := HR.out.2.2.1; have := HR.out.2.1; have := HN.out; omega)
        have hbf := hbl.trans (hbr6.mono hz)
        clear s0 s1 z0
        go_wp2
        go_quiet (fail)
        go_wp2
        go_roundw
        case rel => exact ⟨i + 1, by go_num, by omega, below_drewN hbf _⟩
        case measure => simp [intOf]; omega
      · rw [if_neg hf, decide_eq_false hf] at HF
        have hct0 : ct = 0 := by rw [HCT.out, if_neg hf]
        have HTX : Hid (∀ W, Tabs W W.heap.size (.slice a n cap) L → Calls Try.prog 24 #[.agg #[.slice a n cap, .int .i64 c], .int .i64 0] W (fun e w' => (∃ (T : ByteArray) (U : Bool), e = .returned (.tuple #[.string T, .bool U])) ∧ Below W.heap.size W w')) := fun W htt =>
          (text_any c 0 L (.slice a n cap) W htt).mono fun e w' ⟨he, hb⟩ => ⟨⟨_, _, he⟩, hb⟩
        have HZ := Lib.hid hct0
        clear hct0 HFY HCT hf
        go_wp2_with fail
        (with_reducible refine HF.out.mono ?_)
        rintro e w5 ⟨rfl, hb5⟩
        obtain ⟨y0, y1, y2, _, _, _, hyz⟩ := cl.three (w := wr) (w2 := w5) (t := 49) hb5
        have HO5 := Lib.hid (omap_step HOA.out hb5)
        have HT5 := Lib.hid (Cells.next HTA.out hb5)
        have hbr5 := hAo.trans (hb5.mono hAo.size)
        have s0 := (hbr5.cell (p := ⟨w1.heap.size, 0, none⟩) (show w1.heap.size < wr.heap.size by omega)).trans q0
        have s1 := (hbr5.cell (p := ⟨w1.heap.size, 1, none⟩) (show w1.heap.size < wr.heap.size by omega)).trans q1
        have HTX5 := Lib.hid (HTX.out _ HT5.out)
        clear q0 q1 t0 t1
        go_wp2_with (at_lookup; refine wpList_lookup_own_int _ rfl _ _ 45 rfl 9 3 .i64 mlaw Try.underlying45 Try.underlying3 (zeroI _) mb N D rfl HO5.out _ _ rfl HKEY.out ?_; intro cv hat hwc; obtain rfl : cv = 0 := ((CNT.get HCN.out hat).trans (HCC.out.symm.trans HZ.out)); clear hat hwc)
        (with_reducible refine HTX5.out.mono ?_)
        rintro e w6 ⟨⟨T, U, rfl⟩, hb6⟩
        have hb56 := hb5.trans (hb6.mono hb5.size)
        have hbr6 := hAo.trans (hb56.mono hAo.size)
        have hbf := hbl.trans (hbr6.mono hz)
        clear s0 s1
        go_wp2
        go_quiet (fail)
        go_wp2
        go_roundw
        case rel => exact ⟨i + 1, by go_num, by omega, below_drewN hbf _⟩
        case measure => simp [intOf]; omega
    · obtain rfl : i = q := by omega
      go_wp2_with fail
      (with_reducible refine (HAW.out _).mono ?_)
      rintro e w9 ⟨rfl, hb9⟩
      have hbf := hb0.trans (hb9.mono hb0.size)
      go_wp2
      go_ret
      exact ⟨rfl, hbf⟩
end Go.Proofs.Ytagmlpenhogoeaa
