/- PlaceUnlike: the walk of the law. -/
import Derived.Test.YthhkocbfeiccdaaUnlikeMath
namespace Go.Proofs.Ythhkocbfeiccdaa
open Go.RowKit Go.ChangeShapes at_

theorem len0 {v : Value} {w : World} {B : Nat} (h : At w B v []) : ∃ ao cap, v = .slice ao 0 cap := by
  obtain ⟨ao, cap, rfl, _⟩ := h
  exact ⟨ao, cap, rfl⟩

set_option maxHeartbeats 1600000 in
set_option maxRecDepth 100000 in
theorem unlike_none (n g c l gr : Int) (w : World) (h : ¬ (okC n g c l ∧ 0 ≤ gr ∧ gr < g)) :
    Calls Try.prog 5 #[.agg #[.int .i64 n, .int .i64 g, .int .i64 c, .int .i64 l], .int .i64 gr] w (Said true w) := by
  have HB0 := Lib.hid (Box.first n g c l w 31)
  have hcase : (codeC n g c l = 1) ∨ (codeC n g c l = 0 ∧ gr < 0) ∨ (codeC n g c l = 0 ∧ 0 ≤ gr ∧ g ≤ gr) := by
    unfold codeC
    by_cases hC : okC n g c l
    · rw [if_pos hC]
      by_cases h0 : gr < 0
      · exact Or.inr (Or.inl ⟨rfl, h0⟩)
      · have h9 : ¬ gr < g := fun hh => h ⟨hC, by omega, hh⟩
        exact Or.inr (Or.inr ⟨rfl, by omega, by omega⟩)
    · rw [if_neg hC]; exact Or.inl rfl
  have H5 : Hid (∀ W, Calls Try.prog 19 #[.agg #[.int .i64 n, .int .i64 g, .int .i64 c, .int .i64 l], .int .i64 gr] W (Owned [] W)) := fun W => rep_out n g c l gr W h
  have H3 : Hid (∀ W, Calls Try.prog 17 #[.agg #[.int .i64 n, .int .i64 g, .int .i64 c, .int .i64 l]] W (Code (codeC n g c l) W)) := fun W => check_any n g c l W
  clear h
  rcases hcase with hc | ⟨hc, hg⟩ | ⟨hc, hg, hg2⟩
  all_goals
    rw [hc] at H3
    clear hc
    go_enter Try.func5, Try.ntmps5
    go_wp2_with fail
    refine (H5.out _).mono ?_
    rintro e w1 ⟨v, rfl, hown, hb1⟩
    have HB1 := Lib.hid (HB0.out.step hb1)
    obtain ⟨p0, p1, p2, p3, _⟩ := HB1.out
    obtain ⟨ao, cap, rfl⟩ := len0 (own hown)
    clear hown hb1 HB0
    go_wp2_with (first | (go_at_call 17; refine (H3.out _).mono ?_; rintro e w2 ⟨rfl, hb2⟩; have HB2 := Lib.hid (HB1.out.step hb2); obtain ⟨q0, q1, q2, q3, _⟩ := HB2.out) | (go_at_call 9; refine (awake_any _).mono ?_; rintro e w3 ⟨rfl, hb3⟩; have HB3 := Lib.hid (HB2.out.step hb3)))
    go_ret
    exact ⟨rfl, HB3.out.2.2.2.2.1⟩

set_option maxHeartbeats 3200000 in
set_option maxRecDepth 100000 in
theorem unlike_some (n g c l gr : Int) (w : World) (h : okC n g c l) (h1 : 0 ≤ gr) (h2 : gr < g) :
    Calls Try.prog 5 #[.agg #[.int .i64 n, .int .i64 g, .int .i64 c, .int .i64 l], .int .i64 gr] w (Said true w) := by
  have HB0 := Lib.hid (Box.first n g c l w 31)
  obtain ⟨zs, hz⟩ : ∃ zs, zs = reps n c gr := ⟨_, rfl⟩
  obtain ⟨F1, F2, F3, F4, F5⟩ := unlike_facts h h1 h2 zs hz
  have hzo : repsOf n g c l gr = zs := by unfold repsOf; rw [if_pos ⟨h, h1, h2⟩, hz]
  have H5 : Hid (∀ W, Calls Try.prog 19 #[.agg #[.int .i64 n, .int .i64 g, .int .i64 c, .int .i64 l], .int .i64 gr] W (Owned zs W)) := fun W => by rw [hz]; exact rep_in n g c l gr W h h1 h2
  have H3 : Hid (∀ W, Calls Try.prog 17 #[.agg #[.int .i64 n, .int .i64 g, .int .i64 c, .int .i64 l]] W (Code 0 W)) := fun W => check_ok n g c l W h
  have HK : Hid (∀ x W, Calls Try.prog 21 #[.agg #[.int .i64 n, .int .i64 g, .int .i64 c, .int .i64 l], .int .i64 gr, .int .i64 x] W (Said (hasB zs x) W)) := fun x W => by rw [← hzo]; exact keeps_any n g c l gr x W
  obtain ⟨b1, b2, b3, b4, b5, b6, _, _⟩ := h
  have G2 := Lib.hid F2
  have G3 := Lib.hid F3
  have G4 := Lib.hid F4
  have G5 := Lib.hid F5
  have hlen : 1 ≤ zs.length := by omega
  have hlen2 : zs.length ≤ 16 := by omega
  have GL := Lib.hid F1
  clear hz hzo F1 F2 F3 F4 F5
  go_enter Try.func5, Try.ntmps5
  go_wp2_with fail
  refine (H5.out _).mono ?_
  rintro e w1 ⟨v, rfl, hown, hb1⟩
  have HB1 := Lib.hid (HB0.out.step hb1)
  obtain ⟨p0, p1, p2, p3, _⟩ := HB1.out
  obtain ⟨ao, cap, rfl, ⟨_, hcap⟩, hmax, hc⟩ := own hown
  obtain ⟨b, off, rfl, hbB, hcell⟩ := hc (by omega)
  unfold maxLen at hmax
  have HC := Lib.hid hcell
  clear hown hb1 HB0 hc hcell
  go_wp2_with (go_at_call 17; refine (H3.out _).mono ?_; rintro e w2 ⟨rfl, hb2⟩; have HB2 := Lib.hid (HB1.out.step hb2); obtain ⟨q0, q1, q2, q3, _⟩ := HB2.out)
  have hb2' : Below w1.heap.size w1 w2 := hb2
  clear hb2 p0 p1 p2 p3
  go_loopw [6, 7, 36] (fun m _ i wr => ∃ k : Nat, i = .int .i64 k ∧ (k : Int) ≤ n ∧ m = .int .i64 (cnt zs k) ∧ Below w1.heap.size w1 wr) (fun _ _ i _ => (n - intOf i).toNat)
  case atStart => exact ⟨0, rfl, by omega, rfl, hb2'⟩
  case round =>
    obtain ⟨k, rfl, hk, rfl, hbl⟩ := hrel
    obtain ⟨p0, p1, p2, p3, _⟩ := HB1.out.step hbl
    have hcl := cnt_le zs k
    by_cases hlt : (k : Int) < n
    · cases hh : hasB zs (k : Int) with
      | true =>
        have HC1 := Lib.hid (cnt_yes hh)
        have HKk : Hid (∀ W, Calls Try.prog 21 #[.agg #[.int .i64 n, .int .i64 g, .int .i64 c, .int .i64 l], .int .i64 gr, .int .i64 (k : Int)] W (Said true W)) := fun W => by rw [← hh]; exact HK.out _ W
        clear hh
        go_wp2_with (go_at_call 21; refine (HKk.out _).mono ?_; rintro e w4 ⟨rfl, hb4⟩)
        have hbl' : Below w1.heap.size w1 w4 := hbl.trans (hb4.mono hbl.size)
        go_roundw
        case rel => exact ⟨k + 1, by go_num, by omega, by rw [HC1.out]; go_num, hbl'⟩
        case measure => simp [intOf]; omega
      | false =>
        have HC1 := Lib.hid (cnt_no hh)
        have HKk : Hid (∀ W, Calls Try.prog 21 #[.agg #[.int .i64 n, .int .i64 g, .int .i64 c, .int .i64 l], .int .i64 gr, .int .i64 (k : Int)] W (Said false W)) := fun W => by rw [← hh]; exact HK.out _ W
        clear hh
        go_wp2_with (go_at_call 21; refine (HKk.out _).mono ?_; rintro e w4 ⟨rfl, hb4⟩)
        have hbl' : Below w1.heap.size w1 w4 := hbl.trans (hb4.mono hbl.size)
        go_roundw
        case rel => exact ⟨k + 1, by go_num, by omega, by rw [HC1.out], hbl'⟩
        case measure => simp [intOf]; omega
    · have hkn : k = n.toNat := by omega
      have HM : Hid ((cnt zs k : Int) = c) := by rw [hkn]; exact G4.out
      rw [HM.out]
      clear hkn hcl
      have hszr := hbl.size
      obtain ⟨wo, rfl⟩ : ∃ wo : World, wo = wr := ⟨_, rfl⟩
      go_wp2
      go_loopw [8, 9, 11, 48] (fun _ _ _ i wr => ∃ k : Nat, i = .int .i64 k ∧ k ≤ zs.length ∧ Below w1.heap.size w1 wr) (fun _ _ _ i _ => zs.length - (intOf i).toNat)
      case atStart => exact ⟨0, rfl, by omega, hbl⟩
      case round =>
        obtain ⟨i, rfl, hi, hbl2⟩ := hrel
        have HBr := Lib.hid (HB1.out.step (hbl2.mono (Nat.le_refl _)))
        obtain ⟨r0, r1, r2, r3, _⟩ := HBr.out
        by_cases hlt2 : i < zs.length
        · have c1 : wr.cell? ⟨b, off + i, none⟩ = some (.int .i64 (zs.getD i 0)) := (hbl2.cell (p := ⟨b, _, none⟩) hbB).trans (HC.out i hlt2)
          obtain ⟨x, hx⟩ : ∃ x, x = zs.getD i 0 := ⟨_, rfl⟩
          obtain ⟨x0, x1⟩ := G2.out i hlt2
          rw [← hx] at c1 x0 x1
          have HX := Lib.hid hx
          have HKk : Hid (∀ W, Calls Try.prog 21 #[.agg #[.int .i64 n, .int .i64 g, .int .i64 c, .int .i64 l], .int .i64 gr, .int .i64 x] W (Said true W)) := fun W => by
            have := HK.out x W
            rw [hasB_hit hlt2 hx.symm] at this
            exact this
          clear hx
          go_wp2_with (go_at_call 21; refine (HKk.out _).mono ?_; rintro e w4 ⟨rfl, hb4⟩)
          have hb4' : Below w1.heap.size w1 w4 := hbl2.trans (hb4.mono hbl2.size)
          obtain ⟨w5, rfl⟩ : ∃ w5 : World, w5 = w4 := ⟨_, rfl⟩
          go_loop [11, 72] (fun _ m => ∃ j : Nat, m = .int .i64 j ∧ j ≤ i) (fun _ m => i - (intOf m).toNat)
          case atStart => exact ⟨0, rfl, by omega⟩
          case round =>
            obtain ⟨j, rfl, hj⟩ := hrel
            by_cases hlt3 : j < i
            · have c2 : w5.cell? ⟨b, off + j, none⟩ = some (.int .i64 (zs.getD j 0)) := (hb4'.cell (p := ⟨b, _, none⟩) hbB).trans (HC.out j (by omega))
              obtain ⟨y, hy⟩ : ∃ y, y = zs.getD j 0 := ⟨_, rfl⟩
              rw [← hy] at c2
              have hne : (x == y) = false := by
                have := G3.out j i hlt3 hlt2
                rw [← hy, ← HX.out] at this
                simp; exact fun e => this e.symm
              clear hy
              go_wp2
              go_round
              case rel => exact ⟨j + 1, by go_num, by omega⟩
              case measure => simp [intOf]; omega
            · go_wp2
              go_roundw
              case rel => exact ⟨i + 1, by go_num, by omega, hb4'⟩
              case measure => simp [intOf]; omega
        · have HKn : Hid (∀ W, Calls Try.prog 21 #[.agg #[.int .i64 n, .int .i64 g, .int .i64 c, .int .i64 l], .int .i64 gr, .int .i64 n] W (Said false W)) := fun W => by
            have := HK.out n W
            rw [G5.out] at this
            exact this
          have hlc : ((zs.length : Int) == c) = true := by have := GL.out; simp; omega
          go_wp2_with (first | (go_at_call 21; refine (HKn.out _).mono ?_; rintro e w4 ⟨rfl, hb4⟩) | (go_at_call 9; refine (awake_any _).mono ?_; rintro e w6 ⟨rfl, hb6⟩))
          go_ret
          exact ⟨rfl, ((HBr.out.step hb4).step hb6).2.2.2.2.1⟩

theorem unlike_any (n g c l gr : Int) (w : World) :
    Calls Try.prog 5 #[.agg #[.int .i64 n, .int .i64 g, .int .i64 c, .int .i64 l], .int .i64 gr] w (Said true w) := by
  by_cases h : okC n g c l ∧ 0 ≤ gr ∧ gr < g
  · exact unlike_some n g c l gr w h.1 h.2.1 h.2.2
  · exact unlike_none n g c l gr w h
end Go.Proofs.Ythhkocbfeiccdaa
