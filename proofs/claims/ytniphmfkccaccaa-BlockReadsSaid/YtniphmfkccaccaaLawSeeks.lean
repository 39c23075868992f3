/- BlockSeeks, walked. -/
import Derived.Test.YtniphmfkccaccaaGaps
namespace Go.Proofs.Ytniphmfkccaccaa
open Go.RowKit Go.ChangeShapes at_ cl

theorem cnt_first {G : List Int} {id : Int} {k : Nat} (h : bm.Rise G G.length) (hk : k ≤ G.length) (h1 : ∀ j, j < k → G.getD j 0 < id) (h2 : k < G.length → ¬ G.getD k 0 < id) : G.countP (· < id) = k := by
  have e : G.countP (· < id) = (G.take k).countP (· < id) + (G.drop k).countP (· < id) := by
    rw [← List.countP_append, List.take_append_drop]
  have a : (G.take k).countP (· < id) = (G.take k).length := by
    rw [List.countP_eq_length]
    intro x hx
    obtain ⟨j, hj, rfl⟩ := List.getElem_of_mem hx
    rw [List.length_take] at hj
    have := h1 j (by omega)
    simp only [List.getD, List.getElem?_eq_getElem (show j < G.length by omega), Option.getD_some] at this
    rw [List.getElem_take]
    exact decide_eq_true this
  have b : (G.drop k).countP (· < id) = 0 := by
    rw [List.countP_eq_zero]
    intro x hx
    obtain ⟨j, hj, rfl⟩ := List.getElem_of_mem hx
    rw [List.length_drop] at hj
    have h3 := h2 (by omega)
    have h4 : G.getD k 0 ≤ G.getD (k + j) 0 := by
      by_cases hj0 : j = 0
      · subst hj0; exact Int.le_refl _
      · exact Int.le_of_lt (rise_lt h (k + j) k (by omega) (by omega))
    have h5 : G.getD (k + j) 0 = G[k + j]'(by omega) := by simp [List.getD, show k + j < G.length by omega]
    rw [List.getElem_drop]
    rw [h5] at h4
    simp only [decide_eq_true_eq]
    omega
  rw [e, a, b, List.length_take]
  omega

set_option maxHeartbeats 800000 in
set_option maxRecDepth 100000 in
theorem seeks_any (l : List Int) (v : Value) (id : Int) (w : World) (h : At w w.heap.size v l) :
    Calls Try.prog 6 #[v, .int .i64 id] w (Said true w) := by
  obtain ⟨n, hn⟩ : ∃ n, n = l.length := ⟨_, rfl⟩
  have HG : Hid (n ≤ 400 → Calls Try.prog 20 #[v] w (GapP n w)) := fun hl => by
    rw [hn]; exact gaps_any l v w h (by omega)
  obtain ⟨ao, ca, rfl, _, hla, _⟩ := h
  unfold maxLen at hla
  rw [← hn] at hla HG ⊢
  clear hn
  by_cases hl : 400 < n
  · have hlI : (400 : Int) < (n : Int) := by omega
    have HA := Lib.hid (awake_any w)
    go_enter Try.func6, Try.ntmps6
    go_wp2_with fail
    refine HA.out.mono ?_
    rintro e w1 ⟨rfl, hb⟩
    go_wp2
    go_ret
    exact ⟨rfl, hb⟩
  · have hlI : ¬ (400 : Int) < (n : Int) := by omega
    have HG1 := Lib.hid (HG.out (by omega))
    go_enter Try.func6, Try.ntmps6
    go_wp2_with fail
    refine HG1.out.mono ?_
    rintro e w1 ⟨v1, G, rfl, hr, hgn, ho1, hb1⟩
    have HR := Lib.hid hr
    have HAT1 := Lib.hid (at_.own ho1)
    have HEN := Lib.hid (enc_good G (by omega) hr v1 w1 HAT1.out)
    obtain ⟨m, hm⟩ : ∃ m, m = G.length := ⟨_, rfl⟩
    have HM := Lib.hid hm
    have hm4 : m ≤ 400 := by omega
    obtain ⟨a1, c1, rfl⟩ := own_slice ho1
    clear ho1 hr hgn
    go_wp2_with fail
    refine HEN.out.mono ?_
    rintro e w2 ⟨a2, c2, rfl, ho2, hb2⟩
    have hb02 := hb1.trans (hb2.mono hb1.size)
    have HS2 : Hid (Skps w2 w2.heap.size (.slice a2 (bm.skp G G.length).length c2) (bm.skp G G.length)) := Cells.own ho2
    clear ho2
    have hB3 : Below w2.heap.size w2 (w2.alloc (.cells #[.int .i64 (G.length : Int), .string (kit.str (bm.dat G G.length)), .slice a2 (bm.skp G G.length).length c2] 26)) := (Below.refl _ _).alloc (Nat.le_refl _) _
    have hb03 := hb02.trans (hB3.mono hb02.size)
    have HSK := Lib.hid (seek_right G id _ _ (by rw [← HM.out]; omega) HR.out (Cells.next HS2.out hB3))
    have HAT3 := Lib.hid ((HAT1.out.later hb2 (Nat.le_refl _)).mono hb2.size |>.later hB3 (Nat.le_refl _) |>.mono hB3.size)
    obtain ⟨D, hD⟩ : ∃ D, D = kit.str (bm.dat G G.length) := ⟨_, rfl⟩
    obtain ⟨q, hq⟩ : ∃ q, q = (bm.skp G G.length).length := ⟨_, rfl⟩
    rw [← hD, ← hq, ← hm] at HSK hB3 hb03 HAT3
    rw [← hD, ← hq, ← hm]
    clear HEN hD hq HS2 hm
    have HF : Hid (∀ k, k ≤ m → (∀ j, j < k → G.getD j 0 < id) → (k < m → ¬ G.getD k 0 < id) → (if G.countP (· < id) < G.length then G.getD (G.countP (· < id)) 0 else 0) = (if k < m then G.getD k 0 else 0) ∧ decide (G.countP (· < id) < G.length) = decide (k < m)) := fun k h1 h2 h3 => by
      rw [cnt_first HR.out (by rw [← HM.out]; exact h1) h2 (by rw [← HM.out]; exact h3), ← HM.out]; exact ⟨rfl, rfl⟩
    unfold SeekP at HSK
    obtain ⟨A, hA⟩ : ∃ A, A = (if G.countP (· < id) < G.length then G.getD (G.countP (· < id)) 0 else 0) := ⟨_, rfl⟩
    obtain ⟨B, hBB⟩ : ∃ B, B = decide (G.countP (· < id) < G.length) := ⟨_, rfl⟩
    rw [← hA, ← hBB] at HF HSK
    clear hA hBB
    go_wp2_with fail
    with_reducible refine HSK.out.mono ?_
    rintro e w4 ⟨rfl, hb4⟩
    have hb04 := hb03.trans (hb4.mono hb03.size)
    have hat4 := HAT3.out.later hb4 (Nat.le_refl _)
    have HC4 : Hid (0 < m → ∃ b o, a1 = some ⟨b, o, none⟩ ∧ ∀ j, j < m → w4.cell? ⟨b, o + j, none⟩ = some (.int .i64 (G.getD j 0))) := fun h0 => by
      obtain ⟨ao', c', e, _, _, hc⟩ := hat4
      simp only [Value.slice.injEq] at e
      obtain ⟨rfl, _, rfl⟩ := e
      obtain ⟨b, o, rfl, _, hcell⟩ := hc (by rw [← HM.out]; exact h0)
      exact ⟨b, o, rfl, fun j hj => hcell j (by rw [← HM.out]; exact hj)⟩
    have HA4 := Lib.hid (awake_any w4)
    clear hat4
    go_wp2
    go_loop [11, 33] (fun _ i => ∃ k : Nat, i = .int .i64 k ∧ k ≤ m ∧ Hid (∀ j, j < k → G.getD j 0 < id)) (fun _ i => m - (intOf i).toNat)
    case atStart => exact ⟨0, rfl, by omega, fun j hj => absurd hj (Nat.not_lt_zero _)⟩
    case round =>
      obtain ⟨k, rfl, hk, HT⟩ := hrel
      by_cases hlt : k < m
      · obtain ⟨b, o, rfl, hcell⟩ := HC4.out (by omega)
        have ck := hcell k hlt
        have hkI : (k : Int) < (m : Int) := by omega
        clear hcell
        have HFk := Lib.hid (HF.out k (by omega) HT.out)
        obtain ⟨x, hx⟩ : ∃ x, x = G.getD k 0 := ⟨_, rfl⟩
        rw [← hx] at ck HFk
        have HX := Lib.hid hx
        clear hx
        by_cases hxi : x < id
        · have HT2 : Hid (∀ j, j < k + 1 → G.getD j 0 < id) := fun j hj => by
            by_cases e : j = k
            · subst e; rw [← HX.out]; exact hxi
            · exact HT.out j (by omega)
          clear HFk
          go_wp2
          go_round
          case rel => exact ⟨k + 1, by go_num, by omega, HT2⟩
          case measure => simp [intOf]; omega
        · obtain ⟨h1, h2⟩ := HFk.out (fun _ => by omega)
          rw [if_pos hlt] at h1
          rw [decide_eq_true hlt] at h2
          subst h1
          subst h2
          clear HFk HF
          go_wp2_with fail
          refine HA4.out.mono ?_
          rintro e w5 ⟨rfl, hb5⟩
          have hfin := hb04.trans (hb5.mono hb04.size)
          go_wp2
          go_ret
          exact ⟨rfl, hfin⟩
      · obtain rfl : k = m := by omega
        obtain ⟨h1, h2⟩ := HF.out k (Nat.le_refl _) HT.out (fun h => absurd h hlt)
        rw [if_neg hlt] at h1
        rw [decide_eq_false hlt] at h2
        subst h1
        subst h2
        clear HF
        go_wp2_with fail
        refine HA4.out.mono ?_
        rintro e w5 ⟨rfl, hb5⟩
        have hfin := hb04.trans (hb5.mono hb04.size)
        go_wp2
        go_ret
        exact ⟨rfl, hfin⟩
end Go.Proofs.Ytniphmfkccaccaa
