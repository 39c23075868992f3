/- SymtabStays, walked. -/
import Derived.Test.YtagmlpenhogoeaaSymLaw
import Derived.Test.YtagmlpenhogoeaaArgsO
namespace Go.Proofs.Ytagmlpenhogoeaa
open Go.RowKit Go.ChangeShapes cl

theorem put_nil {c : Int} (hc : 0 < c) (s : ByteArray) (hs : s.size ≤ 600) : tb.put c [] s = ([(s, 1)], 0, 0) := by
  have h1 : tb.find [] s = 0 := rfl
  have h2 : tb.free [] = 0 := rfl
  rw [tb.put, if_neg (by omega), h1, h2, if_neg (by decide), if_neg (by show ¬ ((0 : Nat) : Int) = c; omega), if_neg (by decide)]
  rfl
/-- the text s stands at place 0 -/
def First (s : ByteArray) (L : List tb.Sym) : Prop := 0 < L.length ∧ 0 < (tb.at_ L 0).2 ∧ (tb.at_ L 0).1 = s
theorem first_find {c : Int} {s : ByteArray} {L : List tb.Sym} (hr : tb.Right c L) (h : First s L) : tb.find L s = 0 := tb.find_right hr h.1 h.2
theorem find_first {c : Int} {s : ByteArray} {L : List tb.Sym} {vs : Value} {W : World} (hr : tb.Right c L) (hf : First s L) (ht : Tabs W W.heap.size vs L) :
    Calls Try.prog 22 #[.agg #[vs, .int .i64 c], .string s] W (fun e w' => e = .returned (.tuple #[.int .i64 0, .bool true]) ∧ Below W.heap.size W w') := by
  have h := find_any c L s vs W ht
  unfold FindP at h
  rw [first_find hr hf, if_pos hf.1, decide_eq_true hf.1] at h
  exact h
theorem first_put {c : Int} {s t : ByteArray} {L : List tb.Sym} (h : First s L) : First s (tb.put c L t).1 := by
  obtain ⟨h0, h1, h2⟩ := h
  unfold tb.put
  by_cases h6 : 600 < t.size
  · rw [if_pos h6]; exact ⟨h0, h1, h2⟩
  rw [if_neg h6]
  by_cases hf : tb.find L t < L.length
  · rw [if_pos hf]
    by_cases hm : (tb.at_ L (tb.find L t)).2 = 1099511627776
    · rw [if_pos hm]; exact ⟨h0, h1, h2⟩
    · rw [if_neg hm]
      obtain ⟨g1, g2⟩ := tb.find_yes hf
      refine ⟨by rw [List.length_set]; exact h0, ?_, ?_⟩
      · rw [tb.at_set hf]
        by_cases e : tb.find L t = 0
        · rw [if_pos e]; show 0 < (tb.at_ L (tb.find L t)).2 + 1; omega
        · rw [if_neg e]; exact h1
      · rw [tb.at_set hf]
        by_cases e : tb.find L t = 0
        · rw [if_pos e]; rw [e] at g2; exact g2.symm.trans h2
        · rw [if_neg e]; exact h2
  rw [if_neg hf]
  by_cases hc : (tb.free L : Int) = c
  · rw [if_pos hc]; exact ⟨h0, h1, h2⟩
  rw [if_neg hc]
  by_cases hfr : tb.free L < L.length
  · rw [if_pos hfr]
    have hz := tb.free_yes hfr
    have hne : ¬ tb.free L = 0 := fun e => by rw [e] at hz; omega
    refine ⟨by rw [List.length_set]; exact h0, ?_, ?_⟩
    · rw [tb.at_set hfr, if_neg hne]; exact h1
    · rw [tb.at_set hfr, if_neg hne]; exact h2
  · rw [if_neg hfr]
    refine ⟨by rw [List.length_append]; omega, ?_, ?_⟩
    · rw [tb.at_snoc, if_pos h0]; exact h1
    · rw [tb.at_snoc, if_pos h0]; exact h2
theorem first_drop {s : ByteArray} {id : Int} {L : List tb.Sym} (h : First s L) (hid : id ≠ 0) : First s (tb.drop L id).1 := by
  obtain ⟨h0, h1, h2⟩ := h
  unfold tb.drop
  by_cases hu : tb.used L id = true
  · rw [if_pos hu]
    unfold tb.used at hu
    obtain ⟨g0, g1, _⟩ := of_decide_eq_true hu
    have hne : ¬ id.toNat = 0 := by omega
    refine ⟨by rw [List.length_set]; exact h0, ?_, ?_⟩
    · rw [tb.at_set (by omega), if_neg hne]; exact h1
    · rw [tb.at_set (by omega), if_neg hne]; exact h2
  · rw [if_neg hu]; exact ⟨h0, h1, h2⟩
theorem drop_code (L : List tb.Sym) (id : Int) : (tb.drop L id).2 = 0 ∨ ((tb.drop L id).2 = 5 ∧ (tb.drop L id).1 = L) := by
  unfold tb.drop
  split
  · exact Or.inl rfl
  · exact Or.inr ⟨rfl, rfl⟩
theorem put_code (c : Int) (L : List tb.Sym) (s : ByteArray) : (tb.put c L s).2.2 = 0 ∨ ((tb.put c L s).2.2 ≠ 0 ∧ (tb.put c L s).1 = L) := by
  unfold tb.put
  split
  · exact Or.inr ⟨by show (4 : Int) ≠ 0; decide, rfl⟩
  · split
    · split
      · exact Or.inr ⟨by show (7 : Int) ≠ 0; decide, rfl⟩
      · exact Or.inl rfl
    · split
      · exact Or.inr ⟨by show (7 : Int) ≠ 0; decide, rfl⟩
      · split <;> exact Or.inl rfl

set_option maxHeartbeats 6400000 in
set_option maxRecDepth 100000 in
theorem stays_any (s : ByteArray) (l : List Op3) (v : Value) (w : World) (hsm : s.size ≤ maxLen) (hlw : ∀ x ∈ l, x.2.2.size ≤ maxLen) (h : Ops w w.heap.size v l) :
    Calls Try.prog 5 #[.string s, v] w (Said true w) := by
  unfold maxLen at hsm
  have HAW : Hid (∀ W, Calls Try.prog 9 #[] W (Said true W)) := fun W => awake_any W
  obtain ⟨q, hq⟩ : ∃ q, q = l.length := ⟨_, rfl⟩
  obtain ⟨so, sc, rfl, hqm⟩ : ∃ ao cap, v = .slice ao q cap ∧ q ≤ maxLen := by
    obtain ⟨ao, cap, e, _, hm⟩ := h.form
    exact ⟨ao, cap, by rw [hq]; exact e, by rw [hq]; exact hm⟩
  unfold maxLen at hqm
  have HC := Lib.hid h
  have HQ := Lib.hid hq
  have HLW := Lib.hid hlw
  clear h hq hlw
  by_cases hs1 : 100 < s.size
  · have hsI : (100 : Int) < (s.size : Int) := by omega
    go_enter Try.func5, Try.ntmps5
    go_wp2_with fail
    (with_reducible refine (HAW.out _).mono ?_)
    rintro e w1 ⟨rfl, hb1⟩
    go_wp2
    go_ret
    exact ⟨rfl, hb1⟩
  have hsI : ¬ (100 : Int) < (s.size : Int) := by omega
  by_cases hq1 : 100 < q
  · have hqI : (100 : Int) < (q : Int) := by omega
    go_enter Try.func5, Try.ntmps5
    go_wp2_with fail
    (with_reducible refine (HAW.out _).mono ?_)
    rintro e w1 ⟨rfl, hb1⟩
    go_wp2
    go_ret
    exact ⟨rfl, hb1⟩
  have hqI : ¬ (100 : Int) < (q : Int) := by omega
  have P1 : Hid (∀ W, Calls Try.prog 10 #[.agg #[.slice none 0 0, .int .i64 20], .string s] W (fun e w' => ∃ (ao : Option Addr) (cap : Nat), e = .returned (.tuple #[.agg #[.slice ao 1 cap, .int .i64 20], .int .i64 0, .int .i64 0]) ∧ Tabs w' w'.heap.size (.slice ao 1 cap) [(s, 1)] ∧ Below W.heap.size W w')) := fun W => by
    have h := put_right 20 [] s (.slice none 0 0) W (tb.right_nil (by decide) (by decide)) (by unfold maxLen; omega) (Cells.nil _ _ _)
    rw [put_nil (by decide) s (by omega)] at h
    exact h.mono fun e w' ⟨ao, cap, h1, _, h2, h3⟩ => ⟨ao, cap, h1, h2, h3⟩
  have HR0 : Hid (tb.Right 20 [(s, 1)] ∧ First s [(s, 1)]) := by
    have h := tb.right_put (s := s) (tb.right_nil (c := 20) (by decide) (by decide))
    rw [put_nil (by decide) s (by omega)] at h
    exact ⟨h, Nat.one_pos, (by show (0 : Int) < 1; decide), rfl⟩
  go_enter Try.func5, Try.ntmps5
  go_wp2_with fail
  (with_reducible refine (new_20 _).mono ?_)
  rintro e w1 ⟨rfl, hb1⟩
  go_wp2_with fail
  (with_reducible refine (P1.out _).mono ?_)
  rintro e w2 ⟨a2, c2, rfl, ht2, hb2⟩
  have hbW2 := hb1.trans (hb2.mono hb1.size)
  have HS2 := Lib.hid (St.start (w := w) (c := 20) (t := 24) ht2 (Tabs.lt ht2 Nat.one_pos) hbW2)
  clear ht2
  go_wp2
  go_loopw [9, 10, 11, 12, 13, 14, 15, 16, 37] (fun _ _ _ _ _ _ _ _ u wr => ∃ (i : Nat) (L : List tb.Sym) (ao : Option Addr) (n cap : Nat), u = .int .i64 i ∧ i ≤ q ∧ Hid (n = L.length) ∧ Hid (tb.Right 20 L ∧ First s L) ∧ Hid (St w w2.heap.size 20 L ao n cap wr)) (fun _ _ _ _ _ _ _ _ u _ => q - (intOf u).toNat)
  case atStart => exact ⟨0, [(s, 1)], a2, 1, c2, rfl, by omega, rfl, HR0.out, HS2.out⟩
  case round =>
    obtain ⟨i, L, ao, n, cap, rfl, hi, HNL, HRF, HS⟩ := hrel
    by_cases hlt : i < q
    · have hiI : (i : Int) < (q : Int) := by omega
      obtain ⟨_, _, q0, q1, f0, f1, hblr, hB1, hB2⟩ := HS.out
      obtain ⟨b, off, rfl, hB, p0, p1, p2⟩ := Ops.get HC.out HQ.out hlt
      have e0 := (hblr.cell (p := ⟨b, off + i * 3, none⟩) hB).trans p0
      have e1 := (hblr.cell (p := ⟨b, off + i * 3 + 1, none⟩) hB).trans p1
      have e2 := (hblr.cell (p := ⟨b, off + i * 3 + 2, none⟩) hB).trans p2
      have hxw : (l.getD i (0, 0, .empty)).2.2.size ≤ maxLen := HLW.out _ (by simp [List.getD, show i < l.length by rw [← HQ.out]; exact hlt])
      obtain ⟨⟨kd, N, S⟩, hx⟩ : ∃ x, x = l.getD i (0, 0, .empty) := ⟨_, rfl⟩
      rw [← hx] at e0 e1 e2 hxw
      simp only at e0 e1 e2 hxw
      unfold maxLen at hxw
      clear p0 p1 p2 hx
      have hAo : Below wr.heap.size wr (wr.alloc (.cells #[.int .i64 kd, .int .i64 N, .string S] 49)) := (Below.refl _ _).alloc (Nat.le_refl _) _
      have HSA := Lib.hid (HS.out.step hAo)
      by_cases hS7 : 700 < S.size
      · have hSI : (700 : Int) < (S.size : Int) := by omega
        go_wp2_with fail
        (with_reducible refine (HAW.out _).mono ?_)
        rintro e w9 ⟨rfl, hb9⟩
        have hbf := HSA.out.2.2.2.2.2.2.1.trans (hb9.mono HSA.out.2.2.2.2.2.2.1.size)
        go_wp2
        go_ret
        exact ⟨rfl, hbf⟩
      have hSI : ¬ (700 : Int) < (S.size : Int) := by omega
      have hne1 : ¬ w2.heap.size = wr.heap.size := by omega
      by_cases hkd : kd = 1
      · subst hkd
        by_cases hN : N = 0
        · subst hN
          have HF := Lib.hid (find_first HRF.out.1 HRF.out.2 HSA.out.1)
          have hn20 : ¬ (20 : Int) < (n : Int) := by have := HRF.out.1.2.2.1; rw [← HNL.out] at this; omega
          go_wp2_with fail
          (with_reducible refine HF.out.mono ?_)
          rintro e wF ⟨rfl, hbF⟩
          have HSF := Lib.hid (HSA.out.step hbF)
          clear q0 q1 f0 f1
          obtain ⟨_, _, q0, q1, f0, f1, _, _, _⟩ := HSF.out
          go_wp2
          go_roundw
          case rel => exact ⟨i + 1, L, ao, n, cap, by go_num, by omega, HNL.out, HRF.out, HSF.out⟩
          case measure => simp [intOf]; omega
        · have hNb : (N != 0) = true := by simpa using hN
          have hNb2 : (N == 0) = false := by simpa using hN
          have HDC := Lib.hid (drop_code L N)
          have HDR := Lib.hid (And.intro (tb.right_drop (id := N) HRF.out.1) (first_drop HRF.out.2 hN))
          have HD := Lib.hid (drop_right 20 N L (.slice ao n cap) _ HRF.out.1 HSA.out.1)
          obtain ⟨⟨L2, cd⟩, hL2⟩ : ∃ r, r = tb.drop L N := ⟨_, rfl⟩
          rw [← hL2] at HDC HDR HD
          clear hL2 hN
          unfold DropP at HD
          simp only at HD HDC HDR
          obtain ⟨n2, hn2⟩ : ∃ n, n = L2.length := ⟨_, rfl⟩
          rw [← hn2] at HD
          have HN2 := Lib.hid hn2
          clear hn2
          go_wp2_with fail
          (with_reducible refine HD.out.mono ?_)
          rintro e w3 ⟨a3, c3, rfl, hv3, ht3, hb3⟩
          have HS3 := Lib.hid (HSA.out.step hb3)
          have HAP := Lib.hid (St.apart HSA.out hv3)
          have hBx : Below w3.heap.size w3 (w3.alloc (.cells #[.slice a3 n2 c3, .int .i64 20] 24)) := (Below.refl _ _).alloc (Nat.le_refl _) _
          have HS4 := Lib.hid (HS3.out.step hBx)
          have HT4 := Lib.hid (Cells.next ht3 hBx)
          have hne3 : ¬ w2.heap.size = w3.heap.size := by have := hb3.size; simp at this; omega
          have hne4 : ¬ w3.heap.size = w2.heap.size := fun e => hne3 e.symm
          clear q0 q1 f0 f1
          obtain ⟨_, _, q0, q1, f0, f1, _, _, hB3⟩ := HS3.out
          by_cases hcd : cd = 0
          · subst hcd
            have HS5 := Lib.hid ((St.store HS3.out ht3 HAP.out).step ((Below.refl _ _).alloc (Nat.le_refl _) (.cells #[.slice a3 n2 c3, .int .i64 20] 24)))
            clear ht3 hv3 hBx
            have HF := Lib.hid (find_first HDR.out.1 HDR.out.2 HS5.out.1)
            have hn20 : ¬ (20 : Int) < (n2 : Int) := by have := HDR.out.1.2.2.1; rw [← HN2.out] at this; omega
            go_wp2_with fail
            (with_reducible refine HF.out.mono ?_)
            rintro e wF ⟨rfl, hbF⟩
            have HSF := Lib.hid (HS5.out.step hbF)
            clear q0 q1 f0 f1
            obtain ⟨_, _, q0, q1, f0, f1, _, _, _⟩ := HSF.out
            go_wp2
            go_roundw
            case rel => exact ⟨i + 1, L2, a3, n2, c3, by go_num, by omega, HN2.out, HDR.out, HSF.out⟩
            case measure => simp [intOf]; omega
          · have hcb : (cd != 0) = true := by simpa using hcd
            have hcb2 : (cd == 0) = false := by simpa using hcd
            have hL : L2 = L := by
              rcases HDC.out with h | h
              · exact absurd h hcd
              · exact h.2
            have HSM := Lib.hid (tsame_eq 20 L2 (.slice a3 n2 c3) (.slice ao n cap) _ HT4.out (by rw [hL]; exact HS4.out.1))
            clear ht3 hv3 hcd hL
            go_wp2_with fail
            (with_reducible refine HSM.out.mono ?_)
            rintro e w6 ⟨rfl, hb6⟩
            have HS6 := Lib.hid (HS4.out.step hb6)
            have HT6 := Lib.hid (Cells.next HT4.out hb6)
            have HS7 := Lib.hid (St.store HS6.out HT6.out HAP.out)
            obtain ⟨x0, x1, _, _, _⟩ := two (w := w3) (w2 := w6) (t := 24) hb6
            clear q0 q1 f0 f1 hBx
            obtain ⟨_, _, q0, q1, f0, f1, _, _, hB6⟩ := HS6.out
            have HF := Lib.hid (find_first HDR.out.1 HDR.out.2 HS7.out.1)
            have hn20 : ¬ (20 : Int) < (n2 : Int) := by have := HDR.out.1.2.2.1; rw [← HN2.out] at this; omega
            go_wp2_with fail
            (with_reducible refine HF.out.mono ?_)
            rintro e wF ⟨rfl, hbF⟩
            have HSF := Lib.hid (HS7.out.step hbF)
            clear q0 q1 f0 f1
            obtain ⟨_, _, q0, q1, f0, f1, _, _, _⟩ := HSF.out
            go_wp2
            go_roundw
            case rel => exact ⟨i + 1, L2, a3, n2, c3, by go_num, by omega, HN2.out, HDR.out, HSF.out⟩
            case measure => simp [intOf]; omega
      · have hkb : (kd == 1) = false := by simpa using hkd
        have hkb2 : (kd != 1) = true := by simpa using hkd
        have HDC := Lib.hid (put_code 20 L S)
        have HDR := Lib.hid (And.intro (tb.right_put (s := S) HRF.out.1) (first_put (c := 20) (t := S) HRF.out.2))
        have HD := Lib.hid (put_right 20 L S (.slice ao n cap) _ HRF.out.1 (by unfold maxLen; omega) HSA.out.1)
        obtain ⟨⟨L2, nn, cd⟩, hL2⟩ : ∃ r, r = tb.put 20 L S := ⟨_, rfl⟩
        rw [← hL2] at HDC HDR HD
        clear hL2 hkd
        unfold PutP at HD
        simp only at HD HDC HDR
        obtain ⟨n2, hn2⟩ : ∃ n, n = L2.length := ⟨_, rfl⟩
        rw [← hn2] at HD
        have HN2 := Lib.hid hn2
        clear hn2
        go_wp2_with fail
        (with_reducible refine HD.out.mono ?_)
        rintro e w3 ⟨a3, c3, rfl, hv3, ht3, hb3⟩
        have HS3 := Lib.hid (HSA.out.step hb3)
        have HAP := Lib.hid (St.apart HSA.out hv3)
        have hBx : Below w3.heap.size w3 (w3.alloc (.cells #[.slice a3 n2 c3, .int .i64 20] 24)) := (Below.refl _ _).alloc (Nat.le_refl _) _
        have HS4 := Lib.hid (HS3.out.step hBx)
        have HT4 := Lib.hid (Cells.next ht3 hBx)
        have hne3 : ¬ w2.heap.size = w3.heap.size := by have := hb3.size; simp at this; omega
        have hne4 : ¬ w3.heap.size = w2.heap.size := fun e => hne3 e.symm
        clear q0 q1 f0 f1
        obtain ⟨_, _, q0, q1, f0, f1, _, _, hB3⟩ := HS3.out
        by_cases hcd : cd = 0
        · subst hcd
          have HS5 := Lib.hid ((St.store HS3.out ht3 HAP.out).step ((Below.refl _ _).alloc (Nat.le_refl _) (.cells #[.slice a3 n2 c3, .int .i64 20] 24)))
          clear ht3 hv3 hBx
          have HF := Lib.hid (find_first HDR.out.1 HDR.out.2 HS5.out.1)
          have hn20 : ¬ (20 : Int) < (n2 : Int) := by have := HDR.out.1.2.2.1; rw [← HN2.out] at this; omega
          go_wp2_with fail
          (with_reducible refine HF.out.mono ?_)
          rintro e wF ⟨rfl, hbF⟩
          have HSF := Lib.hid (HS5.out.step hbF)
          clear q0 q1 f0 f1
          obtain ⟨_, _, q0, q1, f0, f1, _, _, _⟩ := HSF.out
          go_wp2
          go_roundw
          case rel => exact ⟨i + 1, L2, a3, n2, c3, by go_num, by omega, HN2.out, HDR.out, HSF.out⟩
          case measure => simp [intOf]; omega
        · have hcb : (cd != 0) = true := by simpa using hcd
          have hcb2 : (cd == 0) = false := by simpa using hcd
          have hL : L2 = L := by
            rcases HDC.out with h | h
            · exact absurd h hcd
            · exact h.2
          have HSM := Lib.hid (tsame_eq 20 L2 (.slice a3 n2 c3) (.slice ao n cap) _ HT4.out (by rw [hL]; exact HS4.out.1))
          clear ht3 hv3 hcd hL
          go_wp2_with fail
          (with_reducible refine HSM.out.mono ?_)
          rintro e w6 ⟨rfl, hb6⟩
          have HS6 := Lib.hid (HS4.out.step hb6)
          have HT6 := Lib.hid (Cells.next HT4.out hb6)
          have HS7 := Lib.hid (St.store HS6.out HT6.out HAP.out)
          obtain ⟨x0, x1, _, _, _⟩ := two (w := w3) (w2 := w6) (t := 24) hb6
          clear q0 q1 f0 f1 hBx
          obtain ⟨_, _, q0, q1, f0, f1, _, _, hB6⟩ := HS6.out
          have HF := Lib.hid (find_first HDR.out.1 HDR.out.2 HS7.out.1)
          have hn20 : ¬ (20 : Int) < (n2 : Int) := by have := HDR.out.1.2.2.1; rw [← HN2.out] at this; omega
          go_wp2_with fail
          (with_reducible refine HF.out.mono ?_)
          rintro e wF ⟨rfl, hbF⟩
          have HSF := Lib.hid (HS7.out.step hbF)
          clear q0 q1 f0 f1
          obtain ⟨_, _, q0, q1, f0, f1, _, _, _⟩ := HSF.out
          go_wp2
          go_roundw
          case rel => exact ⟨i + 1, L2, a3, n2, c3, by go_num, by omega, HN2.out, HDR.out, HSF.out⟩
          case measure => simp [intOf]; omega
    · obtain rfl : i = q := by omega
      go_wp2_with fail
      (with_reducible refine (HAW.out _).mono ?_)
      rintro e w9 ⟨rfl, hb9⟩
      have hbf := HS.out.2.2.2.2.2.2.1.trans (hb9.mono HS.out.2.2.2.2.2.2.1.size)
      go_wp2
      go_ret
      exact ⟨rfl, hbf⟩
end Go.Proofs.Ytagmlpenhogoeaa
