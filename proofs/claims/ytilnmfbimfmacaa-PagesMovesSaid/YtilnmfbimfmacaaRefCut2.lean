/- the document's Cut. -/
import Derived.Test.YtilnmfbimfmacaaPRefCut
namespace Go.Proofs.Ytilnmfbimfmacaa
open Go.RowKit Go.ChangeShapes Go.Joins cl pg

set_option maxHeartbeats 1600000 in
set_option maxRecDepth 100000 in
theorem rcut_any (l : List ByteArray) (v : Value) (a : ByteArray) (most : Int) (w : World) (h : Strs w w.heap.size v l) (hr : Ris l) (hl : l.length ≤ 200) :
    Calls Try.prog 11 #[v, .string a, .int .i64 most] w (RetPage (cut l a most) w) := by
  have HBe : Hid (∀ W : World, Below w.heap.size w W → Calls Try.prog 23 #[v, .string a] W (fun e w' => e = .returned (.int .i64 (beh l a : Nat)) ∧ W = w')) := fun W hb => from_any l v a W ((h.below hb).mono hb.size) hr hl
  have HC := Lib.hid h
  obtain ⟨ao, cap, rfl, hcap, _⟩ := h.form
  have hBl := beh_le l a
  obtain ⟨B, hB⟩ : ∃ B, B = beh l a := ⟨_, rfl⟩
  have HB := Lib.hid hB
  rw [← hB] at HBe hBl
  clear h hr hB
  obtain ⟨n, hn⟩ : ∃ n, n = l.length := ⟨_, rfl⟩
  have HN := Lib.hid hn
  have HC' : Hid (Strs w w.heap.size (.slice ao n cap) l) := by show Strs _ _ _ _; rw [hn]; exact HC.out
  rw [← hn] at hl hcap hBl HBe
  rw [← hn]
  clear hn HC
  have HS := Lib.hid (HC'.out.drop HN.out hBl)
  have hA : Below w.heap.size w (w.alloc (.cells #[.slice none 0 0, .string .empty, .bool false] 26)) := (Below.refl _ _).alloc (Nat.le_refl _) _
  obtain ⟨m, hm⟩ : ∃ m, m = clamp most (n - B) := ⟨_, rfl⟩
  have hml : m ≤ n - B := by rw [hm]; exact clamp_le _ _
  obtain ⟨T, hT⟩ : ∃ T, T = (l.drop B).take m := ⟨_, rfl⟩
  obtain ⟨x, hx⟩ : ∃ x, x = l.getD (B + m - 1) .empty := ⟨_, rfl⟩
  have HR : Hid (cut l a most = ⟨T, if m = 0 then a else x, decide (B + m < n)⟩) := by
    show _ = _
    unfold cut cutTo
    rw [← HB.out, ← HN.out, ← hm, ← hT, ← hx]
  have hdl : m = T.length := by rw [hT, List.length_take, List.length_drop, ← HN.out]; omega
  have HDL := Lib.hid hdl
  have HT : Hid (∀ W : World, Below w.heap.size w W → Strs W W.heap.size (.slice (Option.map (fun x => x.add B) ao) m (cap - B)) T) := fun W hb => by
    rw [hT]
    exact ((HS.out.take (by rw [List.length_drop, ← HN.out]) hml).below hb).mono hb.size
  have HX := Lib.hid hx
  clear hdl HS hT hx
  rw [HR.out]
  clear HR
  by_cases hlow : most < 1
  · have hm0 : m = 0 := by rw [hm]; unfold clamp; rw [if_pos hlow]
    subst hm0
    obtain ⟨r, hr⟩ : ∃ r, r = decide (B + 0 < n) := ⟨_, rfl⟩
    have hr2 : decide (B < n) = r := by rw [hr]; rfl
    have HTe : Hid (T = []) := List.eq_nil_of_length_eq_zero HDL.out.symm
    rw [← hr, if_pos rfl, HTe.out]
    clear hm hr HC' HT HX
    go_enter Try.func11, Try.ntmps11
    go_wp2_with fail
    refine (HBe.out _ hA).mono ?_
    rintro e w1 ⟨rfl, rfl⟩
    go_wp2
    refine bodyPost_ret (v := .agg #[.slice none 0 0, .string a, .bool r]) (by simp [results, Try.results11, go_sem]) rfl ⟨_, rfl, World.ownsRow_nil _ _ _ _, (Below.refl _ _).alloc (Nat.le_refl _) _⟩
  · have hmI : min most ((n : Int) - (B : Int)) = (m : Int) := by
      rw [hm]; unfold clamp; rw [if_neg hlow]
      split <;> omega
    have HM := Lib.hid hm
    obtain ⟨u, hu⟩ : ∃ u, u = B + m := ⟨_, rfl⟩
    have huI : (B : Int) + (m : Int) = (u : Int) := by omega
    have hum : u - B = m := by omega
    have hun : u ≤ n := by omega
    rw [← hu]
    obtain ⟨r, hr⟩ : ∃ r, r = decide (u < n) := ⟨_, rfl⟩
    have hr2 : decide (u < n) = r := hr.symm
    rw [← hr]
    clear hm hr
    have hR : Below (w.heap.size + 1) (w.alloc (.cells #[.slice none 0 0, .string .empty, .bool false] 26)) ((w.alloc (.cells #[.slice none 0 0, .string .empty, .bool false] 26)).alloc (.cells #[] 9)) := (Below.refl _ _).alloc (by simp) _
    have hA2 : Below w.heap.size w ((w.alloc (.cells #[.slice none 0 0, .string .empty, .bool false] 26)).alloc (.cells #[] 9)) := hA.alloc (by simp) _
    have HO0 : Hid (((w.alloc (.cells #[.slice none 0 0, .string .empty, .bool false] 26)).alloc (.cells #[] 9)).ownsRow (w.heap.size + 1) 9 1 (.slice (some ⟨w.heap.size + 1, 0, none⟩) 0 0) 0 []) := by
      show World.ownsRow _ _ _ _ _ _ _
      simpa using own_none (w := (w.alloc (.cells #[.slice none 0 0, .string .empty, .bool false] 26))) (W := (w.alloc (.cells #[.slice none 0 0, .string .empty, .bool false] 26))) 9 (Nat.le_refl _) 1
    by_cases hm0 : m = 0
    · rw [if_pos hm0]
      have hbu : ¬ B < u := by omega
      have HTe : Hid (T = []) := List.eq_nil_of_length_eq_zero (by rw [← HDL.out]; exact hm0)
      subst hm0
      cases ao with
      | none =>
        obtain ⟨hn0, hc0⟩ := HC'.out.news'.1 rfl
        have hB0 : B = 0 := by omega
        have hu0 : u = 0 := by omega
        subst hn0
        subst hc0
        subst hB0
        subst hu0
        obtain rfl : r = false := by rw [← hr2]; exact decide_eq_false (by omega)
        have hm00 : min most (0 : Int) = 0 := by omega
        clear HT HC' hcap hu hmI huI hum hun hbu hml
        go_enter Try.func11, Try.ntmps11
        go_wp2_with fail
        refine (HBe.out _ hA).mono ?_
        rintro e w1 ⟨rfl, rfl⟩
        go_wp2_with (at_builtin; refine kit.appN (.tmp 31) (.tmp 35) 22 rfl rfl (w.heap.size + 1) Try.underlying22 infoStr rfl (by decide) (by decide) HO0.out rfl (cl.strs T) rfl (by rw [strs_len]; have := HDL.out; omega) (fun _ => ⟨rfl, rfl⟩) (fun _ e => by cases e) strs_one (by omega) (by simp) ?_)
        intro v1 w1 ho1 hba
        have hbR := hR.trans hba
        have hb1 : Below w.heap.size w w1 := hA.trans (hbR.mono (Nat.le_succ _))
        obtain ⟨q0, q1, q2, f0, f1, f2, hz⟩ := three (show Below (w.alloc (.cells #[.slice none 0 0, .string .empty, .bool false] 26)).heap.size (w.alloc (.cells #[.slice none 0 0, .string .empty, .bool false] 26)) w1 by simpa using hbR)
        have HO : Hid (w1.ownsRow (w.heap.size + 1) 9 1 v1 0 (cl.strs T)) := by
          show World.ownsRow _ _ _ _ _ _ _
          simpa using ho1
        obtain ⟨a1, c1, rfl, hc1⟩ := (own_next (w := w) (show w1.ownsRow w.heap.size 9 1 v1 0 (cl.strs T) from ownsRow_le HO.out (Nat.le_succ _)) HDL.out).form' HDL.out
        clear ho1 hba hbR
        go_wp2
        refine bodyPost_ret (v := .agg #[.slice a1 0 c1, .string a, .bool false]) (by simp [results, Try.results11, go_sem, hz, q0, q1, q2]) rfl ⟨_, rfl, ?_, ?_⟩
        · exact page_own HO.out HDL.out (Nat.lt_succ_self _)
        · exact page_below hb1
      | some a' =>
        by_cases hck : cap = B
        · have hnB : n = B := by omega
          subst hck
          subst hnB
          have huB : u = n := by omega
          subst huB
          obtain rfl : r = false := by rw [← hr2]; exact decide_eq_false (by omega)
          have hm00 : min most (0 : Int) = 0 := by omega
          clear HT HC' hcap hu hmI huI hum hun hbu hml
          go_enter Try.func11, Try.ntmps11
          go_wp2_with fail
          refine (HBe.out _ hA).mono ?_
          rintro e w1 ⟨rfl, rfl⟩
          go_wp2_with (at_builtin; refine kit.appN (.tmp 31) (.tmp 35) 22 rfl rfl (w.heap.size + 1) Try.underlying22 infoStr rfl (by decide) (by decide) HO0.out rfl (cl.strs T) rfl (by rw [strs_len]; have := HDL.out; omega) (fun e => by cases e) (fun _ _ j x hj => by rw [HTe.out] at hj; simp [cl.strs] at hj) strs_one (by omega) (by simp) ?_)
          intro v1 w1 ho1 hba
          have hbR := hR.trans hba
          have hb1 : Below w.heap.size w w1 := hA.trans (hbR.mono (Nat.le_succ _))
          obtain ⟨q0, q1, q2, f0, f1, f2, hz⟩ := three (show Below (w.alloc (.cells #[.slice none 0 0, .string .empty, .bool false] 26)).heap.size (w.alloc (.cells #[.slice none 0 0, .string .empty, .bool false] 26)) w1 by simpa using hbR)
          have HO : Hid (w1.ownsRow (w.heap.size + 1) 9 1 v1 0 (cl.strs T)) := by
            show World.ownsRow _ _ _ _ _ _ _
            simpa using ho1
          obtain ⟨a1, c1, rfl, hc1⟩ := (own_next (w := w) (show w1.ownsRow w.heap.size 9 1 v1 0 (cl.strs T) from ownsRow_le HO.out (Nat.le_succ _)) HDL.out).form' HDL.out
          clear ho1 hba hbR
          go_wp2
          refine bodyPost_ret (v := .agg #[.slice a1 0 c1, .string a, .bool false]) (by simp [results, Try.results11, go_sem, hz, q0, q1, q2]) rfl ⟨_, rfl, ?_, ?_⟩
          · exact page_own HO.out HDL.out (Nat.lt_succ_self _)
          · exact page_below hb1
        · have hckI : ¬ (cap : Int) = (B : Int) := by omega
          have huB : u = B := by omega
          subst huB
          clear HT HC' hu
          go_enter Try.func11, Try.ntmps11
          go_wp2_with fail
          refine (HBe.out _ hA).mono ?_
          rintro e w1 ⟨rfl, rfl⟩
          go_wp2_with (at_builtin; refine kit.appN (.tmp 31) (.tmp 35) 22 rfl rfl (w.heap.size + 1) Try.underlying22 infoStr rfl (by decide) (by decide) HO0.out rfl (cl.strs T) rfl (by rw [strs_len]; have := HDL.out; omega) (fun e => by cases e) (fun _ _ j x hj => by rw [HTe.out] at hj; simp [cl.strs] at hj) strs_one (by omega) (by simp) ?_)
          intro v1 w1 ho1 hba
          have hbR := hR.trans hba
          have hb1 : Below w.heap.size w w1 := hA.trans (hbR.mono (Nat.le_succ _))
          obtain ⟨q0, q1, q2, f0, f1, f2, hz⟩ := three (show Below (w.alloc (.cells #[.slice none 0 0, .string .empty, .bool false] 26)).heap.size (w.alloc (.cells #[.slice none 0 0, .string .empty, .bool false] 26)) w1 by simpa using hbR)
          have HO : Hid (w1.ownsRow (w.heap.size + 1) 9 1 v1 0 (cl.strs T)) := by
            show World.ownsRow _ _ _ _ _ _ _
            simpa using ho1
          obtain ⟨a1, c1, rfl, hc1⟩ := (own_next (w := w) (show w1.ownsRow w.heap.size 9 1 v1 0 (cl.strs T) from ownsRow_le HO.out (Nat.le_succ _)) HDL.out).form' HDL.out
          clear ho1 hba hbR
          go_wp2
          refine bodyPost_ret (v := .agg #[.slice a1 0 c1, .string a, .bool r]) (by simp [results, Try.results11, go_sem, hz, q0, q1, q2]) rfl ⟨_, rfl, ?_, ?_⟩
          · exact page_own HO.out HDL.out (Nat.lt_succ_self _)
          · exact page_below hb1
    · have hck : ¬ cap = B := by omega
      have hckI : ¬ (cap : Int) = (B : Int) := by omega
      obtain ⟨b, o, cap', e, _, hBb, hcell⟩ := HC'.out.addr' HN.out (by omega)
      simp only [Value.slice.injEq] at e
      obtain ⟨rfl, _, rfl⟩ := e
      have hNW := (HT.out _ hA2).news'
      simp only [Option.map_some, Addr.add_lit] at hNW
      have HNW := Lib.hid hNW
      have k1 := hcell (u - 1) (by omega)
      have e1 : l.getD (u - 1) .empty = x := by rw [HX.out, hu]
      rw [e1] at k1
      have hbu : B < u := by omega
      rw [if_neg hm0]
      clear hcell HT HC' e1 hu hNW
      go_enter Try.func11, Try.ntmps11
      go_wp2_with fail
      refine (HBe.out _ hA).mono ?_
      rintro e w1 ⟨rfl, rfl⟩
      go_wp2_with (at_builtin; refine kit.appN (.tmp 31) (.tmp 35) 22 rfl rfl (w.heap.size + 1) Try.underlying22 infoStr rfl (by decide) (by decide) HO0.out rfl (cl.strs T) rfl (by rw [strs_len]; have := HDL.out; omega) HNW.out.1 HNW.out.2 strs_one (by omega) (by simp) ?_)
      intro v1 w1 ho1 hba
      have hbR := hR.trans hba
      have hb1 : Below w.heap.size w w1 := hA.trans (hbR.mono (Nat.le_succ _))
      obtain ⟨q0, q1, q2, f0, f1, f2, hz⟩ := three (show Below (w.alloc (.cells #[.slice none 0 0, .string .empty, .bool false] 26)).heap.size (w.alloc (.cells #[.slice none 0 0, .string .empty, .bool false] 26)) w1 by simpa using hbR)
      have HO : Hid (w1.ownsRow (w.heap.size + 1) 9 1 v1 m (cl.strs T)) := by
        show World.ownsRow _ _ _ _ _ _ _
        simpa using ho1
      obtain ⟨a1, c1, rfl, hc1⟩ := (own_next (w := w) (show w1.ownsRow w.heap.size 9 1 v1 m (cl.strs T) from ownsRow_le HO.out (Nat.le_succ _)) HDL.out).form' HDL.out
      have k2 := (hb1.cell (p := ⟨b, o + (u - 1), none⟩) hBb).trans k1
      have hbw : b < w1.heap.size := by omega
      clear ho1 hba hbR
      go_wp2
      refine bodyPost_ret (v := .agg #[.slice a1 m c1, .string x, .bool r]) (by simp [results, Try.results11, go_sem, hz, q0, q1, q2]) rfl ⟨_, rfl, ?_, ?_⟩
      · exact page_own HO.out HDL.out (Nat.lt_succ_self _)
      · exact page_below hb1
end Go.Proofs.Ytilnmfbimfmacaa
