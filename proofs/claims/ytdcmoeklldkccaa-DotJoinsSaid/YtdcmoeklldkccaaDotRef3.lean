/- the document's Same, own. -/
import Derived.Test.YtdcmoeklldkccaaDotBox
import Derived.Test.YtdcmoeklldkccaaDotRef1
import Derived.Test.YtdcmoeklldkccaaAppZ
namespace Go.Proofs.Ytdcmoeklldkccaa
open Go Go.RowKit Go.ChangeShapes cl Go.Sort

set_option maxHeartbeats 8000000 in
set_option maxRecDepth 100000 in
theorem rsame_any (a b : dm.Ctx) (va vb : Value) (w : World) (ha : CtxAt w w.heap.size va a) (hb : CtxAt w w.heap.size vb b) : Calls Try.prog 24 #[va, vb] w (Said (decide (a = b)) w) := by
  obtain ⟨s0, n1, t0, s1, n2, t1, rfl, hn1, hn2⟩ := ha.form
  obtain ⟨u0, m1, v0, u1, m2, v1, rfl, hm1, hm2⟩ := hb.form
  have bd : ∀ {B : Nat} {v : Value} {l : List Dot}, Dots w B v l → l.length ≤ 9223372036854775807 := fun h => by
    obtain ⟨_, _, e, _, h9⟩ := h.form
    unfold maxLen at h9; exact h9
  have f1 : n1 ≤ 9223372036854775807 := by rw [hn1]; exact bd ha.parts.1
  have f2 : n2 ≤ 9223372036854775807 := by rw [hn2]; exact bd ha.parts.2
  have f3 : m1 ≤ 9223372036854775807 := by rw [hm1]; exact bd hb.parts.1
  have f4 : m2 ≤ 9223372036854775807 := by rw [hm2]; exact bd hb.parts.2
  have HNA0 := Lib.hid hn1
  have HNA1 := Lib.hid hn2
  have HNB0' := Lib.hid hm1
  have HNB1' := Lib.hid hm2
  have HCA := Lib.hid ha
  have HCB := Lib.hid hb
  obtain ⟨R, hR⟩ : ∃ R, R = decide (a = b) := ⟨_, rfl⟩
  have HF : Hid (¬ a = b → R = false) := fun h => by rw [hR]; exact decide_eq_false h
  have HT9 : Hid (a = b → R = true) := fun h => by rw [hR]; exact decide_eq_true h
  rw [← hR]
  obtain ⟨w1, hw1⟩ : ∃ W, W = (w.alloc (.cells #[.slice s0 n1 t0, .slice s1 n2 t1] 24)).alloc (.cells #[.slice u0 m1 v0, .slice u1 m2 v1] 24) := ⟨_, rfl⟩
  have E1 : Below w.heap.size w w1 := by rw [hw1]; exact ctx_below.trans (ctx_below.mono (by simp))
  have h0 : w1.cell? ⟨w.heap.size, 0, none⟩ = some (.slice s0 n1 t0) := by rw [hw1]; go_simp
  have h1 : w1.cell? ⟨w.heap.size, 1, none⟩ = some (.slice s1 n2 t1) := by rw [hw1]; go_simp
  have h2 : w1.cell? ⟨w.heap.size + 1, 0, none⟩ = some (.slice u0 m1 v0) := by rw [hw1]; go_simp
  have h3 : w1.cell? ⟨w.heap.size + 1, 1, none⟩ = some (.slice u1 m2 v1) := by rw [hw1]; go_simp
  have hs1 : w.heap.size + 2 ≤ w1.heap.size := by rw [hw1]; simp
  have HX0 : Hid (∀ W, Below w1.heap.size w1 W → W.cell? ⟨w.heap.size, 0, none⟩ = some (.slice s0 n1 t0) ∧ W.cell? ⟨w.heap.size, 1, none⟩ = some (.slice s1 n2 t1) ∧ W.cell? ⟨w.heap.size + 1, 0, none⟩ = some (.slice u0 m1 v0) ∧ W.cell? ⟨w.heap.size + 1, 1, none⟩ = some (.slice u1 m2 v1)) := fun W hW =>
    ⟨(hW.cell (p := ⟨w.heap.size, 0, none⟩) (by show w.heap.size < _; omega)).trans h0, (hW.cell (p := ⟨w.heap.size, 1, none⟩) (by show w.heap.size < _; omega)).trans h1, (hW.cell (p := ⟨w.heap.size + 1, 0, none⟩) (by show w.heap.size + 1 < _; omega)).trans h2, (hW.cell (p := ⟨w.heap.size + 1, 1, none⟩) (by show w.heap.size + 1 < _; omega)).trans h3⟩
  have HW1 := Lib.hid hw1
  have HA0 : Hid (∀ W, Below w1.heap.size w1 W → Dots W W.heap.size (.slice s0 n1 t0) a.1) := fun W hW => (HCA.out.next (E1.trans (hW.mono E1.size))).parts.1
  have HA1 : Hid (∀ W, Below w1.heap.size w1 W → Dots W W.heap.size (.slice s1 n2 t1) a.2) := fun W hW => (HCA.out.next (E1.trans (hW.mono E1.size))).parts.2
  have HB0' : Hid (∀ W, Below w1.heap.size w1 W → Dots W W.heap.size (.slice u0 m1 v0) b.1) := fun W hW => (HCB.out.next (E1.trans (hW.mono E1.size))).parts.1
  have HB1' : Hid (∀ W, Below w1.heap.size w1 W → Dots W W.heap.size (.slice u1 m2 v1) b.2) := fun W hW => (HCB.out.next (E1.trans (hW.mono E1.size))).parts.2
  have D0 : Below w1.heap.size w1 w1 := Below.refl _ _
  rw [hw1] at h0 h1 h2 h3
  clear hw1 hR ha hb hn1 hn2 hm1 hm2 bd
  by_cases e1 : n1 = m1
  · by_cases e2 : n2 = m2
    · subst e1
      subst e2
      have HNB0 := HNB0'
      have HNB1 := HNB1'
      have HX := HX0
      have HB0 := HB0'
      have HB1 := HB1'
      have HLE0 : Hid (a.1.length = b.1.length) := HNA0.out.symm.trans HNB0.out
      have HLE1 : Hid (a.2.length = b.2.length) := HNA1.out.symm.trans HNB1.out
      go_enter Try.func24, Try.ntmps24
      go_wp2
      rw [← HW1.out]
      clear h0 h1 h2 h3
      go_loopw [26, 40] (fun i _ wr => ∃ k : Nat, i = .int .i64 k ∧ k ≤ n1 ∧ Hid (a.1.take k = b.1.take k) ∧ Below w1.heap.size w1 wr) (fun i _ _ => n1 - (intOf i).toNat)
      case atStart => exact ⟨0, rfl, Nat.zero_le _, rfl, D0⟩
      case round =>
        clear D0
        rename World => wr
        obtain ⟨k, rfl, hk, HT, D⟩ := hrel
        by_cases hlt : k < n1
        · obtain ⟨ba, oa, rfl, hBa, g0, g1⟩ := Dots.get (HA0.out _ D) HNA0.out hlt
          obtain ⟨bb, ob, rfl, hBb, g2, g3⟩ := Dots.get (HB0.out _ D) HNB0.out hlt
          have HAW0 : Hid (∀ W, Below w1.heap.size w1 W → W.cell? ⟨ba, oa + k * 2, none⟩ = some (.int .i64 (a.1.getD k (0, 0)).1) ∧ W.cell? ⟨ba, oa + k * 2 + 1, none⟩ = some (.int .i64 (a.1.getD k (0, 0)).2)) := fun W hW => by
            obtain ⟨b0', off', hb0, _, j0, j1⟩ := Dots.get (HA0.out W hW) HNA0.out hlt
            simp only [Option.some.injEq, Addr.mk.injEq] at hb0
            obtain ⟨rfl, rfl, _⟩ := hb0
            exact ⟨j0, j1⟩
          have HBW0 : Hid (∀ W, Below w1.heap.size w1 W → W.cell? ⟨bb, ob + k * 2, none⟩ = some (.int .i64 (b.1.getD k (0, 0)).1) ∧ W.cell? ⟨bb, ob + k * 2 + 1, none⟩ = some (.int .i64 (b.1.getD k (0, 0)).2)) := fun W hW => by
            obtain ⟨b0', off', hb0, _, j0, j1⟩ := Dots.get (HB0.out W hW) HNB0.out hlt
            simp only [Option.some.injEq, Addr.mk.injEq] at hb0
            obtain ⟨rfl, rfl, _⟩ := hb0
            exact ⟨j0, j1⟩
          obtain ⟨⟨x0, x1⟩, hx⟩ : ∃ x, x = a.1.getD k (0, 0) := ⟨_, rfl⟩
          obtain ⟨⟨y0, y1⟩, hy⟩ : ∃ x, x = b.1.getD k (0, 0) := ⟨_, rfl⟩
          rw [← hx] at HAW0
          rw [← hy] at HBW0
          have HAW : Hid (∀ W, Below w1.heap.size w1 W → W.cell? ⟨ba, oa + k * 2, none⟩ = some (.int .i64 x0) ∧ W.cell? ⟨ba, oa + k * 2 + 1, none⟩ = some (.int .i64 x1)) := HAW0.out
          have HBW : Hid (∀ W, Below w1.heap.size w1 W → W.cell? ⟨bb, ob + k * 2, none⟩ = some (.int .i64 y0) ∧ W.cell? ⟨bb, ob + k * 2 + 1, none⟩ = some (.int .i64 y1)) := HBW0.out
          have HXE := Lib.hid hx
          have HYE := Lib.hid hy
          have hkI : (k : Int) < (n1 : Int) := by omega
          have hk0 : (0 : Int) ≤ (k : Int) := by omega
          have HNE : Hid (¬ (x0 = y0 ∧ x1 = y1) → R = false) := fun hne => HF.out (fun e => hne (by
            have : a.1.getD k (0, 0) = b.1.getD k (0, 0) := by rw [e]
            rw [← HXE.out, ← HYE.out] at this
            exact ⟨(Prod.ext_iff.1 this).1, (Prod.ext_iff.1 this).2⟩))
          clear hx hy HAW0 HBW0 g0 g1 g2 g3
          by_cases h0 : x0 = y0
          · subst h0
            by_cases h1 : x1 = y1
            · subst h1
              have HT2 : Hid (a.1.take (k + 1) = b.1.take (k + 1)) := ptake_eq HLE0.out (by rw [← HNA0.out]; exact hlt) HT.out (by rw [← HXE.out, ← HYE.out])
              go_wp2_with fail
              refine wp_flow 11 (fun _ => 1000) (fun ww => RowKit.Below w1.heap.size w1 ww) (fun _ w w' => (fun (w w' : World) => RowKit.Below w.heap.size w w') w w') (fun kF vF wF => match kF with | 0 => (vF = .pointer (some ⟨w.heap.size, 0, none⟩)) | 1 => (vF = .slice (some ⟨ba, oa, none⟩) n1 t0) | 2 => (vF = .int .i64 (k : Int)) | 3 => (vF = .pointer (some ⟨ba, oa + k * 2, none⟩)) | 4 => (vF = .agg #[.int .i64 x0, .int .i64 x1]) | 5 => (vF = .pointer (some ⟨w.heap.size + 1, 0, none⟩)) | 6 => (vF = .slice (some ⟨bb, ob, none⟩) n1 v0) | 7 => (vF = .int .i64 (k : Int)) | 8 => (vF = .pointer (some ⟨bb, ob + k * 2, none⟩)) | 9 => (vF = .agg #[.int .i64 x0, .int .i64 x1]) | 10 => (vF = .bool false) | _ => True) (fun _ _ _ _ => True) (by kernel_rfl) (by kernel_rfl) ?_ ?_ ?_ ?_ ?_
              · exact D.drew
              · intro iF wF1 wF2 hR hT; exact hR.trans (hT.mono hR.size)
              · intro kF hkF iF hiF hne hdd hanc hdan vF wF1 wF2 h hT
                rcases (by omega : kF = 0 ∨ kF = 1 ∨ kF = 2 ∨ kF = 3 ∨ kF = 4 ∨ kF = 5 ∨ kF = 6 ∨ kF = 7 ∨ kF = 8 ∨ kF = 9 ∨ kF = 10) with rfl | rfl | rfl | rfl | rfl | rfl | rfl | rfl | rfl | rfl | rfl
                · exact h
                · exact h
                · exact h
                · exact h
                · exact h
                · exact h
                · exact h
                · exact h
                · exact h
                · exact h
                · exact h
              · refine FlowAll.cons ?_ ?_
                · intro xF wq hR hd K hK
                  clear hd
                  simp only [List.take_succ_cons, List.take_zero, fillOf, Act.put, List.setIfInBounds_toArray, List.set_cons_zero, List.set_cons_succ, Nat.reduceAdd, Nat.zero_add] at hK ⊢
                  obtain hbR := id hR
                  rw [if_pos (by rfl)]
                  go_simp
                  exact hK.out _ _ (Below.refl _ _) (rfl) (fun _ _ _ => ⟨trivial, trivial⟩)
                refine FlowAll.cons ?_ ?_
                · intro xF wq hR hd K hK
                  have dd0 : ((xF 0) = .pointer (some ⟨w.heap.size, 0, none⟩)) := hd 0 (by kernel_rfl)
                  clear hd
                  simp only [List.take_succ_cons, List.take_zero, fillOf, Act.put, List.setIfInBounds_toArray, List.set_cons_zero, List.set_cons_succ, Nat.reduceAdd, Nat.zero_add] at hK ⊢
                  try generalize xF 0 = yx0 at *
                  obtain rfl := dd0
                  obtain hbR := id hR
                  obtain ⟨h0, h1, h2, h3⟩ := HX.out _ hR
                  rw [if_pos (by rfl)]
                  go_simp
                  exact hK.out _ _ (Below.refl _ _) (rfl) (fun _ _ _ => ⟨trivial, trivial⟩)
                refine FlowAll.cons ?_ ?_
                · intro xF wq hR hd K hK
                  clear hd
                  simp only [List.take_succ_cons, List.take_zero, fillOf, Act.put, List.setIfInBounds_toArray, List.set_cons_zero, List.set_cons_succ, Nat.reduceAdd, Nat.zero_add] at hK ⊢
                  obtain hbR := id hR
                  rw [if_pos (by rfl)]
                  go_simp
                  exact hK.out _ _ (Below.refl _ _) (rfl) (fun _ _ _ => ⟨trivial, trivial⟩)
                refine FlowAll.cons ?_ ?_
                · intro xF wq hR hd K hK
                  have dd1 : ((xF 1) = .slice (some ⟨ba, oa, none⟩) n1 t0) := hd 1 (by kernel_rfl)
                  have dd2 : ((xF 2) = .int .i64 (k : Int)) := hd 2 (by kernel_rfl)
                  clear hd
                  simp only [List.take_succ_cons, List.take_zero, fillOf, Act.put, List.setIfInBounds_toArray, List.set_cons_zero, List.set_cons_succ, Nat.reduceAdd, Nat.zero_add] at hK ⊢
                  try generalize xF 1 = yx1 at *
                  try generalize xF 2 = yy2 at *
                  obtain rfl := dd1
                  obtain rfl := dd2
                  obtain hbR := id hR
                  rw [if_pos (by rfl)]
                  go_simp
                  exact hK.out _ _ (Below.refl _ _) (rfl) (fun _ _ _ => ⟨trivial, trivial⟩)
                refine FlowAll.cons ?_ ?_
                · intro xF wq hR hd K hK
                  have dd3 : ((xF 3) = .pointer (some ⟨ba, oa + k * 2, none⟩)) := hd 3 (by kernel_rfl)
                  clear hd
                  simp only [List.take_succ_cons, List.take_zero, fillOf, Act.put, List.setIfInBounds_toArray, List.set_cons_zero, List.set_cons_succ, Nat.reduceAdd, Nat.zero_add] at hK ⊢
                  try generalize xF 3 = yy3 at *
                  obtain rfl := dd3
                  obtain hbR := id hR
                  obtain ⟨h0, h1⟩ := HAW.out _ hR
                  rw [if_pos (by rfl)]
                  go_simp
                  exact hK.out _ _ (Below.refl _ _) (rfl) (fun _ _ _ => ⟨trivial, trivial⟩)
                refine FlowAll.cons ?_ ?_
                · intro xF wq hR hd K hK
                  clear hd
                  simp only [List.take_succ_cons, List.take_zero, fillOf, Act.put, List.setIfInBounds_toArray, List.set_cons_zero, List.set_cons_succ, Nat.reduceAdd, Nat.zero_add] at hK ⊢
                  obtain hbR := id hR
                  rw [if_pos (by rfl)]
                  go_simp
                  exact hK.out _ _ (Below.refl _ _) (rfl) (fun _ _ _ => ⟨trivial, trivial⟩)
                refine FlowAll.cons ?_ ?_
                · intro xF wq hR hd K hK
                  have dd5 : ((xF 5) = .pointer (some ⟨w.heap.size + 1, 0, none⟩)) := hd 5 (by kernel_rfl)
                  clear hd
                  simp only [List.take_succ_cons, List.take_zero, fillOf, Act.put, List.setIfInBounds_toArray, List.set_cons_zero, List.set_cons_succ, Nat.reduceAdd, Nat.zero_add] at hK ⊢
                  try generalize xF 5 = yy5 at *
                  obtain rfl := dd5
                  obtain hbR := id hR
                  obtain ⟨h0, h1, h2, h3⟩ := HX.out _ hR
                  rw [if_pos (by rfl)]
                  go_simp
                  exact hK.out _ _ (Below.refl _ _) (rfl) (fun _ _ _ => ⟨trivial, trivial⟩)
                refine FlowAll.cons ?_ ?_
                · intro xF wq hR hd K hK
                  clear hd
                  simp only [List.take_succ_cons, List.take_zero, fillOf, Act.put, List.setIfInBounds_toArray, List.set_cons_zero, List.set_cons_succ, Nat.reduceAdd, Nat.zero_add] at hK ⊢
                  obtain hbR := id hR
                  rw [if_pos (by rfl)]
                  go_simp
                  exact hK.out _ _ (Below.refl _ _) (rfl) (fun _ _ _ => ⟨trivial, trivial⟩)
                refine FlowAll.cons ?_ ?_
                · intro xF wq hR hd K hK
                  have dd6 : ((xF 6) = .slice (some ⟨bb, ob, none⟩) n1 v0) := hd 6 (by kernel_rfl)
                  have dd7 : ((xF 7) = .int .i64 (k : Int)) := hd 7 (by kernel_rfl)
                  clear hd
                  simp only [List.take_succ_cons, List.take_zero, fillOf, Act.put, List.setIfInBounds_toArray, List.set_cons_zero, List.set_cons_succ, Nat.reduceAdd, Nat.zero_add] at hK ⊢
                  try generalize xF 6 = yy6 at *
                  try generalize xF 7 = yy7 at *
                  obtain rfl := dd6
                  obtain rfl := dd7
                  obtain hbR := id hR
                  rw [if_pos (by rfl)]
                  go_simp
                  exact hK.out _ _ (Below.refl _ _) (rfl) (fun _ _ _ => ⟨trivial, trivial⟩)
                refine FlowAll.cons ?_ ?_
                · intro xF wq hR hd K hK
                  have dd8 : ((xF 8) = .pointer (some ⟨bb, ob + k * 2, none⟩)) := hd 8 (by kernel_rfl)
                  clear hd
                  simp only [List.take_succ_cons, List.take_zero, fillOf, Act.put, List.setIfInBounds_toArray, List.set_cons_zero, List.set_cons_succ, Nat.reduceAdd, Nat.zero_add] at hK ⊢
                  try generalize xF 8 = yy8 at *
                  obtain rfl := dd8
                  obtain hbR := id hR
                  obtain ⟨h0, h1⟩ := HBW.out _ hR
                  rw [if_pos (by rfl)]
                  go_simp
                  exact hK.out _ _ (Below.refl _ _) (rfl) (fun _ _ _ => ⟨trivial, trivial⟩)
                refine FlowAll.cons ?_ ?_
                · intro xF wq hR hd K hK
                  have dd4 : ((xF 4) = .agg #[.int .i64 x0, .int .i64 x1]) := hd 4 (by kernel_rfl)
                  have dd9 : ((xF 9) = .agg #[.int .i64 x0, .int .i64 x1]) := hd 9 (by kernel_rfl)
                  clear hd
                  simp only [List.take_succ_cons, List.take_zero, fillOf, Act.put, List.setIfInBounds_toArray, List.set_cons_zero, List.set_cons_succ, Nat.reduceAdd, Nat.zero_add] at hK ⊢
                  try generalize xF 4 = yy4 at *
                  try generalize xF 9 = yy9 at *
                  obtain rfl := dd4
                  obtain rfl := dd9
                  obtain hbR := id hR
                  rw [if_pos (by rfl)]
                  go_simp
                  exact hK.out _ _ (Below.refl _ _) (rfl) (fun _ _ _ => ⟨trivial, trivial⟩)
                exact FlowAll.nil
              intro xF wq hR hF hP
              clear hP
              have dd0 : ((xF 0) = .pointer (some ⟨w.heap.size, 0, none⟩)) := hF 0 (by omega) (by decide)
              have dd1 : ((xF 1) = .slice (some ⟨ba, oa, none⟩) n1 t0) := hF 1 (by omega) (by decide)
              have dd2 : ((xF 2) = .int .i64 (k : Int)) := hF 2 (by omega) (by decide)
              have dd3 : ((xF 3) = .pointer (some ⟨ba, oa + k * 2, none⟩)) := hF 3 (by omega) (by decide)
              have dd4 : ((xF 4) = .agg #[.int .i64 x0, .int .i64 x1]) := hF 4 (by omega) (by decide)
              have dd5 : ((xF 5) = .pointer (some ⟨w.heap.size + 1, 0, none⟩)) := hF 5 (by omega) (by decide)
              have dd6 : ((xF 6) = .slice (some ⟨bb, ob, none⟩) n1 v0) := hF 6 (by omega) (by decide)
              have dd7 : ((xF 7) = .int .i64 (k : Int)) := hF 7 (by omega) (by decide)
              have dd8 : ((xF 8) = .pointer (some ⟨bb, ob + k * 2, none⟩)) := hF 8 (by omega) (by decide)
              have dd9 : ((xF 9) = .agg #[.int .i64 x0, .int .i64 x1]) := hF 9 (by omega) (by decide)
              have dd10 : ((xF 10) = .bool false) := hF 10 (by omega) (by decide)
              clear hF
              simp only [List.take_succ_cons, List.take_zero, List.drop_succ_cons, List.drop_zero, fillOf, Act.put, List.setIfInBounds_toArray, List.set_cons_zero, List.set_cons_succ, Nat.reduceAdd, Nat.zero_add]
              try generalize xF 0 = yx0 at *
              try generalize xF 1 = yx1 at *
              try generalize xF 2 = yy2 at *
              try generalize xF 3 = yy3 at *
              try generalize xF 4 = yy4 at *
              try generalize xF 5 = yy5 at *
              try generalize xF 6 = yy6 at *
              try generalize xF 7 = yy7 at *
              try generalize xF 8 = yy8 at *
              try generalize xF 9 = yy9 at *
              try generalize xF 10 = yx10 at *
              clear xF
              obtain rfl := dd0
              obtain rfl := dd1
              obtain rfl := dd2
              obtain rfl := dd3
              obtain rfl := dd4
              obtain rfl := dd5
              obtain rfl := dd6
              obtain rfl := dd7
              obtain rfl := dd8
              obtain rfl := dd9
              obtain rfl := dd10
              have hRE := Lib.hid hR
              clear hR
              have D9 := hRE.out
              clear hRE
              go_wp2
              go_roundw
              case rel => exact ⟨k + 1, by go_num, by omega, HT2, D9⟩
              case measure => simp [intOf]; omega
            · obtain rfl : R = false := HNE.out (fun e => h1 e.2)
              have hd : (x1 == y1) = false := by simpa using h1
              go_wp2_with fail
              refine wp_flow 11 (fun _ => 1000) (fun ww => RowKit.Below w1.heap.size w1 ww) (fun _ w w' => (fun (w w' : World) => RowKit.Below w.heap.size w w') w w') (fun kF vF wF => match kF with | 0 => (vF = .pointer (some ⟨w.heap.size, 0, none⟩)) | 1 => (vF = .slice (some ⟨ba, oa, none⟩) n1 t0) | 2 => (vF = .int .i64 (k : Int)) | 3 => (vF = .pointer (some ⟨ba, oa + k * 2, none⟩)) | 4 => (vF = .agg #[.int .i64 x0, .int .i64 x1]) | 5 => (vF = .pointer (some ⟨w.heap.size + 1, 0, none⟩)) | 6 => (vF = .slice (some ⟨bb, ob, none⟩) n1 v0) | 7 => (vF = .int .i64 (k : Int)) | 8 => (vF = .pointer (some ⟨bb, ob + k * 2, none⟩)) | 9 => (vF = .agg #[.int .i64 x0, .int .i64 y1]) | 10 => (vF = .bool true) | _ => True) (fun _ _ _ _ => True) (by kernel_rfl) (by kernel_rfl) ?_ ?_ ?_ ?_ ?_
              · exact D.drew
              · intro iF wF1 wF2 hR hT; exact hR.trans (hT.mono hR.size)
              · intro kF hkF iF hiF hne hdd hanc hdan vF wF1 wF2 h hT
                rcases (by omega : kF = 0 ∨ kF = 1 ∨ kF = 2 ∨ kF = 3 ∨ kF = 4 ∨ kF = 5 ∨ kF = 6 ∨ kF = 7 ∨ kF = 8 ∨ kF = 9 ∨ kF = 10) with rfl | rfl | rfl | rfl | rfl | rfl | rfl | rfl | rfl | rfl | rfl
                · exact h
                · exact h
                · exact h
                · exact h
                · exact h
                · exact h
                · exact h
                · exact h
                · exact h
                · exact h
                · exact h
              · refine FlowAll.cons ?_ ?_
                · intro xF wq hR hd K hK
                  clear hd
                  simp only [List.take_succ_cons, List.take_zero, fillOf, Act.put, List.setIfInBounds_toArray, List.set_cons_zero, List.set_cons_succ, Nat.reduceAdd, Nat.zero_add] at hK ⊢
                  obtain hbR := id hR
                  rw [if_pos (by rfl)]
                  go_simp
                  exact hK.out _ _ (Below.refl _ _) (rfl) (fun _ _ _ => ⟨trivial, trivial⟩)
                refine FlowAll.cons ?_ ?_
                · intro xF wq hR hd K hK
                  have dd0 : ((xF 0) = .pointer (some ⟨w.heap.size, 0, none⟩)) := hd 0 (by kernel_rfl)
                  clear hd
                  simp only [List.take_succ_cons, List.take_zero, fillOf, Act.put, List.setIfInBounds_toArray, List.set_cons_zero, List.set_cons_succ, Nat.reduceAdd, Nat.zero_add] at hK ⊢
                  try generalize xF 0 = yx0 at *
                  obtain rfl := dd0
                  obtain hbR := id hR
                  obtain ⟨h0, h1, h2, h3⟩ := HX.out _ hR
                  rw [if_pos (by rfl)]
                  go_simp
                  exact hK.out _ _ (Below.refl _ _) (rfl) (fun _ _ _ => ⟨trivial, trivial⟩)
                refine FlowAll.cons ?_ ?_
                · intro xF wq hR hd K hK
                  clear hd
                  simp only [List.take_succ_cons, List.take_zero, fillOf, Act.put, List.setIfInBounds_toArray, List.set_cons_zero, List.set_cons_succ, Nat.reduceAdd, Nat.zero_add] at hK ⊢
                  obtain hbR := id hR
                  rw [if_pos (by rfl)]
                  go_simp
                  exact hK.out _ _ (Below.refl _ _) (rfl) (fun _ _ _ => ⟨trivial, trivial⟩)
                refine FlowAll.cons ?_ ?_
                · intro xF wq hR hd K hK
                  have dd1 : ((xF 1) = .slice (some ⟨ba, oa, none⟩) n1 t0) := hd 1 (by kernel_rfl)
                  have dd2 : ((xF 2) = .int .i64 (k : Int)) := hd 2 (by kernel_rfl)
                  clear hd
                  simp only [List.take_succ_cons, List.take_zero, fillOf, Act.put, List.setIfInBounds_toArray, List.set_cons_zero, List.set_cons_succ, Nat.reduceAdd, Nat.zero_add] at hK ⊢
                  try generalize xF 1 = yy1 at *
                  try generalize xF 2 = yy2 at *
                  obtain rfl := dd1
                  obtain rfl := dd2
                  obtain hbR := id hR
                  rw [if_pos (by rfl)]
                  go_simp
                  exact hK.out _ _ (Below.refl _ _) (rfl) (fun _ _ _ => ⟨trivial, trivial⟩)
                refine FlowAll.cons ?_ ?_
                · intro xF wq hR hd K hK
                  have dd3 : ((xF 3) = .pointer (some ⟨ba, oa + k * 2, none⟩)) := hd 3 (by kernel_rfl)
                  clear hd
                  simp only [List.take_succ_cons, List.take_zero, fillOf, Act.put, List.setIfInBounds_toArray, List.set_cons_zero, List.set_cons_succ, Nat.reduceAdd, Nat.zero_add] at hK ⊢
                  try generalize xF 3 = yy3 at *
                  obtain rfl := dd3
                  obtain hbR := id hR
                  obtain ⟨h0, h1⟩ := HAW.out _ hR
                  rw [if_pos (by rfl)]
                  go_simp
                  exact hK.out _ _ (Below.refl _ _) (rfl) (fun _ _ _ => ⟨trivial, trivial⟩)
                refine FlowAll.cons ?_ ?_
                · intro xF wq hR hd K hK
                  clear hd
                  simp only [List.take_succ_cons, List.take_zero, fillOf, Act.put, List.setIfInBounds_toArray, List.set_cons_zero, List.set_cons_succ, Nat.reduceAdd, Nat.zero_add] at hK ⊢
                  obtain hbR := id hR
                  rw [if_pos (by rfl)]
                  go_simp
                  exact hK.out _ _ (Below.refl _ _) (rfl) (fun _ _ _ => ⟨trivial, trivial⟩)
                refine FlowAll.cons ?_ ?_
                · intro xF wq hR hd K hK
                  have dd5 : ((xF 5) = .pointer (some ⟨w.heap.size + 1, 0, none⟩)) := hd 5 (by kernel_rfl)
                  clear hd
                  simp only [List.take_succ_cons, List.take_zero, fillOf, Act.put, List.setIfInBounds_toArray, List.set_cons_zero, List.set_cons_succ, Nat.reduceAdd, Nat.zero_add] at hK ⊢
                  try generalize xF 5 = yy5 at *
                  obtain rfl := dd5
                  obtain hbR := id hR
                  obtain ⟨h0, h1, h2, h3⟩ := HX.out _ hR
                  rw [if_pos (by rfl)]
                  go_simp
                  exact hK.out _ _ (Below.refl _ _) (rfl) (fun _ _ _ => ⟨trivial, trivial⟩)
                refine FlowAll.cons ?_ ?_
                · intro xF wq hR hd K hK
                  clear hd
                  simp only [List.take_succ_cons, List.take_zero, fillOf, Act.put, List.setIfInBounds_toArray, List.set_cons_zero, List.set_cons_succ, Nat.reduceAdd, Nat.zero_add] at hK ⊢
                  obtain hbR := id hR
                  rw [if_pos (by rfl)]
                  go_simp
                  exact hK.out _ _ (Below.refl _ _) (rfl) (fun _ _ _ => ⟨trivial, trivial⟩)
                refine FlowAll.cons ?_ ?_
                · intro xF wq hR hd K hK
                  have dd6 : ((xF 6) = .slice (some ⟨bb, ob, none⟩) n1 v0) := hd 6 (by kernel_rfl)
                  have dd7 : ((xF 7) = .int .i64 (k : Int)) := hd 7 (by kernel_rfl)
                  clear hd
                  simp only [List.take_succ_cons, List.take_zero, fillOf, Act.put, List.setIfInBounds_toArray, List.set_cons_zero, List.set_cons_succ, Nat.reduceAdd, Nat.zero_add] at hK ⊢
                  try generalize xF 6 = yy6 at *
                  try generalize xF 7 = yy7 at *
                  obtain rfl := dd6
                  obtain rfl := dd7
                  obtain hbR := id hR
                  rw [if_pos (by rfl)]
                  go_simp
                  exact hK.out _ _ (Below.refl _ _) (rfl) (fun _ _ _ => ⟨trivial, trivial⟩)
                refine FlowAll.cons ?_ ?_
                · intro xF wq hR hd K hK
                  have dd8 : ((xF 8) = .pointer (some ⟨bb, ob + k * 2, none⟩)) := hd 8 (by kernel_rfl)
                  clear hd
                  simp only [List.take_succ_cons, List.take_zero, fillOf, Act.put, List.setIfInBounds_toArray, List.set_cons_zero, List.set_cons_succ, Nat.reduceAdd, Nat.zero_add] at hK ⊢
                  try generalize xF 8 = yy8 at *
                  obtain rfl := dd8
                  obtain hbR := id hR
                  obtain ⟨h0, h1⟩ := HBW.out _ hR
                  rw [if_pos (by rfl)]
                  go_simp
                  exact hK.out _ _ (Below.refl _ _) (rfl) (fun _ _ _ => ⟨trivial, trivial⟩)
                refine FlowAll.cons ?_ ?_
                · intro xF wq hR hd K hK
                  have dd4 : ((xF 4) = .agg #[.int .i64 x0, .int .i64 x1]) := hd 4 (by kernel_rfl)
                  have dd9 : ((xF 9) = .agg #[.int .i64 x0, .int .i64 y1]) := hd 9 (by kernel_rfl)
                  clear hd
                  simp only [List.take_succ_cons, List.take_zero, fillOf, Act.put, List.setIfInBounds_toArray, List.set_cons_zero, List.set_cons_succ, Nat.reduceAdd, Nat.zero_add] at hK ⊢
                  try generalize xF 4 = yy4 at *
                  try generalize xF 9 = yy9 at *
                  obtain rfl := dd4
                  obtain rfl := dd9
                  obtain hbR := id hR
                  rw [if_pos (by rfl)]
                  go_simp
                  exact hK.out _ _ (Below.refl _ _) (rfl) (fun _ _ _ => ⟨trivial, trivial⟩)
                exact FlowAll.nil
              intro xF wq hR hF hP
              clear hP
              have dd0 : ((xF 0) = .pointer (some ⟨w.heap.size, 0, none⟩)) := hF 0 (by omega) (by decide)
              have dd1 : ((xF 1) = .slice (some ⟨ba, oa, none⟩) n1 t0) := hF 1 (by omega) (by decide)
              have dd2 : ((xF 2) = .int .i64 (k : Int)) := hF 2 (by omega) (by decide)
              have dd3 : ((xF 3) = .pointer (some ⟨ba, oa + k * 2, none⟩)) := hF 3 (by omega) (by decide)
              have dd4 : ((xF 4) = .agg #[.int .i64 x0, .int .i64 x1]) := hF 4 (by omega) (by decide)
              have dd5 : ((xF 5) = .pointer (some ⟨w.heap.size + 1, 0, none⟩)) := hF 5 (by omega) (by decide)
              have dd6 : ((xF 6) = .slice (some ⟨bb, ob, none⟩) n1 v0) := hF 6 (by omega) (by decide)
              have dd7 : ((xF 7) = .int .i64 (k : Int)) := hF 7 (by omega) (by decide)
              have dd8 : ((xF 8) = .pointer (some ⟨bb, ob + k * 2, none⟩)) := hF 8 (by omega) (by decide)
              have dd9 : ((xF 9) = .agg #[.int .i64 x0, .int .i64 y1]) := hF 9 (by omega) (by decide)
              have dd10 : ((xF 10) = .bool true) := hF 10 (by omega) (by decide)
              clear hF
              simp only [List.take_succ_cons, List.take_zero, List.drop_succ_cons, List.drop_zero, fillOf, Act.put, List.setIfInBounds_toArray, List.set_cons_zero, List.set_cons_succ, Nat.reduceAdd, Nat.zero_add]
              try generalize xF 0 = yx0 at *
              try generalize xF 1 = yy1 at *
              try generalize xF 2 = yy2 at *
              try generalize xF 3 = yy3 at *
              try generalize xF 4 = yy4 at *
              try generalize xF 5 = yy5 at *
              try generalize xF 6 = yy6 at *
              try generalize xF 7 = yy7 at *
              try generalize xF 8 = yy8 at *
              try generalize xF 9 = yy9 at *
              try generalize xF 10 = yy10 at *
              clear xF
              obtain rfl := dd0
              obtain rfl := dd1
              obtain rfl := dd2
              obtain rfl := dd3
              obtain rfl := dd4
              obtain rfl := dd5
              obtain rfl := dd6
              obtain rfl := dd7
              obtain rfl := dd8
              obtain rfl := dd9
              obtain rfl := dd10
              have hRE := Lib.hid hR
              clear hR
              have hb9 := E1.trans (hRE.out.mono E1.size)
              go_wp2
              go_ret
              exact ⟨rfl, hb9⟩
          · obtain rfl : R = false := HNE.out (fun e => h0 e.1)
            have hd : (x0 == y0) = false := by simpa using h0
            go_wp2_with fail
            refine wp_flow 11 (fun _ => 1000) (fun ww => RowKit.Below w1.heap.size w1 ww) (fun _ w w' => (fun (w w' : World) => RowKit.Below w.heap.size w w') w w') (fun kF vF wF => match kF with | 0 => (vF = .pointer (some ⟨w.heap.size, 0, none⟩)) | 1 => (vF = .slice (some ⟨ba, oa, none⟩) n1 t0) | 2 => (vF = .int .i64 (k : Int)) | 3 => (vF = .pointer (some ⟨ba, oa + k * 2, none⟩)) | 4 => (vF = .agg #[.int .i64 x0, .int .i64 x1]) | 5 => (vF = .pointer (some ⟨w.heap.size + 1, 0, none⟩)) | 6 => (vF = .slice (some ⟨bb, ob, none⟩) n1 v0) | 7 => (vF = .int .i64 (k : Int)) | 8 => (vF = .pointer (some ⟨bb, ob + k * 2, none⟩)) | 9 => (vF = .agg #[.int .i64 y0, .int .i64 y1]) | 10 => (vF = .bool true) | _ => True) (fun _ _ _ _ => True) (by kernel_rfl) (by kernel_rfl) ?_ ?_ ?_ ?_ ?_
            · exact D.drew
            · intro iF wF1 wF2 hR hT; exact hR.trans (hT.mono hR.size)
            · intro kF hkF iF hiF hne hdd hanc hdan vF wF1 wF2 h hT
              rcases (by omega : kF = 0 ∨ kF = 1 ∨ kF = 2 ∨ kF = 3 ∨ kF = 4 ∨ kF = 5 ∨ kF = 6 ∨ kF = 7 ∨ kF = 8 ∨ kF = 9 ∨ kF = 10) with rfl | rfl | rfl | rfl | rfl | rfl | rfl | rfl | rfl | rfl | rfl
              · exact h
              · exact h
              · exact h
              · exact h
              · exact h
              · exact h
              · exact h
              · exact h
              · exact h
              · exact h
              · exact h
            · refine FlowAll.cons ?_ ?_
              · intro xF wq hR hd K hK
                clear hd
                simp only [List.take_succ_cons, List.take_zero, fillOf, Act.put, List.setIfInBounds_toArray, List.set_cons_zero, List.set_cons_succ, Nat.reduceAdd, Nat.zero_add] at hK ⊢
                obtain hbR := id hR
                rw [if_pos (by rfl)]
                go_simp
                exact hK.out _ _ (Below.refl _ _) (rfl) (fun _ _ _ => ⟨trivial, trivial⟩)
              refine FlowAll.cons ?_ ?_
              · intro xF wq hR hd K hK
                have dd0 : ((xF 0) = .pointer (some ⟨w.heap.size, 0, none⟩)) := hd 0 (by kernel_rfl)
                clear hd
                simp only [List.take_succ_cons, List.take_zero, fillOf, Act.put, List.setIfInBounds_toArray, List.set_cons_zero, List.set_cons_succ, Nat.reduceAdd, Nat.zero_add] at hK ⊢
                try generalize xF 0 = yy0 at *
                obtain rfl := dd0
                obtain hbR := id hR
                obtain ⟨h0, h1, h2, h3⟩ := HX.out _ hR
                rw [if_pos (by rfl)]
                go_simp
                exact hK.out _ _ (Below.refl _ _) (rfl) (fun _ _ _ => ⟨trivial, trivial⟩)
              refine FlowAll.cons ?_ ?_
              · intro xF wq hR hd K hK
                clear hd
                simp only [List.take_succ_cons, List.take_zero, fillOf, Act.put, List.setIfInBounds_toArray, List.set_cons_zero, List.set_cons_succ, Nat.reduceAdd, Nat.zero_add] at hK ⊢
                obtain hbR := id hR
                rw [if_pos (by rfl)]
                go_simp
                exact hK.out _ _ (Below.refl _ _) (rfl) (fun _ _ _ => ⟨trivial, trivial⟩)
              refine FlowAll.cons ?_ ?_
              · intro xF wq hR hd K hK
                have dd1 : ((xF 1) = .slice (some ⟨ba, oa, none⟩) n1 t0) := hd 1 (by kernel_rfl)
                have dd2 : ((xF 2) = .int .i64 (k : Int)) := hd 2 (by kernel_rfl)
                clear hd
                simp only [List.take_succ_cons, List.take_zero, fillOf, Act.put, List.setIfInBounds_toArray, List.set_cons_zero, List.set_cons_succ, Nat.reduceAdd, Nat.zero_add] at hK ⊢
                try generalize xF 1 = yy1 at *
                try generalize xF 2 = yy2 at *
                obtain rfl := dd1
                obtain rfl := dd2
                obtain hbR := id hR
                rw [if_pos (by rfl)]
                go_simp
                exact hK.out _ _ (Below.refl _ _) (rfl) (fun _ _ _ => ⟨trivial, trivial⟩)
              refine FlowAll.cons ?_ ?_
              · intro xF wq hR hd K hK
                have dd3 : ((xF 3) = .pointer (some ⟨ba, oa + k * 2, none⟩)) := hd 3 (by kernel_rfl)
                clear hd
                simp only [List.take_succ_cons, List.take_zero, fillOf, Act.put, List.setIfInBounds_toArray, List.set_cons_zero, List.set_cons_succ, Nat.reduceAdd, Nat.zero_add] at hK ⊢
                try generalize xF 3 = yy3 at *
                obtain rfl := dd3
                obtain hbR := id hR
                obtain ⟨h0, h1⟩ := HAW.out _ hR
                rw [if_pos (by rfl)]
                go_simp
                exact hK.out _ _ (Below.refl _ _) (rfl) (fun _ _ _ => ⟨trivial, trivial⟩)
              refine FlowAll.cons ?_ ?_
              · intro xF wq hR hd K hK
                clear hd
                simp only [List.take_succ_cons, List.take_zero, fillOf, Act.put, List.setIfInBounds_toArray, List.set_cons_zero, List.set_cons_succ, Nat.reduceAdd, Nat.zero_add] at hK ⊢
                obtain hbR := id hR
                rw [if_pos (by rfl)]
                go_simp
                exact hK.out _ _ (Below.refl _ _) (rfl) (fun _ _ _ => ⟨trivial, trivial⟩)
              refine FlowAll.cons ?_ ?_
              · intro xF wq hR hd K hK
                have dd5 : ((xF 5) = .pointer (some ⟨w.heap.size + 1, 0, none⟩)) := hd 5 (by kernel_rfl)
                clear hd
                simp only [List.take_succ_cons, List.take_zero, fillOf, Act.put, List.setIfInBounds_toArray, List.set_cons_zero, List.set_cons_succ, Nat.reduceAdd, Nat.zero_add] at hK ⊢
                try generalize xF 5 = yy5 at *
                obtain rfl := dd5
                obtain hbR := id hR
                obtain ⟨h0, h1, h2, h3⟩ := HX.out _ hR
                rw [if_pos (by rfl)]
                go_simp
                exact hK.out _ _ (Below.refl _ _) (rfl) (fun _ _ _ => ⟨trivial, trivial⟩)
              refine FlowAll.cons ?_ ?_
              · intro xF wq hR hd K hK
                clear hd
                simp only [List.take_succ_cons, List.take_zero, fillOf, Act.put, List.setIfInBounds_toArray, List.set_cons_zero, List.set_cons_succ, Nat.reduceAdd, Nat.zero_add] at hK ⊢
                obtain hbR := id hR
                rw [if_pos (by rfl)]
                go_simp
                exact hK.out _ _ (Below.refl _ _) (rfl) (fun _ _ _ => ⟨trivial, trivial⟩)
              refine FlowAll.cons ?_ ?_
              · intro xF wq hR hd K hK
                have dd6 : ((xF 6) = .slice (some ⟨bb, ob, none⟩) n1 v0) := hd 6 (by kernel_rfl)
                have dd7 : ((xF 7) = .int .i64 (k : Int)) := hd 7 (by kernel_rfl)
                clear hd
                simp only [List.take_succ_cons, List.take_zero, fillOf, Act.put, List.setIfInBounds_toArray, List.set_cons_zero, List.set_cons_succ, Nat.reduceAdd, Nat.zero_add] at hK ⊢
                try generalize xF 6 = yy6 at *
                try generalize xF 7 = yy7 at *
                obtain rfl := dd6
                obtain rfl := dd7
                obtain hbR := id hR
                rw [if_pos (by rfl)]
                go_simp
                exact hK.out _ _ (Below.refl _ _) (rfl) (fun _ _ _ => ⟨trivial, trivial⟩)
              refine FlowAll.cons ?_ ?_
              · intro xF wq hR hd K hK
                have dd8 : ((xF 8) = .pointer (some ⟨bb, ob + k * 2, none⟩)) := hd 8 (by kernel_rfl)
                clear hd
                simp only [List.take_succ_cons, List.take_zero, fillOf, Act.put, List.setIfInBounds_toArray, List.set_cons_zero, List.set_cons_succ, Nat.reduceAdd, Nat.zero_add] at hK ⊢
                try generalize xF 8 = yy8 at *
                obtain rfl := dd8
                obtain hbR := id hR
                obtain ⟨h0, h1⟩ := HBW.out _ hR
                rw [if_pos (by rfl)]
                go_simp
                exact hK.out _ _ (Below.refl _ _) (rfl) (fun _ _ _ => ⟨trivial, trivial⟩)
              refine FlowAll.cons ?_ ?_
              · intro xF wq hR hd K hK
                have dd4 : ((xF 4) = .agg #[.int .i64 x0, .int .i64 x1]) := hd 4 (by kernel_rfl)
                have dd9 : ((xF 9) = .agg #[.int .i64 y0, .int .i64 y1]) := hd 9 (by kernel_rfl)
                clear hd
                simp only [List.take_succ_cons, List.take_zero, fillOf, Act.put, List.setIfInBounds_toArray, List.set_cons_zero, List.set_cons_succ, Nat.reduceAdd, Nat.zero_add] at hK ⊢
                try generalize xF 4 = yy4 at *
                try generalize xF 9 = yy9 at *
                obtain rfl := dd4
                obtain rfl := dd9
                obtain hbR := id hR
                rw [if_pos (by rfl)]
                go_simp
                exact hK.out _ _ (Below.refl _ _) (rfl) (fun _ _ _ => ⟨trivial, trivial⟩)
              exact FlowAll.nil
            intro xF wq hR hF hP
            clear hP
            have dd0 : ((xF 0) = .pointer (some ⟨w.heap.size, 0, none⟩)) := hF 0 (by omega) (by decide)
            have dd1 : ((xF 1) = .slice (some ⟨ba, oa, none⟩) n1 t0) := hF 1 (by omega) (by decide)
            have dd2 : ((xF 2) = .int .i64 (k : Int)) := hF 2 (by omega) (by decide)
            have dd3 : ((xF 3) = .pointer (some ⟨ba, oa + k * 2, none⟩)) := hF 3 (by omega) (by decide)
            have dd4 : ((xF 4) = .agg #[.int .i64 x0, .int .i64 x1]) := hF 4 (by omega) (by decide)
            have dd5 : ((xF 5) = .pointer (some ⟨w.heap.size + 1, 0, none⟩)) := hF 5 (by omega) (by decide)
            have dd6 : ((xF 6) = .slice (some ⟨bb, ob, none⟩) n1 v0) := hF 6 (by omega) (by decide)
            have dd7 : ((xF 7) = .int .i64 (k : Int)) := hF 7 (by omega) (by decide)
            have dd8 : ((xF 8) = .pointer (some ⟨bb, ob + k * 2, none⟩)) := hF 8 (by omega) (by decide)
            have dd9 : ((xF 9) = .agg #[.int .i64 y0, .int .i64 y1]) := hF 9 (by omega) (by decide)
            have dd10 : ((xF 10) = .bool true) := hF 10 (by omega) (by decide)
            clear hF
            simp only [List.take_succ_cons, List.take_zero, List.drop_succ_cons, List.drop_zero, fillOf, Act.put, List.setIfInBounds_toArray, List.set_cons_zero, List.set_cons_succ, Nat.reduceAdd, Nat.zero_add]
            try generalize xF 0 = yy0 at *
            try generalize xF 1 = yy1 at *
            try generalize xF 2 = yy2 at *
            try generalize xF 3 = yy3 at *
            try generalize xF 4 = yy4 at *
            try generalize xF 5 = yy5 at *
            try generalize xF 6 = yy6 at *
            try generalize xF 7 = yy7 at *
            try generalize xF 8 = yy8 at *
            try generalize xF 9 = yy9 at *
            try generalize xF 10 = yy10 at *
            clear xF
            obtain rfl := dd0
            obtain rfl := dd1
            obtain rfl := dd2
            obtain rfl := dd3
            obtain rfl := dd4
            obtain rfl := dd5
            obtain rfl := dd6
            obtain rfl := dd7
            obtain rfl := dd8
            obtain rfl := dd9
            obtain rfl := dd10
            have hRE := Lib.hid hR
            clear hR
            have hb9 := E1.trans (hRE.out.mono E1.size)
            go_wp2
            go_ret
            exact ⟨rfl, hb9⟩
        · obtain rfl : n1 = k := by omega
          have HTA := Lib.hid HT.out
          obtain ⟨h0, h1, h2, h3⟩ := HX.out _ D
          have D0 := D
          clear HT D hk
          go_wp2
          clear h0 h1 h2 h3
          go_loopw [44, 58] (fun i _ wr => ∃ k : Nat, i = .int .i64 k ∧ k ≤ n2 ∧ Hid (a.2.take k = b.2.take k) ∧ Below w1.heap.size w1 wr) (fun i _ _ => n2 - (intOf i).toNat)
          case atStart => exact ⟨0, rfl, Nat.zero_le _, rfl, D0⟩
          case round =>
            clear D0
            rename World => wr
            obtain ⟨k, rfl, hk, HT, D⟩ := hrel
            by_cases hlt : k < n2
            · obtain ⟨ba, oa, rfl, hBa, g0, g1⟩ := Dots.get (HA1.out _ D) HNA1.out hlt
              obtain ⟨bb, ob, rfl, hBb, g2, g3⟩ := Dots.get (HB1.out _ D) HNB1.out hlt
              have HAW0 : Hid (∀ W, Below w1.heap.size w1 W → W.cell? ⟨ba, oa + k * 2, none⟩ = some (.int .i64 (a.2.getD k (0, 0)).1) ∧ W.cell? ⟨ba, oa + k * 2 + 1, none⟩ = some (.int .i64 (a.2.getD k (0, 0)).2)) := fun W hW => by
                obtain ⟨b0', off', hb0, _, j0, j1⟩ := Dots.get (HA1.out W hW) HNA1.out hlt
                simp only [Option.some.injEq, Addr.mk.injEq] at hb0
                obtain ⟨rfl, rfl, _⟩ := hb0
                exact ⟨j0, j1⟩
              have HBW0 : Hid (∀ W, Below w1.heap.size w1 W → W.cell? ⟨bb, ob + k * 2, none⟩ = some (.int .i64 (b.2.getD k (0, 0)).1) ∧ W.cell? ⟨bb, ob + k * 2 + 1, none⟩ = some (.int .i64 (b.2.getD k (0, 0)).2)) := fun W hW => by
                obtain ⟨b0', off', hb0, _, j0, j1⟩ := Dots.get (HB1.out W hW) HNB1.out hlt
                simp only [Option.some.injEq, Addr.mk.injEq] at hb0
                obtain ⟨rfl, rfl, _⟩ := hb0
                exact ⟨j0, j1⟩
              obtain ⟨⟨x0, x1⟩, hx⟩ : ∃ x, x = a.2.getD k (0, 0) := ⟨_, rfl⟩
              obtain ⟨⟨y0, y1⟩, hy⟩ : ∃ x, x = b.2.getD k (0, 0) := ⟨_, rfl⟩
              rw [← hx] at HAW0
              rw [← hy] at HBW0
              have HAW : Hid (∀ W, Below w1.heap.size w1 W → W.cell? ⟨ba, oa + k * 2, none⟩ = some (.int .i64 x0) ∧ W.cell? ⟨ba, oa + k * 2 + 1, none⟩ = some (.int .i64 x1)) := HAW0.out
              have HBW : Hid (∀ W, Below w1.heap.size w1 W → W.cell? ⟨bb, ob + k * 2, none⟩ = some (.int .i64 y0) ∧ W.cell? ⟨bb, ob + k * 2 + 1, none⟩ = some (.int .i64 y1)) := HBW0.out
              have HXE := Lib.hid hx
              have HYE := Lib.hid hy
              have hkI : (k : Int) < (n2 : Int) := by omega
              have hk0 : (0 : Int) ≤ (k : Int) := by omega
              have HNE : Hid (¬ (x0 = y0 ∧ x1 = y1) → R = false) := fun hne => HF.out (fun e => hne (by
                have : a.2.getD k (0, 0) = b.2.getD k (0, 0) := by rw [e]
                rw [← HXE.out, ← HYE.out] at this
                exact ⟨(Prod.ext_iff.1 this).1, (Prod.ext_iff.1 this).2⟩))
              clear hx hy HAW0 HBW0 g0 g1 g2 g3
              by_cases h0 : x0 = y0
              · subst h0
                by_cases h1 : x1 = y1
                · subst h1
                  have HT2 : Hid (a.2.take (k + 1) = b.2.take (k + 1)) := ptake_eq HLE1.out (by rw [← HNA1.out]; exact hlt) HT.out (by rw [← HXE.out, ← HYE.out])
                  go_wp2_with fail
                  refine wp_flow 11 (fun _ => 1000) (fun ww => RowKit.Below w1.heap.size w1 ww) (fun _ w w' => (fun (w w' : World) => RowKit.Below w.heap.size w w') w w') (fun kF vF wF => match kF with | 0 => (vF = .pointer (some ⟨w.heap.size, 1, none⟩)) | 1 => (vF = .slice (some ⟨ba, oa, none⟩) n2 t1) | 2 => (vF = .int .i64 (k : Int)) | 3 => (vF = .pointer (some ⟨ba, oa + k * 2, none⟩)) | 4 => (vF = .agg #[.int .i64 x0, .int .i64 x1]) | 5 => (vF = .pointer (some ⟨w.heap.size + 1, 1, none⟩)) | 6 => (vF = .slice (some ⟨bb, ob, none⟩) n2 v1) | 7 => (vF = .int .i64 (k : Int)) | 8 => (vF = .pointer (some ⟨bb, ob + k * 2, none⟩)) | 9 => (vF = .agg #[.int .i64 x0, .int .i64 x1]) | 10 => (vF = .bool false) | _ => True) (fun _ _ _ _ => True) (by kernel_rfl) (by kernel_rfl) ?_ ?_ ?_ ?_ ?_
                  · exact D.drew
                  · intro iF wF1 wF2 hR hT; exact hR.trans (hT.mono hR.size)
                  · intro kF hkF iF hiF hne hdd hanc hdan vF wF1 wF2 h hT
                    rcases (by omega : kF = 0 ∨ kF = 1 ∨ kF = 2 ∨ kF = 3 ∨ kF = 4 ∨ kF = 5 ∨ kF = 6 ∨ kF = 7 ∨ kF = 8 ∨ kF = 9 ∨ kF = 10) with rfl | rfl | rfl | rfl | rfl | rfl | rfl | rfl | rfl | rfl | rfl
                    · exact h
                    · exact h
                    · exact h
                    · exact h
                    · exact h
                    · exact h
                    · exact h
                    · exact h
                    · exact h
                    · exact h
                    · exact h
                  · refine FlowAll.cons ?_ ?_
                    · intro xF wq hR hd K hK
                      clear hd
                      simp only [List.take_succ_cons, List.take_zero, fillOf, Act.put, List.setIfInBounds_toArray, List.set_cons_zero, List.set_cons_succ, Nat.reduceAdd, Nat.zero_add] at hK ⊢
                      obtain hbR := id hR
                      rw [if_pos (by rfl)]
                      go_simp
                      exact hK.out _ _ (Below.refl _ _) (rfl) (fun _ _ _ => ⟨trivial, trivial⟩)
                    refine FlowAll.cons ?_ ?_
                    · intro xF wq hR hd K hK
                      have dd0 : ((xF 0) = .pointer (some ⟨w.heap.size, 1, none⟩)) := hd 0 (by kernel_rfl)
                      clear hd
                      simp only [List.take_succ_cons, List.take_zero, fillOf, Act.put, List.setIfInBounds_toArray, List.set_cons_zero, List.set_cons_succ, Nat.reduceAdd, Nat.zero_add] at hK ⊢
                      try generalize xF 0 = yx0 at *
                      obtain rfl := dd0
                      obtain hbR := id hR
                      obtain ⟨h0, h1, h2, h3⟩ := HX.out _ hR
                      rw [if_pos (by rfl)]
                      go_simp
                      exact hK.out _ _ (Below.refl _ _) (rfl) (fun _ _ _ => ⟨trivial, trivial⟩)
                    refine FlowAll.cons ?_ ?_
                    · intro xF wq hR hd K hK
                      clear hd
                      simp only [List.take_succ_cons, List.take_zero, fillOf, Act.put, List.setIfInBounds_toArray, List.set_cons_zero, List.set_cons_succ, Nat.reduceAdd, Nat.zero_add] at hK ⊢
                      obtain hbR := id hR
                      rw [if_pos (by rfl)]
                      go_simp
                      exact hK.out _ _ (Below.refl _ _) (rfl) (fun _ _ _ => ⟨trivial, trivial⟩)
                    refine FlowAll.cons ?_ ?_
                    · intro xF wq hR hd K hK
                      have dd1 : ((xF 1) = .slice (some ⟨ba, oa, none⟩) n2 t1) := hd 1 (by kernel_rfl)
                      have dd2 : ((xF 2) = .int .i64 (k : Int)) := hd 2 (by kernel_rfl)
                      clear hd
                      simp only [List.take_succ_cons, List.take_zero, fillOf, Act.put, List.setIfInBounds_toArray, List.set_cons_zero, List.set_cons_succ, Nat.reduceAdd, Nat.zero_add] at hK ⊢
                      try generalize xF 1 = yx1 at *
                      try generalize xF 2 = yy2 at *
                      obtain rfl := dd1
                      obtain rfl := dd2
                      obtain hbR := id hR
                      rw [if_pos (by rfl)]
                      go_simp
                      exact hK.out _ _ (Below.refl _ _) (rfl) (fun _ _ _ => ⟨trivial, trivial⟩)
                    refine FlowAll.cons ?_ ?_
                    · intro xF wq hR hd K hK
                      have dd3 : ((xF 3) = .pointer (some ⟨ba, oa + k * 2, none⟩)) := hd 3 (by kernel_rfl)
                      clear hd
                      simp only [List.take_succ_cons, List.take_zero, fillOf, Act.put, List.setIfInBounds_toArray, List.set_cons_zero, List.set_cons_succ, Nat.reduceAdd, Nat.zero_add] at hK ⊢
                      try generalize xF 3 = yy3 at *
                      obtain rfl := dd3
                      obtain hbR := id hR
                      obtain ⟨h0, h1⟩ := HAW.out _ hR
                      rw [if_pos (by rfl)]
                      go_simp
                      exact hK.out _ _ (Below.refl _ _) (rfl) (fun _ _ _ => ⟨trivial, trivial⟩)
                    refine FlowAll.cons ?_ ?_
                    · intro xF wq hR hd K hK
                      clear hd
                      simp only [List.take_succ_cons, List.take_zero, fillOf, Act.put, List.setIfInBounds_toArray, List.set_cons_zero, List.set_cons_succ, Nat.reduceAdd, Nat.zero_add] at hK ⊢
                      obtain hbR := id hR
                      rw [if_pos (by rfl)]
                      go_simp
                      exact hK.out _ _ (Below.refl _ _) (rfl) (fun _ _ _ => ⟨trivial, trivial⟩)
                    refine FlowAll.cons ?_ ?_
                    · intro xF wq hR hd K hK
                      have dd5 : ((xF 5) = .pointer (some ⟨w.heap.size + 1, 1, none⟩)) := hd 5 (by kernel_rfl)
                      clear hd
                      simp only [List.take_succ_cons, List.take_zero, fillOf, Act.put, List.setIfInBounds_toArray, List.set_cons_zero, List.set_cons_succ, Nat.reduceAdd, Nat.zero_add] at hK ⊢
                      try generalize xF 5 = yy5 at *
                      obtain rfl := dd5
                      obtain hbR := id hR
                      obtain ⟨h0, h1, h2, h3⟩ := HX.out _ hR
                      rw [if_pos (by rfl)]
                      go_simp
                      exact hK.out _ _ (Below.refl _ _) (rfl) (fun _ _ _ => ⟨trivial, trivial⟩)
                    refine FlowAll.cons ?_ ?_
                    · intro xF wq hR hd K hK
                      clear hd
                      simp only [List.take_succ_cons, List.take_zero, fillOf, Act.put, List.setIfInBounds_toArray, List.set_cons_zero, List.set_cons_succ, Nat.reduceAdd, Nat.zero_add] at hK ⊢
                      obtain hbR := id hR
                      rw [if_pos (by rfl)]
                      go_simp
                      exact hK.out _ _ (Below.refl _ _) (rfl) (fun _ _ _ => ⟨trivial, trivial⟩)
                    refine FlowAll.cons ?_ ?_
                    · intro xF wq hR hd K hK
                      have dd6 : ((xF 6) = .slice (some ⟨bb, ob, none⟩) n2 v1) := hd 6 (by kernel_rfl)
                      have dd7 : ((xF 7) = .int .i64 (k : Int)) := hd 7 (by kernel_rfl)
                      clear hd
                      simp only [List.take_succ_cons, List.take_zero, fillOf, Act.put, List.setIfInBounds_toArray, List.set_cons_zero, List.set_cons_succ, Nat.reduceAdd, Nat.zero_add] at hK ⊢
                      try generalize xF 6 = yy6 at *
                      try generalize xF 7 = yy7 at *
                      obtain rfl := dd6
                      obtain rfl := dd7
                      obtain hbR := id hR
                      rw [if_pos (by rfl)]
                      go_simp
                      exact hK.out _ _ (Below.refl _ _) (rfl) (fun _ _ _ => ⟨trivial, trivial⟩)
                    refine FlowAll.cons ?_ ?_
                    · intro xF wq hR hd K hK
                      have dd8 : ((xF 8) = .pointer (some ⟨bb, ob + k * 2, none⟩)) := hd 8 (by kernel_rfl)
                      clear hd
                      simp only [List.take_succ_cons, List.take_zero, fillOf, Act.put, List.setIfInBounds_toArray, List.set_cons_zero, List.set_cons_succ, Nat.reduceAdd, Nat.zero_add] at hK ⊢
                      try generalize xF 8 = yy8 at *
                      obtain rfl := dd8
                      obtain hbR := id hR
                      obtain ⟨h0, h1⟩ := HBW.out _ hR
                      rw [if_pos (by rfl)]
                      go_simp
                      exact hK.out _ _ (Below.refl _ _) (rfl) (fun _ _ _ => ⟨trivial, trivial⟩)
                    refine FlowAll.cons ?_ ?_
                    · intro xF wq hR hd K hK
                      have dd4 : ((xF 4) = .agg #[.int .i64 x0, .int .i64 x1]) := hd 4 (by kernel_rfl)
                      have dd9 : ((xF 9) = .agg #[.int .i64 x0, .int .i64 x1]) := hd 9 (by kernel_rfl)
                      clear hd
                      simp only [List.take_succ_cons, List.take_zero, fillOf, Act.put, List.setIfInBounds_toArray, List.set_cons_zero, List.set_cons_succ, Nat.reduceAdd, Nat.zero_add] at hK ⊢
                      try generalize xF 4 = yy4 at *
                      try generalize xF 9 = yy9 at *
                      obtain rfl := dd4
                      obtain rfl := dd9
                      obtain hbR := id hR
                      rw [if_pos (by rfl)]
                      go_simp
                      exact hK.out _ _ (Below.refl _ _) (rfl) (fun _ _ _ => ⟨trivial, trivial⟩)
                    exact FlowAll.nil
                  intro xF wq hR hF hP
                  clear hP
                  have dd0 : ((xF 0) = .pointer (some ⟨w.heap.size, 1, none⟩)) := hF 0 (by omega) (by decide)
                  have dd1 : ((xF 1) = .slice (some ⟨ba, oa, none⟩) n2 t1) := hF 1 (by omega) (by decide)
                  have dd2 : ((xF 2) = .int .i64 (k : Int)) := hF 2 (by omega) (by decide)
                  have dd3 : ((xF 3) = .pointer (some ⟨ba, oa + k * 2, none⟩)) := hF 3 (by omega) (by decide)
                  have dd4 : ((xF 4) = .agg #[.int .i64 x0, .int .i64 x1]) := hF 4 (by omega) (by decide)
                  have dd5 : ((xF 5) = .pointer (some ⟨w.heap.size + 1, 1, none⟩)) := hF 5 (by omega) (by decide)
                  have dd6 : ((xF 6) = .slice (some ⟨bb, ob, none⟩) n2 v1) := hF 6 (by omega) (by decide)
                  have dd7 : ((xF 7) = .int .i64 (k : Int)) := hF 7 (by omega) (by decide)
                  have dd8 : ((xF 8) = .pointer (some ⟨bb, ob + k * 2, none⟩)) := hF 8 (by omega) (by decide)
                  have dd9 : ((xF 9) = .agg #[.int .i64 x0, .int .i64 x1]) := hF 9 (by omega) (by decide)
                  have dd10 : ((xF 10) = .bool false) := hF 10 (by omega) (by decide)
                  clear hF
                  simp only [List.take_succ_cons, List.take_zero, List.drop_succ_cons, List.drop_zero, fillOf, Act.put, List.setIfInBounds_toArray, List.set_cons_zero, List.set_cons_succ, Nat.reduceAdd, Nat.zero_add]
                  try generalize xF 0 = yx0 at *
                  try generalize xF 1 = yx1 at *
                  try generalize xF 2 = yy2 at *
                  try generalize xF 3 = yy3 at *
                  try generalize xF 4 = yy4 at *
                  try generalize xF 5 = yy5 at *
                  try generalize xF 6 = yy6 at *
                  try generalize xF 7 = yy7 at *
                  try generalize xF 8 = yy8 at *
                  try generalize xF 9 = yy9 at *
                  try generalize xF 10 = yx10 at *
                  clear xF
                  obtain rfl := dd0
                  obtain rfl := dd1
                  obtain rfl := dd2
                  obtain rfl := dd3
                  obtain rfl := dd4
                  obtain rfl := dd5
                  obtain rfl := dd6
                  obtain rfl := dd7
                  obtain rfl := dd8
                  obtain rfl := dd9
                  obtain rfl := dd10
                  have hRE := Lib.hid hR
                  clear hR
                  have D9 := hRE.out
                  clear hRE
                  go_wp2
                  go_roundw
                  case rel => exact ⟨k + 1, by go_num, by omega, HT2, D9⟩
                  case measure => simp [intOf]; omega
                · obtain rfl : R = false := HNE.out (fun e => h1 e.2)
                  have hd : (x1 == y1) = false := by simpa using h1
                  go_wp2_with fail
                  refine wp_flow 11 (fun _ => 1000) (fun ww => RowKit.Below w1.heap.size w1 ww) (fun _ w w' => (fun (w w' : World) => RowKit.Below w.heap.size w w') w w') (fun kF vF wF => match kF with | 0 => (vF = .pointer (some ⟨w.heap.size, 1, none⟩)) | 1 => (vF = .slice (some ⟨ba, oa, none⟩) n2 t1) | 2 => (vF = .int .i64 (k : Int)) | 3 => (vF = .pointer (some ⟨ba, oa + k * 2, none⟩)) | 4 => (vF = .agg #[.int .i64 x0, .int .i64 x1]) | 5 => (vF = .pointer (some ⟨w.heap.size + 1, 1, none⟩)) | 6 => (vF = .slice (some ⟨bb, ob, none⟩) n2 v1) | 7 => (vF = .int .i64 (k : Int)) | 8 => (vF = .pointer (some ⟨bb, ob + k * 2, none⟩)) | 9 => (vF = .agg #[.int .i64 x0, .int .i64 y1]) | 10 => (vF = .bool true) | _ => True) (fun _ _ _ _ => True) (by kernel_rfl) (by kernel_rfl) ?_ ?_ ?_ ?_ ?_
                  · exact D.drew
                  · intro iF wF1 wF2 hR hT; exact hR.trans (hT.mono hR.size)
                  · intro kF hkF iF hiF hne hdd hanc hdan vF wF1 wF2 h hT
                    rcases (by omega : kF = 0 ∨ kF = 1 ∨ kF = 2 ∨ kF = 3 ∨ kF = 4 ∨ kF = 5 ∨ kF = 6 ∨ kF = 7 ∨ kF = 8 ∨ kF = 9 ∨ kF = 10) with rfl | rfl | rfl | rfl | rfl | rfl | rfl | rfl | rfl | rfl | rfl
                    · exact h
                    · exact h
                    · exact h
                    · exact h
                    · exact h
                    · exact h
                    · exact h
                    · exact h
                    · exact h
                    · exact h
                    · exact h
                  · refine FlowAll.cons ?_ ?_
                    · intro xF wq hR hd K hK
                      clear hd
                      simp only [List.take_succ_cons, List.take_zero, fillOf, Act.put, List.setIfInBounds_toArray, List.set_cons_zero, List.set_cons_succ, Nat.reduceAdd, Nat.zero_add] at hK ⊢
                      obtain hbR := id hR
                      rw [if_pos (by rfl)]
                      go_simp
                      exact hK.out _ _ (Below.refl _ _) (rfl) (fun _ _ _ => ⟨trivial, trivial⟩)
                    refine FlowAll.cons ?_ ?_
                    · intro xF wq hR hd K hK
                      have dd0 : ((xF 0) = .pointer (some ⟨w.heap.size, 1, none⟩)) := hd 0 (by kernel_rfl)
                      clear hd
                      simp only [List.take_succ_cons, List.take_zero, fillOf, Act.put, List.setIfInBounds_toArray, List.set_cons_zero, List.set_cons_succ, Nat.reduceAdd, Nat.zero_add] at hK ⊢
                      try generalize xF 0 = yx0 at *
                      obtain rfl := dd0
                      obtain hbR := id hR
                      obtain ⟨h0, h1, h2, h3⟩ := HX.out _ hR
                      rw [if_pos (by rfl)]
                      go_simp
                      exact hK.out _ _ (Below.refl _ _) (rfl) (fun _ _ _ => ⟨trivial, trivial⟩)
                    refine FlowAll.cons ?_ ?_
                    · intro xF wq hR hd K hK
                      clear hd
                      simp only [List.take_succ_cons, List.take_zero, fillOf, Act.put, List.setIfInBounds_toArray, List.set_cons_zero, List.set_cons_succ, Nat.reduceAdd, Nat.zero_add] at hK ⊢
                      obtain hbR := id hR
                      rw [if_pos (by rfl)]
                      go_simp
                      exact hK.out _ _ (Below.refl _ _) (rfl) (fun _ _ _ => ⟨trivial, trivial⟩)
                    refine FlowAll.cons ?_ ?_
                    · intro xF wq hR hd K hK
                      have dd1 : ((xF 1) = .slice (some ⟨ba, oa, none⟩) n2 t1) := hd 1 (by kernel_rfl)
                      have dd2 : ((xF 2) = .int .i64 (k : Int)) := hd 2 (by kernel_rfl)
                      clear hd
                      simp only [List.take_succ_cons, List.take_zero, fillOf, Act.put, List.setIfInBounds_toArray, List.set_cons_zero, List.set_cons_succ, Nat.reduceAdd, Nat.zero_add] at hK ⊢
                      try generalize xF 1 = yy1 at *
                      try generalize xF 2 = yy2 at *
                      obtain rfl := dd1
                      obtain rfl := dd2
                      obtain hbR := id hR
                      rw [if_pos (by rfl)]
                      go_simp
                      exact hK.out _ _ (Below.refl _ _) (rfl) (fun _ _ _ => ⟨trivial, trivial⟩)
                    refine FlowAll.cons ?_ ?_
                    · intro xF wq hR hd K hK
                      have dd3 : ((xF 3) = .pointer (some ⟨ba, oa + k * 2, none⟩)) := hd 3 (by kernel_rfl)
                      clear hd
                      simp only [List.take_succ_cons, List.take_zero, fillOf, Act.put, List.setIfInBounds_toArray, List.set_cons_zero, List.set_cons_succ, Nat.reduceAdd, Nat.zero_add] at hK ⊢
                      try generalize xF 3 = yy3 at *
                      obtain rfl := dd3
                      obtain hbR := id hR
                      obtain ⟨h0, h1⟩ := HAW.out _ hR
                      rw [if_pos (by rfl)]
                      go_simp
                      exact hK.out _ _ (Below.refl _ _) (rfl) (fun _ _ _ => ⟨trivial, trivial⟩)
                    refine FlowAll.cons ?_ ?_
                    · intro xF wq hR hd K hK
                      clear hd
                      simp only [List.take_succ_cons, List.take_zero, fillOf, Act.put, List.setIfInBounds_toArray, List.set_cons_zero, List.set_cons_succ, Nat.reduceAdd, Nat.zero_add] at hK ⊢
                      obtain hbR := id hR
                      rw [if_pos (by rfl)]
                      go_simp
                      exact hK.out _ _ (Below.refl _ _) (rfl) (fun _ _ _ => ⟨trivial, trivial⟩)
                    refine FlowAll.cons ?_ ?_
                    · intro xF wq hR hd K hK
                      have dd5 : ((xF 5) = .pointer (some ⟨w.heap.size + 1, 1, none⟩)) := hd 5 (by kernel_rfl)
                      clear hd
                      simp only [List.take_succ_cons, List.take_zero, fillOf, Act.put, List.setIfInBounds_toArray, List.set_cons_zero, List.set_cons_succ, Nat.reduceAdd, Nat.zero_add] at hK ⊢
                      try generalize xF 5 = yy5 at *
                      obtain rfl := dd5
                      obtain hbR := id hR
                      obtain ⟨h0, h1, h2, h3⟩ := HX.out _ hR
                      rw [if_pos (by rfl)]
                      go_simp
                      exact hK.out _ _ (Below.refl _ _) (rfl) (fun _ _ _ => ⟨trivial, trivial⟩)
                    refine FlowAll.cons ?_ ?_
                    · intro xF wq hR hd K hK
                      clear hd
                      simp only [List.take_succ_cons, List.take_zero, fillOf, Act.put, List.setIfInBounds_toArray, List.set_cons_zero, List.set_cons_succ, Nat.reduceAdd, Nat.zero_add] at hK ⊢
                      obtain hbR := id hR
                      rw [if_pos (by rfl)]
                      go_simp
                      exact hK.out _ _ (Below.refl _ _) (rfl) (fun _ _ _ => ⟨trivial, trivial⟩)
                    refine FlowAll.cons ?_ ?_
                    · intro xF wq hR hd K hK
                      have dd6 : ((xF 6) = .slice (some ⟨bb, ob, none⟩) n2 v1) := hd 6 (by kernel_rfl)
                      have dd7 : ((xF 7) = .int .i64 (k : Int)) := hd 7 (by kernel_rfl)
                      clear hd
                      simp only [List.take_succ_cons, List.take_zero, fillOf, Act.put, List.setIfInBounds_toArray, List.set_cons_zero, List.set_cons_succ, Nat.reduceAdd, Nat.zero_add] at hK ⊢
                      try generalize xF 6 = yy6 at *
                      try generalize xF 7 = yy7 at *
                      obtain rfl := dd6
                      obtain rfl := dd7
                      obtain hbR := id hR
                      rw [if_pos (by rfl)]
                      go_simp
                      exact hK.out _ _ (Below.refl _ _) (rfl) (fun _ _ _ => ⟨trivial, trivial⟩)
                    refine FlowAll.cons ?_ ?_
                    · intro xF wq hR hd K hK
                      have dd8 : ((xF 8) = .pointer (some ⟨bb, ob + k * 2, none⟩)) := hd 8 (by kernel_rfl)
                      clear hd
                      simp only [List.take_succ_cons, List.take_zero, fillOf, Act.put, List.setIfInBounds_toArray, List.set_cons_zero, List.set_cons_succ, Nat.reduceAdd, Nat.zero_add] at hK ⊢
                      try generalize xF 8 = yy8 at *
                      obtain rfl := dd8
                      obtain hbR := id hR
                      obtain ⟨h0, h1⟩ := HBW.out _ hR
                      rw [if_pos (by rfl)]
                      go_simp
                      exact hK.out _ _ (Below.refl _ _) (rfl) (fun _ _ _ => ⟨trivial, trivial⟩)
                    refine FlowAll.cons ?_ ?_
                    · intro xF wq hR hd K hK
                      have dd4 : ((xF 4) = .agg #[.int .i64 x0, .int .i64 x1]) := hd 4 (by kernel_rfl)
                      have dd9 : ((xF 9) = .agg #[.int .i64 x0, .int .i64 y1]) := hd 9 (by kernel_rfl)
                      clear hd
                      simp only [List.take_succ_cons, List.take_zero, fillOf, Act.put, List.setIfInBounds_toArray, List.set_cons_zero, List.set_cons_succ, Nat.reduceAdd, Nat.zero_add] at hK ⊢
                      try generalize xF 4 = yy4 at *
                      try generalize xF 9 = yy9 at *
                      obtain rfl := dd4
                      obtain rfl := dd9
                      obtain hbR := id hR
                      rw [if_pos (by rfl)]
                      go_simp
                      exact hK.out _ _ (Below.refl _ _) (rfl) (fun _ _ _ => ⟨trivial, trivial⟩)
                    exact FlowAll.nil
                  intro xF wq hR hF hP
                  clear hP
                  have dd0 : ((xF 0) = .pointer (some ⟨w.heap.size, 1, none⟩)) := hF 0 (by omega) (by decide)
                  have dd1 : ((xF 1) = .slice (some ⟨ba, oa, none⟩) n2 t1) := hF 1 (by omega) (by decide)
                  have dd2 : ((xF 2) = .int .i64 (k : Int)) := hF 2 (by omega) (by decide)
                  have dd3 : ((xF 3) = .pointer (some ⟨ba, oa + k * 2, none⟩)) := hF 3 (by omega) (by decide)
                  have dd4 : ((xF 4) = .agg #[.int .i64 x0, .int .i64 x1]) := hF 4 (by omega) (by decide)
                  have dd5 : ((xF 5) = .pointer (some ⟨w.heap.size + 1, 1, none⟩)) := hF 5 (by omega) (by decide)
                  have dd6 : ((xF 6) = .slice (some ⟨bb, ob, none⟩) n2 v1) := hF 6 (by omega) (by decide)
                  have dd7 : ((xF 7) = .int .i64 (k : Int)) := hF 7 (by omega) (by decide)
                  have dd8 : ((xF 8) = .pointer (some ⟨bb, ob + k * 2, none⟩)) := hF 8 (by omega) (by decide)
                  have dd9 : ((xF 9) = .agg #[.int .i64 x0, .int .i64 y1]) := hF 9 (by omega) (by decide)
                  have dd10 : ((xF 10) = .bool true) := hF 10 (by omega) (by decide)
                  clear hF
                  simp only [List.take_succ_cons, List.take_zero, List.drop_succ_cons, List.drop_zero, fillOf, Act.put, List.setIfInBounds_toArray, List.set_cons_zero, List.set_cons_succ, Nat.reduceAdd, Nat.zero_add]
                  try generalize xF 0 = yx0 at *
                  try generalize xF 1 = yy1 at *
                  try generalize xF 2 = yy2 at *
                  try generalize xF 3 = yy3 at *
                  try generalize xF 4 = yy4 at *
                  try generalize xF 5 = yy5 at *
                  try generalize xF 6 = yy6 at *
                  try generalize xF 7 = yy7 at *
                  try generalize xF 8 = yy8 at *
                  try generalize xF 9 = yy9 at *
                  try generalize xF 10 = yy10 at *
                  clear xF
                  obtain rfl := dd0
                  obtain rfl := dd1
                  obtain rfl := dd2
                  obtain rfl := dd3
                  obtain rfl := dd4
                  obtain rfl := dd5
                  obtain rfl := dd6
                  obtain rfl := dd7
                  obtain rfl := dd8
                  obtain rfl := dd9
                  obtain rfl := dd10
                  have hRE := Lib.hid hR
                  clear hR
                  have hb9 := E1.trans (hRE.out.mono E1.size)
                  go_wp2
                  go_ret
                  exact ⟨rfl, hb9⟩
              · obtain rfl : R = false := HNE.out (fun e => h0 e.1)
                have hd : (x0 == y0) = false := by simpa using h0
                go_wp2_with fail
                refine wp_flow 11 (fun _ => 1000) (fun ww => RowKit.Below w1.heap.size w1 ww) (fun _ w w' => (fun (w w' : World) => RowKit.Below w.heap.size w w') w w') (fun kF vF wF => match kF with | 0 => (vF = .pointer (some ⟨w.heap.size, 1, none⟩)) | 1 => (vF = .slice (some ⟨ba, oa, none⟩) n2 t1) | 2 => (vF = .int .i64 (k : Int)) | 3 => (vF = .pointer (some ⟨ba, oa + k * 2, none⟩)) | 4 => (vF = .agg #[.int .i64 x0, .int .i64 x1]) | 5 => (vF = .pointer (some ⟨w.heap.size + 1, 1, none⟩)) | 6 => (vF = .slice (some ⟨bb, ob, none⟩) n2 v1) | 7 => (vF = .int .i64 (k : Int)) | 8 => (vF = .pointer (some ⟨bb, ob + k * 2, none⟩)) | 9 => (vF = .agg #[.int .i64 y0, .int .i64 y1]) | 10 => (vF = .bool true) | _ => True) (fun _ _ _ _ => True) (by kernel_rfl) (by kernel_rfl) ?_ ?_ ?_ ?_ ?_
                · exact D.drew
                · intro iF wF1 wF2 hR hT; exact hR.trans (hT.mono hR.size)
                · intro kF hkF iF hiF hne hdd hanc hdan vF wF1 wF2 h hT
                  rcases (by omega : kF = 0 ∨ kF = 1 ∨ kF = 2 ∨ kF = 3 ∨ kF = 4 ∨ kF = 5 ∨ kF = 6 ∨ kF = 7 ∨ kF = 8 ∨ kF = 9 ∨ kF = 10) with rfl | rfl | rfl | rfl | rfl | rfl | rfl | rfl | rfl | rfl | rfl
                  · exact h
                  · exact h
                  · exact h
                  · exact h
                  · exact h
                  · exact h
                  · exact h
                  · exact h
                  · exact h
                  · exact h
                  · exact h
                · refine FlowAll.cons ?_ ?_
                  · intro xF wq hR hd K hK
                    clear hd
                    simp only [List.take_succ_cons, List.take_zero, fillOf, Act.put, List.setIfInBounds_toArray, List.set_cons_zero, List.set_cons_succ, Nat.reduceAdd, Nat.zero_add] at hK ⊢
                    obtain hbR := id hR
                    rw [if_pos (by rfl)]
                    go_simp
                    exact hK.out _ _ (Below.refl _ _) (rfl) (fun _ _ _ => ⟨trivial, trivial⟩)
                  refine FlowAll.cons ?_ ?_
                  · intro xF wq hR hd K hK
                    have dd0 : ((xF 0) = .pointer (some ⟨w.heap.size, 1, none⟩)) := hd 0 (by kernel_rfl)
                    clear hd
                    simp only [List.take_succ_cons, List.take_zero, fillOf, Act.put, List.setIfInBounds_toArray, List.set_cons_zero, List.set_cons_succ, Nat.reduceAdd, Nat.zero_add] at hK ⊢
                    try generalize xF 0 = yy0 at *
                    obtain rfl := dd0
                    obtain hbR := id hR
                    obtain ⟨h0, h1, h2, h3⟩ := HX.out _ hR
                    rw [if_pos (by rfl)]
                    go_simp
                    exact hK.out _ _ (Below.refl _ _) (rfl) (fun _ _ _ => ⟨trivial, trivial⟩)
                  refine FlowAll.cons ?_ ?_
                  · intro xF wq hR hd K hK
                    clear hd
                    simp only [List.take_succ_cons, List.take_zero, fillOf, Act.put, List.setIfInBounds_toArray, List.set_cons_zero, List.set_cons_succ, Nat.reduceAdd, Nat.zero_add] at hK ⊢
                    obtain hbR := id hR
                    rw [if_pos (by rfl)]
                    go_simp
                    exact hK.out _ _ (Below.refl _ _) (rfl) (fun _ _ _ => ⟨trivial, trivial⟩)
                  refine FlowAll.cons ?_ ?_
                  · intro xF wq hR hd K hK
                    have dd1 : ((xF 1) = .slice (some ⟨ba, oa, none⟩) n2 t1) := hd 1 (by kernel_rfl)
                    have dd2 : ((xF 2) = .int .i64 (k : Int)) := hd 2 (by kernel_rfl)
                    clear hd
                    simp only [List.take_succ_cons, List.take_zero, fillOf, Act.put, List.setIfInBounds_toArray, List.set_cons_zero, List.set_cons_succ, Nat.reduceAdd, Nat.zero_add] at hK ⊢
                    try generalize xF 1 = yy1 at *
                    try generalize xF 2 = yy2 at *
                    obtain rfl := dd1
                    obtain rfl := dd2
                    obtain hbR := id hR
                    rw [if_pos (by rfl)]
                    go_simp
                    exact hK.out _ _ (Below.refl _ _) (rfl) (fun _ _ _ => ⟨trivial, trivial⟩)
                  refine FlowAll.cons ?_ ?_
                  · intro xF wq hR hd K hK
                    have dd3 : ((xF 3) = .pointer (some ⟨ba, oa + k * 2, none⟩)) := hd 3 (by kernel_rfl)
                    clear hd
                    simp only [List.take_succ_cons, List.take_zero, fillOf, Act.put, List.setIfInBounds_toArray, List.set_cons_zero, List.set_cons_succ, Nat.reduceAdd, Nat.zero_add] at hK ⊢
                    try generalize xF 3 = yy3 at *
                    obtain rfl := dd3
                    obtain hbR := id hR
                    obtain ⟨h0, h1⟩ := HAW.out _ hR
                    rw [if_pos (by rfl)]
                    go_simp
                    exact hK.out _ _ (Below.refl _ _) (rfl) (fun _ _ _ => ⟨trivial, trivial⟩)
                  refine FlowAll.cons ?_ ?_
                  · intro xF wq hR hd K hK
                    clear hd
                    simp only [List.take_succ_cons, List.take_zero, fillOf, Act.put, List.setIfInBounds_toArray, List.set_cons_zero, List.set_cons_succ, Nat.reduceAdd, Nat.zero_add] at hK ⊢
                    obtain hbR := id hR
                    rw [if_pos (by rfl)]
                    go_simp
                    exact hK.out _ _ (Below.refl _ _) (rfl) (fun _ _ _ => ⟨trivial, trivial⟩)
                  refine FlowAll.cons ?_ ?_
                  · intro xF wq hR hd K hK
                    have dd5 : ((xF 5) = .pointer (some ⟨w.heap.size + 1, 1, none⟩)) := hd 5 (by kernel_rfl)
                    clear hd
                    simp only [List.take_succ_cons, List.take_zero, fillOf, Act.put, List.setIfInBounds_toArray, List.set_cons_zero, List.set_cons_succ, Nat.reduceAdd, Nat.zero_add] at hK ⊢
                    try generalize xF 5 = yy5 at *
                    obtain rfl := dd5
                    obtain hbR := id hR
                    obtain ⟨h0, h1, h2, h3⟩ := HX.out _ hR
                    rw [if_pos (by rfl)]
                    go_simp
                    exact hK.out _ _ (Below.refl _ _) (rfl) (fun _ _ _ => ⟨trivial, trivial⟩)
                  refine FlowAll.cons ?_ ?_
                  · intro xF wq hR hd K hK
                    clear hd
                    simp only [List.take_succ_cons, List.take_zero, fillOf, Act.put, List.setIfInBounds_toArray, List.set_cons_zero, List.set_cons_succ, Nat.reduceAdd, Nat.zero_add] at hK ⊢
                    obtain hbR := id hR
                    rw [if_pos (by rfl)]
                    go_simp
                    exact hK.out _ _ (Below.refl _ _) (rfl) (fun _ _ _ => ⟨trivial, trivial⟩)
                  refine FlowAll.cons ?_ ?_
                  · intro xF wq hR hd K hK
                    have dd6 : ((xF 6) = .slice (some ⟨bb, ob, none⟩) n2 v1) := hd 6 (by kernel_rfl)
                    have dd7 : ((xF 7) = .int .i64 (k : Int)) := hd 7 (by kernel_rfl)
                    clear hd
                    simp only [List.take_succ_cons, List.take_zero, fillOf, Act.put, List.setIfInBounds_toArray, List.set_cons_zero, List.set_cons_succ, Nat.reduceAdd, Nat.zero_add] at hK ⊢
                    try generalize xF 6 = yy6 at *
                    try generalize xF 7 = yy7 at *
                    obtain rfl := dd6
                    obtain rfl := dd7
                    obtain hbR := id hR
                    rw [if_pos (by rfl)]
                    go_simp
                    exact hK.out _ _ (Below.refl _ _) (rfl) (fun _ _ _ => ⟨trivial, trivial⟩)
                  refine FlowAll.cons ?_ ?_
                  · intro xF wq hR hd K hK
                    have dd8 : ((xF 8) = .pointer (some ⟨bb, ob + k * 2, none⟩)) := hd 8 (by kernel_rfl)
                    clear hd
                    simp only [List.take_succ_cons, List.take_zero, fillOf, Act.put, List.setIfInBounds_toArray, List.set_cons_zero, List.set_cons_succ, Nat.reduceAdd, Nat.zero_add] at hK ⊢
                    try generalize xF 8 = yy8 at *
                    obtain rfl := dd8
                    obtain hbR := id hR
                    obtain ⟨h0, h1⟩ := HBW.out _ hR
                    rw [if_pos (by rfl)]
                    go_simp
                    exact hK.out _ _ (Below.refl _ _) (rfl) (fun _ _ _ => ⟨trivial, trivial⟩)
                  refine FlowAll.cons ?_ ?_
                  · intro xF wq hR hd K hK
                    have dd4 : ((xF 4) = .agg #[.int .i64 x0, .int .i64 x1]) := hd 4 (by kernel_rfl)
                    have dd9 : ((xF 9) = .agg #[.int .i64 y0, .int .i64 y1]) := hd 9 (by kernel_rfl)
                    clear hd
                    simp only [List.take_succ_cons, List.take_zero, fillOf, Act.put, List.setIfInBounds_toArray, List.set_cons_zero, List.set_cons_succ, Nat.reduceAdd, Nat.zero_add] at hK ⊢
                    try generalize xF 4 = yy4 at *
                    try generalize xF 9 = yy9 at *
                    obtain rfl := dd4
                    obtain rfl := dd9
                    obtain hbR := id hR
                    rw [if_pos (by rfl)]
                    go_simp
                    exact hK.out _ _ (Below.refl _ _) (rfl) (fun _ _ _ => ⟨trivial, trivial⟩)
                  exact FlowAll.nil
                intro xF wq hR hF hP
                clear hP
                have dd0 : ((xF 0) = .pointer (some ⟨w.heap.size, 1, none⟩)) := hF 0 (by omega) (by decide)
                have dd1 : ((xF 1) = .slice (some ⟨ba, oa, none⟩) n2 t1) := hF 1 (by omega) (by decide)
                have dd2 : ((xF 2) = .int .i64 (k : Int)) := hF 2 (by omega) (by decide)
                have dd3 : ((xF 3) = .pointer (some ⟨ba, oa + k * 2, none⟩)) := hF 3 (by omega) (by decide)
                have dd4 : ((xF 4) = .agg #[.int .i64 x0, .int .i64 x1]) := hF 4 (by omega) (by decide)
                have dd5 : ((xF 5) = .pointer (some ⟨w.heap.size + 1, 1, none⟩)) := hF 5 (by omega) (by decide)
                have dd6 : ((xF 6) = .slice (some ⟨bb, ob, none⟩) n2 v1) := hF 6 (by omega) (by decide)
                have dd7 : ((xF 7) = .int .i64 (k : Int)) := hF 7 (by omega) (by decide)
                have dd8 : ((xF 8) = .pointer (some ⟨bb, ob + k * 2, none⟩)) := hF 8 (by omega) (by decide)
                have dd9 : ((xF 9) = .agg #[.int .i64 y0, .int .i64 y1]) := hF 9 (by omega) (by decide)
                have dd10 : ((xF 10) = .bool true) := hF 10 (by omega) (by decide)
                clear hF
                simp only [List.take_succ_cons, List.take_zero, List.drop_succ_cons, List.drop_zero, fillOf, Act.put, List.setIfInBounds_toArray, List.set_cons_zero, List.set_cons_succ, Nat.reduceAdd, Nat.zero_add]
                try generalize xF 0 = yy0 at *
                try generalize xF 1 = yy1 at *
                try generalize xF 2 = yy2 at *
                try generalize xF 3 = yy3 at *
                try generalize xF 4 = yy4 at *
                try generalize xF 5 = yy5 at *
                try generalize xF 6 = yy6 at *
                try generalize xF 7 = yy7 at *
                try generalize xF 8 = yy8 at *
                try generalize xF 9 = yy9 at *
                try generalize xF 10 = yy10 at *
                clear xF
                obtain rfl := dd0
                obtain rfl := dd1
                obtain rfl := dd2
                obtain rfl := dd3
                obtain rfl := dd4
                obtain rfl := dd5
                obtain rfl := dd6
                obtain rfl := dd7
                obtain rfl := dd8
                obtain rfl := dd9
                obtain rfl := dd10
                have hRE := Lib.hid hR
                clear hR
                have hb9 := E1.trans (hRE.out.mono E1.size)
                go_wp2
                go_ret
                exact ⟨rfl, hb9⟩
            · obtain rfl : n2 = k := by omega
              have HT1 := Lib.hid HT.out
              obtain rfl : R = true := HT9.out (by
                have h1 := HTA.out
                have h2 := HT.out
                rw [List.take_of_length_le (by rw [HNA0.out]; exact Nat.le_refl _), List.take_of_length_le (by rw [HNB0.out]; exact Nat.le_refl _)] at h1
                rw [List.take_of_length_le (by rw [HNA1.out]; exact Nat.le_refl _), List.take_of_length_le (by rw [HNB1.out]; exact Nat.le_refl _)] at h2
                exact Prod.ext h1 h2)
              have hb9 := E1.trans (D.mono E1.size)
              go_wp2
              go_ret
              exact ⟨rfl, hb9⟩
    · obtain rfl : R = false := HF.out (fun e => e2 (by rw [HNA1.out, HNB1'.out, e]))
      subst e1
      have hd : ((n2 : Int) == (m2 : Int)) = false := by rw [beq_eq_false_iff_ne]; omega
      have hd2 : ((n2 : Int) != (m2 : Int)) = true := by rw [bne_iff_ne]; omega
      have hd3 : ¬ (n2 : Int) = (m2 : Int) := by omega
      go_enter Try.func24, Try.ntmps24
      go_wp2
      go_ret
      rw [← HW1.out]
      exact ⟨rfl, E1⟩
  · obtain rfl : R = false := HF.out (fun e => e1 (by rw [HNA0.out, HNB0'.out, e]))
    have hd : ((n1 : Int) == (m1 : Int)) = false := by rw [beq_eq_false_iff_ne]; omega
    have hd2 : ((n1 : Int) != (m1 : Int)) = true := by rw [bne_iff_ne]; omega
    have hd3 : ¬ (n1 : Int) = (m1 : Int) := by omega
    go_enter Try.func24, Try.ntmps24
    go_wp2
    go_ret
    rw [← HW1.out]
    exact ⟨rfl, E1⟩
theorem OwnC.mono {B B' : Nat} {w : World} {v : Value} {c : dm.Ctx} (h : OwnC B w v c) (hb : B' ≤ B) : OwnC B' w v c := by
  obtain ⟨a1, c1, a2, c2, e, h1, h2⟩ := h
  exact ⟨a1, c1, a2, c2, e, own_mono h1 hb, own_mono h2 hb⟩
theorem OwnC.stay {B : Nat} {w w' : World} {v : Value} {c : dm.Ctx} (h : OwnC B w v c) (hb : Below w.heap.size w w') : OwnC B w' v c := by
  obtain ⟨a1, c1, a2, c2, e, h1, h2⟩ := h
  exact ⟨a1, c1, a2, c2, e, own_stay h1 hb, own_stay h2 hb⟩
/-- a context comes back that was handed in, with lists of its own -/
def CopyP (c : dm.Ctx) (w : World) (e : Ending) (w' : World) : Prop := ∃ v, e = .returned v ∧ OwnC w.heap.size w' v c ∧ Below w.heap.size w w'
set_option maxHeartbeats 3200000 in
set_option maxRecDepth 100000 in
theorem own_any (c : dm.Ctx) (v : Value) (w : World) (h : CtxAt w w.heap.size v c) (hl1 : c.1.length ≤ 400000) (hl2 : c.2.length ≤ 400000) : Calls Try.prog 37 #[v] w (CopyP c w) := by
  obtain ⟨a1, n1, c1, a2, n2, c2, rfl, hn1, hn2⟩ := h.form
  have HC := Lib.hid h
  have HN1 := Lib.hid hn1
  have HN2 := Lib.hid hn2
  have hf1 : n1 ≤ 9223372036854775807 := by
    obtain ⟨_, _, e, _, h9⟩ := h.parts.1.form
    rw [hn1]; unfold maxLen at h9; exact h9
  have hf2 : n2 ≤ 9223372036854775807 := by
    obtain ⟨_, _, e, _, h9⟩ := h.parts.2.form
    rw [hn2]; unfold maxLen at h9; exact h9
  clear h hn1 hn2
  have hb1 : n1 ≤ 400000 := by rw [HN1.out]; exact hl1
  have hb2 : n2 ≤ 400000 := by rw [HN2.out]; exact hl2
  obtain ⟨w1, hw1⟩ : ∃ W, W = (w.alloc (.cells #[.slice a1 n1 c1, .slice a2 n2 c2] 24)).alloc (.cells #[.slice none 0 0, .slice none 0 0] 24) := ⟨_, rfl⟩
  have E1 : Below w.heap.size w w1 := by rw [hw1]; exact ctx_below.trans (ctx_below.mono (by simp))
  have x0 : w1.cell? ⟨w.heap.size, 0, none⟩ = some (.slice a1 n1 c1) := by rw [hw1]; go_simp
  have x1 : w1.cell? ⟨w.heap.size, 1, none⟩ = some (.slice a2 n2 c2) := by rw [hw1]; go_simp
  have x2 : w1.cell? ⟨w.heap.size + 1, 0, none⟩ = some (.slice none 0 0) := by rw [hw1]; go_simp
  have x3 : w1.cell? ⟨w.heap.size + 1, 1, none⟩ = some (.slice none 0 0) := by rw [hw1]; go_simp
  have x4 : w1.frozen? ⟨w.heap.size + 1, 0, none⟩ = false := by rw [hw1]; go_simp
  have x5 : w1.frozen? ⟨w.heap.size + 1, 1, none⟩ = false := by rw [hw1]; go_simp
  have hs1 : w.heap.size + 2 ≤ w1.heap.size := by rw [hw1]; simp
  have HX : Hid (∀ W, Below w1.heap.size w1 W → W.cell? ⟨w.heap.size, 0, none⟩ = some (.slice a1 n1 c1) ∧ W.cell? ⟨w.heap.size, 1, none⟩ = some (.slice a2 n2 c2)) := fun W hW =>
    ⟨(hW.cell (p := ⟨w.heap.size, 0, none⟩) (by show w.heap.size < _; omega)).trans x0, (hW.cell (p := ⟨w.heap.size, 1, none⟩) (by show w.heap.size < _; omega)).trans x1⟩
  have HZ := Lib.hid (And.intro x2 (And.intro x3 (And.intro x4 x5)))
  have HW1 := Lib.hid hw1
  have HD1 : Hid (∀ W, Below w1.heap.size w1 W → Dots W W.heap.size (.slice a1 n1 c1) c.1) := fun W hW => (HC.out.next (E1.trans (hW.mono E1.size))).parts.1
  have HD2 : Hid (∀ W, Below w1.heap.size w1 W → Dots W W.heap.size (.slice a2 n2 c2) c.2) := fun W hW => (HC.out.next (E1.trans (hW.mono E1.size))).parts.2
  have HL1 : Hid ((dcells c.1).length = n1 * 2) := by show _ = _; rw [dcells_len, HN1.out]
  have HL2 : Hid ((dcells c.2).length = n2 * 2) := by show _ = _; rw [dcells_len, HN2.out]
  clear hw1 x0 x1 x2 x3 x4 x5 hl1 hl2
  go_enter Try.func37, Try.ntmps37
  go_wp2_with fail
  rw [← HW1.out]
  refine wp_flow 8 (fun _ => 1000) (fun ww => RowKit.Below w1.heap.size w1 ww) (fun _ w w' => (fun (w w' : World) => RowKit.Below w.heap.size w w') w w') (fun kF vF wF => match kF with | 0 => (∃ g, vF = .slice (some ⟨g, 0, none⟩) 0 0 ∧ wF.ownsRow w1.heap.size 26 2 (.slice (some ⟨g, 0, none⟩) 0 0) 0 []) | 1 => (vF = .pointer (some ⟨w.heap.size, 0, none⟩)) | 2 => (vF = .slice a1 n1 c1) | 3 => (∃ ao cp, vF = .slice ao n1 cp ∧ wF.ownsRow w1.heap.size 26 2 (.slice ao n1 cp) n1 (dcells c.1)) | 4 => (∃ g, vF = .slice (some ⟨g, 0, none⟩) 0 0 ∧ wF.ownsRow w1.heap.size 26 2 (.slice (some ⟨g, 0, none⟩) 0 0) 0 []) | 5 => (vF = .pointer (some ⟨w.heap.size, 1, none⟩)) | 6 => (vF = .slice a2 n2 c2) | 7 => (∃ ao cp, vF = .slice ao n2 cp ∧ wF.ownsRow w1.heap.size 26 2 (.slice ao n2 cp) n2 (dcells c.2)) | _ => True) (fun _ _ _ _ => True) (by kernel_rfl) (by kernel_rfl) ?_ ?_ ?_ ?_ ?_
  · exact (Below.refl _ _).drew
  · intro iF wF1 wF2 hR hT; exact hR.trans (hT.mono hR.size)
  · intro kF hkF iF hiF hne hdd hanc hdan vF wF1 wF2 h hT
    rcases (by omega : kF = 0 ∨ kF = 1 ∨ kF = 2 ∨ kF = 3 ∨ kF = 4 ∨ kF = 5 ∨ kF = 6 ∨ kF = 7) with rfl | rfl | rfl | rfl | rfl | rfl | rfl | rfl
    · have h : (∃ g, vF = .slice (some ⟨g, 0, none⟩) 0 0 ∧ wF1.ownsRow w1.heap.size 26 2 (.slice (some ⟨g, 0, none⟩) 0 0) 0 []) := h
      show (∃ g, vF = .slice (some ⟨g, 0, none⟩) 0 0 ∧ wF2.ownsRow w1.heap.size 26 2 (.slice (some ⟨g, 0, none⟩) 0 0) 0 [])
      have hT : (fun (w w' : World) => RowKit.Below w.heap.size w w') wF1 wF2 := hT
      simp only at hT
      obtain ⟨g, e, ho⟩ := h
      exact ⟨g, e, own_stay ho hT⟩
    · exact h
    · exact h
    · have h : (∃ ao cp, vF = .slice ao n1 cp ∧ wF1.ownsRow w1.heap.size 26 2 (.slice ao n1 cp) n1 (dcells c.1)) := h
      show (∃ ao cp, vF = .slice ao n1 cp ∧ wF2.ownsRow w1.heap.size 26 2 (.slice ao n1 cp) n1 (dcells c.1))
      have hT : (fun (w w' : World) => RowKit.Below w.heap.size w w') wF1 wF2 := hT
      simp only at hT
      obtain ⟨ao, cp, e, ho⟩ := h
      exact ⟨ao, cp, e, own_stay ho hT⟩
    · have h : (∃ g, vF = .slice (some ⟨g, 0, none⟩) 0 0 ∧ wF1.ownsRow w1.heap.size 26 2 (.slice (some ⟨g, 0, none⟩) 0 0) 0 []) := h
      show (∃ g, vF = .slice (some ⟨g, 0, none⟩) 0 0 ∧ wF2.ownsRow w1.heap.size 26 2 (.slice (some ⟨g, 0, none⟩) 0 0) 0 [])
      have hT : (fun (w w' : World) => RowKit.Below w.heap.size w w') wF1 wF2 := hT
      simp only at hT
      obtain ⟨g, e, ho⟩ := h
      exact ⟨g, e, own_stay ho hT⟩
    · exact h
    · exact h
    · have h : (∃ ao cp, vF = .slice ao n2 cp ∧ wF1.ownsRow w1.heap.size 26 2 (.slice ao n2 cp) n2 (dcells c.2)) := h
      show (∃ ao cp, vF = .slice ao n2 cp ∧ wF2.ownsRow w1.heap.size 26 2 (.slice ao n2 cp) n2 (dcells c.2))
      have hT : (fun (w w' : World) => RowKit.Below w.heap.size w w') wF1 wF2 := hT
      simp only at hT
      obtain ⟨ao, cp, e, ho⟩ := h
      exact ⟨ao, cp, e, own_stay ho hT⟩
  · refine FlowAll.cons ?_ ?_
    · intro xF wq hR hd K hK
      clear hd
      simp only [List.take_succ_cons, List.take_zero, fillOf, Act.put, List.setIfInBounds_toArray, List.set_cons_zero, List.set_cons_succ, Nat.reduceAdd, Nat.zero_add] at hK ⊢
      obtain hbR := id hR
      rw [if_pos (by rfl)]
      go_simp
      exact hK.out _ _ (ctx_below) (⟨_, rfl, own_none _ hR.size 2⟩) (fun _ _ _ => ⟨trivial, trivial⟩)
    refine FlowAll.cons ?_ ?_
    · intro xF wq hR hd K hK
      clear hd
      simp only [List.take_succ_cons, List.take_zero, fillOf, Act.put, List.setIfInBounds_toArray, List.set_cons_zero, List.set_cons_succ, Nat.reduceAdd, Nat.zero_add] at hK ⊢
      obtain hbR := id hR
      rw [if_pos (by rfl)]
      go_simp
      exact hK.out _ _ (Below.refl _ _) (rfl) (fun _ _ _ => ⟨trivial, trivial⟩)
    refine FlowAll.cons ?_ ?_
    · intro xF wq hR hd K hK
      have dd1 : ((xF 1) = .pointer (some ⟨w.heap.size, 0, none⟩)) := hd 1 (by kernel_rfl)
      clear hd
      simp only [List.take_succ_cons, List.take_zero, fillOf, Act.put, List.setIfInBounds_toArray, List.set_cons_zero, List.set_cons_succ, Nat.reduceAdd, Nat.zero_add] at hK ⊢
      try generalize xF 1 = yy1 at *
      obtain rfl := dd1
      obtain hbR := id hR
      obtain ⟨x0, x1⟩ := HX.out _ hR
      rw [if_pos (by rfl)]
      go_simp
      exact hK.out _ _ (Below.refl _ _) (rfl) (fun _ _ _ => ⟨trivial, trivial⟩)
    refine FlowAll.cons ?_ ?_
    · intro xF wq hR hd K hK
      have dd0 : (∃ g, (xF 0) = .slice (some ⟨g, 0, none⟩) 0 0 ∧ wq.ownsRow w1.heap.size 26 2 (.slice (some ⟨g, 0, none⟩) 0 0) 0 []) := hd 0 (by kernel_rfl)
      have dd2 : ((xF 2) = .slice a1 n1 c1) := hd 2 (by kernel_rfl)
      clear hd
      simp only [List.take_succ_cons, List.take_zero, fillOf, Act.put, List.setIfInBounds_toArray, List.set_cons_zero, List.set_cons_succ, Nat.reduceAdd, Nat.zero_add] at hK ⊢
      try generalize xF 0 = yy0 at *
      try generalize xF 2 = yy2 at *
      obtain ⟨g0, rfl, ho0⟩ := dd0
      obtain rfl := dd2
      obtain hbR := id hR
      rw [if_pos (by rfl)]
      refine kit.wp_of_list (fun Q' hQ' => ?_)
      have hN := Cells.news' (HD1.out _ hR)
      refine kit.appZ (.tmp 3) (.tmp 5) 22 rfl rfl w1.heap.size Try.underlying22 infoDot rfl (by decide) (by decide) ho0 rfl (dcells c.1) rfl HL1.out hN.1 hN.2 dcells_one (by omega) hR.size ?_
      intro vN wN hownN hbN
      refine hQ' _ _ ?_
      obtain ⟨aoN, cpN, rfl⟩ := own_form hownN
      simp only [Act.put, List.setIfInBounds_toArray, List.set_cons_zero, List.set_cons_succ]
      exact hK.out _ _ (hbN) (⟨aoN, cpN, rfl, hownN⟩) (fun _ _ _ => ⟨trivial, trivial⟩)
    refine FlowAll.cons ?_ ?_
    · intro xF wq hR hd K hK
      clear hd
      simp only [List.take_succ_cons, List.take_zero, fillOf, Act.put, List.setIfInBounds_toArray, List.set_cons_zero, List.set_cons_succ, Nat.reduceAdd, Nat.zero_add] at hK ⊢
      obtain hbR := id hR
      rw [if_pos (by rfl)]
      go_simp
      exact hK.out _ _ (ctx_below) (⟨_, rfl, own_none _ hR.size 2⟩) (fun _ _ _ => ⟨trivial, trivial⟩)
    refine FlowAll.cons ?_ ?_
    · intro xF wq hR hd K hK
      clear hd
      simp only [List.take_succ_cons, List.take_zero, fillOf, Act.put, List.setIfInBounds_toArray, List.set_cons_zero, List.set_cons_succ, Nat.reduceAdd, Nat.zero_add] at hK ⊢
      obtain hbR := id hR
      rw [if_pos (by rfl)]
      go_simp
      exact hK.out _ _ (Below.refl _ _) (rfl) (fun _ _ _ => ⟨trivial, trivial⟩)
    refine FlowAll.cons ?_ ?_
    · intro xF wq hR hd K hK
      have dd5 : ((xF 5) = .pointer (some ⟨w.heap.size, 1, none⟩)) := hd 5 (by kernel_rfl)
      clear hd
      simp only [List.take_succ_cons, List.take_zero, fillOf, Act.put, List.setIfInBounds_toArray, List.set_cons_zero, List.set_cons_succ, Nat.reduceAdd, Nat.zero_add] at hK ⊢
      try generalize xF 5 = yy5 at *
      obtain rfl := dd5
      obtain hbR := id hR
      obtain ⟨x0, x1⟩ := HX.out _ hR
      rw [if_pos (by rfl)]
      go_simp
      exact hK.out _ _ (Below.refl _ _) (rfl) (fun _ _ _ => ⟨trivial, trivial⟩)
    refine FlowAll.cons ?_ ?_
    · intro xF wq hR hd K hK
      have dd4 : (∃ g, (xF 4) = .slice (some ⟨g, 0, none⟩) 0 0 ∧ wq.ownsRow w1.heap.size 26 2 (.slice (some ⟨g, 0, none⟩) 0 0) 0 []) := hd 4 (by kernel_rfl)
      have dd6 : ((xF 6) = .slice a2 n2 c2) := hd 6 (by kernel_rfl)
      clear hd
      simp only [List.take_succ_cons, List.take_zero, fillOf, Act.put, List.setIfInBounds_toArray, List.set_cons_zero, List.set_cons_succ, Nat.reduceAdd, Nat.zero_add] at hK ⊢
      try generalize xF 4 = yy4 at *
      try generalize xF 6 = yy6 at *
      obtain ⟨g4, rfl, ho4⟩ := dd4
      obtain rfl := dd6
      obtain hbR := id hR
      rw [if_pos (by rfl)]
      refine kit.wp_of_list (fun Q' hQ' => ?_)
      have hN := Cells.news' (HD2.out _ hR)
      refine kit.appZ (.tmp 7) (.tmp 9) 22 rfl rfl w1.heap.size Try.underlying22 infoDot rfl (by decide) (by decide) ho4 rfl (dcells c.2) rfl HL2.out hN.1 hN.2 dcells_one (by omega) hR.size ?_
      intro vN wN hownN hbN
      refine hQ' _ _ ?_
      obtain ⟨aoN, cpN, rfl⟩ := own_form hownN
      simp only [Act.put, List.setIfInBounds_toArray, List.set_cons_zero, List.set_cons_succ]
      exact hK.out _ _ (hbN) (⟨aoN, cpN, rfl, hownN⟩) (fun _ _ _ => ⟨trivial, trivial⟩)
    exact FlowAll.nil
  intro xF wq hR hF hP
  clear hP
  have dd0 : (∃ g, (xF 0) = .slice (some ⟨g, 0, none⟩) 0 0 ∧ wq.ownsRow w1.heap.size 26 2 (.slice (some ⟨g, 0, none⟩) 0 0) 0 []) := hF 0 (by omega) (by decide)
  have dd1 : ((xF 1) = .pointer (some ⟨w.heap.size, 0, none⟩)) := hF 1 (by omega) (by decide)
  have dd2 : ((xF 2) = .slice a1 n1 c1) := hF 2 (by omega) (by decide)
  have dd3 : (∃ ao cp, (xF 3) = .slice ao n1 cp ∧ wq.ownsRow w1.heap.size 26 2 (.slice ao n1 cp) n1 (dcells c.1)) := hF 3 (by omega) (by decide)
  have dd4 : (∃ g, (xF 4) = .slice (some ⟨g, 0, none⟩) 0 0 ∧ wq.ownsRow w1.heap.size 26 2 (.slice (some ⟨g, 0, none⟩) 0 0) 0 []) := hF 4 (by omega) (by decide)
  have dd5 : ((xF 5) = .pointer (some ⟨w.heap.size, 1, none⟩)) := hF 5 (by omega) (by decide)
  have dd6 : ((xF 6) = .slice a2 n2 c2) := hF 6 (by omega) (by decide)
  have dd7 : (∃ ao cp, (xF 7) = .slice ao n2 cp ∧ wq.ownsRow w1.heap.size 26 2 (.slice ao n2 cp) n2 (dcells c.2)) := hF 7 (by omega) (by decide)
  clear hF
  simp only [List.take_succ_cons, List.take_zero, List.drop_succ_cons, List.drop_zero, fillOf, Act.put, List.setIfInBounds_toArray, List.set_cons_zero, List.set_cons_succ, Nat.reduceAdd, Nat.zero_add]
  try generalize xF 0 = yy0 at *
  try generalize xF 1 = yy1 at *
  try generalize xF 2 = yy2 at *
  try generalize xF 3 = yy3 at *
  try generalize xF 4 = yy4 at *
  try generalize xF 5 = yy5 at *
  try generalize xF 6 = yy6 at *
  try generalize xF 7 = yy7 at *
  clear xF
  obtain ⟨g0, rfl, ho0⟩ := dd0
  obtain rfl := dd1
  obtain rfl := dd2
  obtain ⟨ao3, cp3, rfl, ho3⟩ := dd3
  obtain ⟨g4, rfl, ho4⟩ := dd4
  obtain rfl := dd5
  obtain rfl := dd6
  obtain ⟨ao7, cp7, rfl, ho7⟩ := dd7
  have hRE := Lib.hid hR
  clear hR
  have D := hRE.out
  have y0 := (D.cell (p := ⟨w.heap.size + 1, 0, none⟩) (by show w.heap.size + 1 < _; omega)).trans HZ.out.1
  have y1 := (D.cell (p := ⟨w.heap.size + 1, 1, none⟩) (by show w.heap.size + 1 < _; omega)).trans HZ.out.2.1
  have y2 := (D.frozen (p := ⟨w.heap.size + 1, 0, none⟩) (by show w.heap.size + 1 < _; omega)).trans HZ.out.2.2.1
  have y3 := (D.frozen (p := ⟨w.heap.size + 1, 1, none⟩) (by show w.heap.size + 1 < _; omega)).trans HZ.out.2.2.2
  have hown : OwnC w1.heap.size wq (.agg #[.slice ao3 n1 cp3, .slice ao7 n2 cp7]) c := by
    refine ⟨ao3, cp3, ao7, cp7, by rw [← HN1.out, ← HN2.out], ?_, ?_⟩
    · rw [← HN1.out]; exact ho3
    · rw [← HN2.out]; exact ho7
  have HOC := Lib.hid (((hown.set (a := ⟨w.heap.size + 1, 0, none⟩) (by show w.heap.size + 1 < _; omega) (.slice ao3 n1 cp3)).set (a := ⟨w.heap.size + 1, 1, none⟩) (by show w.heap.size + 1 < _; omega) (.slice ao7 n2 cp7)).mono E1.size)
  have hb9 := E1.trans (D.mono E1.size)
  have HB9 := Lib.hid ((hb9.setCell (p := ⟨w.heap.size + 1, 0, none⟩) (by show w.heap.size ≤ w.heap.size + 1; omega) (.slice ao3 n1 cp3)).setCell (p := ⟨w.heap.size + 1, 1, none⟩) (by show w.heap.size ≤ w.heap.size + 1; omega) (.slice ao7 n2 cp7))
  clear hown ho3 ho7 ho0 ho4 hb9 hRE
  go_wp2
  refine bodyPost_ret (v := .agg #[.slice ao3 n1 cp3, .slice ao7 n2 cp7]) (by simp [results, Try.results37, go_sem, y0, y1]) rfl ?_
  exact ⟨_, rfl, HOC.out, HB9.out⟩
end Go.Proofs.Ytdcmoeklldkccaa
