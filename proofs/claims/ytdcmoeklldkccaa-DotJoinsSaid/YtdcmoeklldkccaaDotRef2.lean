/- the document's Right. -/
import Derived.Test.YtdcmoeklldkccaaDotBox
import Derived.Test.YtdcmoeklldkccaaDotRef1
namespace Go.Proofs.Ytdcmoeklldkccaa
open Go Go.RowKit Go.ChangeShapes cl Go.Sort

set_option maxHeartbeats 8000000 in
set_option maxRecDepth 100000 in
theorem rright_any (c : dm.Ctx) (v : Value) (w : World) (h : CtxAt w w.heap.size v c) : Calls Try.prog 19 #[v] w (Said (dm.rightB c) w) := by
  have HF1 : Hid (∀ j, j < c.1.length → ¬ dm.Ok1 c.1 j → dm.rightB c = false) := fun j hj hno => dm.rightB_false fun hr => hno (hr.ok1 hj)
  have HF2 : Hid (∀ j, j < c.2.length → ¬ dm.Ok2 (dm.upK c.1) c.2 j → dm.rightB c = false) := fun j hj hno => dm.rightB_false fun hr => hno (hr.ok2 hj)
  have HT : Hid ((∀ j, j < c.1.length → dm.Ok1 c.1 j) → (∀ j, j < c.2.length → dm.Ok2 (dm.upK c.1) c.2 j) → dm.rightB c = true) := fun h1 h2 => dm.rightB_true (dm.right_of h1 h2)
  obtain ⟨a1, n1, c1, a2, n2, c2, rfl, hn1, hn2⟩ := h.form
  have HC := Lib.hid h
  have HN1 := Lib.hid hn1
  have HN2 := Lib.hid hn2
  have hf1 : n1 ≤ 9223372036854775807 := by
    obtain ⟨_, _, e, _, h9⟩ := h.parts.1.form
    rw [hn1]; unfold maxLen at h9; exact h9
  have hf2 : n2 ≤ 9223372036854775807 := by
    obtain ⟨_, _, e, _, h9⟩ := h.parts.2.form
    rw [hn2]; unfold maxLen at h9; exact h9
  clear h hn1 hn2
  obtain ⟨w1, hw1⟩ : ∃ W, W = w.alloc (.cells #[.slice a1 n1 c1, .slice a2 n2 c2] 24) := ⟨_, rfl⟩
  have E1 : Below w.heap.size w w1 := by rw [hw1]; exact ctx_below
  have x0 : w1.cell? ⟨w.heap.size, 0, none⟩ = some (.slice a1 n1 c1) := by rw [hw1]; exact World.cell?_alloc_at _ _ _ _ rfl
  have x1 : w1.cell? ⟨w.heap.size, 1, none⟩ = some (.slice a2 n2 c2) := by rw [hw1]; exact World.cell?_alloc_at _ _ _ _ rfl
  have hs1 : w.heap.size < w1.heap.size := by rw [hw1]; simp
  have HX : Hid (∀ W, Below w1.heap.size w1 W → W.cell? ⟨w.heap.size, 0, none⟩ = some (.slice a1 n1 c1) ∧ W.cell? ⟨w.heap.size, 1, none⟩ = some (.slice a2 n2 c2)) := fun W hW =>
    ⟨(hW.cell (p := ⟨w.heap.size, 0, none⟩) hs1).trans x0, (hW.cell (p := ⟨w.heap.size, 1, none⟩) hs1).trans x1⟩
  have HW1 := Lib.hid hw1
  have HD1 : Hid (∀ W, Below w1.heap.size w1 W → Dots W W.heap.size (.slice a1 n1 c1) c.1) := fun W hW => (HC.out.next (E1.trans (hW.mono E1.size))).parts.1
  have HD2 : Hid (∀ W, Below w1.heap.size w1 W → Dots W W.heap.size (.slice a2 n2 c2) c.2) := fun W hW => (HC.out.next (E1.trans (hW.mono E1.size))).parts.2
  have HVA : Hid (∀ (d : Dot) W, Calls Try.prog 13 #[.agg #[.int .i64 d.1, .int .i64 d.2]] W (Said (valid d) W)) := fun d W => rvalid_any d W
  have HUP : Hid (∀ (a : Int) W, Below w1.heap.size w1 W → Calls Try.prog 33 #[.agg #[.slice a1 n1 c1, .slice a2 n2 c2], .int .i64 a] W fun e w' => e = .returned (.int .i64 (dm.kn c.1 a)) ∧ Below W.heap.size W w') := fun a W hW => rupto_any c a _ W (HC.out.next (E1.trans (hW.mono E1.size)))
  obtain ⟨R, hR⟩ : ∃ R, R = dm.rightB c := ⟨_, rfl⟩
  rw [← hR] at HF1 HF2 HT ⊢
  rw [← HN1.out] at HF1 HT
  rw [← HN2.out] at HF2 HT
  rw [hw1] at x0 x1
  clear hw1 hR
  go_enter Try.func19, Try.ntmps19
  go_wp2
  rw [← HW1.out]
  clear x0 x1
  go_loopw [10, 34] (fun i _ wr => ∃ k : Nat, i = .int .i64 k ∧ k ≤ n1 ∧ Hid (∀ j, j < k → dm.Ok1 c.1 j) ∧ Below w1.heap.size w1 wr) (fun i _ _ => n1 - (intOf i).toNat)
  case atStart => exact ⟨0, rfl, Nat.zero_le _, fun j hj => absurd hj (Nat.not_lt_zero _), Below.refl _ _⟩
  case round =>
    obtain ⟨k, rfl, hk, HO, D⟩ := hrel
    by_cases hlt : k < n1
    · obtain ⟨b0, off, rfl, hB, p0, p1⟩ := Dots.get (HD1.out _ D) HN1.out hlt
      obtain ⟨⟨a, b⟩, hx⟩ : ∃ x, x = c.1.getD k (0, 0) := ⟨_, rfl⟩
      rw [← hx] at p0 p1
      simp only at p0 p1
      have HXE := Lib.hid hx
      have hkI : (k : Int) < (n1 : Int) := by omega
      have hal : Below wr.heap.size wr (wr.alloc (.cells #[.int .i64 a, .int .i64 b] 26)) := ctx_below
      have D1 := D.trans (hal.mono D.size)
      have HB : Hid ((wr.alloc (.cells #[.int .i64 a, .int .i64 b] 26)).cell? ⟨wr.heap.size, 0, none⟩ = some (.int .i64 a) ∧ (wr.alloc (.cells #[.int .i64 a, .int .i64 b] 26)).cell? ⟨wr.heap.size, 1, none⟩ = some (.int .i64 b) ∧ wr.heap.size < (wr.alloc (.cells #[.int .i64 a, .int .i64 b] 26)).heap.size) := ⟨World.cell?_alloc_at _ _ _ _ rfl, World.cell?_alloc_at _ _ _ _ rfl, by simp⟩
      have HV := Lib.hid (HVA.out (a, b))
      have HFK := Lib.hid (HF1.out k hlt)
      clear hx
      cases hv : valid (a, b) with
      | false =>
        rw [hv] at HV
        obtain rfl : R = false := HFK.out (fun ho => by have := ho.1; rw [← HXE.out, hv] at this; cases this)
        clear hv
        go_wp2_with fail
        refine wp_flow 19 (fun _ => 1000) (fun ww => RowKit.Below w1.heap.size w1 ww ∧ ww.cell? ⟨wr.heap.size, 0, none⟩ = some (.int .i64 a) ∧ ww.cell? ⟨wr.heap.size, 1, none⟩ = some (.int .i64 b) ∧ wr.heap.size < ww.heap.size) (fun _ w w' => (fun (w w' : World) => RowKit.Below w.heap.size w w') w w') (fun kF vF wF => match kF with | 0 => (vF = .agg #[.int .i64 a, .int .i64 b]) | 1 => (vF = .bool false) | 2 => (vF = .bool true) | 3 => (vF = .bool true) | 4 => (vF = undef) | 5 => (vF = undef) | 6 => (vF = undef) | 7 => (vF = undef) | 8 => (vF = undef) | 9 => (vF = undef) | 10 => (vF = undef) | 11 => (vF = undef) | 12 => (vF = undef) | 13 => (vF = undef) | 14 => (vF = undef) | 15 => (vF = undef) | 16 => (vF = undef) | 17 => (vF = undef) | 18 => (vF = .bool true) | _ => True) (fun _ _ _ _ => True) (by kernel_rfl) (by kernel_rfl) ?_ ?_ ?_ ?_ ?_
        · exact ⟨D1.drew, HB.out.1, HB.out.2.1, HB.out.2.2⟩
        · intro iF wF1 wF2 hR hT; exact ⟨hR.1.trans (hT.mono hR.1.size), (hT.cell (p := ⟨wr.heap.size, 0, none⟩) hR.2.2.2).trans hR.2.1, (hT.cell (p := ⟨wr.heap.size, 1, none⟩) hR.2.2.2).trans hR.2.2.1, Nat.lt_of_lt_of_le hR.2.2.2 hT.size⟩
        · intro kF hkF iF hiF hne hdd hanc hdan vF wF1 wF2 h hT
          rcases (by omega : kF = 0 ∨ kF = 1 ∨ kF = 2 ∨ kF = 3 ∨ kF = 4 ∨ kF = 5 ∨ kF = 6 ∨ kF = 7 ∨ kF = 8 ∨ kF = 9 ∨ kF = 10 ∨ kF = 11 ∨ kF = 12 ∨ kF = 13 ∨ kF = 14 ∨ kF = 15 ∨ kF = 16 ∨ kF = 17 ∨ kF = 18) with rfl | rfl | rfl | rfl | rfl | rfl | rfl | rfl | rfl | rfl | rfl | rfl | rfl | rfl | rfl | rfl | rfl | rfl | rfl
          · exact h
          · exact h
          · exact h
          · exact h
          · exact h
          · exact h
          · exact h
          · exact h
          · exact h
          · exact h
          · exact h
          · exact h
          · exact h
          · exact h
          · exact h
          · exact h
          · exact h
          · exact h
          · exact h
        · refine FlowAll.cons ?_ ?_
          · intro xF wq hR hd K hK
            clear hd
            simp only [List.take_succ_cons, List.take_zero, fillOf, Act.put, List.setIfInBounds_toArray, List.set_cons_zero, List.set_cons_succ, Nat.reduceAdd, Nat.zero_add] at hK ⊢
            obtain hbR := id hR
            obtain ⟨_, z0, z1, _⟩ := id hR
            rw [if_pos (by rfl)]
            go_simp
            exact hK.out _ _ (Below.refl _ _) (rfl) (fun _ _ _ => ⟨trivial, trivial⟩)
          refine FlowAll.cons ?_ ?_
          · intro xF wq hR hd K hK
            have dd0 : ((xF 0) = .agg #[.int .i64 a, .int .i64 b]) := hd 0 (by kernel_rfl)
            clear hd
            simp only [List.take_succ_cons, List.take_zero, fillOf, Act.put, List.setIfInBounds_toArray, List.set_cons_zero, List.set_cons_succ, Nat.reduceAdd, Nat.zero_add] at hK ⊢
            try generalize xF 0 = yy0 at *
            obtain rfl := dd0
            obtain hbR := id hR
            rw [if_pos (by rfl)]
            go_simp
            (go_at_call 13; (with_reducible refine (HV.out _).mono ?_); rintro e wK ⟨rfl, hbK⟩)
            try go_wp2_with fail
            exact hK.out _ _ (hbK) (rfl) (fun _ _ _ => ⟨trivial, trivial⟩)
          refine FlowAll.cons ?_ ?_
          · intro xF wq hR hd K hK
            have dd1 : ((xF 1) = .bool false) := hd 1 (by kernel_rfl)
            clear hd
            simp only [List.take_succ_cons, List.take_zero, fillOf, Act.put, List.setIfInBounds_toArray, List.set_cons_zero, List.set_cons_succ, Nat.reduceAdd, Nat.zero_add] at hK ⊢
            try generalize xF 1 = yy1 at *
            obtain rfl := dd1
            obtain hbR := id hR
            rw [if_pos (by rfl)]
            go_simp
            exact hK.out _ _ (Below.refl _ _) (rfl) (fun _ _ _ => ⟨trivial, trivial⟩)
          refine FlowAll.cons ?_ ?_
          · intro xF wq hR hd K hK
            have dd2 : ((xF 2) = .bool true) := hd 2 (by kernel_rfl)
            clear hd
            simp only [List.take_succ_cons, List.take_zero, fillOf, Act.put, List.setIfInBounds_toArray, List.set_cons_zero, List.set_cons_succ, Nat.reduceAdd, Nat.zero_add] at hK ⊢
            try generalize xF 2 = yy2 at *
            obtain rfl := dd2
            obtain hbR := id hR
            rw [if_pos (by rfl)]
            go_simp
            exact hK.out _ _ (Below.refl _ _) (rfl) (fun _ _ _ => ⟨trivial, trivial⟩)
          refine FlowAll.cons ?_ ?_
          · intro xF wq hR hd K hK
            have dd3 : ((xF 3) = .bool true) := hd 3 (by kernel_rfl)
            clear hd
            simp only [List.take_succ_cons, List.take_zero, fillOf, Act.put, List.setIfInBounds_toArray, List.set_cons_zero, List.set_cons_succ, Nat.reduceAdd, Nat.zero_add] at hK ⊢
            try generalize xF 3 = yy3 at *
            obtain rfl := dd3
            obtain hbR := id hR
            rw [if_neg (by intro h; exact absurd (show false = true from h) Bool.false_ne_true)]
            try simp only [Act.put, List.setIfInBounds_toArray, List.set_cons_zero, List.set_cons_succ]
            exact hK.out _ _ (Below.refl _ _) (rfl) (fun _ _ _ => ⟨trivial, trivial⟩)
          refine FlowAll.cons ?_ ?_
          · intro xF wq hR hd K hK
            have dd3 : ((xF 3) = .bool true) := hd 3 (by kernel_rfl)
            clear hd
            simp only [List.take_succ_cons, List.take_zero, fillOf, Act.put, List.setIfInBounds_toArray, List.set_cons_zero, List.set_cons_succ, Nat.reduceAdd, Nat.zero_add] at hK ⊢
            try generalize xF 3 = yy3 at *
            obtain rfl := dd3
            obtain hbR := id hR
            rw [if_neg (by intro h; exact absurd (show false = true from h) Bool.false_ne_true)]
            try simp only [Act.put, List.setIfInBounds_toArray, List.set_cons_zero, List.set_cons_succ]
            exact hK.out _ _ (Below.refl _ _) (rfl) (fun _ _ _ => ⟨trivial, trivial⟩)
          refine FlowAll.cons ?_ ?_
          · intro xF wq hR hd K hK
            have dd3 : ((xF 3) = .bool true) := hd 3 (by kernel_rfl)
            clear hd
            simp only [List.take_succ_cons, List.take_zero, fillOf, Act.put, List.setIfInBounds_toArray, List.set_cons_zero, List.set_cons_succ, Nat.reduceAdd, Nat.zero_add] at hK ⊢
            try generalize xF 3 = yy3 at *
            obtain rfl := dd3
            obtain hbR := id hR
            rw [if_neg (by intro h; exact absurd (show false = true from h) Bool.false_ne_true)]
            try simp only [Act.put, List.setIfInBounds_toArray, List.set_cons_zero, List.set_cons_succ]
            exact hK.out _ _ (Below.refl _ _) (rfl) (fun _ _ _ => ⟨trivial, trivial⟩)
          refine FlowAll.cons ?_ ?_
          · intro xF wq hR hd K hK
            have dd6 : ((xF 6) = undef) := hd 6 (by kernel_rfl)
            clear hd
            simp only [List.take_succ_cons, List.take_zero, fillOf, Act.put, List.setIfInBounds_toArray, List.set_cons_zero, List.set_cons_succ, Nat.reduceAdd, Nat.zero_add] at hK ⊢
            try generalize xF 6 = yy6 at *
            obtain rfl := dd6
            obtain hbR := id hR
            rw [if_neg (by intro h; exact absurd (show false = true from h) Bool.false_ne_true)]
            try simp only [Act.put, List.setIfInBounds_toArray, List.set_cons_zero, List.set_cons_succ]
            exact hK.out _ _ (Below.refl _ _) (rfl) (fun _ _ _ => ⟨trivial, trivial⟩)
          refine FlowAll.cons ?_ ?_
          · intro xF wq hR hd K hK
            have dd6 : ((xF 6) = undef) := hd 6 (by kernel_rfl)
            clear hd
            simp only [List.take_succ_cons, List.take_zero, fillOf, Act.put, List.setIfInBounds_toArray, List.set_cons_zero, List.set_cons_succ, Nat.reduceAdd, Nat.zero_add] at hK ⊢
            try generalize xF 6 = yy6 at *
            obtain rfl := dd6
            obtain hbR := id hR
            rw [if_neg (by intro h; exact absurd (show false = true from h) Bool.false_ne_true)]
            try simp only [Act.put, List.setIfInBounds_toArray, List.set_cons_zero, List.set_cons_succ]
            exact hK.out _ _ (Below.refl _ _) (rfl) (fun _ _ _ => ⟨trivial, trivial⟩)
          refine FlowAll.cons ?_ ?_
          · intro xF wq hR hd K hK
            have dd6 : ((xF 6) = undef) := hd 6 (by kernel_rfl)
            clear hd
            simp only [List.take_succ_cons, List.take_zero, fillOf, Act.put, List.setIfInBounds_toArray, List.set_cons_zero, List.set_cons_succ, Nat.reduceAdd, Nat.zero_add] at hK ⊢
            try generalize xF 6 = yy6 at *
            obtain rfl := dd6
            obtain hbR := id hR
            rw [if_neg (by intro h; exact absurd (show false = true from h) Bool.false_ne_true)]
            try simp only [Act.put, List.setIfInBounds_toArray, List.set_cons_zero, List.set_cons_succ]
            exact hK.out _ _ (Below.refl _ _) (rfl) (fun _ _ _ => ⟨trivial, trivial⟩)
          refine FlowAll.cons ?_ ?_
          · intro xF wq hR hd K hK
            have dd6 : ((xF 6) = undef) := hd 6 (by kernel_rfl)
            clear hd
            simp only [List.take_succ_cons, List.take_zero, fillOf, Act.put, List.setIfInBounds_toArray, List.set_cons_zero, List.set_cons_succ, Nat.reduceAdd, Nat.zero_add] at hK ⊢
            try generalize xF 6 = yy6 at *
            obtain rfl := dd6
            obtain hbR := id hR
            rw [if_neg (by intro h; exact absurd (show false = true from h) Bool.false_ne_true)]
            try simp only [Act.put, List.setIfInBounds_toArray, List.set_cons_zero, List.set_cons_succ]
            exact hK.out _ _ (Below.refl _ _) (rfl) (fun _ _ _ => ⟨trivial, trivial⟩)
          refine FlowAll.cons ?_ ?_
          · intro xF wq hR hd K hK
            have dd6 : ((xF 6) = undef) := hd 6 (by kernel_rfl)
            clear hd
            simp only [List.take_succ_cons, List.take_zero, fillOf, Act.put, List.setIfInBounds_toArray, List.set_cons_zero, List.set_cons_succ, Nat.reduceAdd, Nat.zero_add] at hK ⊢
            try generalize xF 6 = yy6 at *
            obtain rfl := dd6
            obtain hbR := id hR
            rw [if_neg (by intro h; exact absurd (show false = true from h) Bool.false_ne_true)]
            try simp only [Act.put, List.setIfInBounds_toArray, List.set_cons_zero, List.set_cons_succ]
            exact hK.out _ _ (Below.refl _ _) (rfl) (fun _ _ _ => ⟨trivial, trivial⟩)
          refine FlowAll.cons ?_ ?_
          · intro xF wq hR hd K hK
            have dd6 : ((xF 6) = undef) := hd 6 (by kernel_rfl)
            clear hd
            simp only [List.take_succ_cons, List.take_zero, fillOf, Act.put, List.setIfInBounds_toArray, List.set_cons_zero, List.set_cons_succ, Nat.reduceAdd, Nat.zero_add] at hK ⊢
            try generalize xF 6 = yy6 at *
            obtain rfl := dd6
            obtain hbR := id hR
            rw [if_neg (by intro h; exact absurd (show false = true from h) Bool.false_ne_true)]
            try simp only [Act.put, List.setIfInBounds_toArray, List.set_cons_zero, List.set_cons_succ]
            exact hK.out _ _ (Below.refl _ _) (rfl) (fun _ _ _ => ⟨trivial, trivial⟩)
          refine FlowAll.cons ?_ ?_
          · intro xF wq hR hd K hK
            have dd6 : ((xF 6) = undef) := hd 6 (by kernel_rfl)
            clear hd
            simp only [List.take_succ_cons, List.take_zero, fillOf, Act.put, List.setIfInBounds_toArray, List.set_cons_zero, List.set_cons_succ, Nat.reduceAdd, Nat.zero_add] at hK ⊢
            try generalize xF 6 = yy6 at *
            obtain rfl := dd6
            obtain hbR := id hR
            rw [if_neg (by intro h; exact absurd (show false = true from h) Bool.false_ne_true)]
            try simp only [Act.put, List.setIfInBounds_toArray, List.set_cons_zero, List.set_cons_succ]
            exact hK.out _ _ (Below.refl _ _) (rfl) (fun _ _ _ => ⟨trivial, trivial⟩)
          refine FlowAll.cons ?_ ?_
          · intro xF wq hR hd K hK
            have dd6 : ((xF 6) = undef) := hd 6 (by kernel_rfl)
            clear hd
            simp only [List.take_succ_cons, List.take_zero, fillOf, Act.put, List.setIfInBounds_toArray, List.set_cons_zero, List.set_cons_succ, Nat.reduceAdd, Nat.zero_add] at hK ⊢
            try generalize xF 6 = yy6 at *
            obtain rfl := dd6
            obtain hbR := id hR
            rw [if_neg (by intro h; exact absurd (show false = true from h) Bool.false_ne_true)]
            try simp only [Act.put, List.setIfInBounds_toArray, List.set_cons_zero, List.set_cons_succ]
            exact hK.out _ _ (Below.refl _ _) (rfl) (fun _ _ _ => ⟨trivial, trivial⟩)
          refine FlowAll.cons ?_ ?_
          · intro xF wq hR hd K hK
            have dd6 : ((xF 6) = undef) := hd 6 (by kernel_rfl)
            clear hd
            simp only [List.take_succ_cons, List.take_zero, fillOf, Act.put, List.setIfInBounds_toArray, List.set_cons_zero, List.set_cons_succ, Nat.reduceAdd, Nat.zero_add] at hK ⊢
            try generalize xF 6 = yy6 at *
            obtain rfl := dd6
            obtain hbR := id hR
            rw [if_neg (by intro h; exact absurd (show false = true from h) Bool.false_ne_true)]
            try simp only [Act.put, List.setIfInBounds_toArray, List.set_cons_zero, List.set_cons_succ]
            exact hK.out _ _ (Below.refl _ _) (rfl) (fun _ _ _ => ⟨trivial, trivial⟩)
          refine FlowAll.cons ?_ ?_
          · intro xF wq hR hd K hK
            have dd6 : ((xF 6) = undef) := hd 6 (by kernel_rfl)
            clear hd
            simp only [List.take_succ_cons, List.take_zero, fillOf, Act.put, List.setIfInBounds_toArray, List.set_cons_zero, List.set_cons_succ, Nat.reduceAdd, Nat.zero_add] at hK ⊢
            try generalize xF 6 = yy6 at *
            obtain rfl := dd6
            obtain hbR := id hR
            rw [if_neg (by intro h; exact absurd (show false = true from h) Bool.false_ne_true)]
            try simp only [Act.put, List.setIfInBounds_toArray, List.set_cons_zero, List.set_cons_succ]
            exact hK.out _ _ (Below.refl _ _) (rfl) (fun _ _ _ => ⟨trivial, trivial⟩)
          refine FlowAll.cons ?_ ?_
          · intro xF wq hR hd K hK
            have dd3 : ((xF 3) = .bool true) := hd 3 (by kernel_rfl)
            clear hd
            simp only [List.take_succ_cons, List.take_zero, fillOf, Act.put, List.setIfInBounds_toArray, List.set_cons_zero, List.set_cons_succ, Nat.reduceAdd, Nat.zero_add] at hK ⊢
            try generalize xF 3 = yy3 at *
            obtain rfl := dd3
            obtain hbR := id hR
            rw [if_neg (by intro h; exact absurd (show false = true from h) Bool.false_ne_true)]
            try simp only [Act.put, List.setIfInBounds_toArray, List.set_cons_zero, List.set_cons_succ]
            exact hK.out _ _ (Below.refl _ _) (rfl) (fun _ _ _ => ⟨trivial, trivial⟩)
          refine FlowAll.cons ?_ ?_
          · intro xF wq hR hd K hK
            have dd3 : ((xF 3) = .bool true) := hd 3 (by kernel_rfl)
            have dd17 : ((xF 17) = undef) := hd 17 (by kernel_rfl)
            clear hd
            simp only [List.take_succ_cons, List.take_zero, fillOf, Act.put, List.setIfInBounds_toArray, List.set_cons_zero, List.set_cons_succ, Nat.reduceAdd, Nat.zero_add] at hK ⊢
            try generalize xF 3 = yy3 at *
            try generalize xF 17 = yy17 at *
            obtain rfl := dd3
            obtain rfl := dd17
            obtain hbR := id hR
            rw [if_pos (by rfl)]
            go_simp
            exact hK.out _ _ (Below.refl _ _) (rfl) (fun _ _ _ => ⟨trivial, trivial⟩)
          exact FlowAll.nil
        intro xF wq hR hF hP
        clear hP
        have dd0 : ((xF 0) = .agg #[.int .i64 a, .int .i64 b]) := hF 0 (by omega) (by decide)
        have dd1 : ((xF 1) = .bool false) := hF 1 (by omega) (by decide)
        have dd2 : ((xF 2) = .bool true) := hF 2 (by omega) (by decide)
        have dd3 : ((xF 3) = .bool true) := hF 3 (by omega) (by decide)
        have dd4 : ((xF 4) = undef) := hF 4 (by omega) (by decide)
        have dd5 : ((xF 5) = undef) := hF 5 (by omega) (by decide)
        have dd6 : ((xF 6) = undef) := hF 6 (by omega) (by decide)
        have dd7 : ((xF 7) = undef) := hF 7 (by omega) (by decide)
        have dd8 : ((xF 8) = undef) := hF 8 (by omega) (by decide)
        have dd9 : ((xF 9) = undef) := hF 9 (by omega) (by decide)
        have dd10 : ((xF 10) = undef) := hF 10 (by omega) (by decide)
        have dd11 : ((xF 11) = undef) := hF 11 (by omega) (by decide)
        have dd12 : ((xF 12) = undef) := hF 12 (by omega) (by decide)
        have dd13 : ((xF 13) = undef) := hF 13 (by omega) (by decide)
        have dd14 : ((xF 14) = undef) := hF 14 (by omega) (by decide)
        have dd15 : ((xF 15) = undef) := hF 15 (by omega) (by decide)
        have dd16 : ((xF 16) = undef) := hF 16 (by omega) (by decide)
        have dd17 : ((xF 17) = undef) := hF 17 (by omega) (by decide)
        have dd18 : ((xF 18) = .bool true) := hF 18 (by omega) (by decide)
        clear hF
        simp only [List.take_succ_cons, List.take_zero, List.drop_succ_cons, List.drop_zero, fillOf, Act.put, List.setIfInBounds_toArray, List.set_cons_zero, List.set_cons_succ, Nat.reduceAdd, Nat.zero_add]
        try generalize xF 0 = yy0 at *
        try generalize xF 1 = yy1 at *
        try generalize xF 2 = yy2 at *
        try generalize xF 3 = yy3 at *
        try generalize xF 4 = yy4 at *
        try generalize xF 5 = yy5 at *
        try generalize xF 6 = yy6 at *
        try generalize xF 7 = yy7 at *
        try generalize xF 8 = yy8 at *
        try generalize xF 9 = yy9 at *
        try generalize xF 10 = yy10 at *
        try generalize xF 11 = yy11 at *
        try generalize xF 12 = yy12 at *
        try generalize xF 13 = yy13 at *
        try generalize xF 14 = yy14 at *
        try generalize xF 15 = yy15 at *
        try generalize xF 16 = yy16 at *
        try generalize xF 17 = yy17 at *
        try generalize xF 18 = yy18 at *
        clear xF
        obtain rfl := dd0
        obtain rfl := dd1
        obtain rfl := dd2
        obtain rfl := dd3
        obtain rfl := dd4
        obtain rfl := dd5
        obtain rfl := dd6
        obtain rfl := dd7
        obtain rfl := dd8
        obtain rfl := dd9
        obtain rfl := dd10
        obtain rfl := dd11
        obtain rfl := dd12
        obtain rfl := dd13
        obtain rfl := dd14
        obtain rfl := dd15
        obtain rfl := dd16
        obtain rfl := dd17
        obtain rfl := dd18
        have hRE := Lib.hid hR
        clear hR
        have hb9 := E1.trans (hRE.out.1.mono E1.size)
        clear hRE
        go_wp2
        go_ret
        exact ⟨rfl, hb9⟩
      | true =>
        rw [hv] at HV
        have HVT := Lib.hid hv
        clear hv
        by_cases hk0 : 0 < k
        · obtain ⟨i, hki⟩ : ∃ i, k = i + 1 := ⟨k - 1, by omega⟩
          have HPR0 : Hid (∀ W, Below w1.heap.size w1 W → W.cell? ⟨b0, off + i * 2, none⟩ = some (.int .i64 (c.1.getD i (0, 0)).1)) := fun W hW => by
            obtain ⟨b0', off', hb0, _, q0, _⟩ := Dots.get (HD1.out W hW) HN1.out (show i < n1 by omega)
            simp only [Option.some.injEq, Addr.mk.injEq] at hb0
            obtain ⟨rfl, rfl, _⟩ := hb0
            exact q0
          obtain ⟨a', ha'⟩ : ∃ x, x = (c.1.getD i (0, 0)).1 := ⟨_, rfl⟩
          rw [← ha'] at HPR0
          have HPR : Hid (∀ W, Below w1.heap.size w1 W → W.cell? ⟨b0, off + i * 2, none⟩ = some (.int .i64 a')) := HPR0.out
          have HAE := Lib.hid ha'
          have HKI := Lib.hid hki
          have hw : IntKind.i64.wrap ((k : Int) - 1) = (i : Int) := by rw [hki]; push_cast; rw [Int.add_sub_cancel]; exact IntWalk.i64_in _ (by omega)
          have hi0 : (0 : Int) ≤ (i : Int) := by omega
          have hi1 : (i : Int) < (n1 : Int) := by omega
          have hg2 : (0 : Int) < (k : Int) := by omega
          have hg1 : decide ((0 : Int) < (k : Int)) = true := decide_eq_true hg2
          have hsub : (k : Int) - 1 = (i : Int) := by omega
          have hwi : IntKind.i64.wrap (i : Int) = (i : Int) := IntWalk.i64_in _ (by omega)
          clear hki ha' HPR0
          by_cases hge : a ≤ a'
          · obtain rfl : R = false := HFK.out (fun ho => by
              have := ho.2 hk0
              rw [HKI.out, Nat.add_sub_cancel, ← HKI.out, ← HAE.out, ← HXE.out] at this
              simp only at this; omega)
            have hd : decide (a ≤ a') = true := decide_eq_true hge
            go_wp2_with fail
            refine wp_flow 19 (fun _ => 1000) (fun ww => RowKit.Below w1.heap.size w1 ww ∧ ww.cell? ⟨wr.heap.size, 0, none⟩ = some (.int .i64 a) ∧ ww.cell? ⟨wr.heap.size, 1, none⟩ = some (.int .i64 b) ∧ wr.heap.size < ww.heap.size) (fun _ w w' => (fun (w w' : World) => RowKit.Below w.heap.size w w') w w') (fun kF vF wF => match kF with | 0 => (vF = .agg #[.int .i64 a, .int .i64 b]) | 1 => (vF = .bool true) | 2 => (vF = .bool false) | 3 => (vF = .bool false) | 4 => (vF = .int .i64 (k : Int)) | 5 => (vF = .bool true) | 6 => (vF = .bool true) | 7 => (vF = .pointer (some ⟨w.heap.size, 0, none⟩)) | 8 => (vF = .slice (some ⟨b0, off, none⟩) n1 c1) | 9 => (vF = .int .i64 (k : Int)) | 10 => (vF = .int .i64 (i : Int)) | 11 => (vF = .pointer (some ⟨b0, off + i * 2, none⟩)) | 12 => (vF = .pointer (some ⟨b0, off + i * 2, none⟩)) | 13 => (vF = .int .i64 a') | 14 => (vF = .pointer (some ⟨wr.heap.size, 0, none⟩)) | 15 => (vF = .int .i64 a) | 16 => (vF = .bool true) | 17 => (vF = .bool true) | 18 => (vF = .bool true) | _ => True) (fun _ _ _ _ => True) (by kernel_rfl) (by kernel_rfl) ?_ ?_ ?_ ?_ ?_
            · exact ⟨D1.drew, HB.out.1, HB.out.2.1, HB.out.2.2⟩
            · intro iF wF1 wF2 hR hT; exact ⟨hR.1.trans (hT.mono hR.1.size), (hT.cell (p := ⟨wr.heap.size, 0, none⟩) hR.2.2.2).trans hR.2.1, (hT.cell (p := ⟨wr.heap.size, 1, none⟩) hR.2.2.2).trans hR.2.2.1, Nat.lt_of_lt_of_le hR.2.2.2 hT.size⟩
            · intro kF hkF iF hiF hne hdd hanc hdan vF wF1 wF2 h hT
              rcases (by omega : kF = 0 ∨ kF = 1 ∨ kF = 2 ∨ kF = 3 ∨ kF = 4 ∨ kF = 5 ∨ kF = 6 ∨ kF = 7 ∨ kF = 8 ∨ kF = 9 ∨ kF = 10 ∨ kF = 11 ∨ kF = 12 ∨ kF = 13 ∨ kF = 14 ∨ kF = 15 ∨ kF = 16 ∨ kF = 17 ∨ kF = 18) with rfl | rfl | rfl | rfl | rfl | rfl | rfl | rfl | rfl | rfl | rfl | rfl | rfl | rfl | rfl | rfl | rfl | rfl | rfl
              · exact h
              · exact h
              · exact h
              · exact h
              · exact h
              · exact h
              · exact h
              · exact h
              · exact h
              · exact h
              · exact h
              · exact h
              · exact h
              · exact h
              · exact h
              · exact h
              · exact h
              · exact h
              · exact h
            · refine FlowAll.cons ?_ ?_
              · intro xF wq hR hd K hK
                clear hd
                simp only [List.take_succ_cons, List.take_zero, fillOf, Act.put, List.setIfInBounds_toArray, List.set_cons_zero, List.set_cons_succ, Nat.reduceAdd, Nat.zero_add] at hK ⊢
                obtain hbR := id hR
                obtain ⟨_, z0, z1, _⟩ := id hR
                rw [if_pos (by rfl)]
                go_simp
                exact hK.out _ _ (Below.refl _ _) (rfl) (fun _ _ _ => ⟨trivial, trivial⟩)
              refine FlowAll.cons ?_ ?_
              · intro xF wq hR hd K hK
                have dd0 : ((xF 0) = .agg #[.int .i64 a, .int .i64 b]) := hd 0 (by kernel_rfl)
                clear hd
                simp only [List.take_succ_cons, List.take_zero, fillOf, Act.put, List.setIfInBounds_toArray, List.set_cons_zero, List.set_cons_succ, Nat.reduceAdd, Nat.zero_add] at hK ⊢
                try generalize xF 0 = yy0 at *
                obtain rfl := dd0
                obtain hbR := id hR
                rw [if_pos (by rfl)]
                go_simp
                (go_at_call 13; (with_reducible refine (HV.out _).mono ?_); rintro e wK ⟨rfl, hbK⟩)
                try go_wp2_with fail
                exact hK.out _ _ (hbK) (rfl) (fun _ _ _ => ⟨trivial, trivial⟩)
              refine FlowAll.cons ?_ ?_
              · intro xF wq hR hd K hK
                have dd1 : ((xF 1) = .bool true) := hd 1 (by kernel_rfl)
                clear hd
                simp only [List.take_succ_cons, List.take_zero, fillOf, Act.put, List.setIfInBounds_toArray, List.set_cons_zero, List.set_cons_succ, Nat.reduceAdd, Nat.zero_add] at hK ⊢
                try generalize xF 1 = yy1 at *
                obtain rfl := dd1
                obtain hbR := id hR
                rw [if_pos (by rfl)]
                go_simp
                exact hK.out _ _ (Below.refl _ _) (rfl) (fun _ _ _ => ⟨trivial, trivial⟩)
              refine FlowAll.cons ?_ ?_
              · intro xF wq hR hd K hK
                have dd2 : ((xF 2) = .bool false) := hd 2 (by kernel_rfl)
                clear hd
                simp only [List.take_succ_cons, List.take_zero, fillOf, Act.put, List.setIfInBounds_toArray, List.set_cons_zero, List.set_cons_succ, Nat.reduceAdd, Nat.zero_add] at hK ⊢
                try generalize xF 2 = yy2 at *
                obtain rfl := dd2
                obtain hbR := id hR
                rw [if_pos (by rfl)]
                go_simp
                exact hK.out _ _ (Below.refl _ _) (rfl) (fun _ _ _ => ⟨trivial, trivial⟩)
              refine FlowAll.cons ?_ ?_
              · intro xF wq hR hd K hK
                have dd3 : ((xF 3) = .bool false) := hd 3 (by kernel_rfl)
                clear hd
                simp only [List.take_succ_cons, List.take_zero, fillOf, Act.put, List.setIfInBounds_toArray, List.set_cons_zero, List.set_cons_succ, Nat.reduceAdd, Nat.zero_add] at hK ⊢
                try generalize xF 3 = yy3 at *
                obtain rfl := dd3
                obtain hbR := id hR
                rw [if_pos (by rfl)]
                go_simp
                exact hK.out _ _ (Below.refl _ _) (rfl) (fun _ _ _ => ⟨trivial, trivial⟩)
              refine FlowAll.cons ?_ ?_
              · intro xF wq hR hd K hK
                have dd3 : ((xF 3) = .bool false) := hd 3 (by kernel_rfl)
                have dd4 : ((xF 4) = .int .i64 (k : Int)) := hd 4 (by kernel_rfl)
                clear hd
                simp only [List.take_succ_cons, List.take_zero, fillOf, Act.put, List.setIfInBounds_toArray, List.set_cons_zero, List.set_cons_succ, Nat.reduceAdd, Nat.zero_add] at hK ⊢
                try generalize xF 3 = yy3 at *
                try generalize xF 4 = yy4 at *
                obtain rfl := dd3
                obtain rfl := dd4
                obtain hbR := id hR
                rw [if_pos (by rfl)]
                go_simp
                exact hK.out _ _ (Below.refl _ _) (rfl) (fun _ _ _ => ⟨trivial, trivial⟩)
              refine FlowAll.cons ?_ ?_
              · intro xF wq hR hd K hK
                have dd3 : ((xF 3) = .bool false) := hd 3 (by kernel_rfl)
                have dd5 : ((xF 5) = .bool true) := hd 5 (by kernel_rfl)
                clear hd
                simp only [List.take_succ_cons, List.take_zero, fillOf, Act.put, List.setIfInBounds_toArray, List.set_cons_zero, List.set_cons_succ, Nat.reduceAdd, Nat.zero_add] at hK ⊢
                try generalize xF 3 = yy3 at *
                try generalize xF 5 = yy5 at *
                obtain rfl := dd3
                obtain rfl := dd5
                obtain hbR := id hR
                rw [if_pos (by rfl)]
                go_simp
                exact hK.out _ _ (Below.refl _ _) (rfl) (fun _ _ _ => ⟨trivial, trivial⟩)
              refine FlowAll.cons ?_ ?_
              · intro xF wq hR hd K hK
                have dd6 : ((xF 6) = .bool true) := hd 6 (by kernel_rfl)
                clear hd
                simp only [List.take_succ_cons, List.take_zero, fillOf, Act.put, List.setIfInBounds_toArray, List.set_cons_zero, List.set_cons_succ, Nat.reduceAdd, Nat.zero_add] at hK ⊢
                try generalize xF 6 = yy6 at *
                obtain rfl := dd6
                obtain hbR := id hR
                rw [if_pos (by rfl)]
                go_simp
                exact hK.out _ _ (Below.refl _ _) (rfl) (fun _ _ _ => ⟨trivial, trivial⟩)
              refine FlowAll.cons ?_ ?_
              · intro xF wq hR hd K hK
                have dd6 : ((xF 6) = .bool true) := hd 6 (by kernel_rfl)
                have dd7 : ((xF 7) = .pointer (some ⟨w.heap.size, 0, none⟩)) := hd 7 (by kernel_rfl)
                clear hd
                simp only [List.take_succ_cons, List.take_zero, fillOf, Act.put, List.setIfInBounds_toArray, List.set_cons_zero, List.set_cons_succ, Nat.reduceAdd, Nat.zero_add] at hK ⊢
                try generalize xF 6 = yy6 at *
                try generalize xF 7 = yy7 at *
                obtain rfl := dd6
                obtain rfl := dd7
                obtain hbR := id hR
                obtain ⟨x0, x1⟩ := HX.out _ hR.1
                rw [if_pos (by rfl)]
                go_simp
                exact hK.out _ _ (Below.refl _ _) (rfl) (fun _ _ _ => ⟨trivial, trivial⟩)
              refine FlowAll.cons ?_ ?_
              · intro xF wq hR hd K hK
                have dd6 : ((xF 6) = .bool true) := hd 6 (by kernel_rfl)
                clear hd
                simp only [List.take_succ_cons, List.take_zero, fillOf, Act.put, List.setIfInBounds_toArray, List.set_cons_zero, List.set_cons_succ, Nat.reduceAdd, Nat.zero_add] at hK ⊢
                try generalize xF 6 = yy6 at *
                obtain rfl := dd6
                obtain hbR := id hR
                rw [if_pos (by rfl)]
                go_simp
                exact hK.out _ _ (Below.refl _ _) (rfl) (fun _ _ _ => ⟨trivial, trivial⟩)
              refine FlowAll.cons ?_ ?_
              · intro xF wq hR hd K hK
                have dd6 : ((xF 6) = .bool true) := hd 6 (by kernel_rfl)
                have dd9 : ((xF 9) = .int .i64 (k : Int)) := hd 9 (by kernel_rfl)
                clear hd
                simp only [List.take_succ_cons, List.take_zero, fillOf, Act.put, List.setIfInBounds_toArray, List.set_cons_zero, List.set_cons_succ, Nat.reduceAdd, Nat.zero_add] at hK ⊢
                try generalize xF 6 = yy6 at *
                try generalize xF 9 = yy9 at *
                obtain rfl := dd6
                obtain rfl := dd9
                obtain hbR := id hR
                rw [if_pos (by rfl)]
                go_simp
                exact hK.out _ _ (Below.refl _ _) (rfl) (fun _ _ _ => ⟨trivial, trivial⟩)
              refine FlowAll.cons ?_ ?_
              · intro xF wq hR hd K hK
                have dd6 : ((xF 6) = .bool true) := hd 6 (by kernel_rfl)
                have dd8 : ((xF 8) = .slice (some ⟨b0, off, none⟩) n1 c1) := hd 8 (by kernel_rfl)
                have dd10 : ((xF 10) = .int .i64 (i : Int)) := hd 10 (by kernel_rfl)
                clear hd
                simp only [List.take_succ_cons, List.take_zero, fillOf, Act.put, List.setIfInBounds_toArray, List.set_cons_zero, List.set_cons_succ, Nat.reduceAdd, Nat.zero_add] at hK ⊢
                try generalize xF 6 = yy6 at *
                try generalize xF 8 = yy8 at *
                try generalize xF 10 = yy10 at *
                obtain rfl := dd6
                obtain rfl := dd8
                obtain rfl := dd10
                obtain hbR := id hR
                rw [if_pos (by rfl)]
                go_simp
                exact hK.out _ _ (Below.refl _ _) (rfl) (fun _ _ _ => ⟨trivial, trivial⟩)
              refine FlowAll.cons ?_ ?_
              · intro xF wq hR hd K hK
                have dd6 : ((xF 6) = .bool true) := hd 6 (by kernel_rfl)
                have dd11 : ((xF 11) = .pointer (some ⟨b0, off + i * 2, none⟩)) := hd 11 (by kernel_rfl)
                clear hd
                simp only [List.take_succ_cons, List.take_zero, fillOf, Act.put, List.setIfInBounds_toArray, List.set_cons_zero, List.set_cons_succ, Nat.reduceAdd, Nat.zero_add] at hK ⊢
                try generalize xF 6 = yy6 at *
                try generalize xF 11 = yy11 at *
                obtain rfl := dd6
                obtain rfl := dd11
                obtain hbR := id hR
                rw [if_pos (by rfl)]
                go_simp
                exact hK.out _ _ (Below.refl _ _) (rfl) (fun _ _ _ => ⟨trivial, trivial⟩)
              refine FlowAll.cons ?_ ?_
              · intro xF wq hR hd K hK
                have dd6 : ((xF 6) = .bool true) := hd 6 (by kernel_rfl)
                have dd12 : ((xF 12) = .pointer (some ⟨b0, off + i * 2, none⟩)) := hd 12 (by kernel_rfl)
                clear hd
                simp only [List.take_succ_cons, List.take_zero, fillOf, Act.put, List.setIfInBounds_toArray, List.set_cons_zero, List.set_cons_succ, Nat.reduceAdd, Nat.zero_add] at hK ⊢
                try generalize xF 6 = yy6 at *
                try generalize xF 12 = yy12 at *
                obtain rfl := dd6
                obtain rfl := dd12
                obtain hbR := id hR
                have e2 := HPR.out _ hR.1
                rw [if_pos (by rfl)]
                go_simp
                exact hK.out _ _ (Below.refl _ _) (rfl) (fun _ _ _ => ⟨trivial, trivial⟩)
              refine FlowAll.cons ?_ ?_
              · intro xF wq hR hd K hK
                have dd6 : ((xF 6) = .bool true) := hd 6 (by kernel_rfl)
                clear hd
                simp only [List.take_succ_cons, List.take_zero, fillOf, Act.put, List.setIfInBounds_toArray, List.set_cons_zero, List.set_cons_succ, Nat.reduceAdd, Nat.zero_add] at hK ⊢
                try generalize xF 6 = yy6 at *
                obtain rfl := dd6
                obtain hbR := id hR
                rw [if_pos (by rfl)]
                go_simp
                exact hK.out _ _ (Below.refl _ _) (rfl) (fun _ _ _ => ⟨trivial, trivial⟩)
              refine FlowAll.cons ?_ ?_
              · intro xF wq hR hd K hK
                have dd6 : ((xF 6) = .bool true) := hd 6 (by kernel_rfl)
                have dd14 : ((xF 14) = .pointer (some ⟨wr.heap.size, 0, none⟩)) := hd 14 (by kernel_rfl)
                clear hd
                simp only [List.take_succ_cons, List.take_zero, fillOf, Act.put, List.setIfInBounds_toArray, List.set_cons_zero, List.set_cons_succ, Nat.reduceAdd, Nat.zero_add] at hK ⊢
                try generalize xF 6 = yy6 at *
                try generalize xF 14 = yy14 at *
                obtain rfl := dd6
                obtain rfl := dd14
                obtain hbR := id hR
                obtain ⟨_, z0, z1, _⟩ := id hR
                rw [if_pos (by rfl)]
                go_simp
                exact hK.out _ _ (Below.refl _ _) (rfl) (fun _ _ _ => ⟨trivial, trivial⟩)
              refine FlowAll.cons ?_ ?_
              · intro xF wq hR hd K hK
                have dd6 : ((xF 6) = .bool true) := hd 6 (by kernel_rfl)
                have dd13 : ((xF 13) = .int .i64 a') := hd 13 (by kernel_rfl)
                have dd15 : ((xF 15) = .int .i64 a) := hd 15 (by kernel_rfl)
                clear hd
                simp only [List.take_succ_cons, List.take_zero, fillOf, Act.put, List.setIfInBounds_toArray, List.set_cons_zero, List.set_cons_succ, Nat.reduceAdd, Nat.zero_add] at hK ⊢
                try generalize xF 6 = yy6 at *
                try generalize xF 13 = yy13 at *
                try generalize xF 15 = yy15 at *
                obtain rfl := dd6
                obtain rfl := dd13
                obtain rfl := dd15
                obtain hbR := id hR
                rw [if_pos (by rfl)]
                go_simp
                exact hK.out _ _ (Below.refl _ _) (rfl) (fun _ _ _ => ⟨trivial, trivial⟩)
              refine FlowAll.cons ?_ ?_
              · intro xF wq hR hd K hK
                have dd3 : ((xF 3) = .bool false) := hd 3 (by kernel_rfl)
                have dd6 : ((xF 6) = .bool true) := hd 6 (by kernel_rfl)
                have dd16 : ((xF 16) = .bool true) := hd 16 (by kernel_rfl)
                clear hd
                simp only [List.take_succ_cons, List.take_zero, fillOf, Act.put, List.setIfInBounds_toArray, List.set_cons_zero, List.set_cons_succ, Nat.reduceAdd, Nat.zero_add] at hK ⊢
                try generalize xF 3 = yy3 at *
                try generalize xF 6 = yy6 at *
                try generalize xF 16 = yy16 at *
                obtain rfl := dd3
                obtain rfl := dd6
                obtain rfl := dd16
                obtain hbR := id hR
                rw [if_pos (by rfl)]
                go_simp
                exact hK.out _ _ (Below.refl _ _) (rfl) (fun _ _ _ => ⟨trivial, trivial⟩)
              refine FlowAll.cons ?_ ?_
              · intro xF wq hR hd K hK
                have dd3 : ((xF 3) = .bool false) := hd 3 (by kernel_rfl)
                have dd17 : ((xF 17) = .bool true) := hd 17 (by kernel_rfl)
                clear hd
                simp only [List.take_succ_cons, List.take_zero, fillOf, Act.put, List.setIfInBounds_toArray, List.set_cons_zero, List.set_cons_succ, Nat.reduceAdd, Nat.zero_add] at hK ⊢
                try generalize xF 3 = yy3 at *
                try generalize xF 17 = yy17 at *
                obtain rfl := dd3
                obtain rfl := dd17
                obtain hbR := id hR
                rw [if_pos (by rfl)]
                go_simp
                exact hK.out _ _ (Below.refl _ _) (rfl) (fun _ _ _ => ⟨trivial, trivial⟩)
              exact FlowAll.nil
            intro xF wq hR hF hP
            clear hP
            have dd0 : ((xF 0) = .agg #[.int .i64 a, .int .i64 b]) := hF 0 (by omega) (by decide)
            have dd1 : ((xF 1) = .bool true) := hF 1 (by omega) (by decide)
            have dd2 : ((xF 2) = .bool false) := hF 2 (by omega) (by decide)
            have dd3 : ((xF 3) = .bool false) := hF 3 (by omega) (by decide)
            have dd4 : ((xF 4) = .int .i64 (k : Int)) := hF 4 (by omega) (by decide)
            have dd5 : ((xF 5) = .bool true) := hF 5 (by omega) (by decide)
            have dd6 : ((xF 6) = .bool true) := hF 6 (by omega) (by decide)
            have dd7 : ((xF 7) = .pointer (some ⟨w.heap.size, 0, none⟩)) := hF 7 (by omega) (by decide)
            have dd8 : ((xF 8) = .slice (some ⟨b0, off, none⟩) n1 c1) := hF 8 (by omega) (by decide)
            have dd9 : ((xF 9) = .int .i64 (k : Int)) := hF 9 (by omega) (by decide)
            have dd10 : ((xF 10) = .int .i64 (i : Int)) := hF 10 (by omega) (by decide)
            have dd11 : ((xF 11) = .pointer (some ⟨b0, off + i * 2, none⟩)) := hF 11 (by omega) (by decide)
            have dd12 : ((xF 12) = .pointer (some ⟨b0, off + i * 2, none⟩)) := hF 12 (by omega) (by decide)
            have dd13 : ((xF 13) = .int .i64 a') := hF 13 (by omega) (by decide)
            have dd14 : ((xF 14) = .pointer (some ⟨wr.heap.size, 0, none⟩)) := hF 14 (by omega) (by decide)
            have dd15 : ((xF 15) = .int .i64 a) := hF 15 (by omega) (by decide)
            have dd16 : ((xF 16) = .bool true) := hF 16 (by omega) (by decide)
            have dd17 : ((xF 17) = .bool true) := hF 17 (by omega) (by decide)
            have dd18 : ((xF 18) = .bool true) := hF 18 (by omega) (by decide)
            clear hF
            simp only [List.take_succ_cons, List.take_zero, List.drop_succ_cons, List.drop_zero, fillOf, Act.put, List.setIfInBounds_toArray, List.set_cons_zero, List.set_cons_succ, Nat.reduceAdd, Nat.zero_add]
            try generalize xF 0 = yy0 at *
            try generalize xF 1 = yy1 at *
            try generalize xF 2 = yy2 at *
            try generalize xF 3 = yy3 at *
            try generalize xF 4 = yy4 at *
            try generalize xF 5 = yy5 at *
            try generalize xF 6 = yy6 at *
            try generalize xF 7 = yy7 at *
            try generalize xF 8 = yy8 at *
            try generalize xF 9 = yy9 at *
            try generalize xF 10 = yy10 at *
            try generalize xF 11 = yy11 at *
            try generalize xF 12 = yy12 at *
            try generalize xF 13 = yy13 at *
            try generalize xF 14 = yy14 at *
            try generalize xF 15 = yy15 at *
            try generalize xF 16 = yy16 at *
            try generalize xF 17 = yy17 at *
            try generalize xF 18 = yy18 at *
            clear xF
            obtain rfl := dd0
            obtain rfl := dd1
            obtain rfl := dd2
            obtain rfl := dd3
            obtain rfl := dd4
            obtain rfl := dd5
            obtain rfl := dd6
            obtain rfl := dd7
            obtain rfl := dd8
            obtain rfl := dd9
            obtain rfl := dd10
            obtain rfl := dd11
            obtain rfl := dd12
            obtain rfl := dd13
            obtain rfl := dd14
            obtain rfl := dd15
            obtain rfl := dd16
            obtain rfl := dd17
            obtain rfl := dd18
            have hRE := Lib.hid hR
            clear hR
            have hb9 := E1.trans (hRE.out.1.mono E1.size)
            clear hRE
            go_wp2
            go_ret
            exact ⟨rfl, hb9⟩
          · have HOK : Hid (∀ j, j < k + 1 → dm.Ok1 c.1 j) := fun j hj => by
              by_cases e : j = k
              · subst e
                refine ⟨by rw [← HXE.out]; exact HVT.out, fun _ => ?_⟩
                rw [HKI.out, Nat.add_sub_cancel, ← HKI.out, ← HAE.out, ← HXE.out]
                simp only; omega
              · exact HO.out j (by omega)
            have hd : decide (a ≤ a') = false := decide_eq_false hge
            go_wp2_with fail
            refine wp_flow 19 (fun _ => 1000) (fun ww => RowKit.Below w1.heap.size w1 ww ∧ ww.cell? ⟨wr.heap.size, 0, none⟩ = some (.int .i64 a) ∧ ww.cell? ⟨wr.heap.size, 1, none⟩ = some (.int .i64 b) ∧ wr.heap.size < ww.heap.size) (fun _ w w' => (fun (w w' : World) => RowKit.Below w.heap.size w w') w w') (fun kF vF wF => match kF with | 0 => (vF = .agg #[.int .i64 a, .int .i64 b]) | 1 => (vF = .bool true) | 2 => (vF = .bool false) | 3 => (vF = .bool false) | 4 => (vF = .int .i64 (k : Int)) | 5 => (vF = .bool true) | 6 => (vF = .bool true) | 7 => (vF = .pointer (some ⟨w.heap.size, 0, none⟩)) | 8 => (vF = .slice (some ⟨b0, off, none⟩) n1 c1) | 9 => (vF = .int .i64 (k : Int)) | 10 => (vF = .int .i64 (i : Int)) | 11 => (vF = .pointer (some ⟨b0, off + i * 2, none⟩)) | 12 => (vF = .pointer (some ⟨b0, off + i * 2, none⟩)) | 13 => (vF = .int .i64 a') | 14 => (vF = .pointer (some ⟨wr.heap.size, 0, none⟩)) | 15 => (vF = .int .i64 a) | 16 => (vF = .bool false) | 17 => (vF = .bool false) | 18 => (vF = .bool false) | _ => True) (fun _ _ _ _ => True) (by kernel_rfl) (by kernel_rfl) ?_ ?_ ?_ ?_ ?_
            · exact ⟨D1.drew, HB.out.1, HB.out.2.1, HB.out.2.2⟩
            · intro iF wF1 wF2 hR hT; exact ⟨hR.1.trans (hT.mono hR.1.size), (hT.cell (p := ⟨wr.heap.size, 0, none⟩) hR.2.2.2).trans hR.2.1, (hT.cell (p := ⟨wr.heap.size, 1, none⟩) hR.2.2.2).trans hR.2.2.1, Nat.lt_of_lt_of_le hR.2.2.2 hT.size⟩
            · intro kF hkF iF hiF hne hdd hanc hdan vF wF1 wF2 h hT
              rcases (by omega : kF = 0 ∨ kF = 1 ∨ kF = 2 ∨ kF = 3 ∨ kF = 4 ∨ kF = 5 ∨ kF = 6 ∨ kF = 7 ∨ kF = 8 ∨ kF = 9 ∨ kF = 10 ∨ kF = 11 ∨ kF = 12 ∨ kF = 13 ∨ kF = 14 ∨ kF = 15 ∨ kF = 16 ∨ kF = 17 ∨ kF = 18) with rfl | rfl | rfl | rfl | rfl | rfl | rfl | rfl | rfl | rfl | rfl | rfl | rfl | rfl | rfl | rfl | rfl | rfl | rfl
              · exact h
              · exact h
              · exact h
              · exact h
              · exact h
              · exact h
              · exact h
              · exact h
              · exact h
              · exact h
              · exact h
              · exact h
              · exact h
              · exact h
              · exact h
              · exact h
              · exact h
              · exact h
              · exact h
            · refine FlowAll.cons ?_ ?_
              · intro xF wq hR hd K hK
                clear hd
                simp only [List.take_succ_cons, List.take_zero, fillOf, Act.put, List.setIfInBounds_toArray, List.set_cons_zero, List.set_cons_succ, Nat.reduceAdd, Nat.zero_add] at hK ⊢
                obtain hbR := id hR
                obtain ⟨_, z0, z1, _⟩ := id hR
                rw [if_pos (by rfl)]
                go_simp
                exact hK.out _ _ (Below.refl _ _) (rfl) (fun _ _ _ => ⟨trivial, trivial⟩)
              refine FlowAll.cons ?_ ?_
              · intro xF wq hR hd K hK
                have dd0 : ((xF 0) = .agg #[.int .i64 a, .int .i64 b]) := hd 0 (by kernel_rfl)
                clear hd
                simp only [List.take_succ_cons, List.take_zero, fillOf, Act.put, List.setIfInBounds_toArray, List.set_cons_zero, List.set_cons_succ, Nat.reduceAdd, Nat.zero_add] at hK ⊢
                try generalize xF 0 = yy0 at *
                obtain rfl := dd0
                obtain hbR := id hR
                rw [if_pos (by rfl)]
                go_simp
                (go_at_call 13; (with_reducible refine (HV.out _).mono ?_); rintro e wK ⟨rfl, hbK⟩)
                try go_wp2_with fail
                exact hK.out _ _ (hbK) (rfl) (fun _ _ _ => ⟨trivial, trivial⟩)
              refine FlowAll.cons ?_ ?_
              · intro xF wq hR hd K hK
                have dd1 : ((xF 1) = .bool true) := hd 1 (by kernel_rfl)
                clear hd
                simp only [List.take_succ_cons, List.take_zero, fillOf, Act.put, List.setIfInBounds_toArray, List.set_cons_zero, List.set_cons_succ, Nat.reduceAdd, Nat.zero_add] at hK ⊢
                try generalize xF 1 = yy1 at *
                obtain rfl := dd1
                obtain hbR := id hR
                rw [if_pos (by rfl)]
                go_simp
                exact hK.out _ _ (Below.refl _ _) (rfl) (fun _ _ _ => ⟨trivial, trivial⟩)
              refine FlowAll.cons ?_ ?_
              · intro xF wq hR hd K hK
                have dd2 : ((xF 2) = .bool false) := hd 2 (by kernel_rfl)
                clear hd
                simp only [List.take_succ_cons, List.take_zero, fillOf, Act.put, List.setIfInBounds_toArray, List.set_cons_zero, List.set_cons_succ, Nat.reduceAdd, Nat.zero_add] at hK ⊢
                try generalize xF 2 = yy2 at *
                obtain rfl := dd2
                obtain hbR := id hR
                rw [if_pos (by rfl)]
                go_simp
                exact hK.out _ _ (Below.refl _ _) (rfl) (fun _ _ _ => ⟨trivial, trivial⟩)
              refine FlowAll.cons ?_ ?_
              · intro xF wq hR hd K hK
                have dd3 : ((xF 3) = .bool false) := hd 3 (by kernel_rfl)
                clear hd
                simp only [List.take_succ_cons, List.take_zero, fillOf, Act.put, List.setIfInBounds_toArray, List.set_cons_zero, List.set_cons_succ, Nat.reduceAdd, Nat.zero_add] at hK ⊢
                try generalize xF 3 = yy3 at *
                obtain rfl := dd3
                obtain hbR := id hR
                rw [if_pos (by rfl)]
                go_simp
                exact hK.out _ _ (Below.refl _ _) (rfl) (fun _ _ _ => ⟨trivial, trivial⟩)
              refine FlowAll.cons ?_ ?_
              · intro xF wq hR hd K hK
                have dd3 : ((xF 3) = .bool false) := hd 3 (by kernel_rfl)
                have dd4 : ((xF 4) = .int .i64 (k : Int)) := hd 4 (by kernel_rfl)
                clear hd
                simp only [List.take_succ_cons, List.take_zero, fillOf, Act.put, List.setIfInBounds_toArray, List.set_cons_zero, List.set_cons_succ, Nat.reduceAdd, Nat.zero_add] at hK ⊢
                try generalize xF 3 = yy3 at *
                try generalize xF 4 = yy4 at *
                obtain rfl := dd3
                obtain rfl := dd4
                obtain hbR := id hR
                rw [if_pos (by rfl)]
                go_simp
                exact hK.out _ _ (Below.refl _ _) (rfl) (fun _ _ _ => ⟨trivial, trivial⟩)
              refine FlowAll.cons ?_ ?_
              · intro xF wq hR hd K hK
                have dd3 : ((xF 3) = .bool false) := hd 3 (by kernel_rfl)
                have dd5 : ((xF 5) = .bool true) := hd 5 (by kernel_rfl)
                clear hd
                simp only [List.take_succ_cons, List.take_zero, fillOf, Act.put, List.setIfInBounds_toArray, List.set_cons_zero, List.set_cons_succ, Nat.reduceAdd, Nat.zero_add] at hK ⊢
                try generalize xF 3 = yy3 at *
                try generalize xF 5 = yy5 at *
                obtain rfl := dd3
                obtain rfl := dd5
                obtain hbR := id hR
                rw [if_pos (by rfl)]
                go_simp
                exact hK.out _ _ (Below.refl _ _) (rfl) (fun _ _ _ => ⟨trivial, trivial⟩)
              refine FlowAll.cons ?_ ?_
              · intro xF wq hR hd K hK
                have dd6 : ((xF 6) = .bool true) := hd 6 (by kernel_rfl)
                clear hd
                simp only [List.take_succ_cons, List.take_zero, fillOf, Act.put, List.setIfInBounds_toArray, List.set_cons_zero, List.set_cons_succ, Nat.reduceAdd, Nat.zero_add] at hK ⊢
                try generalize xF 6 = yy6 at *
                obtain rfl := dd6
                obtain hbR := id hR
                rw [if_pos (by rfl)]
                go_simp
                exact hK.out _ _ (Below.refl _ _) (rfl) (fun _ _ _ => ⟨trivial, trivial⟩)
              refine FlowAll.cons ?_ ?_
              · intro xF wq hR hd K hK
                have dd6 : ((xF 6) = .bool true) := hd 6 (by kernel_rfl)
                have dd7 : ((xF 7) = .pointer (some ⟨w.heap.size, 0, none⟩)) := hd 7 (by kernel_rfl)
                clear hd
                simp only [List.take_succ_cons, List.take_zero, fillOf, Act.put, List.setIfInBounds_toArray, List.set_cons_zero, List.set_cons_succ, Nat.reduceAdd, Nat.zero_add] at hK ⊢
                try generalize xF 6 = yy6 at *
                try generalize xF 7 = yy7 at *
                obtain rfl := dd6
                obtain rfl := dd7
                obtain hbR := id hR
                obtain ⟨x0, x1⟩ := HX.out _ hR.1
                rw [if_pos (by rfl)]
                go_simp
                exact hK.out _ _ (Below.refl _ _) (rfl) (fun _ _ _ => ⟨trivial, trivial⟩)
              refine FlowAll.cons ?_ ?_
              · intro xF wq hR hd K hK
                have dd6 : ((xF 6) = .bool true) := hd 6 (by kernel_rfl)
                clear hd
                simp only [List.take_succ_cons, List.take_zero, fillOf, Act.put, List.setIfInBounds_toArray, List.set_cons_zero, List.set_cons_succ, Nat.reduceAdd, Nat.zero_add] at hK ⊢
                try generalize xF 6 = yy6 at *
                obtain rfl := dd6
                obtain hbR := id hR
                rw [if_pos (by rfl)]
                go_simp
                exact hK.out _ _ (Below.refl _ _) (rfl) (fun _ _ _ => ⟨trivial, trivial⟩)
              refine FlowAll.cons ?_ ?_
              · intro xF wq hR hd K hK
                have dd6 : ((xF 6) = .bool true) := hd 6 (by kernel_rfl)
                have dd9 : ((xF 9) = .int .i64 (k : Int)) := hd 9 (by kernel_rfl)
                clear hd
                simp only [List.take_succ_cons, List.take_zero, fillOf, Act.put, List.setIfInBounds_toArray, List.set_cons_zero, List.set_cons_succ, Nat.reduceAdd, Nat.zero_add] at hK ⊢
                try generalize xF 6 = yy6 at *
                try generalize xF 9 = yy9 at *
                obtain rfl := dd6
                obtain rfl := dd9
                obtain hbR := id hR
                rw [if_pos (by rfl)]
                go_simp
                exact hK.out _ _ (Below.refl _ _) (rfl) (fun _ _ _ => ⟨trivial, trivial⟩)
              refine FlowAll.cons ?_ ?_
              · intro xF wq hR hd K hK
                have dd6 : ((xF 6) = .bool true) := hd 6 (by kernel_rfl)
                have dd8 : ((xF 8) = .slice (some ⟨b0, off, none⟩) n1 c1) := hd 8 (by kernel_rfl)
                have dd10 : ((xF 10) = .int .i64 (i : Int)) := hd 10 (by kernel_rfl)
                clear hd
                simp only [List.take_succ_cons, List.take_zero, fillOf, Act.put, List.setIfInBounds_toArray, List.set_cons_zero, List.set_cons_succ, Nat.reduceAdd, Nat.zero_add] at hK ⊢
                try generalize xF 6 = yy6 at *
                try generalize xF 8 = yy8 at *
                try generalize xF 10 = yy10 at *
                obtain rfl := dd6
                obtain rfl := dd8
                obtain rfl := dd10
                obtain hbR := id hR
                rw [if_pos (by rfl)]
                go_simp
                exact hK.out _ _ (Below.refl _ _) (rfl) (fun _ _ _ => ⟨trivial, trivial⟩)
              refine FlowAll.cons ?_ ?_
              · intro xF wq hR hd K hK
                have dd6 : ((xF 6) = .bool true) := hd 6 (by kernel_rfl)
                have dd11 : ((xF 11) = .pointer (some ⟨b0, off + i * 2, none⟩)) := hd 11 (by kernel_rfl)
                clear hd
                simp only [List.take_succ_cons, List.take_zero, fillOf, Act.put, List.setIfInBounds_toArray, List.set_cons_zero, List.set_cons_succ, Nat.reduceAdd, Nat.zero_add] at hK ⊢
                try generalize xF 6 = yy6 at *
                try generalize xF 11 = yy11 at *
                obtain rfl := dd6
                obtain rfl := dd11
                obtain hbR := id hR
                rw [if_pos (by rfl)]
                go_simp
                exact hK.out _ _ (Below.refl _ _) (rfl) (fun _ _ _ => ⟨trivial, trivial⟩)
              refine FlowAll.cons ?_ ?_
              · intro xF wq hR hd K hK
                have dd6 : ((xF 6) = .bool true) := hd 6 (by kernel_rfl)
                have dd12 : ((xF 12) = .pointer (some ⟨b0, off + i * 2, none⟩)) := hd 12 (by kernel_rfl)
                clear hd
                simp only [List.take_succ_cons, List.take_zero, fillOf, Act.put, List.setIfInBounds_toArray, List.set_cons_zero, List.set_cons_succ, Nat.reduceAdd, Nat.zero_add] at hK ⊢
                try generalize xF 6 = yy6 at *
                try generalize xF 12 = yy12 at *
                obtain rfl := dd6
                obtain rfl := dd12
                obtain hbR := id hR
                have e2 := HPR.out _ hR.1
                rw [if_pos (by rfl)]
                go_simp
                exact hK.out _ _ (Below.refl _ _) (rfl) (fun _ _ _ => ⟨trivial, trivial⟩)
              refine FlowAll.cons ?_ ?_
              · intro xF wq hR hd K hK
                have dd6 : ((xF 6) = .bool true) := hd 6 (by kernel_rfl)
                clear hd
                simp only [List.take_succ_cons, List.take_zero, fillOf, Act.put, List.setIfInBounds_toArray, List.set_cons_zero, List.set_cons_succ, Nat.reduceAdd, Nat.zero_add] at hK ⊢
                try generalize xF 6 = yy6 at *
                obtain rfl := dd6
                obtain hbR := id hR
                rw [if_pos (by rfl)]
                go_simp
                exact hK.out _ _ (Below.refl _ _) (rfl) (fun _ _ _ => ⟨trivial, trivial⟩)
              refine FlowAll.cons ?_ ?_
              · intro xF wq hR hd K hK
                have dd6 : ((xF 6) = .bool true) := hd 6 (by kernel_rfl)
                have dd14 : ((xF 14) = .pointer (some ⟨wr.heap.size, 0, none⟩)) := hd 14 (by kernel_rfl)
                clear hd
                simp only [List.take_succ_cons, List.take_zero, fillOf, Act.put, List.setIfInBounds_toArray, List.set_cons_zero, List.set_cons_succ, Nat.reduceAdd, Nat.zero_add] at hK ⊢
                try generalize xF 6 = yy6 at *
                try generalize xF 14 = yy14 at *
                obtain rfl := dd6
                obtain rfl := dd14
                obtain hbR := id hR
                obtain ⟨_, z0, z1, _⟩ := id hR
                rw [if_pos (by rfl)]
                go_simp
                exact hK.out _ _ (Below.refl _ _) (rfl) (fun _ _ _ => ⟨trivial, trivial⟩)
              refine FlowAll.cons ?_ ?_
              · intro xF wq hR hd K hK
                have dd6 : ((xF 6) = .bool true) := hd 6 (by kernel_rfl)
                have dd13 : ((xF 13) = .int .i64 a') := hd 13 (by kernel_rfl)
                have dd15 : ((xF 15) = .int .i64 a) := hd 15 (by kernel_rfl)
                clear hd
                simp only [List.take_succ_cons, List.take_zero, fillOf, Act.put, List.setIfInBounds_toArray, List.set_cons_zero, List.set_cons_succ, Nat.reduceAdd, Nat.zero_add] at hK ⊢
                try generalize xF 6 = yy6 at *
                try generalize xF 13 = yy13 at *
                try generalize xF 15 = yy15 at *
                obtain rfl := dd6
                obtain rfl := dd13
                obtain rfl := dd15
                obtain hbR := id hR
                rw [if_pos (by rfl)]
                go_simp
                exact hK.out _ _ (Below.refl _ _) (rfl) (fun _ _ _ => ⟨trivial, trivial⟩)
              refine FlowAll.cons ?_ ?_
              · intro xF wq hR hd K hK
                have dd3 : ((xF 3) = .bool false) := hd 3 (by kernel_rfl)
                have dd6 : ((xF 6) = .bool true) := hd 6 (by kernel_rfl)
                have dd16 : ((xF 16) = .bool false) := hd 16 (by kernel_rfl)
                clear hd
                simp only [List.take_succ_cons, List.take_zero, fillOf, Act.put, List.setIfInBounds_toArray, List.set_cons_zero, List.set_cons_succ, Nat.reduceAdd, Nat.zero_add] at hK ⊢
                try generalize xF 3 = yy3 at *
                try generalize xF 6 = yy6 at *
                try generalize xF 16 = yy16 at *
                obtain rfl := dd3
                obtain rfl := dd6
                obtain rfl := dd16
                obtain hbR := id hR
                rw [if_pos (by rfl)]
                go_simp
                exact hK.out _ _ (Below.refl _ _) (rfl) (fun _ _ _ => ⟨trivial, trivial⟩)
              refine FlowAll.cons ?_ ?_
              · intro xF wq hR hd K hK
                have dd3 : ((xF 3) = .bool false) := hd 3 (by kernel_rfl)
                have dd17 : ((xF 17) = .bool false) := hd 17 (by kernel_rfl)
                clear hd
                simp only [List.take_succ_cons, List.take_zero, fillOf, Act.put, List.setIfInBounds_toArray, List.set_cons_zero, List.set_cons_succ, Nat.reduceAdd, Nat.zero_add] at hK ⊢
                try generalize xF 3 = yy3 at *
                try generalize xF 17 = yy17 at *
                obtain rfl := dd3
                obtain rfl := dd17
                obtain hbR := id hR
                rw [if_pos (by rfl)]
                go_simp
                exact hK.out _ _ (Below.refl _ _) (rfl) (fun _ _ _ => ⟨trivial, trivial⟩)
              exact FlowAll.nil
            intro xF wq hR hF hP
            clear hP
            have dd0 : ((xF 0) = .agg #[.int .i64 a, .int .i64 b]) := hF 0 (by omega) (by decide)
            have dd1 : ((xF 1) = .bool true) := hF 1 (by omega) (by decide)
            have dd2 : ((xF 2) = .bool false) := hF 2 (by omega) (by decide)
            have dd3 : ((xF 3) = .bool false) := hF 3 (by omega) (by decide)
            have dd4 : ((xF 4) = .int .i64 (k : Int)) := hF 4 (by omega) (by decide)
            have dd5 : ((xF 5) = .bool true) := hF 5 (by omega) (by decide)
            have dd6 : ((xF 6) = .bool true) := hF 6 (by omega) (by decide)
            have dd7 : ((xF 7) = .pointer (some ⟨w.heap.size, 0, none⟩)) := hF 7 (by omega) (by decide)
            have dd8 : ((xF 8) = .slice (some ⟨b0, off, none⟩) n1 c1) := hF 8 (by omega) (by decide)
            have dd9 : ((xF 9) = .int .i64 (k : Int)) := hF 9 (by omega) (by decide)
            have dd10 : ((xF 10) = .int .i64 (i : Int)) := hF 10 (by omega) (by decide)
            have dd11 : ((xF 11) = .pointer (some ⟨b0, off + i * 2, none⟩)) := hF 11 (by omega) (by decide)
            have dd12 : ((xF 12) = .pointer (some ⟨b0, off + i * 2, none⟩)) := hF 12 (by omega) (by decide)
            have dd13 : ((xF 13) = .int .i64 a') := hF 13 (by omega) (by decide)
            have dd14 : ((xF 14) = .pointer (some ⟨wr.heap.size, 0, none⟩)) := hF 14 (by omega) (by decide)
            have dd15 : ((xF 15) = .int .i64 a) := hF 15 (by omega) (by decide)
            have dd16 : ((xF 16) = .bool false) := hF 16 (by omega) (by decide)
            have dd17 : ((xF 17) = .bool false) := hF 17 (by omega) (by decide)
            have dd18 : ((xF 18) = .bool false) := hF 18 (by omega) (by decide)
            clear hF
            simp only [List.take_succ_cons, List.take_zero, List.drop_succ_cons, List.drop_zero, fillOf, Act.put, List.setIfInBounds_toArray, List.set_cons_zero, List.set_cons_succ, Nat.reduceAdd, Nat.zero_add]
            try generalize xF 0 = yy0 at *
            try generalize xF 1 = yy1 at *
            try generalize xF 2 = yy2 at *
            try generalize xF 3 = yy3 at *
            try generalize xF 4 = yy4 at *
            try generalize xF 5 = yy5 at *
            try generalize xF 6 = yy6 at *
            try generalize xF 7 = yy7 at *
            try generalize xF 8 = yy8 at *
            try generalize xF 9 = yy9 at *
            try generalize xF 10 = yy10 at *
            try generalize xF 11 = yy11 at *
            try generalize xF 12 = yy12 at *
            try generalize xF 13 = yy13 at *
            try generalize xF 14 = yy14 at *
            try generalize xF 15 = yy15 at *
            try generalize xF 16 = yy16 at *
            try generalize xF 17 = yy17 at *
            try generalize xF 18 = yy18 at *
            clear xF
            obtain rfl := dd0
            obtain rfl := dd1
            obtain rfl := dd2
            obtain rfl := dd3
            obtain rfl := dd4
            obtain rfl := dd5
            obtain rfl := dd6
            obtain rfl := dd7
            obtain rfl := dd8
            obtain rfl := dd9
            obtain rfl := dd10
            obtain rfl := dd11
            obtain rfl := dd12
            obtain rfl := dd13
            obtain rfl := dd14
            obtain rfl := dd15
            obtain rfl := dd16
            obtain rfl := dd17
            obtain rfl := dd18
            have hRE := Lib.hid hR
            clear hR
            have D9 := hRE.out.1
            clear hRE
            go_wp2
            go_roundw
            case rel => exact ⟨k + 1, by go_num, by omega, HOK, D9⟩
            case measure => simp [intOf]; omega
        · have HOK : Hid (∀ j, j < k + 1 → dm.Ok1 c.1 j) := fun j hj => by
            obtain rfl : j = k := by omega
            exact ⟨by rw [← HXE.out]; exact HVT.out, fun h => absurd h hk0⟩
          have hg2 : ¬ (0 : Int) < (k : Int) := by omega
          have hg1 : decide ((0 : Int) < (k : Int)) = false := decide_eq_false hg2
          go_wp2_with fail
          refine wp_flow 19 (fun _ => 1000) (fun ww => RowKit.Below w1.heap.size w1 ww ∧ ww.cell? ⟨wr.heap.size, 0, none⟩ = some (.int .i64 a) ∧ ww.cell? ⟨wr.heap.size, 1, none⟩ = some (.int .i64 b) ∧ wr.heap.size < ww.heap.size) (fun _ w w' => (fun (w w' : World) => RowKit.Below w.heap.size w w') w w') (fun kF vF wF => match kF with | 0 => (vF = .agg #[.int .i64 a, .int .i64 b]) | 1 => (vF = .bool true) | 2 => (vF = .bool false) | 3 => (vF = .bool false) | 4 => (vF = .int .i64 (k : Int)) | 5 => (vF = .bool false) | 6 => (vF = .bool false) | 7 => (vF = undef) | 8 => (vF = undef) | 9 => (vF = undef) | 10 => (vF = undef) | 11 => (vF = undef) | 12 => (vF = undef) | 13 => (vF = undef) | 14 => (vF = undef) | 15 => (vF = undef) | 16 => (vF = undef) | 17 => (vF = .bool false) | 18 => (vF = .bool false) | _ => True) (fun _ _ _ _ => True) (by kernel_rfl) (by kernel_rfl) ?_ ?_ ?_ ?_ ?_
          · exact ⟨D1.drew, HB.out.1, HB.out.2.1, HB.out.2.2⟩
          · intro iF wF1 wF2 hR hT; exact ⟨hR.1.trans (hT.mono hR.1.size), (hT.cell (p := ⟨wr.heap.size, 0, none⟩) hR.2.2.2).trans hR.2.1, (hT.cell (p := ⟨wr.heap.size, 1, none⟩) hR.2.2.2).trans hR.2.2.1, Nat.lt_of_lt_of_le hR.2.2.2 hT.size⟩
          · intro kF hkF iF hiF hne hdd hanc hdan vF wF1 wF2 h hT
            rcases (by omega : kF = 0 ∨ kF = 1 ∨ kF = 2 ∨ kF = 3 ∨ kF = 4 ∨ kF = 5 ∨ kF = 6 ∨ kF = 7 ∨ kF = 8 ∨ kF = 9 ∨ kF = 10 ∨ kF = 11 ∨ kF = 12 ∨ kF = 13 ∨ kF = 14 ∨ kF = 15 ∨ kF = 16 ∨ kF = 17 ∨ kF = 18) with rfl | rfl | rfl | rfl | rfl | rfl | rfl | rfl | rfl | rfl | rfl | rfl | rfl | rfl | rfl | rfl | rfl | rfl | rfl
            · exact h
            · exact h
            · exact h
            · exact h
            · exact h
            · exact h
            · exact h
            · exact h
            · exact h
            · exact h
            · exact h
            · exact h
            · exact h
            · exact h
            · exact h
            · exact h
            · exact h
            · exact h
            · exact h
          · refine FlowAll.cons ?_ ?_
            · intro xF wq hR hd K hK
              clear hd
              simp only [List.take_succ_cons, List.take_zero, fillOf, Act.put, List.setIfInBounds_toArray, List.set_cons_zero, List.set_cons_succ, Nat.reduceAdd, Nat.zero_add] at hK ⊢
              obtain hbR := id hR
              obtain ⟨_, z0, z1, _⟩ := id hR
              rw [if_pos (by rfl)]
              go_simp
              exact hK.out _ _ (Below.refl _ _) (rfl) (fun _ _ _ => ⟨trivial, trivial⟩)
            refine FlowAll.cons ?_ ?_
            · intro xF wq hR hd K hK
              have dd0 : ((xF 0) = .agg #[.int .i64 a, .int .i64 b]) := hd 0 (by kernel_rfl)
              clear hd
              simp only [List.take_succ_cons, List.take_zero, fillOf, Act.put, List.setIfInBounds_toArray, List.set_cons_zero, List.set_cons_succ, Nat.reduceAdd, Nat.zero_add] at hK ⊢
              try generalize xF 0 = yy0 at *
              obtain rfl := dd0
              obtain hbR := id hR
              rw [if_pos (by rfl)]
              go_simp
              (go_at_call 13; (with_reducible refine (HV.out _).mono ?_); rintro e wK ⟨rfl, hbK⟩)
              try go_wp2_with fail
              exact hK.out _ _ (hbK) (rfl) (fun _ _ _ => ⟨trivial, trivial⟩)
            refine FlowAll.cons ?_ ?_
            · intro xF wq hR hd K hK
              have dd1 : ((xF 1) = .bool true) := hd 1 (by kernel_rfl)
              clear hd
              simp only [List.take_succ_cons, List.take_zero, fillOf, Act.put, List.setIfInBounds_toArray, List.set_cons_zero, List.set_cons_succ, Nat.reduceAdd, Nat.zero_add] at hK ⊢
              try generalize xF 1 = yy1 at *
              obtain rfl := dd1
              obtain hbR := id hR
              rw [if_pos (by rfl)]
              go_simp
              exact hK.out _ _ (Below.refl _ _) (rfl) (fun _ _ _ => ⟨trivial, trivial⟩)
            refine FlowAll.cons ?_ ?_
            · intro xF wq hR hd K hK
              have dd2 : ((xF 2) = .bool false) := hd 2 (by kernel_rfl)
              clear hd
              simp only [List.take_succ_cons, List.take_zero, fillOf, Act.put, List.setIfInBounds_toArray, List.set_cons_zero, List.set_cons_succ, Nat.reduceAdd, Nat.zero_add] at hK ⊢
              try generalize xF 2 = yy2 at *
              obtain rfl := dd2
              obtain hbR := id hR
              rw [if_pos (by rfl)]
              go_simp
              exact hK.out _ _ (Below.refl _ _) (rfl) (fun _ _ _ => ⟨trivial, trivial⟩)
            refine FlowAll.cons ?_ ?_
            · intro xF wq hR hd K hK
              have dd3 : ((xF 3) = .bool false) := hd 3 (by kernel_rfl)
              clear hd
              simp only [List.take_succ_cons, List.take_zero, fillOf, Act.put, List.setIfInBounds_toArray, List.set_cons_zero, List.set_cons_succ, Nat.reduceAdd, Nat.zero_add] at hK ⊢
              try generalize xF 3 = yy3 at *
              obtain rfl := dd3
              obtain hbR := id hR
              rw [if_pos (by rfl)]
              go_simp
              exact hK.out _ _ (Below.refl _ _) (rfl) (fun _ _ _ => ⟨trivial, trivial⟩)
            refine FlowAll.cons ?_ ?_
            · intro xF wq hR hd K hK
              have dd3 : ((xF 3) = .bool false) := hd 3 (by kernel_rfl)
              have dd4 : ((xF 4) = .int .i64 (k : Int)) := hd 4 (by kernel_rfl)
              clear hd
              simp only [List.take_succ_cons, List.take_zero, fillOf, Act.put, List.setIfInBounds_toArray, List.set_cons_zero, List.set_cons_succ, Nat.reduceAdd, Nat.zero_add] at hK ⊢
              try generalize xF 3 = yy3 at *
              try generalize xF 4 = yy4 at *
              obtain rfl := dd3
              obtain rfl := dd4
              obtain hbR := id hR
              rw [if_pos (by rfl)]
              go_simp
              exact hK.out _ _ (Below.refl _ _) (rfl) (fun _ _ _ => ⟨trivial, trivial⟩)
            refine FlowAll.cons ?_ ?_
            · intro xF wq hR hd K hK
              have dd3 : ((xF 3) = .bool false) := hd 3 (by kernel_rfl)
              have dd5 : ((xF 5) = .bool false) := hd 5 (by kernel_rfl)
              clear hd
              simp only [List.take_succ_cons, List.take_zero, fillOf, Act.put, List.setIfInBounds_toArray, List.set_cons_zero, List.set_cons_succ, Nat.reduceAdd, Nat.zero_add] at hK ⊢
              try generalize xF 3 = yy3 at *
              try generalize xF 5 = yy5 at *
              obtain rfl := dd3
              obtain rfl := dd5
              obtain hbR := id hR
              rw [if_pos (by rfl)]
              go_simp
              exact hK.out _ _ (Below.refl _ _) (rfl) (fun _ _ _ => ⟨trivial, trivial⟩)
            refine FlowAll.cons ?_ ?_
            · intro xF wq hR hd K hK
              have dd6 : ((xF 6) = .bool false) := hd 6 (by kernel_rfl)
              clear hd
              simp only [List.take_succ_cons, List.take_zero, fillOf, Act.put, List.setIfInBounds_toArray, List.set_cons_zero, List.set_cons_succ, Nat.reduceAdd, Nat.zero_add] at hK ⊢
              try generalize xF 6 = yy6 at *
              obtain rfl := dd6
              obtain hbR := id hR
              rw [if_neg (by intro h; exact absurd (show false = true from h) Bool.false_ne_true)]
              try simp only [Act.put, List.setIfInBounds_toArray, List.set_cons_zero, List.set_cons_succ]
              exact hK.out _ _ (Below.refl _ _) (rfl) (fun _ _ _ => ⟨trivial, trivial⟩)
            refine FlowAll.cons ?_ ?_
            · intro xF wq hR hd K hK
              have dd6 : ((xF 6) = .bool false) := hd 6 (by kernel_rfl)
              clear hd
              simp only [List.take_succ_cons, List.take_zero, fillOf, Act.put, List.setIfInBounds_toArray, List.set_cons_zero, List.set_cons_succ, Nat.reduceAdd, Nat.zero_add] at hK ⊢
              try generalize xF 6 = yy6 at *
              obtain rfl := dd6
              obtain hbR := id hR
              rw [if_neg (by intro h; exact absurd (show false = true from h) Bool.false_ne_true)]
              try simp only [Act.put, List.setIfInBounds_toArray, List.set_cons_zero, List.set_cons_succ]
              exact hK.out _ _ (Below.refl _ _) (rfl) (fun _ _ _ => ⟨trivial, trivial⟩)
            refine FlowAll.cons ?_ ?_
            · intro xF wq hR hd K hK
              have dd6 : ((xF 6) = .bool false) := hd 6 (by kernel_rfl)
              clear hd
              simp only [List.take_succ_cons, List.take_zero, fillOf, Act.put, List.setIfInBounds_toArray, List.set_cons_zero, List.set_cons_succ, Nat.reduceAdd, Nat.zero_add] at hK ⊢
              try generalize xF 6 = yy6 at *
              obtain rfl := dd6
              obtain hbR := id hR
              rw [if_neg (by intro h; exact absurd (show false = true from h) Bool.false_ne_true)]
              try simp only [Act.put, List.setIfInBounds_toArray, List.set_cons_zero, List.set_cons_succ]
              exact hK.out _ _ (Below.refl _ _) (rfl) (fun _ _ _ => ⟨trivial, trivial⟩)
            refine FlowAll.cons ?_ ?_
            · intro xF wq hR hd K hK
              have dd6 : ((xF 6) = .bool false) := hd 6 (by kernel_rfl)
              clear hd
              simp only [List.take_succ_cons, List.take_zero, fillOf, Act.put, List.setIfInBounds_toArray, List.set_cons_zero, List.set_cons_succ, Nat.reduceAdd, Nat.zero_add] at hK ⊢
              try generalize xF 6 = yy6 at *
              obtain rfl := dd6
              obtain hbR := id hR
              rw [if_neg (by intro h; exact absurd (show false = true from h) Bool.false_ne_true)]
              try simp only [Act.put, List.setIfInBounds_toArray, List.set_cons_zero, List.set_cons_succ]
              exact hK.out _ _ (Below.refl _ _) (rfl) (fun _ _ _ => ⟨trivial, trivial⟩)
            refine FlowAll.cons ?_ ?_
            · intro xF wq hR hd K hK
              have dd6 : ((xF 6) = .bool false) := hd 6 (by kernel_rfl)
              clear hd
              simp only [List.take_succ_cons, List.take_zero, fillOf, Act.put, List.setIfInBounds_toArray, List.set_cons_zero, List.set_cons_succ, Nat.reduceAdd, Nat.zero_add] at hK ⊢
              try generalize xF 6 = yy6 at *
              obtain rfl := dd6
              obtain hbR := id hR
              rw [if_neg (by intro h; exact absurd (show false = true from h) Bool.false_ne_true)]
              try simp only [Act.put, List.setIfInBounds_toArray, List.set_cons_zero, List.set_cons_succ]
              exact hK.out _ _ (Below.refl _ _) (rfl) (fun _ _ _ => ⟨trivial, trivial⟩)
            refine FlowAll.cons ?_ ?_
            · intro xF wq hR hd K hK
              have dd6 : ((xF 6) = .bool false) := hd 6 (by kernel_rfl)
              clear hd
              simp only [List.take_succ_cons, List.take_zero, fillOf, Act.put, List.setIfInBounds_toArray, List.set_cons_zero, List.set_cons_succ, Nat.reduceAdd, Nat.zero_add] at hK ⊢
              try generalize xF 6 = yy6 at *
              obtain rfl := dd6
              obtain hbR := id hR
              rw [if_neg (by intro h; exact absurd (show false = true from h) Bool.false_ne_true)]
              try simp only [Act.put, List.setIfInBounds_toArray, List.set_cons_zero, List.set_cons_succ]
              exact hK.out _ _ (Below.refl _ _) (rfl) (fun _ _ _ => ⟨trivial, trivial⟩)
            refine FlowAll.cons ?_ ?_
            · intro xF wq hR hd K hK
              have dd6 : ((xF 6) = .bool false) := hd 6 (by kernel_rfl)
              clear hd
              simp only [List.take_succ_cons, List.take_zero, fillOf, Act.put, List.setIfInBounds_toArray, List.set_cons_zero, List.set_cons_succ, Nat.reduceAdd, Nat.zero_add] at hK ⊢
              try generalize xF 6 = yy6 at *
              obtain rfl := dd6
              obtain hbR := id hR
              rw [if_neg (by intro h; exact absurd (show false = true from h) Bool.false_ne_true)]
              try simp only [Act.put, List.setIfInBounds_toArray, List.set_cons_zero, List.set_cons_succ]
              exact hK.out _ _ (Below.refl _ _) (rfl) (fun _ _ _ => ⟨trivial, trivial⟩)
            refine FlowAll.cons ?_ ?_
            · intro xF wq hR hd K hK
              have dd6 : ((xF 6) = .bool false) := hd 6 (by kernel_rfl)
              clear hd
              simp only [List.take_succ_cons, List.take_zero, fillOf, Act.put, List.setIfInBounds_toArray, List.set_cons_zero, List.set_cons_succ, Nat.reduceAdd, Nat.zero_add] at hK ⊢
              try generalize xF 6 = yy6 at *
              obtain rfl := dd6
              obtain hbR := id hR
              rw [if_neg (by intro h; exact absurd (show false = true from h) Bool.false_ne_true)]
              try simp only [Act.put, List.setIfInBounds_toArray, List.set_cons_zero, List.set_cons_succ]
              exact hK.out _ _ (Below.refl _ _) (rfl) (fun _ _ _ => ⟨trivial, trivial⟩)
            refine FlowAll.cons ?_ ?_
            · intro xF wq hR hd K hK
              have dd6 : ((xF 6) = .bool false) := hd 6 (by kernel_rfl)
              clear hd
              simp only [List.take_succ_cons, List.take_zero, fillOf, Act.put, List.setIfInBounds_toArray, List.set_cons_zero, List.set_cons_succ, Nat.reduceAdd, Nat.zero_add] at hK ⊢
              try generalize xF 6 = yy6 at *
              obtain rfl := dd6
              obtain hbR := id hR
              rw [if_neg (by intro h; exact absurd (show false = true from h) Bool.false_ne_true)]
              try simp only [Act.put, List.setIfInBounds_toArray, List.set_cons_zero, List.set_cons_succ]
              exact hK.out _ _ (Below.refl _ _) (rfl) (fun _ _ _ => ⟨trivial, trivial⟩)
            refine FlowAll.cons ?_ ?_
            · intro xF wq hR hd K hK
              have dd6 : ((xF 6) = .bool false) := hd 6 (by kernel_rfl)
              clear hd
              simp only [List.take_succ_cons, List.take_zero, fillOf, Act.put, List.setIfInBounds_toArray, List.set_cons_zero, List.set_cons_succ, Nat.reduceAdd, Nat.zero_add] at hK ⊢
              try generalize xF 6 = yy6 at *
              obtain rfl := dd6
              obtain hbR := id hR
              rw [if_neg (by intro h; exact absurd (show false = true from h) Bool.false_ne_true)]
              try simp only [Act.put, List.setIfInBounds_toArray, List.set_cons_zero, List.set_cons_succ]
              exact hK.out _ _ (Below.refl _ _) (rfl) (fun _ _ _ => ⟨trivial, trivial⟩)
            refine FlowAll.cons ?_ ?_
            · intro xF wq hR hd K hK
              have dd3 : ((xF 3) = .bool false) := hd 3 (by kernel_rfl)
              have dd6 : ((xF 6) = .bool false) := hd 6 (by kernel_rfl)
              have dd16 : ((xF 16) = undef) := hd 16 (by kernel_rfl)
              clear hd
              simp only [List.take_succ_cons, List.take_zero, fillOf, Act.put, List.setIfInBounds_toArray, List.set_cons_zero, List.set_cons_succ, Nat.reduceAdd, Nat.zero_add] at hK ⊢
              try generalize xF 3 = yy3 at *
              try generalize xF 6 = yy6 at *
              try generalize xF 16 = yy16 at *
              obtain rfl := dd3
              obtain rfl := dd6
              obtain rfl := dd16
              obtain hbR := id hR
              rw [if_pos (by rfl)]
              go_simp
              exact hK.out _ _ (Below.refl _ _) (rfl) (fun _ _ _ => ⟨trivial, trivial⟩)
            refine FlowAll.cons ?_ ?_
            · intro xF wq hR hd K hK
              have dd3 : ((xF 3) = .bool false) := hd 3 (by kernel_rfl)
              have dd17 : ((xF 17) = .bool false) := hd 17 (by kernel_rfl)
              clear hd
              simp only [List.take_succ_cons, List.take_zero, fillOf, Act.put, List.setIfInBounds_toArray, List.set_cons_zero, List.set_cons_succ, Nat.reduceAdd, Nat.zero_add] at hK ⊢
              try generalize xF 3 = yy3 at *
              try generalize xF 17 = yy17 at *
              obtain rfl := dd3
              obtain rfl := dd17
              obtain hbR := id hR
              rw [if_pos (by rfl)]
              go_simp
              exact hK.out _ _ (Below.refl _ _) (rfl) (fun _ _ _ => ⟨trivial, trivial⟩)
            exact FlowAll.nil
          intro xF wq hR hF hP
          clear hP
          have dd0 : ((xF 0) = .agg #[.int .i64 a, .int .i64 b]) := hF 0 (by omega) (by decide)
          have dd1 : ((xF 1) = .bool true) := hF 1 (by omega) (by decide)
          have dd2 : ((xF 2) = .bool false) := hF 2 (by omega) (by decide)
          have dd3 : ((xF 3) = .bool false) := hF 3 (by omega) (by decide)
          have dd4 : ((xF 4) = .int .i64 (k : Int)) := hF 4 (by omega) (by decide)
          have dd5 : ((xF 5) = .bool false) := hF 5 (by omega) (by decide)
          have dd6 : ((xF 6) = .bool false) := hF 6 (by omega) (by decide)
          have dd7 : ((xF 7) = undef) := hF 7 (by omega) (by decide)
          have dd8 : ((xF 8) = undef) := hF 8 (by omega) (by decide)
          have dd9 : ((xF 9) = undef) := hF 9 (by omega) (by decide)
          have dd10 : ((xF 10) = undef) := hF 10 (by omega) (by decide)
          have dd11 : ((xF 11) = undef) := hF 11 (by omega) (by decide)
          have dd12 : ((xF 12) = undef) := hF 12 (by omega) (by decide)
          have dd13 : ((xF 13) = undef) := hF 13 (by omega) (by decide)
          have dd14 : ((xF 14) = undef) := hF 14 (by omega) (by decide)
          have dd15 : ((xF 15) = undef) := hF 15 (by omega) (by decide)
          have dd16 : ((xF 16) = undef) := hF 16 (by omega) (by decide)
          have dd17 : ((xF 17) = .bool false) := hF 17 (by omega) (by decide)
          have dd18 : ((xF 18) = .bool false) := hF 18 (by omega) (by decide)
          clear hF
          simp only [List.take_succ_cons, List.take_zero, List.drop_succ_cons, List.drop_zero, fillOf, Act.put, List.setIfInBounds_toArray, List.set_cons_zero, List.set_cons_succ, Nat.reduceAdd, Nat.zero_add]
          try generalize xF 0 = yy0 at *
          try generalize xF 1 = yy1 at *
          try generalize xF 2 = yy2 at *
          try generalize xF 3 = yy3 at *
          try generalize xF 4 = yy4 at *
          try generalize xF 5 = yy5 at *
          try generalize xF 6 = yy6 at *
          try generalize xF 7 = yy7 at *
          try generalize xF 8 = yy8 at *
          try generalize xF 9 = yy9 at *
          try generalize xF 10 = yy10 at *
          try generalize xF 11 = yy11 at *
          try generalize xF 12 = yy12 at *
          try generalize xF 13 = yy13 at *
          try generalize xF 14 = yy14 at *
          try generalize xF 15 = yy15 at *
          try generalize xF 16 = yy16 at *
          try generalize xF 17 = yy17 at *
          try generalize xF 18 = yy18 at *
          clear xF
          obtain rfl := dd0
          obtain rfl := dd1
          obtain rfl := dd2
          obtain rfl := dd3
          obtain rfl := dd4
          obtain rfl := dd5
          obtain rfl := dd6
          obtain rfl := dd7
          obtain rfl := dd8
          obtain rfl := dd9
          obtain rfl := dd10
          obtain rfl := dd11
          obtain rfl := dd12
          obtain rfl := dd13
          obtain rfl := dd14
          obtain rfl := dd15
          obtain rfl := dd16
          obtain rfl := dd17
          obtain rfl := dd18
          have hRE := Lib.hid hR
          clear hR
          have D9 := hRE.out.1
          clear hRE
          go_wp2
          go_roundw
          case rel => exact ⟨k + 1, by go_num, by omega, HOK, D9⟩
          case measure => simp [intOf]; omega
    · obtain rfl : n1 = k := by omega
      have HALL : Hid (∀ j, j < c.1.length → dm.Ok1 c.1 j) := fun j hj => HO.out j (by rw [HN1.out]; exact hj)
      have HKU : Hid (∀ n, dm.upK c.1 n = dm.kn c.1 n) := fun n => dm.upK_kn (dm.ok1_all HALL.out).2 n
      obtain ⟨x0, x1⟩ := HX.out _ D
      go_wp2
      clear x0 x1
      go_loopw [38, 71] (fun i _ wr => ∃ k : Nat, i = .int .i64 k ∧ k ≤ n2 ∧ Hid (∀ j, j < k → dm.Ok2 (dm.upK c.1) c.2 j) ∧ Below w1.heap.size w1 wr) (fun i _ _ => n2 - (intOf i).toNat)
      case atStart => exact ⟨0, rfl, Nat.zero_le _, fun j hj => absurd hj (Nat.not_lt_zero _), D⟩
      case round =>
        clear D hk
        rename World => wr
        obtain ⟨k, rfl, hk, HO2, D⟩ := hrel
        by_cases hlt : k < n2
        · obtain ⟨b0, off, rfl, hB, p0, p1⟩ := Dots.get (HD2.out _ D) HN2.out hlt
          obtain ⟨⟨a, b⟩, hx⟩ : ∃ x, x = c.2.getD k (0, 0) := ⟨_, rfl⟩
          rw [← hx] at p0 p1
          simp only at p0 p1
          have HXE := Lib.hid hx
          have hkI : (k : Int) < (n2 : Int) := by omega
          have hal : Below wr.heap.size wr (wr.alloc (.cells #[.int .i64 a, .int .i64 b] 26)) := ctx_below
          have D1 := D.trans (hal.mono D.size)
          have HB : Hid ((wr.alloc (.cells #[.int .i64 a, .int .i64 b] 26)).cell? ⟨wr.heap.size, 0, none⟩ = some (.int .i64 a) ∧ (wr.alloc (.cells #[.int .i64 a, .int .i64 b] 26)).cell? ⟨wr.heap.size, 1, none⟩ = some (.int .i64 b) ∧ wr.heap.size < (wr.alloc (.cells #[.int .i64 a, .int .i64 b] 26)).heap.size) := ⟨World.cell?_alloc_at _ _ _ _ rfl, World.cell?_alloc_at _ _ _ _ rfl, by simp⟩
          have HV := Lib.hid (HVA.out (a, b))
          have HFK := Lib.hid (HF2.out k hlt)
          obtain ⟨kk, hkk⟩ : ∃ x, x = dm.kn c.1 a := ⟨_, rfl⟩
          have HU : Hid (∀ W, Below w1.heap.size w1 W → Calls Try.prog 33 #[.agg #[.slice a1 n1 c1, .slice (some ⟨b0, off, none⟩) n2 c2], .int .i64 a] W fun e w' => e = .returned (.int .i64 kk) ∧ Below W.heap.size W w') := fun W hW => by
            have := HUP.out a W hW
            rwa [← hkk] at this
          have HKK : Hid (dm.upK c.1 a = kk) := by show _ = _; rw [HKU.out, hkk]
          clear hx hkk
          cases hv : valid (a, b) with
          | false =>
            rw [hv] at HV
            obtain rfl : R = false := HFK.out (fun ho => by have := ho.1; rw [← HXE.out, hv] at this; cases this)
            clear hv
            go_wp2_with fail
            refine wp_flow 28 (fun _ => 1000) (fun ww => RowKit.Below w1.heap.size w1 ww ∧ ww.cell? ⟨wr.heap.size, 0, none⟩ = some (.int .i64 a) ∧ ww.cell? ⟨wr.heap.size, 1, none⟩ = some (.int .i64 b) ∧ wr.heap.size < ww.heap.size) (fun _ w w' => (fun (w w' : World) => RowKit.Below w.heap.size w w') w w') (fun kF vF wF => match kF with | 0 => (vF = .agg #[.int .i64 a, .int .i64 b]) | 1 => (vF = .bool false) | 2 => (vF = .bool true) | 3 => (vF = .bool true) | 4 => (vF = undef) | 5 => (vF = undef) | 6 => (vF = undef) | 7 => (vF = undef) | 8 => (vF = undef) | 9 => (vF = undef) | 10 => (vF = undef) | 11 => (vF = undef) | 12 => (vF = undef) | 13 => (vF = undef) | 14 => (vF = undef) | 15 => (vF = undef) | 16 => (vF = undef) | 17 => (vF = .bool true) | 18 => (vF = .bool true) | 19 => (vF = undef) | 20 => (vF = undef) | 21 => (vF = undef) | 22 => (vF = undef) | 23 => (vF = undef) | 24 => (vF = undef) | 25 => (vF = undef) | 26 => (vF = undef) | 27 => (vF = .bool true) | _ => True) (fun _ _ _ _ => True) (by kernel_rfl) (by kernel_rfl) ?_ ?_ ?_ ?_ ?_
            · exact ⟨D1.drew, HB.out.1, HB.out.2.1, HB.out.2.2⟩
            · intro iF wF1 wF2 hR hT; exact ⟨hR.1.trans (hT.mono hR.1.size), (hT.cell (p := ⟨wr.heap.size, 0, none⟩) hR.2.2.2).trans hR.2.1, (hT.cell (p := ⟨wr.heap.size, 1, none⟩) hR.2.2.2).trans hR.2.2.1, Nat.lt_of_lt_of_le hR.2.2.2 hT.size⟩
            · intro kF hkF iF hiF hne hdd hanc hdan vF wF1 wF2 h hT
              rcases (by omega : kF = 0 ∨ kF = 1 ∨ kF = 2 ∨ kF = 3 ∨ kF = 4 ∨ kF = 5 ∨ kF = 6 ∨ kF = 7 ∨ kF = 8 ∨ kF = 9 ∨ kF = 10 ∨ kF = 11 ∨ kF = 12 ∨ kF = 13 ∨ kF = 14 ∨ kF = 15 ∨ kF = 16 ∨ kF = 17 ∨ kF = 18 ∨ kF = 19 ∨ kF = 20 ∨ kF = 21 ∨ kF = 22 ∨ kF = 23 ∨ kF = 24 ∨ kF = 25 ∨ kF = 26 ∨ kF = 27) with rfl | rfl | rfl | rfl | rfl | rfl | rfl | rfl | rfl | rfl | rfl | rfl | rfl | rfl | rfl | rfl | rfl | rfl | rfl | rfl | rfl | rfl | rfl | rfl | rfl | rfl | rfl | rfl
              · exact h
              · exact h
              · exact h
              · exact h
              · exact h
              · exact h
              · exact h
              · exact h
              · exact h
              · exact h
              · exact h
              · exact h
              · exact h
              · exact h
              · exact h
              · exact h
              · exact h
              · exact h
              · exact h
              · exact h
              · exact h
              · exact h
              · exact h
              · exact h
              · exact h
              · exact h
              · exact h
              · exact h
            · refine FlowAll.cons ?_ ?_
              · intro xF wq hR hd K hK
                clear hd
                simp only [List.take_succ_cons, List.take_zero, fillOf, Act.put, List.setIfInBounds_toArray, List.set_cons_zero, List.set_cons_succ, Nat.reduceAdd, Nat.zero_add] at hK ⊢
                obtain hbR := id hR
                obtain ⟨_, z0, z1, _⟩ := id hR
                rw [if_pos (by rfl)]
                go_simp
                exact hK.out _ _ (Below.refl _ _) (rfl) (fun _ _ _ => ⟨trivial, trivial⟩)
              refine FlowAll.cons ?_ ?_
              · intro xF wq hR hd K hK
                have dd0 : ((xF 0) = .agg #[.int .i64 a, .int .i64 b]) := hd 0 (by kernel_rfl)
                clear hd
                simp only [List.take_succ_cons, List.take_zero, fillOf, Act.put, List.setIfInBounds_toArray, List.set_cons_zero, List.set_cons_succ, Nat.reduceAdd, Nat.zero_add] at hK ⊢
                try generalize xF 0 = yy0 at *
                obtain rfl := dd0
                obtain hbR := id hR
                rw [if_pos (by rfl)]
                go_simp
                (go_at_call 13; (with_reducible refine (HV.out _).mono ?_); rintro e wK ⟨rfl, hbK⟩)
                try go_wp2_with fail
                exact hK.out _ _ (hbK) (rfl) (fun _ _ _ => ⟨trivial, trivial⟩)
              refine FlowAll.cons ?_ ?_
              · intro xF wq hR hd K hK
                have dd1 : ((xF 1) = .bool false) := hd 1 (by kernel_rfl)
                clear hd
                simp only [List.take_succ_cons, List.take_zero, fillOf, Act.put, List.setIfInBounds_toArray, List.set_cons_zero, List.set_cons_succ, Nat.reduceAdd, Nat.zero_add] at hK ⊢
                try generalize xF 1 = yy1 at *
                obtain rfl := dd1
                obtain hbR := id hR
                rw [if_pos (by rfl)]
                go_simp
                exact hK.out _ _ (Below.refl _ _) (rfl) (fun _ _ _ => ⟨trivial, trivial⟩)
              refine FlowAll.cons ?_ ?_
              · intro xF wq hR hd K hK
                have dd2 : ((xF 2) = .bool true) := hd 2 (by kernel_rfl)
                clear hd
                simp only [List.take_succ_cons, List.take_zero, fillOf, Act.put, List.setIfInBounds_toArray, List.set_cons_zero, List.set_cons_succ, Nat.reduceAdd, Nat.zero_add] at hK ⊢
                try generalize xF 2 = yy2 at *
                obtain rfl := dd2
                obtain hbR := id hR
                rw [if_pos (by rfl)]
                go_simp
                exact hK.out _ _ (Below.refl _ _) (rfl) (fun _ _ _ => ⟨trivial, trivial⟩)
              refine FlowAll.cons ?_ ?_
              · intro xF wq hR hd K hK
                have dd3 : ((xF 3) = .bool true) := hd 3 (by kernel_rfl)
                clear hd
                simp only [List.take_succ_cons, List.take_zero, fillOf, Act.put, List.setIfInBounds_toArray, List.set_cons_zero, List.set_cons_succ, Nat.reduceAdd, Nat.zero_add] at hK ⊢
                try generalize xF 3 = yy3 at *
                obtain rfl := dd3
                obtain hbR := id hR
                rw [if_neg (by intro h; exact absurd (show false = true from h) Bool.false_ne_true)]
                try simp only [Act.put, List.setIfInBounds_toArray, List.set_cons_zero, List.set_cons_succ]
                exact hK.out _ _ (Below.refl _ _) (rfl) (fun _ _ _ => ⟨trivial, trivial⟩)
              refine FlowAll.cons ?_ ?_
              · intro xF wq hR hd K hK
                have dd3 : ((xF 3) = .bool true) := hd 3 (by kernel_rfl)
                clear hd
                simp only [List.take_succ_cons, List.take_zero, fillOf, Act.put, List.setIfInBounds_toArray, List.set_cons_zero, List.set_cons_succ, Nat.reduceAdd, Nat.zero_add] at hK ⊢
                try generalize xF 3 = yy3 at *
                obtain rfl := dd3
                obtain hbR := id hR
                rw [if_neg (by intro h; exact absurd (show false = true from h) Bool.false_ne_true)]
                try simp only [Act.put, List.setIfInBounds_toArray, List.set_cons_zero, List.set_cons_succ]
                exact hK.out _ _ (Below.refl _ _) (rfl) (fun _ _ _ => ⟨trivial, trivial⟩)
              refine FlowAll.cons ?_ ?_
              · intro xF wq hR hd K hK
                have dd3 : ((xF 3) = .bool true) := hd 3 (by kernel_rfl)
                clear hd
                simp only [List.take_succ_cons, List.take_zero, fillOf, Act.put, List.setIfInBounds_toArray, List.set_cons_zero, List.set_cons_succ, Nat.reduceAdd, Nat.zero_add] at hK ⊢
                try generalize xF 3 = yy3 at *
                obtain rfl := dd3
                obtain hbR := id hR
                rw [if_neg (by intro h; exact absurd (show false = true from h) Bool.false_ne_true)]
                try simp only [Act.put, List.setIfInBounds_toArray, List.set_cons_zero, List.set_cons_succ]
                exact hK.out _ _ (Below.refl _ _) (rfl) (fun _ _ _ => ⟨trivial, trivial⟩)
              refine FlowAll.cons ?_ ?_
              · intro xF wq hR hd K hK
                have dd6 : ((xF 6) = undef) := hd 6 (by kernel_rfl)
                clear hd
                simp only [List.take_succ_cons, List.take_zero, fillOf, Act.put, List.setIfInBounds_toArray, List.set_cons_zero, List.set_cons_succ, Nat.reduceAdd, Nat.zero_add] at hK ⊢
                try generalize xF 6 = yy6 at *
                obtain rfl := dd6
                obtain hbR := id hR
                rw [if_neg (by intro h; exact absurd (show false = true from h) Bool.false_ne_true)]
                try simp only [Act.put, List.setIfInBounds_toArray, List.set_cons_zero, List.set_cons_succ]
                exact hK.out _ _ (Below.refl _ _) (rfl) (fun _ _ _ => ⟨trivial, trivial⟩)
              refine FlowAll.cons ?_ ?_
              · intro xF wq hR hd K hK
                have dd6 : ((xF 6) = undef) := hd 6 (by kernel_rfl)
                clear hd
                simp only [List.take_succ_cons, List.take_zero, fillOf, Act.put, List.setIfInBounds_toArray, List.set_cons_zero, List.set_cons_succ, Nat.reduceAdd, Nat.zero_add] at hK ⊢
                try generalize xF 6 = yy6 at *
                obtain rfl := dd6
                obtain hbR := id hR
                rw [if_neg (by intro h; exact absurd (show false = true from h) Bool.false_ne_true)]
                try simp only [Act.put, List.setIfInBounds_toArray, List.set_cons_zero, List.set_cons_succ]
                exact hK.out _ _ (Below.refl _ _) (rfl) (fun _ _ _ => ⟨trivial, trivial⟩)
              refine FlowAll.cons ?_ ?_
              · intro xF wq hR hd K hK
                have dd6 : ((xF 6) = undef) := hd 6 (by kernel_rfl)
                clear hd
                simp only [List.take_succ_cons, List.take_zero, fillOf, Act.put, List.setIfInBounds_toArray, List.set_cons_zero, List.set_cons_succ, Nat.reduceAdd, Nat.zero_add] at hK ⊢
                try generalize xF 6 = yy6 at *
                obtain rfl := dd6
                obtain hbR := id hR
                rw [if_neg (by intro h; exact absurd (show false = true from h) Bool.false_ne_true)]
                try simp only [Act.put, List.setIfInBounds_toArray, List.set_cons_zero, List.set_cons_succ]
                exact hK.out _ _ (Below.refl _ _) (rfl) (fun _ _ _ => ⟨trivial, trivial⟩)
              refine FlowAll.cons ?_ ?_
              · intro xF wq hR hd K hK
                have dd6 : ((xF 6) = undef) := hd 6 (by kernel_rfl)
                clear hd
                simp only [List.take_succ_cons, List.take_zero, fillOf, Act.put, List.setIfInBounds_toArray, List.set_cons_zero, List.set_cons_succ, Nat.reduceAdd, Nat.zero_add] at hK ⊢
                try generalize xF 6 = yy6 at *
                obtain rfl := dd6
                obtain hbR := id hR
                rw [if_neg (by intro h; exact absurd (show false = true from h) Bool.false_ne_true)]
                try simp only [Act.put, List.setIfInBounds_toArray, List.set_cons_zero, List.set_cons_succ]
                exact hK.out _ _ (Below.refl _ _) (rfl) (fun _ _ _ => ⟨trivial, trivial⟩)
              refine FlowAll.cons ?_ ?_
              · intro xF wq hR hd K hK
                have dd6 : ((xF 6) = undef) := hd 6 (by kernel_rfl)
                clear hd
                simp only [List.take_succ_cons, List.take_zero, fillOf, Act.put, List.setIfInBounds_toArray, List.set_cons_zero, List.set_cons_succ, Nat.reduceAdd, Nat.zero_add] at hK ⊢
                try generalize xF 6 = yy6 at *
                obtain rfl := dd6
                obtain hbR := id hR
                rw [if_neg (by intro h; exact absurd (show false = true from h) Bool.false_ne_true)]
                try simp only [Act.put, List.setIfInBounds_toArray, List.set_cons_zero, List.set_cons_succ]
                exact hK.out _ _ (Below.refl _ _) (rfl) (fun _ _ _ => ⟨trivial, trivial⟩)
              refine FlowAll.cons ?_ ?_
              · intro xF wq hR hd K hK
                have dd6 : ((xF 6) = undef) := hd 6 (by kernel_rfl)
                clear hd
                simp only [List.take_succ_cons, List.take_zero, fillOf, Act.put, List.setIfInBounds_toArray, List.set_cons_zero, List.set_cons_succ, Nat.reduceAdd, Nat.zero_add] at hK ⊢
                try generalize xF 6 = yy6 at *
                obtain rfl := dd6
                obtain hbR := id hR
                rw [if_neg (by intro h; exact absurd (show false = true from h) Bool.false_ne_true)]
                try simp only [Act.put, List.setIfInBounds_toArray, List.set_cons_zero, List.set_cons_succ]
                exact hK.out _ _ (Below.refl _ _) (rfl) (fun _ _ _ => ⟨trivial, trivial⟩)
              refine FlowAll.cons ?_ ?_
              · intro xF wq hR hd K hK
                have dd6 : ((xF 6) = undef) := hd 6 (by kernel_rfl)
                clear hd
                simp only [List.take_succ_cons, List.take_zero, fillOf, Act.put, List.setIfInBounds_toArray, List.set_cons_zero, List.set_cons_succ, Nat.reduceAdd, Nat.zero_add] at hK ⊢
                try generalize xF 6 = yy6 at *
                obtain rfl := dd6
                obtain hbR := id hR
                rw [if_neg (by intro h; exact absurd (show false = true from h) Bool.false_ne_true)]
                try simp only [Act.put, List.setIfInBounds_toArray, List.set_cons_zero, List.set_cons_succ]
                exact hK.out _ _ (Below.refl _ _) (rfl) (fun _ _ _ => ⟨trivial, trivial⟩)
              refine FlowAll.cons ?_ ?_
              · intro xF wq hR hd K hK
                have dd6 : ((xF 6) = undef) := hd 6 (by kernel_rfl)
                clear hd
                simp only [List.take_succ_cons, List.take_zero, fillOf, Act.put, List.setIfInBounds_toArray, List.set_cons_zero, List.set_cons_succ, Nat.reduceAdd, Nat.zero_add] at hK ⊢
                try generalize xF 6 = yy6 at *
                obtain rfl := dd6
                obtain hbR := id hR
                rw [if_neg (by intro h; exact absurd (show false = true from h) Bool.false_ne_true)]
                try simp only [Act.put, List.setIfInBounds_toArray, List.set_cons_zero, List.set_cons_succ]
                exact hK.out _ _ (Below.refl _ _) (rfl) (fun _ _ _ => ⟨trivial, trivial⟩)
              refine FlowAll.cons ?_ ?_
              · intro xF wq hR hd K hK
                have dd6 : ((xF 6) = undef) := hd 6 (by kernel_rfl)
                clear hd
                simp only [List.take_succ_cons, List.take_zero, fillOf, Act.put, List.setIfInBounds_toArray, List.set_cons_zero, List.set_cons_succ, Nat.reduceAdd, Nat.zero_add] at hK ⊢
                try generalize xF 6 = yy6 at *
                obtain rfl := dd6
                obtain hbR := id hR
                rw [if_neg (by intro h; exact absurd (show false = true from h) Bool.false_ne_true)]
                try simp only [Act.put, List.setIfInBounds_toArray, List.set_cons_zero, List.set_cons_succ]
                exact hK.out _ _ (Below.refl _ _) (rfl) (fun _ _ _ => ⟨trivial, trivial⟩)
              refine FlowAll.cons ?_ ?_
              · intro xF wq hR hd K hK
                have dd3 : ((xF 3) = .bool true) := hd 3 (by kernel_rfl)
                clear hd
                simp only [List.take_succ_cons, List.take_zero, fillOf, Act.put, List.setIfInBounds_toArray, List.set_cons_zero, List.set_cons_succ, Nat.reduceAdd, Nat.zero_add] at hK ⊢
                try generalize xF 3 = yy3 at *
                obtain rfl := dd3
                obtain hbR := id hR
                rw [if_neg (by intro h; exact absurd (show false = true from h) Bool.false_ne_true)]
                try simp only [Act.put, List.setIfInBounds_toArray, List.set_cons_zero, List.set_cons_succ]
                exact hK.out _ _ (Below.refl _ _) (rfl) (fun _ _ _ => ⟨trivial, trivial⟩)
              refine FlowAll.cons ?_ ?_
              · intro xF wq hR hd K hK
                have dd3 : ((xF 3) = .bool true) := hd 3 (by kernel_rfl)
                have dd16 : ((xF 16) = undef) := hd 16 (by kernel_rfl)
                clear hd
                simp only [List.take_succ_cons, List.take_zero, fillOf, Act.put, List.setIfInBounds_toArray, List.set_cons_zero, List.set_cons_succ, Nat.reduceAdd, Nat.zero_add] at hK ⊢
                try generalize xF 3 = yy3 at *
                try generalize xF 16 = yy16 at *
                obtain rfl := dd3
                obtain rfl := dd16
                obtain hbR := id hR
                rw [if_pos (by rfl)]
                go_simp
                exact hK.out _ _ (Below.refl _ _) (rfl) (fun _ _ _ => ⟨trivial, trivial⟩)
              refine FlowAll.cons ?_ ?_
              · intro xF wq hR hd K hK
                have dd17 : ((xF 17) = .bool true) := hd 17 (by kernel_rfl)
                clear hd
                simp only [List.take_succ_cons, List.take_zero, fillOf, Act.put, List.setIfInBounds_toArray, List.set_cons_zero, List.set_cons_succ, Nat.reduceAdd, Nat.zero_add] at hK ⊢
                try generalize xF 17 = yy17 at *
                obtain rfl := dd17
                obtain hbR := id hR
                rw [if_pos (by rfl)]
                go_simp
                exact hK.out _ _ (Below.refl _ _) (rfl) (fun _ _ _ => ⟨trivial, trivial⟩)
              refine FlowAll.cons ?_ ?_
              · intro xF wq hR hd K hK
                have dd18 : ((xF 18) = .bool true) := hd 18 (by kernel_rfl)
                clear hd
                simp only [List.take_succ_cons, List.take_zero, fillOf, Act.put, List.setIfInBounds_toArray, List.set_cons_zero, List.set_cons_succ, Nat.reduceAdd, Nat.zero_add] at hK ⊢
                try generalize xF 18 = yy18 at *
                obtain rfl := dd18
                obtain hbR := id hR
                rw [if_neg (by intro h; exact absurd (show false = true from h) Bool.false_ne_true)]
                try simp only [Act.put, List.setIfInBounds_toArray, List.set_cons_zero, List.set_cons_succ]
                exact hK.out _ _ (Below.refl _ _) (rfl) (fun _ _ _ => ⟨trivial, trivial⟩)
              refine FlowAll.cons ?_ ?_
              · intro xF wq hR hd K hK
                have dd18 : ((xF 18) = .bool true) := hd 18 (by kernel_rfl)
                clear hd
                simp only [List.take_succ_cons, List.take_zero, fillOf, Act.put, List.setIfInBounds_toArray, List.set_cons_zero, List.set_cons_succ, Nat.reduceAdd, Nat.zero_add] at hK ⊢
                try generalize xF 18 = yy18 at *
                obtain rfl := dd18
                obtain hbR := id hR
                rw [if_neg (by intro h; exact absurd (show false = true from h) Bool.false_ne_true)]
                try simp only [Act.put, List.setIfInBounds_toArray, List.set_cons_zero, List.set_cons_succ]
                exact hK.out _ _ (Below.refl _ _) (rfl) (fun _ _ _ => ⟨trivial, trivial⟩)
              refine FlowAll.cons ?_ ?_
              · intro xF wq hR hd K hK
                have dd18 : ((xF 18) = .bool true) := hd 18 (by kernel_rfl)
                clear hd
                simp only [List.take_succ_cons, List.take_zero, fillOf, Act.put, List.setIfInBounds_toArray, List.set_cons_zero, List.set_cons_succ, Nat.reduceAdd, Nat.zero_add] at hK ⊢
                try generalize xF 18 = yy18 at *
                obtain rfl := dd18
                obtain hbR := id hR
                rw [if_neg (by intro h; exact absurd (show false = true from h) Bool.false_ne_true)]
                try simp only [Act.put, List.setIfInBounds_toArray, List.set_cons_zero, List.set_cons_succ]
                exact hK.out _ _ (Below.refl _ _) (rfl) (fun _ _ _ => ⟨trivial, trivial⟩)
              refine FlowAll.cons ?_ ?_
              · intro xF wq hR hd K hK
                have dd18 : ((xF 18) = .bool true) := hd 18 (by kernel_rfl)
                clear hd
                simp only [List.take_succ_cons, List.take_zero, fillOf, Act.put, List.setIfInBounds_toArray, List.set_cons_zero, List.set_cons_succ, Nat.reduceAdd, Nat.zero_add] at hK ⊢
                try generalize xF 18 = yy18 at *
                obtain rfl := dd18
                obtain hbR := id hR
                rw [if_neg (by intro h; exact absurd (show false = true from h) Bool.false_ne_true)]
                try simp only [Act.put, List.setIfInBounds_toArray, List.set_cons_zero, List.set_cons_succ]
                exact hK.out _ _ (Below.refl _ _) (rfl) (fun _ _ _ => ⟨trivial, trivial⟩)
              refine FlowAll.cons ?_ ?_
              · intro xF wq hR hd K hK
                have dd18 : ((xF 18) = .bool true) := hd 18 (by kernel_rfl)
                clear hd
                simp only [List.take_succ_cons, List.take_zero, fillOf, Act.put, List.setIfInBounds_toArray, List.set_cons_zero, List.set_cons_succ, Nat.reduceAdd, Nat.zero_add] at hK ⊢
                try generalize xF 18 = yy18 at *
                obtain rfl := dd18
                obtain hbR := id hR
                rw [if_neg (by intro h; exact absurd (show false = true from h) Bool.false_ne_true)]
                try simp only [Act.put, List.setIfInBounds_toArray, List.set_cons_zero, List.set_cons_succ]
                exact hK.out _ _ (Below.refl _ _) (rfl) (fun _ _ _ => ⟨trivial, trivial⟩)
              refine FlowAll.cons ?_ ?_
              · intro xF wq hR hd K hK
                have dd18 : ((xF 18) = .bool true) := hd 18 (by kernel_rfl)
                clear hd
                simp only [List.take_succ_cons, List.take_zero, fillOf, Act.put, List.setIfInBounds_toArray, List.set_cons_zero, List.set_cons_succ, Nat.reduceAdd, Nat.zero_add] at hK ⊢
                try generalize xF 18 = yy18 at *
                obtain rfl := dd18
                obtain hbR := id hR
                rw [if_neg (by intro h; exact absurd (show false = true from h) Bool.false_ne_true)]
                try simp only [Act.put, List.setIfInBounds_toArray, List.set_cons_zero, List.set_cons_succ]
                exact hK.out _ _ (Below.refl _ _) (rfl) (fun _ _ _ => ⟨trivial, trivial⟩)
              refine FlowAll.cons ?_ ?_
              · intro xF wq hR hd K hK
                have dd18 : ((xF 18) = .bool true) := hd 18 (by kernel_rfl)
                clear hd
                simp only [List.take_succ_cons, List.take_zero, fillOf, Act.put, List.setIfInBounds_toArray, List.set_cons_zero, List.set_cons_succ, Nat.reduceAdd, Nat.zero_add] at hK ⊢
                try generalize xF 18 = yy18 at *
                obtain rfl := dd18
                obtain hbR := id hR
                rw [if_neg (by intro h; exact absurd (show false = true from h) Bool.false_ne_true)]
                try simp only [Act.put, List.setIfInBounds_toArray, List.set_cons_zero, List.set_cons_succ]
                exact hK.out _ _ (Below.refl _ _) (rfl) (fun _ _ _ => ⟨trivial, trivial⟩)
              refine FlowAll.cons ?_ ?_
              · intro xF wq hR hd K hK
                have dd18 : ((xF 18) = .bool true) := hd 18 (by kernel_rfl)
                clear hd
                simp only [List.take_succ_cons, List.take_zero, fillOf, Act.put, List.setIfInBounds_toArray, List.set_cons_zero, List.set_cons_succ, Nat.reduceAdd, Nat.zero_add] at hK ⊢
                try generalize xF 18 = yy18 at *
                obtain rfl := dd18
                obtain hbR := id hR
                rw [if_neg (by intro h; exact absurd (show false = true from h) Bool.false_ne_true)]
                try simp only [Act.put, List.setIfInBounds_toArray, List.set_cons_zero, List.set_cons_succ]
                exact hK.out _ _ (Below.refl _ _) (rfl) (fun _ _ _ => ⟨trivial, trivial⟩)
              refine FlowAll.cons ?_ ?_
              · intro xF wq hR hd K hK
                have dd18 : ((xF 18) = .bool true) := hd 18 (by kernel_rfl)
                have dd26 : ((xF 26) = undef) := hd 26 (by kernel_rfl)
                clear hd
                simp only [List.take_succ_cons, List.take_zero, fillOf, Act.put, List.setIfInBounds_toArray, List.set_cons_zero, List.set_cons_succ, Nat.reduceAdd, Nat.zero_add] at hK ⊢
                try generalize xF 18 = yy18 at *
                try generalize xF 26 = yy26 at *
                obtain rfl := dd18
                obtain rfl := dd26
                obtain hbR := id hR
                rw [if_pos (by rfl)]
                go_simp
                exact hK.out _ _ (Below.refl _ _) (rfl) (fun _ _ _ => ⟨trivial, trivial⟩)
              exact FlowAll.nil
            intro xF wq hR hF hP
            clear hP
            have dd0 : ((xF 0) = .agg #[.int .i64 a, .int .i64 b]) := hF 0 (by omega) (by decide)
            have dd1 : ((xF 1) = .bool false) := hF 1 (by omega) (by decide)
            have dd2 : ((xF 2) = .bool true) := hF 2 (by omega) (by decide)
            have dd3 : ((xF 3) = .bool true) := hF 3 (by omega) (by decide)
            have dd4 : ((xF 4) = undef) := hF 4 (by omega) (by decide)
            have dd5 : ((xF 5) = undef) := hF 5 (by omega) (by decide)
            have dd6 : ((xF 6) = undef) := hF 6 (by omega) (by decide)
            have dd7 : ((xF 7) = undef) := hF 7 (by omega) (by decide)
            have dd8 : ((xF 8) = undef) := hF 8 (by omega) (by decide)
            have dd9 : ((xF 9) = undef) := hF 9 (by omega) (by decide)
            have dd10 : ((xF 10) = undef) := hF 10 (by omega) (by decide)
            have dd11 : ((xF 11) = undef) := hF 11 (by omega) (by decide)
            have dd12 : ((xF 12) = undef) := hF 12 (by omega) (by decide)
            have dd13 : ((xF 13) = undef) := hF 13 (by omega) (by decide)
            have dd14 : ((xF 14) = undef) := hF 14 (by omega) (by decide)
            have dd15 : ((xF 15) = undef) := hF 15 (by omega) (by decide)
            have dd16 : ((xF 16) = undef) := hF 16 (by omega) (by decide)
            have dd17 : ((xF 17) = .bool true) := hF 17 (by omega) (by decide)
            have dd18 : ((xF 18) = .bool true) := hF 18 (by omega) (by decide)
            have dd19 : ((xF 19) = undef) := hF 19 (by omega) (by decide)
            have dd20 : ((xF 20) = undef) := hF 20 (by omega) (by decide)
            have dd21 : ((xF 21) = undef) := hF 21 (by omega) (by decide)
            have dd22 : ((xF 22) = undef) := hF 22 (by omega) (by decide)
            have dd23 : ((xF 23) = undef) := hF 23 (by omega) (by decide)
            have dd24 : ((xF 24) = undef) := hF 24 (by omega) (by decide)
            have dd25 : ((xF 25) = undef) := hF 25 (by omega) (by decide)
            have dd26 : ((xF 26) = undef) := hF 26 (by omega) (by decide)
            have dd27 : ((xF 27) = .bool true) := hF 27 (by omega) (by decide)
            clear hF
            simp only [List.take_succ_cons, List.take_zero, List.drop_succ_cons, List.drop_zero, fillOf, Act.put, List.setIfInBounds_toArray, List.set_cons_zero, List.set_cons_succ, Nat.reduceAdd, Nat.zero_add]
            try generalize xF 0 = yy0 at *
            try generalize xF 1 = yy1 at *
            try generalize xF 2 = yy2 at *
            try generalize xF 3 = yy3 at *
            try generalize xF 4 = yy4 at *
            try generalize xF 5 = yy5 at *
            try generalize xF 6 = yy6 at *
            try generalize xF 7 = yy7 at *
            try generalize xF 8 = yy8 at *
            try generalize xF 9 = yy9 at *
            try generalize xF 10 = yy10 at *
            try generalize xF 11 = yy11 at *
            try generalize xF 12 = yy12 at *
            try generalize xF 13 = yy13 at *
            try generalize xF 14 = yy14 at *
            try generalize xF 15 = yy15 at *
            try generalize xF 16 = yy16 at *
            try generalize xF 17 = yy17 at *
            try generalize xF 18 = yy18 at *
            try generalize xF 19 = yy19 at *
            try generalize xF 20 = yy20 at *
            try generalize xF 21 = yy21 at *
            try generalize xF 22 = yy22 at *
            try generalize xF 23 = yy23 at *
            try generalize xF 24 = yy24 at *
            try generalize xF 25 = yy25 at *
            try generalize xF 26 = yy26 at *
            try generalize xF 27 = yy27 at *
            clear xF
            obtain rfl := dd0
            obtain rfl := dd1
            obtain rfl := dd2
            obtain rfl := dd3
            obtain rfl := dd4
            obtain rfl := dd5
            obtain rfl := dd6
            obtain rfl := dd7
            obtain rfl := dd8
            obtain rfl := dd9
            obtain rfl := dd10
            obtain rfl := dd11
            obtain rfl := dd12
            obtain rfl := dd13
            obtain rfl := dd14
            obtain rfl := dd15
            obtain rfl := dd16
            obtain rfl := dd17
            obtain rfl := dd18
            obtain rfl := dd19
            obtain rfl := dd20
            obtain rfl := dd21
            obtain rfl := dd22
            obtain rfl := dd23
            obtain rfl := dd24
            obtain rfl := dd25
            obtain rfl := dd26
            obtain rfl := dd27
            have hRE := Lib.hid hR
            clear hR
            have hb9 := E1.trans (hRE.out.1.mono E1.size)
            clear hRE
            go_wp2
            go_ret
            exact ⟨rfl, hb9⟩
          | true =>
            rw [hv] at HV
            have HVT := Lib.hid hv
            have hvd := (dm.valid_iff (a, b)).1 hv
            simp only at hvd
            have hsb : IntKind.i64.wrap (b - 1) = b - 1 := IntWalk.i64_in _ (by omega)
            clear hv
            by_cases hk0 : 0 < k
            · obtain ⟨i, hki⟩ : ∃ i, k = i + 1 := ⟨k - 1, by omega⟩
              have HPR0 : Hid (∀ W, Below w1.heap.size w1 W → W.cell? ⟨b0, off + i * 2, none⟩ = some (.int .i64 (c.2.getD i (0, 0)).1) ∧ W.cell? ⟨b0, off + i * 2 + 1, none⟩ = some (.int .i64 (c.2.getD i (0, 0)).2)) := fun W hW => by
                obtain ⟨b0', off', hb0, _, q0, q1⟩ := Dots.get (HD2.out W hW) HN2.out (show i < n2 by omega)
                simp only [Option.some.injEq, Addr.mk.injEq] at hb0
                obtain ⟨rfl, rfl, _⟩ := hb0
                exact ⟨q0, q1⟩
              obtain ⟨⟨a', b'⟩, ha'⟩ : ∃ x, x = c.2.getD i (0, 0) := ⟨_, rfl⟩
              rw [← ha'] at HPR0
              have HPR : Hid (∀ W, Below w1.heap.size w1 W → W.cell? ⟨b0, off + i * 2, none⟩ = some (.int .i64 a') ∧ W.cell? ⟨b0, off + i * 2 + 1, none⟩ = some (.int .i64 b')) := HPR0.out
              have HAE := Lib.hid ha'
              have HKI := Lib.hid hki
              have HL0 : Hid (∀ W, Calls Try.prog 15 #[.agg #[.int .i64 a', .int .i64 b'], .agg #[.int .i64 a, .int .i64 b]] W (Said (dless (a', b') (a, b)) W)) := fun W => rless_any (a', b') (a, b) W
              have hw : IntKind.i64.wrap ((k : Int) - 1) = (i : Int) := by rw [hki]; push_cast; rw [Int.add_sub_cancel]; exact IntWalk.i64_in _ (by omega)
              have hi0 : (0 : Int) ≤ (i : Int) := by omega
              have hi1 : (i : Int) < (n2 : Int) := by omega
              have hg2 : (0 : Int) < (k : Int) := by omega
              have hg1 : decide ((0 : Int) < (k : Int)) = true := decide_eq_true hg2
              have hsub : (k : Int) - 1 = (i : Int) := by omega
              have hwi : IntKind.i64.wrap (i : Int) = (i : Int) := IntWalk.i64_in _ (by omega)
              clear hki ha' HPR0
              cases hls : dless (a', b') (a, b) with
              | false =>
                obtain rfl : R = false := HFK.out (fun ho => by
                  have := ho.2.1 hk0
                  rw [HKI.out, Nat.add_sub_cancel, ← HKI.out, ← HAE.out, ← HXE.out, hls] at this
                  cases this)
                have HL := HL0
                rw [hls] at HL
                clear HL0 hls
                go_wp2_with fail
                refine wp_flow 28 (fun _ => 1000) (fun ww => RowKit.Below w1.heap.size w1 ww ∧ ww.cell? ⟨wr.heap.size, 0, none⟩ = some (.int .i64 a) ∧ ww.cell? ⟨wr.heap.size, 1, none⟩ = some (.int .i64 b) ∧ wr.heap.size < ww.heap.size) (fun _ w w' => (fun (w w' : World) => RowKit.Below w.heap.size w w') w w') (fun kF vF wF => match kF with | 0 => (vF = .agg #[.int .i64 a, .int .i64 b]) | 1 => (vF = .bool true) | 2 => (vF = .bool false) | 3 => (vF = .bool false) | 4 => (vF = .int .i64 (k : Int)) | 5 => (vF = .bool true) | 6 => (vF = .bool true) | 7 => (vF = .pointer (some ⟨w.heap.size, 1, none⟩)) | 8 => (vF = .slice (some ⟨b0, off, none⟩) n2 c2) | 9 => (vF = .int .i64 (k : Int)) | 10 => (vF = .int .i64 (i : Int)) | 11 => (vF = .pointer (some ⟨b0, off + i * 2, none⟩)) | 12 => (vF = .agg #[.int .i64 a', .int .i64 b']) | 13 => (vF = .agg #[.int .i64 a, .int .i64 b]) | 14 => (vF = .bool false) | 15 => (vF = .bool true) | 16 => (vF = .bool true) | 17 => (vF = .bool true) | 18 => (vF = .bool true) | 19 => (vF = undef) | 20 => (vF = undef) | 21 => (vF = undef) | 22 => (vF = undef) | 23 => (vF = undef) | 24 => (vF = undef) | 25 => (vF = undef) | 26 => (vF = undef) | 27 => (vF = .bool true) | _ => True) (fun _ _ _ _ => True) (by kernel_rfl) (by kernel_rfl) ?_ ?_ ?_ ?_ ?_
                · exact ⟨D1.drew, HB.out.1, HB.out.2.1, HB.out.2.2⟩
                · intro iF wF1 wF2 hR hT; exact ⟨hR.1.trans (hT.mono hR.1.size), (hT.cell (p := ⟨wr.heap.size, 0, none⟩) hR.2.2.2).trans hR.2.1, (hT.cell (p := ⟨wr.heap.size, 1, none⟩) hR.2.2.2).trans hR.2.2.1, Nat.lt_of_lt_of_le hR.2.2.2 hT.size⟩
                · intro kF hkF iF hiF hne hdd hanc hdan vF wF1 wF2 h hT
                  rcases (by omega : kF = 0 ∨ kF = 1 ∨ kF = 2 ∨ kF = 3 ∨ kF = 4 ∨ kF = 5 ∨ kF = 6 ∨ kF = 7 ∨ kF = 8 ∨ kF = 9 ∨ kF = 10 ∨ kF = 11 ∨ kF = 12 ∨ kF = 13 ∨ kF = 14 ∨ kF = 15 ∨ kF = 16 ∨ kF = 17 ∨ kF = 18 ∨ kF = 19 ∨ kF = 20 ∨ kF = 21 ∨ kF = 22 ∨ kF = 23 ∨ kF = 24 ∨ kF = 25 ∨ kF = 26 ∨ kF = 27) with rfl | rfl | rfl | rfl | rfl | rfl | rfl | rfl | rfl | rfl | rfl | rfl | rfl | rfl | rfl | rfl | rfl | rfl | rfl | rfl | rfl | rfl | rfl | rfl | rfl | rfl | rfl | rfl
                  · exact h
                  · exact h
                  · exact h
                  · exact h
                  · exact h
                  · exact h
                  · exact h
                  · exact h
                  · exact h
                  · exact h
                  · exact h
                  · exact h
                  · exact h
                  · exact h
                  · exact h
                  · exact h
                  · exact h
                  · exact h
                  · exact h
                  · exact h
                  · exact h
                  · exact h
                  · exact h
                  · exact h
                  · exact h
                  · exact h
                  · exact h
                  · exact h
                · refine FlowAll.cons ?_ ?_
                  · intro xF wq hR hd K hK
                    clear hd
                    simp only [List.take_succ_cons, List.take_zero, fillOf, Act.put, List.setIfInBounds_toArray, List.set_cons_zero, List.set_cons_succ, Nat.reduceAdd, Nat.zero_add] at hK ⊢
                    obtain hbR := id hR
                    obtain ⟨_, z0, z1, _⟩ := id hR
                    rw [if_pos (by rfl)]
                    go_simp
                    exact hK.out _ _ (Below.refl _ _) (rfl) (fun _ _ _ => ⟨trivial, trivial⟩)
                  refine FlowAll.cons ?_ ?_
                  · intro xF wq hR hd K hK
                    have dd0 : ((xF 0) = .agg #[.int .i64 a, .int .i64 b]) := hd 0 (by kernel_rfl)
                    clear hd
                    simp only [List.take_succ_cons, List.take_zero, fillOf, Act.put, List.setIfInBounds_toArray, List.set_cons_zero, List.set_cons_succ, Nat.reduceAdd, Nat.zero_add] at hK ⊢
                    try generalize xF 0 = yy0 at *
                    obtain rfl := dd0
                    obtain hbR := id hR
                    rw [if_pos (by rfl)]
                    go_simp
                    (go_at_call 13; (with_reducible refine (HV.out _).mono ?_); rintro e wK ⟨rfl, hbK⟩)
                    try go_wp2_with fail
                    exact hK.out _ _ (hbK) (rfl) (fun _ _ _ => ⟨trivial, trivial⟩)
                  refine FlowAll.cons ?_ ?_
                  · intro xF wq hR hd K hK
                    have dd1 : ((xF 1) = .bool true) := hd 1 (by kernel_rfl)
                    clear hd
                    simp only [List.take_succ_cons, List.take_zero, fillOf, Act.put, List.setIfInBounds_toArray, List.set_cons_zero, List.set_cons_succ, Nat.reduceAdd, Nat.zero_add] at hK ⊢
                    try generalize xF 1 = yy1 at *
                    obtain rfl := dd1
                    obtain hbR := id hR
                    rw [if_pos (by rfl)]
                    go_simp
                    exact hK.out _ _ (Below.refl _ _) (rfl) (fun _ _ _ => ⟨trivial, trivial⟩)
                  refine FlowAll.cons ?_ ?_
                  · intro xF wq hR hd K hK
                    have dd2 : ((xF 2) = .bool false) := hd 2 (by kernel_rfl)
                    clear hd
                    simp only [List.take_succ_cons, List.take_zero, fillOf, Act.put, List.setIfInBounds_toArray, List.set_cons_zero, List.set_cons_succ, Nat.reduceAdd, Nat.zero_add] at hK ⊢
                    try generalize xF 2 = yy2 at *
                    obtain rfl := dd2
                    obtain hbR := id hR
                    rw [if_pos (by rfl)]
                    go_simp
                    exact hK.out _ _ (Below.refl _ _) (rfl) (fun _ _ _ => ⟨trivial, trivial⟩)
                  refine FlowAll.cons ?_ ?_
                  · intro xF wq hR hd K hK
                    have dd3 : ((xF 3) = .bool false) := hd 3 (by kernel_rfl)
                    clear hd
                    simp only [List.take_succ_cons, List.take_zero, fillOf, Act.put, List.setIfInBounds_toArray, List.set_cons_zero, List.set_cons_succ, Nat.reduceAdd, Nat.zero_add] at hK ⊢
                    try generalize xF 3 = yy3 at *
                    obtain rfl := dd3
                    obtain hbR := id hR
                    rw [if_pos (by rfl)]
                    go_simp
                    exact hK.out _ _ (Below.refl _ _) (rfl) (fun _ _ _ => ⟨trivial, trivial⟩)
                  refine FlowAll.cons ?_ ?_
                  · intro xF wq hR hd K hK
                    have dd3 : ((xF 3) = .bool false) := hd 3 (by kernel_rfl)
                    have dd4 : ((xF 4) = .int .i64 (k : Int)) := hd 4 (by kernel_rfl)
                    clear hd
                    simp only [List.take_succ_cons, List.take_zero, fillOf, Act.put, List.setIfInBounds_toArray, List.set_cons_zero, List.set_cons_succ, Nat.reduceAdd, Nat.zero_add] at hK ⊢
                    try generalize xF 3 = yy3 at *
                    try generalize xF 4 = yy4 at *
                    obtain rfl := dd3
                    obtain rfl := dd4
                    obtain hbR := id hR
                    rw [if_pos (by rfl)]
                    go_simp
                    exact hK.out _ _ (Below.refl _ _) (rfl) (fun _ _ _ => ⟨trivial, trivial⟩)
                  refine FlowAll.cons ?_ ?_
                  · intro xF wq hR hd K hK
                    have dd3 : ((xF 3) = .bool false) := hd 3 (by kernel_rfl)
                    have dd5 : ((xF 5) = .bool true) := hd 5 (by kernel_rfl)
                    clear hd
                    simp only [List.take_succ_cons, List.take_zero, fillOf, Act.put, List.setIfInBounds_toArray, List.set_cons_zero, List.set_cons_succ, Nat.reduceAdd, Nat.zero_add] at hK ⊢
                    try generalize xF 3 = yy3 at *
                    try generalize xF 5 = yy5 at *
                    obtain rfl := dd3
                    obtain rfl := dd5
                    obtain hbR := id hR
                    rw [if_pos (by rfl)]
                    go_simp
                    exact hK.out _ _ (Below.refl _ _) (rfl) (fun _ _ _ => ⟨trivial, trivial⟩)
                  refine FlowAll.cons ?_ ?_
                  · intro xF wq hR hd K hK
                    have dd6 : ((xF 6) = .bool true) := hd 6 (by kernel_rfl)
                    clear hd
                    simp only [List.take_succ_cons, List.take_zero, fillOf, Act.put, List.setIfInBounds_toArray, List.set_cons_zero, List.set_cons_succ, Nat.reduceAdd, Nat.zero_add] at hK ⊢
                    try generalize xF 6 = yy6 at *
                    obtain rfl := dd6
                    obtain hbR := id hR
                    rw [if_pos (by rfl)]
                    go_simp
                    exact hK.out _ _ (Below.refl _ _) (rfl) (fun _ _ _ => ⟨trivial, trivial⟩)
                  refine FlowAll.cons ?_ ?_
                  · intro xF wq hR hd K hK
                    have dd6 : ((xF 6) = .bool true) := hd 6 (by kernel_rfl)
                    have dd7 : ((xF 7) = .pointer (some ⟨w.heap.size, 1, none⟩)) := hd 7 (by kernel_rfl)
                    clear hd
                    simp only [List.take_succ_cons, List.take_zero, fillOf, Act.put, List.setIfInBounds_toArray, List.set_cons_zero, List.set_cons_succ, Nat.reduceAdd, Nat.zero_add] at hK ⊢
                    try generalize xF 6 = yy6 at *
                    try generalize xF 7 = yy7 at *
                    obtain rfl := dd6
                    obtain rfl := dd7
                    obtain hbR := id hR
                    obtain ⟨x0, x1⟩ := HX.out _ hR.1
                    rw [if_pos (by rfl)]
                    go_simp
                    exact hK.out _ _ (Below.refl _ _) (rfl) (fun _ _ _ => ⟨trivial, trivial⟩)
                  refine FlowAll.cons ?_ ?_
                  · intro xF wq hR hd K hK
                    have dd6 : ((xF 6) = .bool true) := hd 6 (by kernel_rfl)
                    clear hd
                    simp only [List.take_succ_cons, List.take_zero, fillOf, Act.put, List.setIfInBounds_toArray, List.set_cons_zero, List.set_cons_succ, Nat.reduceAdd, Nat.zero_add] at hK ⊢
                    try generalize xF 6 = yy6 at *
                    obtain rfl := dd6
                    obtain hbR := id hR
                    rw [if_pos (by rfl)]
                    go_simp
                    exact hK.out _ _ (Below.refl _ _) (rfl) (fun _ _ _ => ⟨trivial, trivial⟩)
                  refine FlowAll.cons ?_ ?_
                  · intro xF wq hR hd K hK
                    have dd6 : ((xF 6) = .bool true) := hd 6 (by kernel_rfl)
                    have dd9 : ((xF 9) = .int .i64 (k : Int)) := hd 9 (by kernel_rfl)
                    clear hd
                    simp only [List.take_succ_cons, List.take_zero, fillOf, Act.put, List.setIfInBounds_toArray, List.set_cons_zero, List.set_cons_succ, Nat.reduceAdd, Nat.zero_add] at hK ⊢
                    try generalize xF 6 = yy6 at *
                    try generalize xF 9 = yy9 at *
                    obtain rfl := dd6
                    obtain rfl := dd9
                    obtain hbR := id hR
                    rw [if_pos (by rfl)]
                    go_simp
                    exact hK.out _ _ (Below.refl _ _) (rfl) (fun _ _ _ => ⟨trivial, trivial⟩)
                  refine FlowAll.cons ?_ ?_
                  · intro xF wq hR hd K hK
                    have dd6 : ((xF 6) = .bool true) := hd 6 (by kernel_rfl)
                    have dd8 : ((xF 8) = .slice (some ⟨b0, off, none⟩) n2 c2) := hd 8 (by kernel_rfl)
                    have dd10 : ((xF 10) = .int .i64 (i : Int)) := hd 10 (by kernel_rfl)
                    clear hd
                    simp only [List.take_succ_cons, List.take_zero, fillOf, Act.put, List.setIfInBounds_toArray, List.set_cons_zero, List.set_cons_succ, Nat.reduceAdd, Nat.zero_add] at hK ⊢
                    try generalize xF 6 = yy6 at *
                    try generalize xF 8 = yy8 at *
                    try generalize xF 10 = yy10 at *
                    obtain rfl := dd6
                    obtain rfl := dd8
                    obtain rfl := dd10
                    obtain hbR := id hR
                    rw [if_pos (by rfl)]
                    go_simp
                    exact hK.out _ _ (Below.refl _ _) (rfl) (fun _ _ _ => ⟨trivial, trivial⟩)
                  refine FlowAll.cons ?_ ?_
                  · intro xF wq hR hd K hK
                    have dd6 : ((xF 6) = .bool true) := hd 6 (by kernel_rfl)
                    have dd11 : ((xF 11) = .pointer (some ⟨b0, off + i * 2, none⟩)) := hd 11 (by kernel_rfl)
                    clear hd
                    simp only [List.take_succ_cons, List.take_zero, fillOf, Act.put, List.setIfInBounds_toArray, List.set_cons_zero, List.set_cons_succ, Nat.reduceAdd, Nat.zero_add] at hK ⊢
                    try generalize xF 6 = yy6 at *
                    try generalize xF 11 = yy11 at *
                    obtain rfl := dd6
                    obtain rfl := dd11
                    obtain hbR := id hR
                    obtain ⟨e2, e3⟩ := HPR.out _ hR.1
                    rw [if_pos (by rfl)]
                    go_simp
                    exact hK.out _ _ (Below.refl _ _) (rfl) (fun _ _ _ => ⟨trivial, trivial⟩)
                  refine FlowAll.cons ?_ ?_
                  · intro xF wq hR hd K hK
                    have dd6 : ((xF 6) = .bool true) := hd 6 (by kernel_rfl)
                    clear hd
                    simp only [List.take_succ_cons, List.take_zero, fillOf, Act.put, List.setIfInBounds_toArray, List.set_cons_zero, List.set_cons_succ, Nat.reduceAdd, Nat.zero_add] at hK ⊢
                    try generalize xF 6 = yy6 at *
                    obtain rfl := dd6
                    obtain hbR := id hR
                    obtain ⟨_, z0, z1, _⟩ := id hR
                    rw [if_pos (by rfl)]
                    go_simp
                    exact hK.out _ _ (Below.refl _ _) (rfl) (fun _ _ _ => ⟨trivial, trivial⟩)
                  refine FlowAll.cons ?_ ?_
                  · intro xF wq hR hd K hK
                    have dd6 : ((xF 6) = .bool true) := hd 6 (by kernel_rfl)
                    have dd12 : ((xF 12) = .agg #[.int .i64 a', .int .i64 b']) := hd 12 (by kernel_rfl)
                    have dd13 : ((xF 13) = .agg #[.int .i64 a, .int .i64 b]) := hd 13 (by kernel_rfl)
                    clear hd
                    simp only [List.take_succ_cons, List.take_zero, fillOf, Act.put, List.setIfInBounds_toArray, List.set_cons_zero, List.set_cons_succ, Nat.reduceAdd, Nat.zero_add] at hK ⊢
                    try generalize xF 6 = yy6 at *
                    try generalize xF 12 = yy12 at *
                    try generalize xF 13 = yy13 at *
                    obtain rfl := dd6
                    obtain rfl := dd12
                    obtain rfl := dd13
                    obtain hbR := id hR
                    rw [if_pos (by rfl)]
                    go_simp
                    (go_at_call 15; (with_reducible refine (HL.out _).mono ?_); rintro e wK ⟨rfl, hbK⟩)
                    try go_wp2_with fail
                    exact hK.out _ _ (hbK) (rfl) (fun _ _ _ => ⟨trivial, trivial⟩)
                  refine FlowAll.cons ?_ ?_
                  · intro xF wq hR hd K hK
                    have dd6 : ((xF 6) = .bool true) := hd 6 (by kernel_rfl)
                    have dd14 : ((xF 14) = .bool false) := hd 14 (by kernel_rfl)
                    clear hd
                    simp only [List.take_succ_cons, List.take_zero, fillOf, Act.put, List.setIfInBounds_toArray, List.set_cons_zero, List.set_cons_succ, Nat.reduceAdd, Nat.zero_add] at hK ⊢
                    try generalize xF 6 = yy6 at *
                    try generalize xF 14 = yy14 at *
                    obtain rfl := dd6
                    obtain rfl := dd14
                    obtain hbR := id hR
                    rw [if_pos (by rfl)]
                    go_simp
                    exact hK.out _ _ (Below.refl _ _) (rfl) (fun _ _ _ => ⟨trivial, trivial⟩)
                  refine FlowAll.cons ?_ ?_
                  · intro xF wq hR hd K hK
                    have dd3 : ((xF 3) = .bool false) := hd 3 (by kernel_rfl)
                    have dd6 : ((xF 6) = .bool true) := hd 6 (by kernel_rfl)
                    have dd15 : ((xF 15) = .bool true) := hd 15 (by kernel_rfl)
                    clear hd
                    simp only [List.take_succ_cons, List.take_zero, fillOf, Act.put, List.setIfInBounds_toArray, List.set_cons_zero, List.set_cons_succ, Nat.reduceAdd, Nat.zero_add] at hK ⊢
                    try generalize xF 3 = yy3 at *
                    try generalize xF 6 = yy6 at *
                    try generalize xF 15 = yy15 at *
                    obtain rfl := dd3
                    obtain rfl := dd6
                    obtain rfl := dd15
                    obtain hbR := id hR
                    rw [if_pos (by rfl)]
                    go_simp
                    exact hK.out _ _ (Below.refl _ _) (rfl) (fun _ _ _ => ⟨trivial, trivial⟩)
                  refine FlowAll.cons ?_ ?_
                  · intro xF wq hR hd K hK
                    have dd3 : ((xF 3) = .bool false) := hd 3 (by kernel_rfl)
                    have dd16 : ((xF 16) = .bool true) := hd 16 (by kernel_rfl)
                    clear hd
                    simp only [List.take_succ_cons, List.take_zero, fillOf, Act.put, List.setIfInBounds_toArray, List.set_cons_zero, List.set_cons_succ, Nat.reduceAdd, Nat.zero_add] at hK ⊢
                    try generalize xF 3 = yy3 at *
                    try generalize xF 16 = yy16 at *
                    obtain rfl := dd3
                    obtain rfl := dd16
                    obtain hbR := id hR
                    rw [if_pos (by rfl)]
                    go_simp
                    exact hK.out _ _ (Below.refl _ _) (rfl) (fun _ _ _ => ⟨trivial, trivial⟩)
                  refine FlowAll.cons ?_ ?_
                  · intro xF wq hR hd K hK
                    have dd17 : ((xF 17) = .bool true) := hd 17 (by kernel_rfl)
                    clear hd
                    simp only [List.take_succ_cons, List.take_zero, fillOf, Act.put, List.setIfInBounds_toArray, List.set_cons_zero, List.set_cons_succ, Nat.reduceAdd, Nat.zero_add] at hK ⊢
                    try generalize xF 17 = yy17 at *
                    obtain rfl := dd17
                    obtain hbR := id hR
                    rw [if_pos (by rfl)]
                    go_simp
                    exact hK.out _ _ (Below.refl _ _) (rfl) (fun _ _ _ => ⟨trivial, trivial⟩)
                  refine FlowAll.cons ?_ ?_
                  · intro xF wq hR hd K hK
                    have dd18 : ((xF 18) = .bool true) := hd 18 (by kernel_rfl)
                    clear hd
                    simp only [List.take_succ_cons, List.take_zero, fillOf, Act.put, List.setIfInBounds_toArray, List.set_cons_zero, List.set_cons_succ, Nat.reduceAdd, Nat.zero_add] at hK ⊢
                    try generalize xF 18 = yy18 at *
                    obtain rfl := dd18
                    obtain hbR := id hR
                    rw [if_neg (by intro h; exact absurd (show false = true from h) Bool.false_ne_true)]
                    try simp only [Act.put, List.setIfInBounds_toArray, List.set_cons_zero, List.set_cons_succ]
                    exact hK.out _ _ (Below.refl _ _) (rfl) (fun _ _ _ => ⟨trivial, trivial⟩)
                  refine FlowAll.cons ?_ ?_
                  · intro xF wq hR hd K hK
                    have dd18 : ((xF 18) = .bool true) := hd 18 (by kernel_rfl)
                    clear hd
                    simp only [List.take_succ_cons, List.take_zero, fillOf, Act.put, List.setIfInBounds_toArray, List.set_cons_zero, List.set_cons_succ, Nat.reduceAdd, Nat.zero_add] at hK ⊢
                    try generalize xF 18 = yy18 at *
                    obtain rfl := dd18
                    obtain hbR := id hR
                    rw [if_neg (by intro h; exact absurd (show false = true from h) Bool.false_ne_true)]
                    try simp only [Act.put, List.setIfInBounds_toArray, List.set_cons_zero, List.set_cons_succ]
                    exact hK.out _ _ (Below.refl _ _) (rfl) (fun _ _ _ => ⟨trivial, trivial⟩)
                  refine FlowAll.cons ?_ ?_
                  · intro xF wq hR hd K hK
                    have dd18 : ((xF 18) = .bool true) := hd 18 (by kernel_rfl)
                    clear hd
                    simp only [List.take_succ_cons, List.take_zero, fillOf, Act.put, List.setIfInBounds_toArray, List.set_cons_zero, List.set_cons_succ, Nat.reduceAdd, Nat.zero_add] at hK ⊢
                    try generalize xF 18 = yy18 at *
                    obtain rfl := dd18
                    obtain hbR := id hR
                    rw [if_neg (by intro h; exact absurd (show false = true from h) Bool.false_ne_true)]
                    try simp only [Act.put, List.setIfInBounds_toArray, List.set_cons_zero, List.set_cons_succ]
                    exact hK.out _ _ (Below.refl _ _) (rfl) (fun _ _ _ => ⟨trivial, trivial⟩)
                  refine FlowAll.cons ?_ ?_
                  · intro xF wq hR hd K hK
                    have dd18 : ((xF 18) = .bool true) := hd 18 (by kernel_rfl)
                    clear hd
                    simp only [List.take_succ_cons, List.take_zero, fillOf, Act.put, List.setIfInBounds_toArray, List.set_cons_zero, List.set_cons_succ, Nat.reduceAdd, Nat.zero_add] at hK ⊢
                    try generalize xF 18 = yy18 at *
                    obtain rfl := dd18
                    obtain hbR := id hR
                    rw [if_neg (by intro h; exact absurd (show false = true from h) Bool.false_ne_true)]
                    try simp only [Act.put, List.setIfInBounds_toArray, List.set_cons_zero, List.set_cons_succ]
                    exact hK.out _ _ (Below.refl _ _) (rfl) (fun _ _ _ => ⟨trivial, trivial⟩)
                  refine FlowAll.cons ?_ ?_
                  · intro xF wq hR hd K hK
                    have dd18 : ((xF 18) = .bool true) := hd 18 (by kernel_rfl)
                    clear hd
                    simp only [List.take_succ_cons, List.take_zero, fillOf, Act.put, List.setIfInBounds_toArray, List.set_cons_zero, List.set_cons_succ, Nat.reduceAdd, Nat.zero_add] at hK ⊢
                    try generalize xF 18 = yy18 at *
                    obtain rfl := dd18
                    obtain hbR := id hR
                    rw [if_neg (by intro h; exact absurd (show false = true from h) Bool.false_ne_true)]
                    try simp only [Act.put, List.setIfInBounds_toArray, List.set_cons_zero, List.set_cons_succ]
                    exact hK.out _ _ (Below.refl _ _) (rfl) (fun _ _ _ => ⟨trivial, trivial⟩)
                  refine FlowAll.cons ?_ ?_
                  · intro xF wq hR hd K hK
                    have dd18 : ((xF 18) = .bool true) := hd 18 (by kernel_rfl)
                    clear hd
                    simp only [List.take_succ_cons, List.take_zero, fillOf, Act.put, List.setIfInBounds_toArray, List.set_cons_zero, List.set_cons_succ, Nat.reduceAdd, Nat.zero_add] at hK ⊢
                    try generalize xF 18 = yy18 at *
                    obtain rfl := dd18
                    obtain hbR := id hR
                    rw [if_neg (by intro h; exact absurd (show false = true from h) Bool.false_ne_true)]
                    try simp only [Act.put, List.setIfInBounds_toArray, List.set_cons_zero, List.set_cons_succ]
                    exact hK.out _ _ (Below.refl _ _) (rfl) (fun _ _ _ => ⟨trivial, trivial⟩)
                  refine FlowAll.cons ?_ ?_
                  · intro xF wq hR hd K hK
                    have dd18 : ((xF 18) = .bool true) := hd 18 (by kernel_rfl)
                    clear hd
                    simp only [List.take_succ_cons, List.take_zero, fillOf, Act.put, List.setIfInBounds_toArray, List.set_cons_zero, List.set_cons_succ, Nat.reduceAdd, Nat.zero_add] at hK ⊢
                    try generalize xF 18 = yy18 at *
                    obtain rfl := dd18
                    obtain hbR := id hR
                    rw [if_neg (by intro h; exact absurd (show false = true from h) Bool.false_ne_true)]
                    try simp only [Act.put, List.setIfInBounds_toArray, List.set_cons_zero, List.set_cons_succ]
                    exact hK.out _ _ (Below.refl _ _) (rfl) (fun _ _ _ => ⟨trivial, trivial⟩)
                  refine FlowAll.cons ?_ ?_
                  · intro xF wq hR hd K hK
                    have dd18 : ((xF 18) = .bool true) := hd 18 (by kernel_rfl)
                    clear hd
                    simp only [List.take_succ_cons, List.take_zero, fillOf, Act.put, List.setIfInBounds_toArray, List.set_cons_zero, List.set_cons_succ, Nat.reduceAdd, Nat.zero_add] at hK ⊢
                    try generalize xF 18 = yy18 at *
                    obtain rfl := dd18
                    obtain hbR := id hR
                    rw [if_neg (by intro h; exact absurd (show false = true from h) Bool.false_ne_true)]
                    try simp only [Act.put, List.setIfInBounds_toArray, List.set_cons_zero, List.set_cons_succ]
                    exact hK.out _ _ (Below.refl _ _) (rfl) (fun _ _ _ => ⟨trivial, trivial⟩)
                  refine FlowAll.cons ?_ ?_
                  · intro xF wq hR hd K hK
                    have dd18 : ((xF 18) = .bool true) := hd 18 (by kernel_rfl)
                    have dd26 : ((xF 26) = undef) := hd 26 (by kernel_rfl)
                    clear hd
                    simp only [List.take_succ_cons, List.take_zero, fillOf, Act.put, List.setIfInBounds_toArray, List.set_cons_zero, List.set_cons_succ, Nat.reduceAdd, Nat.zero_add] at hK ⊢
                    try generalize xF 18 = yy18 at *
                    try generalize xF 26 = yy26 at *
                    obtain rfl := dd18
                    obtain rfl := dd26
                    obtain hbR := id hR
                    rw [if_pos (by rfl)]
                    go_simp
                    exact hK.out _ _ (Below.refl _ _) (rfl) (fun _ _ _ => ⟨trivial, trivial⟩)
                  exact FlowAll.nil
                intro xF wq hR hF hP
                clear hP
                have dd0 : ((xF 0) = .agg #[.int .i64 a, .int .i64 b]) := hF 0 (by omega) (by decide)
                have dd1 : ((xF 1) = .bool true) := hF 1 (by omega) (by decide)
                have dd2 : ((xF 2) = .bool false) := hF 2 (by omega) (by decide)
                have dd3 : ((xF 3) = .bool false) := hF 3 (by omega) (by decide)
                have dd4 : ((xF 4) = .int .i64 (k : Int)) := hF 4 (by omega) (by decide)
                have dd5 : ((xF 5) = .bool true) := hF 5 (by omega) (by decide)
                have dd6 : ((xF 6) = .bool true) := hF 6 (by omega) (by decide)
                have dd7 : ((xF 7) = .pointer (some ⟨w.heap.size, 1, none⟩)) := hF 7 (by omega) (by decide)
                have dd8 : ((xF 8) = .slice (some ⟨b0, off, none⟩) n2 c2) := hF 8 (by omega) (by decide)
                have dd9 : ((xF 9) = .int .i64 (k : Int)) := hF 9 (by omega) (by decide)
                have dd10 : ((xF 10) = .int .i64 (i : Int)) := hF 10 (by omega) (by decide)
                have dd11 : ((xF 11) = .pointer (some ⟨b0, off + i * 2, none⟩)) := hF 11 (by omega) (by decide)
                have dd12 : ((xF 12) = .agg #[.int .i64 a', .int .i64 b']) := hF 12 (by omega) (by decide)
                have dd13 : ((xF 13) = .agg #[.int .i64 a, .int .i64 b]) := hF 13 (by omega) (by decide)
                have dd14 : ((xF 14) = .bool false) := hF 14 (by omega) (by decide)
                have dd15 : ((xF 15) = .bool true) := hF 15 (by omega) (by decide)
                have dd16 : ((xF 16) = .bool true) := hF 16 (by omega) (by decide)
                have dd17 : ((xF 17) = .bool true) := hF 17 (by omega) (by decide)
                have dd18 : ((xF 18) = .bool true) := hF 18 (by omega) (by decide)
                have dd19 : ((xF 19) = undef) := hF 19 (by omega) (by decide)
                have dd20 : ((xF 20) = undef) := hF 20 (by omega) (by decide)
                have dd21 : ((xF 21) = undef) := hF 21 (by omega) (by decide)
                have dd22 : ((xF 22) = undef) := hF 22 (by omega) (by decide)
                have dd23 : ((xF 23) = undef) := hF 23 (by omega) (by decide)
                have dd24 : ((xF 24) = undef) := hF 24 (by omega) (by decide)
                have dd25 : ((xF 25) = undef) := hF 25 (by omega) (by decide)
                have dd26 : ((xF 26) = undef) := hF 26 (by omega) (by decide)
                have dd27 : ((xF 27) = .bool true) := hF 27 (by omega) (by decide)
                clear hF
                simp only [List.take_succ_cons, List.take_zero, List.drop_succ_cons, List.drop_zero, fillOf, Act.put, List.setIfInBounds_toArray, List.set_cons_zero, List.set_cons_succ, Nat.reduceAdd, Nat.zero_add]
                try generalize xF 0 = yy0 at *
                try generalize xF 1 = yy1 at *
                try generalize xF 2 = yy2 at *
                try generalize xF 3 = yy3 at *
                try generalize xF 4 = yy4 at *
                try generalize xF 5 = yy5 at *
                try generalize xF 6 = yy6 at *
                try generalize xF 7 = yy7 at *
                try generalize xF 8 = yy8 at *
                try generalize xF 9 = yy9 at *
                try generalize xF 10 = yy10 at *
                try generalize xF 11 = yy11 at *
                try generalize xF 12 = yy12 at *
                try generalize xF 13 = yy13 at *
                try generalize xF 14 = yy14 at *
                try generalize xF 15 = yy15 at *
                try generalize xF 16 = yy16 at *
                try generalize xF 17 = yy17 at *
                try generalize xF 18 = yy18 at *
                try generalize xF 19 = yy19 at *
                try generalize xF 20 = yy20 at *
                try generalize xF 21 = yy21 at *
                try generalize xF 22 = yy22 at *
                try generalize xF 23 = yy23 at *
                try generalize xF 24 = yy24 at *
                try generalize xF 25 = yy25 at *
                try generalize xF 26 = yy26 at *
                try generalize xF 27 = yy27 at *
                clear xF
                obtain rfl := dd0
                obtain rfl := dd1
                obtain rfl := dd2
                obtain rfl := dd3
                obtain rfl := dd4
                obtain rfl := dd5
                obtain rfl := dd6
                obtain rfl := dd7
                obtain rfl := dd8
                obtain rfl := dd9
                obtain rfl := dd10
                obtain rfl := dd11
                obtain rfl := dd12
                obtain rfl := dd13
                obtain rfl := dd14
                obtain rfl := dd15
                obtain rfl := dd16
                obtain rfl := dd17
                obtain rfl := dd18
                obtain rfl := dd19
                obtain rfl := dd20
                obtain rfl := dd21
                obtain rfl := dd22
                obtain rfl := dd23
                obtain rfl := dd24
                obtain rfl := dd25
                obtain rfl := dd26
                obtain rfl := dd27
                have hRE := Lib.hid hR
                clear hR
                have hb9 := E1.trans (hRE.out.1.mono E1.size)
                clear hRE
                go_wp2
                go_ret
                exact ⟨rfl, hb9⟩
              | true =>
                have HL := HL0
                rw [hls] at HL
                have HLS := Lib.hid hls
                clear HL0 hls
                by_cases hle : b - 1 ≤ kk
                · obtain rfl : R = false := HFK.out (fun ho => by
                    have := ho.2.2
                    rw [← HXE.out] at this
                    simp only at this
                    rw [HKK.out] at this
                    omega)
                  have hd : decide (b - 1 ≤ kk) = true := decide_eq_true hle
                  go_wp2_with fail
                  refine wp_flow 28 (fun _ => 1000) (fun ww => RowKit.Below w1.heap.size w1 ww ∧ ww.cell? ⟨wr.heap.size, 0, none⟩ = some (.int .i64 a) ∧ ww.cell? ⟨wr.heap.size, 1, none⟩ = some (.int .i64 b) ∧ wr.heap.size < ww.heap.size) (fun _ w w' => (fun (w w' : World) => RowKit.Below w.heap.size w w') w w') (fun kF vF wF => match kF with | 0 => (vF = .agg #[.int .i64 a, .int .i64 b]) | 1 => (vF = .bool true) | 2 => (vF = .bool false) | 3 => (vF = .bool false) | 4 => (vF = .int .i64 (k : Int)) | 5 => (vF = .bool true) | 6 => (vF = .bool true) | 7 => (vF = .pointer (some ⟨w.heap.size, 1, none⟩)) | 8 => (vF = .slice (some ⟨b0, off, none⟩) n2 c2) | 9 => (vF = .int .i64 (k : Int)) | 10 => (vF = .int .i64 (i : Int)) | 11 => (vF = .pointer (some ⟨b0, off + i * 2, none⟩)) | 12 => (vF = .agg #[.int .i64 a', .int .i64 b']) | 13 => (vF = .agg #[.int .i64 a, .int .i64 b]) | 14 => (vF = .bool true) | 15 => (vF = .bool false) | 16 => (vF = .bool false) | 17 => (vF = .bool false) | 18 => (vF = .bool false) | 19 => (vF = .pointer (some ⟨wr.heap.size, 1, none⟩)) | 20 => (vF = .int .i64 b) | 21 => (vF = .int .i64 (b - 1)) | 22 => (vF = .agg #[.slice a1 n1 c1, .slice (some ⟨b0, off, none⟩) n2 c2]) | 23 => (vF = .pointer (some ⟨wr.heap.size, 0, none⟩)) | 24 => (vF = .int .i64 a) | 25 => (vF = .int .i64 kk) | 26 => (vF = .bool true) | 27 => (vF = .bool true) | _ => True) (fun _ _ _ _ => True) (by kernel_rfl) (by kernel_rfl) ?_ ?_ ?_ ?_ ?_
                  · exact ⟨D1.drew, HB.out.1, HB.out.2.1, HB.out.2.2⟩
                  · intro iF wF1 wF2 hR hT; exact ⟨hR.1.trans (hT.mono hR.1.size), (hT.cell (p := ⟨wr.heap.size, 0, none⟩) hR.2.2.2).trans hR.2.1, (hT.cell (p := ⟨wr.heap.size, 1, none⟩) hR.2.2.2).trans hR.2.2.1, Nat.lt_of_lt_of_le hR.2.2.2 hT.size⟩
                  · intro kF hkF iF hiF hne hdd hanc hdan vF wF1 wF2 h hT
                    rcases (by omega : kF = 0 ∨ kF = 1 ∨ kF = 2 ∨ kF = 3 ∨ kF = 4 ∨ kF = 5 ∨ kF = 6 ∨ kF = 7 ∨ kF = 8 ∨ kF = 9 ∨ kF = 10 ∨ kF = 11 ∨ kF = 12 ∨ kF = 13 ∨ kF = 14 ∨ kF = 15 ∨ kF = 16 ∨ kF = 17 ∨ kF = 18 ∨ kF = 19 ∨ kF = 20 ∨ kF = 21 ∨ kF = 22 ∨ kF = 23 ∨ kF = 24 ∨ kF = 25 ∨ kF = 26 ∨ kF = 27) with rfl | rfl | rfl | rfl | rfl | rfl | rfl | rfl | rfl | rfl | rfl | rfl | rfl | rfl | rfl | rfl | rfl | rfl | rfl | rfl | rfl | rfl | rfl | rfl | rfl | rfl | rfl | rfl
                    · exact h
                    · exact h
                    · exact h
                    · exact h
                    · exact h
                    · exact h
                    · exact h
                    · exact h
                    · exact h
                    · exact h
                    · exact h
                    · exact h
                    · exact h
                    · exact h
                    · exact h
                    · exact h
                    · exact h
                    · exact h
                    · exact h
                    · exact h
                    · exact h
                    · exact h
                    · exact h
                    · exact h
                    · exact h
                    · exact h
                    · exact h
                    · exact h
                  · refine FlowAll.cons ?_ ?_
                    · intro xF wq hR hd K hK
                      clear hd
                      simp only [List.take_succ_cons, List.take_zero, fillOf, Act.put, List.setIfInBounds_toArray, List.set_cons_zero, List.set_cons_succ, Nat.reduceAdd, Nat.zero_add] at hK ⊢
                      obtain hbR := id hR
                      obtain ⟨_, z0, z1, _⟩ := id hR
                      rw [if_pos (by rfl)]
                      go_simp
                      exact hK.out _ _ (Below.refl _ _) (rfl) (fun _ _ _ => ⟨trivial, trivial⟩)
                    refine FlowAll.cons ?_ ?_
                    · intro xF wq hR hd K hK
                      have dd0 : ((xF 0) = .agg #[.int .i64 a, .int .i64 b]) := hd 0 (by kernel_rfl)
                      clear hd
                      simp only [List.take_succ_cons, List.take_zero, fillOf, Act.put, List.setIfInBounds_toArray, List.set_cons_zero, List.set_cons_succ, Nat.reduceAdd, Nat.zero_add] at hK ⊢
                      try generalize xF 0 = yy0 at *
                      obtain rfl := dd0
                      obtain hbR := id hR
                      rw [if_pos (by rfl)]
                      go_simp
                      (go_at_call 13; (with_reducible refine (HV.out _).mono ?_); rintro e wK ⟨rfl, hbK⟩)
                      try go_wp2_with fail
                      exact hK.out _ _ (hbK) (rfl) (fun _ _ _ => ⟨trivial, trivial⟩)
                    refine FlowAll.cons ?_ ?_
                    · intro xF wq hR hd K hK
                      have dd1 : ((xF 1) = .bool true) := hd 1 (by kernel_rfl)
                      clear hd
                      simp only [List.take_succ_cons, List.take_zero, fillOf, Act.put, List.setIfInBounds_toArray, List.set_cons_zero, List.set_cons_succ, Nat.reduceAdd, Nat.zero_add] at hK ⊢
                      try generalize xF 1 = yy1 at *
                      obtain rfl := dd1
                      obtain hbR := id hR
                      rw [if_pos (by rfl)]
                      go_simp
                      exact hK.out _ _ (Below.refl _ _) (rfl) (fun _ _ _ => ⟨trivial, trivial⟩)
                    refine FlowAll.cons ?_ ?_
                    · intro xF wq hR hd K hK
                      have dd2 : ((xF 2) = .bool false) := hd 2 (by kernel_rfl)
                      clear hd
                      simp only [List.take_succ_cons, List.take_zero, fillOf, Act.put, List.setIfInBounds_toArray, List.set_cons_zero, List.set_cons_succ, Nat.reduceAdd, Nat.zero_add] at hK ⊢
                      try generalize xF 2 = yy2 at *
                      obtain rfl := dd2
                      obtain hbR := id hR
                      rw [if_pos (by rfl)]
                      go_simp
                      exact hK.out _ _ (Below.refl _ _) (rfl) (fun _ _ _ => ⟨trivial, trivial⟩)
                    refine FlowAll.cons ?_ ?_
                    · intro xF wq hR hd K hK
                      have dd3 : ((xF 3) = .bool false) := hd 3 (by kernel_rfl)
                      clear hd
                      simp only [List.take_succ_cons, List.take_zero, fillOf, Act.put, List.setIfInBounds_toArray, List.set_cons_zero, List.set_cons_succ, Nat.reduceAdd, Nat.zero_add] at hK ⊢
                      try generalize xF 3 = yy3 at *
                      obtain rfl := dd3
                      obtain hbR := id hR
                      rw [if_pos (by rfl)]
                      go_simp
                      exact hK.out _ _ (Below.refl _ _) (rfl) (fun _ _ _ => ⟨trivial, trivial⟩)
                    refine FlowAll.cons ?_ ?_
                    · intro xF wq hR hd K hK
                      have dd3 : ((xF 3) = .bool false) := hd 3 (by kernel_rfl)
                      have dd4 : ((xF 4) = .int .i64 (k : Int)) := hd 4 (by kernel_rfl)
                      clear hd
                      simp only [List.take_succ_cons, List.take_zero, fillOf, Act.put, List.setIfInBounds_toArray, List.set_cons_zero, List.set_cons_succ, Nat.reduceAdd, Nat.zero_add] at hK ⊢
                      try generalize xF 3 = yy3 at *
                      try generalize xF 4 = yy4 at *
                      obtain rfl := dd3
                      obtain rfl := dd4
                      obtain hbR := id hR
                      rw [if_pos (by rfl)]
                      go_simp
                      exact hK.out _ _ (Below.refl _ _) (rfl) (fun _ _ _ => ⟨trivial, trivial⟩)
                    refine FlowAll.cons ?_ ?_
                    · intro xF wq hR hd K hK
                      have dd3 : ((xF 3) = .bool false) := hd 3 (by kernel_rfl)
                      have dd5 : ((xF 5) = .bool true) := hd 5 (by kernel_rfl)
                      clear hd
                      simp only [List.take_succ_cons, List.take_zero, fillOf, Act.put, List.setIfInBounds_toArray, List.set_cons_zero, List.set_cons_succ, Nat.reduceAdd, Nat.zero_add] at hK ⊢
                      try generalize xF 3 = yy3 at *
                      try generalize xF 5 = yy5 at *
                      obtain rfl := dd3
                      obtain rfl := dd5
                      obtain hbR := id hR
                      rw [if_pos (by rfl)]
                      go_simp
                      exact hK.out _ _ (Below.refl _ _) (rfl) (fun _ _ _ => ⟨trivial, trivial⟩)
                    refine FlowAll.cons ?_ ?_
                    · intro xF wq hR hd K hK
                      have dd6 : ((xF 6) = .bool true) := hd 6 (by kernel_rfl)
                      clear hd
                      simp only [List.take_succ_cons, List.take_zero, fillOf, Act.put, List.setIfInBounds_toArray, List.set_cons_zero, List.set_cons_succ, Nat.reduceAdd, Nat.zero_add] at hK ⊢
                      try generalize xF 6 = yy6 at *
                      obtain rfl := dd6
                      obtain hbR := id hR
                      rw [if_pos (by rfl)]
                      go_simp
                      exact hK.out _ _ (Below.refl _ _) (rfl) (fun _ _ _ => ⟨trivial, trivial⟩)
                    refine FlowAll.cons ?_ ?_
                    · intro xF wq hR hd K hK
                      have dd6 : ((xF 6) = .bool true) := hd 6 (by kernel_rfl)
                      have dd7 : ((xF 7) = .pointer (some ⟨w.heap.size, 1, none⟩)) := hd 7 (by kernel_rfl)
                      clear hd
                      simp only [List.take_succ_cons, List.take_zero, fillOf, Act.put, List.setIfInBounds_toArray, List.set_cons_zero, List.set_cons_succ, Nat.reduceAdd, Nat.zero_add] at hK ⊢
                      try generalize xF 6 = yy6 at *
                      try generalize xF 7 = yy7 at *
                      obtain rfl := dd6
                      obtain rfl := dd7
                      obtain hbR := id hR
                      obtain ⟨x0, x1⟩ := HX.out _ hR.1
                      rw [if_pos (by rfl)]
                      go_simp
                      exact hK.out _ _ (Below.refl _ _) (rfl) (fun _ _ _ => ⟨trivial, trivial⟩)
                    refine FlowAll.cons ?_ ?_
                    · intro xF wq hR hd K hK
                      have dd6 : ((xF 6) = .bool true) := hd 6 (by kernel_rfl)
                      clear hd
                      simp only [List.take_succ_cons, List.take_zero, fillOf, Act.put, List.setIfInBounds_toArray, List.set_cons_zero, List.set_cons_succ, Nat.reduceAdd, Nat.zero_add] at hK ⊢
                      try generalize xF 6 = yy6 at *
                      obtain rfl := dd6
                      obtain hbR := id hR
                      rw [if_pos (by rfl)]
                      go_simp
                      exact hK.out _ _ (Below.refl _ _) (rfl) (fun _ _ _ => ⟨trivial, trivial⟩)
                    refine FlowAll.cons ?_ ?_
                    · intro xF wq hR hd K hK
                      have dd6 : ((xF 6) = .bool true) := hd 6 (by kernel_rfl)
                      have dd9 : ((xF 9) = .int .i64 (k : Int)) := hd 9 (by kernel_rfl)
                      clear hd
                      simp only [List.take_succ_cons, List.take_zero, fillOf, Act.put, List.setIfInBounds_toArray, List.set_cons_zero, List.set_cons_succ, Nat.reduceAdd, Nat.zero_add] at hK ⊢
                      try generalize xF 6 = yy6 at *
                      try generalize xF 9 = yy9 at *
                      obtain rfl := dd6
                      obtain rfl := dd9
                      obtain hbR := id hR
                      rw [if_pos (by rfl)]
                      go_simp
                      exact hK.out _ _ (Below.refl _ _) (rfl) (fun _ _ _ => ⟨trivial, trivial⟩)
                    refine FlowAll.cons ?_ ?_
                    · intro xF wq hR hd K hK
                      have dd6 : ((xF 6) = .bool true) := hd 6 (by kernel_rfl)
                      have dd8 : ((xF 8) = .slice (some ⟨b0, off, none⟩) n2 c2) := hd 8 (by kernel_rfl)
                      have dd10 : ((xF 10) = .int .i64 (i : Int)) := hd 10 (by kernel_rfl)
                      clear hd
                      simp only [List.take_succ_cons, List.take_zero, fillOf, Act.put, List.setIfInBounds_toArray, List.set_cons_zero, List.set_cons_succ, Nat.reduceAdd, Nat.zero_add] at hK ⊢
                      try generalize xF 6 = yy6 at *
                      try generalize xF 8 = yy8 at *
                      try generalize xF 10 = yy10 at *
                      obtain rfl := dd6
                      obtain rfl := dd8
                      obtain rfl := dd10
                      obtain hbR := id hR
                      rw [if_pos (by rfl)]
                      go_simp
                      exact hK.out _ _ (Below.refl _ _) (rfl) (fun _ _ _ => ⟨trivial, trivial⟩)
                    refine FlowAll.cons ?_ ?_
                    · intro xF wq hR hd K hK
                      have dd6 : ((xF 6) = .bool true) := hd 6 (by kernel_rfl)
                      have dd11 : ((xF 11) = .pointer (some ⟨b0, off + i * 2, none⟩)) := hd 11 (by kernel_rfl)
                      clear hd
                      simp only [List.take_succ_cons, List.take_zero, fillOf, Act.put, List.setIfInBounds_toArray, List.set_cons_zero, List.set_cons_succ, Nat.reduceAdd, Nat.zero_add] at hK ⊢
                      try generalize xF 6 = yy6 at *
                      try generalize xF 11 = yy11 at *
                      obtain rfl := dd6
                      obtain rfl := dd11
                      obtain hbR := id hR
                      obtain ⟨e2, e3⟩ := HPR.out _ hR.1
                      rw [if_pos (by rfl)]
                      go_simp
                      exact hK.out _ _ (Below.refl _ _) (rfl) (fun _ _ _ => ⟨trivial, trivial⟩)
                    refine FlowAll.cons ?_ ?_
                    · intro xF wq hR hd K hK
                      have dd6 : ((xF 6) = .bool true) := hd 6 (by kernel_rfl)
                      clear hd
                      simp only [List.take_succ_cons, List.take_zero, fillOf, Act.put, List.setIfInBounds_toArray, List.set_cons_zero, List.set_cons_succ, Nat.reduceAdd, Nat.zero_add] at hK ⊢
                      try generalize xF 6 = yy6 at *
                      obtain rfl := dd6
                      obtain hbR := id hR
                      obtain ⟨_, z0, z1, _⟩ := id hR
                      rw [if_pos (by rfl)]
                      go_simp
                      exact hK.out _ _ (Below.refl _ _) (rfl) (fun _ _ _ => ⟨trivial, trivial⟩)
                    refine FlowAll.cons ?_ ?_
                    · intro xF wq hR hd K hK
                      have dd6 : ((xF 6) = .bool true) := hd 6 (by kernel_rfl)
                      have dd12 : ((xF 12) = .agg #[.int .i64 a', .int .i64 b']) := hd 12 (by kernel_rfl)
                      have dd13 : ((xF 13) = .agg #[.int .i64 a, .int .i64 b]) := hd 13 (by kernel_rfl)
                      clear hd
                      simp only [List.take_succ_cons, List.take_zero, fillOf, Act.put, List.setIfInBounds_toArray, List.set_cons_zero, List.set_cons_succ, Nat.reduceAdd, Nat.zero_add] at hK ⊢
                      try generalize xF 6 = yy6 at *
                      try generalize xF 12 = yy12 at *
                      try generalize xF 13 = yy13 at *
                      obtain rfl := dd6
                      obtain rfl := dd12
                      obtain rfl := dd13
                      obtain hbR := id hR
                      rw [if_pos (by rfl)]
                      go_simp
                      (go_at_call 15; (with_reducible refine (HL.out _).mono ?_); rintro e wK ⟨rfl, hbK⟩)
                      try go_wp2_with fail
                      exact hK.out _ _ (hbK) (rfl) (fun _ _ _ => ⟨trivial, trivial⟩)
                    refine FlowAll.cons ?_ ?_
                    · intro xF wq hR hd K hK
                      have dd6 : ((xF 6) = .bool true) := hd 6 (by kernel_rfl)
                      have dd14 : ((xF 14) = .bool true) := hd 14 (by kernel_rfl)
                      clear hd
                      simp only [List.take_succ_cons, List.take_zero, fillOf, Act.put, List.setIfInBounds_toArray, List.set_cons_zero, List.set_cons_succ, Nat.reduceAdd, Nat.zero_add] at hK ⊢
                      try generalize xF 6 = yy6 at *
                      try generalize xF 14 = yy14 at *
                      obtain rfl := dd6
                      obtain rfl := dd14
                      obtain hbR := id hR
                      rw [if_pos (by rfl)]
                      go_simp
                      exact hK.out _ _ (Below.refl _ _) (rfl) (fun _ _ _ => ⟨trivial, trivial⟩)
                    refine FlowAll.cons ?_ ?_
                    · intro xF wq hR hd K hK
                      have dd3 : ((xF 3) = .bool false) := hd 3 (by kernel_rfl)
                      have dd6 : ((xF 6) = .bool true) := hd 6 (by kernel_rfl)
                      have dd15 : ((xF 15) = .bool false) := hd 15 (by kernel_rfl)
                      clear hd
                      simp only [List.take_succ_cons, List.take_zero, fillOf, Act.put, List.setIfInBounds_toArray, List.set_cons_zero, List.set_cons_succ, Nat.reduceAdd, Nat.zero_add] at hK ⊢
                      try generalize xF 3 = yy3 at *
                      try generalize xF 6 = yy6 at *
                      try generalize xF 15 = yy15 at *
                      obtain rfl := dd3
                      obtain rfl := dd6
                      obtain rfl := dd15
                      obtain hbR := id hR
                      rw [if_pos (by rfl)]
                      go_simp
                      exact hK.out _ _ (Below.refl _ _) (rfl) (fun _ _ _ => ⟨trivial, trivial⟩)
                    refine FlowAll.cons ?_ ?_
                    · intro xF wq hR hd K hK
                      have dd3 : ((xF 3) = .bool false) := hd 3 (by kernel_rfl)
                      have dd16 : ((xF 16) = .bool false) := hd 16 (by kernel_rfl)
                      clear hd
                      simp only [List.take_succ_cons, List.take_zero, fillOf, Act.put, List.setIfInBounds_toArray, List.set_cons_zero, List.set_cons_succ, Nat.reduceAdd, Nat.zero_add] at hK ⊢
                      try generalize xF 3 = yy3 at *
                      try generalize xF 16 = yy16 at *
                      obtain rfl := dd3
                      obtain rfl := dd16
                      obtain hbR := id hR
                      rw [if_pos (by rfl)]
                      go_simp
                      exact hK.out _ _ (Below.refl _ _) (rfl) (fun _ _ _ => ⟨trivial, trivial⟩)
                    refine FlowAll.cons ?_ ?_
                    · intro xF wq hR hd K hK
                      have dd17 : ((xF 17) = .bool false) := hd 17 (by kernel_rfl)
                      clear hd
                      simp only [List.take_succ_cons, List.take_zero, fillOf, Act.put, List.setIfInBounds_toArray, List.set_cons_zero, List.set_cons_succ, Nat.reduceAdd, Nat.zero_add] at hK ⊢
                      try generalize xF 17 = yy17 at *
                      obtain rfl := dd17
                      obtain hbR := id hR
                      rw [if_pos (by rfl)]
                      go_simp
                      exact hK.out _ _ (Below.refl _ _) (rfl) (fun _ _ _ => ⟨trivial, trivial⟩)
                    refine FlowAll.cons ?_ ?_
                    · intro xF wq hR hd K hK
                      have dd18 : ((xF 18) = .bool false) := hd 18 (by kernel_rfl)
                      clear hd
                      simp only [List.take_succ_cons, List.take_zero, fillOf, Act.put, List.setIfInBounds_toArray, List.set_cons_zero, List.set_cons_succ, Nat.reduceAdd, Nat.zero_add] at hK ⊢
                      try generalize xF 18 = yy18 at *
                      obtain rfl := dd18
                      obtain hbR := id hR
                      rw [if_pos (by rfl)]
                      go_simp
                      exact hK.out _ _ (Below.refl _ _) (rfl) (fun _ _ _ => ⟨trivial, trivial⟩)
                    refine FlowAll.cons ?_ ?_
                    · intro xF wq hR hd K hK
                      have dd18 : ((xF 18) = .bool false) := hd 18 (by kernel_rfl)
                      have dd19 : ((xF 19) = .pointer (some ⟨wr.heap.size, 1, none⟩)) := hd 19 (by kernel_rfl)
                      clear hd
                      simp only [List.take_succ_cons, List.take_zero, fillOf, Act.put, List.setIfInBounds_toArray, List.set_cons_zero, List.set_cons_succ, Nat.reduceAdd, Nat.zero_add] at hK ⊢
                      try generalize xF 18 = yy18 at *
                      try generalize xF 19 = yy19 at *
                      obtain rfl := dd18
                      obtain rfl := dd19
                      obtain hbR := id hR
                      obtain ⟨_, z0, z1, _⟩ := id hR
                      rw [if_pos (by rfl)]
                      go_simp
                      exact hK.out _ _ (Below.refl _ _) (rfl) (fun _ _ _ => ⟨trivial, trivial⟩)
                    refine FlowAll.cons ?_ ?_
                    · intro xF wq hR hd K hK
                      have dd18 : ((xF 18) = .bool false) := hd 18 (by kernel_rfl)
                      have dd20 : ((xF 20) = .int .i64 b) := hd 20 (by kernel_rfl)
                      clear hd
                      simp only [List.take_succ_cons, List.take_zero, fillOf, Act.put, List.setIfInBounds_toArray, List.set_cons_zero, List.set_cons_succ, Nat.reduceAdd, Nat.zero_add] at hK ⊢
                      try generalize xF 18 = yy18 at *
                      try generalize xF 20 = yy20 at *
                      obtain rfl := dd18
                      obtain rfl := dd20
                      obtain hbR := id hR
                      rw [if_pos (by rfl)]
                      go_simp
                      exact hK.out _ _ (Below.refl _ _) (rfl) (fun _ _ _ => ⟨trivial, trivial⟩)
                    refine FlowAll.cons ?_ ?_
                    · intro xF wq hR hd K hK
                      have dd18 : ((xF 18) = .bool false) := hd 18 (by kernel_rfl)
                      clear hd
                      simp only [List.take_succ_cons, List.take_zero, fillOf, Act.put, List.setIfInBounds_toArray, List.set_cons_zero, List.set_cons_succ, Nat.reduceAdd, Nat.zero_add] at hK ⊢
                      try generalize xF 18 = yy18 at *
                      obtain rfl := dd18
                      obtain hbR := id hR
                      obtain ⟨x0, x1⟩ := HX.out _ hR.1
                      rw [if_pos (by rfl)]
                      go_simp
                      exact hK.out _ _ (Below.refl _ _) (rfl) (fun _ _ _ => ⟨trivial, trivial⟩)
                    refine FlowAll.cons ?_ ?_
                    · intro xF wq hR hd K hK
                      have dd18 : ((xF 18) = .bool false) := hd 18 (by kernel_rfl)
                      clear hd
                      simp only [List.take_succ_cons, List.take_zero, fillOf, Act.put, List.setIfInBounds_toArray, List.set_cons_zero, List.set_cons_succ, Nat.reduceAdd, Nat.zero_add] at hK ⊢
                      try generalize xF 18 = yy18 at *
                      obtain rfl := dd18
                      obtain hbR := id hR
                      rw [if_pos (by rfl)]
                      go_simp
                      exact hK.out _ _ (Below.refl _ _) (rfl) (fun _ _ _ => ⟨trivial, trivial⟩)
                    refine FlowAll.cons ?_ ?_
                    · intro xF wq hR hd K hK
                      have dd18 : ((xF 18) = .bool false) := hd 18 (by kernel_rfl)
                      have dd23 : ((xF 23) = .pointer (some ⟨wr.heap.size, 0, none⟩)) := hd 23 (by kernel_rfl)
                      clear hd
                      simp only [List.take_succ_cons, List.take_zero, fillOf, Act.put, List.setIfInBounds_toArray, List.set_cons_zero, List.set_cons_succ, Nat.reduceAdd, Nat.zero_add] at hK ⊢
                      try generalize xF 18 = yy18 at *
                      try generalize xF 23 = yy23 at *
                      obtain rfl := dd18
                      obtain rfl := dd23
                      obtain hbR := id hR
                      obtain ⟨_, z0, z1, _⟩ := id hR
                      rw [if_pos (by rfl)]
                      go_simp
                      exact hK.out _ _ (Below.refl _ _) (rfl) (fun _ _ _ => ⟨trivial, trivial⟩)
                    refine FlowAll.cons ?_ ?_
                    · intro xF wq hR hd K hK
                      have dd18 : ((xF 18) = .bool false) := hd 18 (by kernel_rfl)
                      have dd22 : ((xF 22) = .agg #[.slice a1 n1 c1, .slice (some ⟨b0, off, none⟩) n2 c2]) := hd 22 (by kernel_rfl)
                      have dd24 : ((xF 24) = .int .i64 a) := hd 24 (by kernel_rfl)
                      clear hd
                      simp only [List.take_succ_cons, List.take_zero, fillOf, Act.put, List.setIfInBounds_toArray, List.set_cons_zero, List.set_cons_succ, Nat.reduceAdd, Nat.zero_add] at hK ⊢
                      try generalize xF 18 = yy18 at *
                      try generalize xF 22 = yy22 at *
                      try generalize xF 24 = yy24 at *
                      obtain rfl := dd18
                      obtain rfl := dd22
                      obtain rfl := dd24
                      obtain hbR := id hR
                      rw [if_pos (by rfl)]
                      go_simp
                      (go_at_call 33; (with_reducible refine (HU.out _ hR.1).mono ?_); rintro e wK ⟨rfl, hbK⟩)
                      try go_wp2_with fail
                      exact hK.out _ _ (hbK) (rfl) (fun _ _ _ => ⟨trivial, trivial⟩)
                    refine FlowAll.cons ?_ ?_
                    · intro xF wq hR hd K hK
                      have dd18 : ((xF 18) = .bool false) := hd 18 (by kernel_rfl)
                      have dd21 : ((xF 21) = .int .i64 (b - 1)) := hd 21 (by kernel_rfl)
                      have dd25 : ((xF 25) = .int .i64 kk) := hd 25 (by kernel_rfl)
                      clear hd
                      simp only [List.take_succ_cons, List.take_zero, fillOf, Act.put, List.setIfInBounds_toArray, List.set_cons_zero, List.set_cons_succ, Nat.reduceAdd, Nat.zero_add] at hK ⊢
                      try generalize xF 18 = yy18 at *
                      try generalize xF 21 = yy21 at *
                      try generalize xF 25 = yy25 at *
                      obtain rfl := dd18
                      obtain rfl := dd21
                      obtain rfl := dd25
                      obtain hbR := id hR
                      rw [if_pos (by rfl)]
                      go_simp
                      exact hK.out _ _ (Below.refl _ _) (rfl) (fun _ _ _ => ⟨trivial, trivial⟩)
                    refine FlowAll.cons ?_ ?_
                    · intro xF wq hR hd K hK
                      have dd18 : ((xF 18) = .bool false) := hd 18 (by kernel_rfl)
                      have dd26 : ((xF 26) = .bool true) := hd 26 (by kernel_rfl)
                      clear hd
                      simp only [List.take_succ_cons, List.take_zero, fillOf, Act.put, List.setIfInBounds_toArray, List.set_cons_zero, List.set_cons_succ, Nat.reduceAdd, Nat.zero_add] at hK ⊢
                      try generalize xF 18 = yy18 at *
                      try generalize xF 26 = yy26 at *
                      obtain rfl := dd18
                      obtain rfl := dd26
                      obtain hbR := id hR
                      rw [if_pos (by rfl)]
                      go_simp
                      exact hK.out _ _ (Below.refl _ _) (rfl) (fun _ _ _ => ⟨trivial, trivial⟩)
                    exact FlowAll.nil
                  intro xF wq hR hF hP
                  clear hP
                  have dd0 : ((xF 0) = .agg #[.int .i64 a, .int .i64 b]) := hF 0 (by omega) (by decide)
                  have dd1 : ((xF 1) = .bool true) := hF 1 (by omega) (by decide)
                  have dd2 : ((xF 2) = .bool false) := hF 2 (by omega) (by decide)
                  have dd3 : ((xF 3) = .bool false) := hF 3 (by omega) (by decide)
                  have dd4 : ((xF 4) = .int .i64 (k : Int)) := hF 4 (by omega) (by decide)
                  have dd5 : ((xF 5) = .bool true) := hF 5 (by omega) (by decide)
                  have dd6 : ((xF 6) = .bool true) := hF 6 (by omega) (by decide)
                  have dd7 : ((xF 7) = .pointer (some ⟨w.heap.size, 1, none⟩)) := hF 7 (by omega) (by decide)
                  have dd8 : ((xF 8) = .slice (some ⟨b0, off, none⟩) n2 c2) := hF 8 (by omega) (by decide)
                  have dd9 : ((xF 9) = .int .i64 (k : Int)) := hF 9 (by omega) (by decide)
                  have dd10 : ((xF 10) = .int .i64 (i : Int)) := hF 10 (by omega) (by decide)
                  have dd11 : ((xF 11) = .pointer (some ⟨b0, off + i * 2, none⟩)) := hF 11 (by omega) (by decide)
                  have dd12 : ((xF 12) = .agg #[.int .i64 a', .int .i64 b']) := hF 12 (by omega) (by decide)
                  have dd13 : ((xF 13) = .agg #[.int .i64 a, .int .i64 b]) := hF 13 (by omega) (by decide)
                  have dd14 : ((xF 14) = .bool true) := hF 14 (by omega) (by decide)
                  have dd15 : ((xF 15) = .bool false) := hF 15 (by omega) (by decide)
                  have dd16 : ((xF 16) = .bool false) := hF 16 (by omega) (by decide)
                  have dd17 : ((xF 17) = .bool false) := hF 17 (by omega) (by decide)
                  have dd18 : ((xF 18) = .bool false) := hF 18 (by omega) (by decide)
                  have dd19 : ((xF 19) = .pointer (some ⟨wr.heap.size, 1, none⟩)) := hF 19 (by omega) (by decide)
                  have dd20 : ((xF 20) = .int .i64 b) := hF 20 (by omega) (by decide)
                  have dd21 : ((xF 21) = .int .i64 (b - 1)) := hF 21 (by omega) (by decide)
                  have dd22 : ((xF 22) = .agg #[.slice a1 n1 c1, .slice (some ⟨b0, off, none⟩) n2 c2]) := hF 22 (by omega) (by decide)
                  have dd23 : ((xF 23) = .pointer (some ⟨wr.heap.size, 0, none⟩)) := hF 23 (by omega) (by decide)
                  have dd24 : ((xF 24) = .int .i64 a) := hF 24 (by omega) (by decide)
                  have dd25 : ((xF 25) = .int .i64 kk) := hF 25 (by omega) (by decide)
                  have dd26 : ((xF 26) = .bool true) := hF 26 (by omega) (by decide)
                  have dd27 : ((xF 27) = .bool true) := hF 27 (by omega) (by decide)
                  clear hF
                  simp only [List.take_succ_cons, List.take_zero, List.drop_succ_cons, List.drop_zero, fillOf, Act.put, List.setIfInBounds_toArray, List.set_cons_zero, List.set_cons_succ, Nat.reduceAdd, Nat.zero_add]
                  try generalize xF 0 = yy0 at *
                  try generalize xF 1 = yy1 at *
                  try generalize xF 2 = yy2 at *
                  try generalize xF 3 = yy3 at *
                  try generalize xF 4 = yy4 at *
                  try generalize xF 5 = yy5 at *
                  try generalize xF 6 = yy6 at *
                  try generalize xF 7 = yy7 at *
                  try generalize xF 8 = yy8 at *
                  try generalize xF 9 = yy9 at *
                  try generalize xF 10 = yy10 at *
                  try generalize xF 11 = yy11 at *
                  try generalize xF 12 = yy12 at *
                  try generalize xF 13 = yy13 at *
                  try generalize xF 14 = yy14 at *
                  try generalize xF 15 = yy15 at *
                  try generalize xF 16 = yy16 at *
                  try generalize xF 17 = yy17 at *
                  try generalize xF 18 = yy18 at *
                  try generalize xF 19 = yy19 at *
                  try generalize xF 20 = yy20 at *
                  try generalize xF 21 = yy21 at *
                  try generalize xF 22 = yy22 at *
                  try generalize xF 23 = yy23 at *
                  try generalize xF 24 = yy24 at *
                  try generalize xF 25 = yy25 at *
                  try generalize xF 26 = yy26 at *
                  try generalize xF 27 = yy27 at *
                  clear xF
                  obtain rfl := dd0
                  obtain rfl := dd1
                  obtain rfl := dd2
                  obtain rfl := dd3
                  obtain rfl := dd4
                  obtain rfl := dd5
                  obtain rfl := dd6
                  obtain rfl := dd7
                  obtain rfl := dd8
                  obtain rfl := dd9
                  obtain rfl := dd10
                  obtain rfl := dd11
                  obtain rfl := dd12
                  obtain rfl := dd13
                  obtain rfl := dd14
                  obtain rfl := dd15
                  obtain rfl := dd16
                  obtain rfl := dd17
                  obtain rfl := dd18
                  obtain rfl := dd19
                  obtain rfl := dd20
                  obtain rfl := dd21
                  obtain rfl := dd22
                  obtain rfl := dd23
                  obtain rfl := dd24
                  obtain rfl := dd25
                  obtain rfl := dd26
                  obtain rfl := dd27
                  have hRE := Lib.hid hR
                  clear hR
                  have hb9 := E1.trans (hRE.out.1.mono E1.size)
                  clear hRE
                  go_wp2
                  go_ret
                  exact ⟨rfl, hb9⟩
                · have HOK : Hid (∀ j, j < k + 1 → dm.Ok2 (dm.upK c.1) c.2 j) := fun j hj => by
                    by_cases e : j = k
                    · subst e
                      refine ⟨by rw [← HXE.out]; exact HVT.out, fun _ => ?_, ?_⟩
                      · rw [HKI.out, Nat.add_sub_cancel, ← HKI.out, ← HAE.out, ← HXE.out]; exact HLS.out
                      · rw [← HXE.out]; simp only; rw [HKK.out]; omega
                    · exact HO2.out j (by omega)
                  have hd : decide (b - 1 ≤ kk) = false := decide_eq_false hle
                  go_wp2_with fail
                  refine wp_flow 28 (fun _ => 1000) (fun ww => RowKit.Below w1.heap.size w1 ww ∧ ww.cell? ⟨wr.heap.size, 0, none⟩ = some (.int .i64 a) ∧ ww.cell? ⟨wr.heap.size, 1, none⟩ = some (.int .i64 b) ∧ wr.heap.size < ww.heap.size) (fun _ w w' => (fun (w w' : World) => RowKit.Below w.heap.size w w') w w') (fun kF vF wF => match kF with | 0 => (vF = .agg #[.int .i64 a, .int .i64 b]) | 1 => (vF = .bool true) | 2 => (vF = .bool false) | 3 => (vF = .bool false) | 4 => (vF = .int .i64 (k : Int)) | 5 => (vF = .bool true) | 6 => (vF = .bool true) | 7 => (vF = .pointer (some ⟨w.heap.size, 1, none⟩)) | 8 => (vF = .slice (some ⟨b0, off, none⟩) n2 c2) | 9 => (vF = .int .i64 (k : Int)) | 10 => (vF = .int .i64 (i : Int)) | 11 => (vF = .pointer (some ⟨b0, off + i * 2, none⟩)) | 12 => (vF = .agg #[.int .i64 a', .int .i64 b']) | 13 => (vF = .agg #[.int .i64 a, .int .i64 b]) | 14 => (vF = .bool true) | 15 => (vF = .bool false) | 16 => (vF = .bool false) | 17 => (vF = .bool false) | 18 => (vF = .bool false) | 19 => (vF = .pointer (some ⟨wr.heap.size, 1, none⟩)) | 20 => (vF = .int .i64 b) | 21 => (vF = .int .i64 (b - 1)) | 22 => (vF = .agg #[.slice a1 n1 c1, .slice (some ⟨b0, off, none⟩) n2 c2]) | 23 => (vF = .pointer (some ⟨wr.heap.size, 0, none⟩)) | 24 => (vF = .int .i64 a) | 25 => (vF = .int .i64 kk) | 26 => (vF = .bool false) | 27 => (vF = .bool false) | _ => True) (fun _ _ _ _ => True) (by kernel_rfl) (by kernel_rfl) ?_ ?_ ?_ ?_ ?_
                  · exact ⟨D1.drew, HB.out.1, HB.out.2.1, HB.out.2.2⟩
                  · intro iF wF1 wF2 hR hT; exact ⟨hR.1.trans (hT.mono hR.1.size), (hT.cell (p := ⟨wr.heap.size, 0, none⟩) hR.2.2.2).trans hR.2.1, (hT.cell (p := ⟨wr.heap.size, 1, none⟩) hR.2.2.2).trans hR.2.2.1, Nat.lt_of_lt_of_le hR.2.2.2 hT.size⟩
                  · intro kF hkF iF hiF hne hdd hanc hdan vF wF1 wF2 h hT
                    rcases (by omega : kF = 0 ∨ kF = 1 ∨ kF = 2 ∨ kF = 3 ∨ kF = 4 ∨ kF = 5 ∨ kF = 6 ∨ kF = 7 ∨ kF = 8 ∨ kF = 9 ∨ kF = 10 ∨ kF = 11 ∨ kF = 12 ∨ kF = 13 ∨ kF = 14 ∨ kF = 15 ∨ kF = 16 ∨ kF = 17 ∨ kF = 18 ∨ kF = 19 ∨ kF = 20 ∨ kF = 21 ∨ kF = 22 ∨ kF = 23 ∨ kF = 24 ∨ kF = 25 ∨ kF = 26 ∨ kF = 27) with rfl | rfl | rfl | rfl | rfl | rfl | rfl | rfl | rfl | rfl | rfl | rfl | rfl | rfl | rfl | rfl | rfl | rfl | rfl | rfl | rfl | rfl | rfl | rfl | rfl | rfl | rfl | rfl
                    · exact h
                    · exact h
                    · exact h
                    · exact h
                    · exact h
                    · exact h
                    · exact h
                    · exact h
                    · exact h
                    · exact h
                    · exact h
                    · exact h
                    · exact h
                    · exact h
                    · exact h
                    · exact h
                    · exact h
                    · exact h
                    · exact h
                    · exact h
                    · exact h
                    · exact h
                    · exact h
                    · exact h
                    · exact h
                    · exact h
                    · exact h
                    · exact h
                  · refine FlowAll.cons ?_ ?_
                    · intro xF wq hR hd K hK
                      clear hd
                      simp only [List.take_succ_cons, List.take_zero, fillOf, Act.put, List.setIfInBounds_toArray, List.set_cons_zero, List.set_cons_succ, Nat.reduceAdd, Nat.zero_add] at hK ⊢
                      obtain hbR := id hR
                      obtain ⟨_, z0, z1, _⟩ := id hR
                      rw [if_pos (by rfl)]
                      go_simp
                      exact hK.out _ _ (Below.refl _ _) (rfl) (fun _ _ _ => ⟨trivial, trivial⟩)
                    refine FlowAll.cons ?_ ?_
                    · intro xF wq hR hd K hK
                      have dd0 : ((xF 0) = .agg #[.int .i64 a, .int .i64 b]) := hd 0 (by kernel_rfl)
                      clear hd
                      simp only [List.take_succ_cons, List.take_zero, fillOf, Act.put, List.setIfInBounds_toArray, List.set_cons_zero, List.set_cons_succ, Nat.reduceAdd, Nat.zero_add] at hK ⊢
                      try generalize xF 0 = yy0 at *
                      obtain rfl := dd0
                      obtain hbR := id hR
                      rw [if_pos (by rfl)]
                      go_simp
                      (go_at_call 13; (with_reducible refine (HV.out _).mono ?_); rintro e wK ⟨rfl, hbK⟩)
                      try go_wp2_with fail
                      exact hK.out _ _ (hbK) (rfl) (fun _ _ _ => ⟨trivial, trivial⟩)
                    refine FlowAll.cons ?_ ?_
                    · intro xF wq hR hd K hK
                      have dd1 : ((xF 1) = .bool true) := hd 1 (by kernel_rfl)
                      clear hd
                      simp only [List.take_succ_cons, List.take_zero, fillOf, Act.put, List.setIfInBounds_toArray, List.set_cons_zero, List.set_cons_succ, Nat.reduceAdd, Nat.zero_add] at hK ⊢
                      try generalize xF 1 = yy1 at *
                      obtain rfl := dd1
                      obtain hbR := id hR
                      rw [if_pos (by rfl)]
                      go_simp
                      exact hK.out _ _ (Below.refl _ _) (rfl) (fun _ _ _ => ⟨trivial, trivial⟩)
                    refine FlowAll.cons ?_ ?_
                    · intro xF wq hR hd K hK
                      have dd2 : ((xF 2) = .bool false) := hd 2 (by kernel_rfl)
                      clear hd
                      simp only [List.take_succ_cons, List.take_zero, fillOf, Act.put, List.setIfInBounds_toArray, List.set_cons_zero, List.set_cons_succ, Nat.reduceAdd, Nat.zero_add] at hK ⊢
                      try generalize xF 2 = yy2 at *
                      obtain rfl := dd2
                      obtain hbR := id hR
                      rw [if_pos (by rfl)]
                      go_simp
                      exact hK.out _ _ (Below.refl _ _) (rfl) (fun _ _ _ => ⟨trivial, trivial⟩)
                    refine FlowAll.cons ?_ ?_
                    · intro xF wq hR hd K hK
                      have dd3 : ((xF 3) = .bool false) := hd 3 (by kernel_rfl)
                      clear hd
                      simp only [List.take_succ_cons, List.take_zero, fillOf, Act.put, List.setIfInBounds_toArray, List.set_cons_zero, List.set_cons_succ, Nat.reduceAdd, Nat.zero_add] at hK ⊢
                      try generalize xF 3 = yy3 at *
                      obtain rfl := dd3
                      obtain hbR := id hR
                      rw [if_pos (by rfl)]
                      go_simp
                      exact hK.out _ _ (Below.refl _ _) (rfl) (fun _ _ _ => ⟨trivial, trivial⟩)
                    refine FlowAll.cons ?_ ?_
                    · intro xF wq hR hd K hK
                      have dd3 : ((xF 3) = .bool false) := hd 3 (by kernel_rfl)
                      have dd4 : ((xF 4) = .int .i64 (k : Int)) := hd 4 (by kernel_rfl)
                      clear hd
                      simp only [List.take_succ_cons, List.take_zero, fillOf, Act.put, List.setIfInBounds_toArray, List.set_cons_zero, List.set_cons_succ, Nat.reduceAdd, Nat.zero_add] at hK ⊢
                      try generalize xF 3 = yy3 at *
                      try generalize xF 4 = yy4 at *
                      obtain rfl := dd3
                      obtain rfl := dd4
                      obtain hbR := id hR
                      rw [if_pos (by rfl)]
                      go_simp
                      exact hK.out _ _ (Below.refl _ _) (rfl) (fun _ _ _ => ⟨trivial, trivial⟩)
                    refine FlowAll.cons ?_ ?_
                    · intro xF wq hR hd K hK
                      have dd3 : ((xF 3) = .bool false) := hd 3 (by kernel_rfl)
                      have dd5 : ((xF 5) = .bool true) := hd 5 (by kernel_rfl)
                      clear hd
                      simp only [List.take_succ_cons, List.take_zero, fillOf, Act.put, List.setIfInBounds_toArray, List.set_cons_zero, List.set_cons_succ, Nat.reduceAdd, Nat.zero_add] at hK ⊢
                      try generalize xF 3 = yy3 at *
                      try generalize xF 5 = yy5 at *
                      obtain rfl := dd3
                      obtain rfl := dd5
                      obtain hbR := id hR
                      rw [if_pos (by rfl)]
                      go_simp
                      exact hK.out _ _ (Below.refl _ _) (rfl) (fun _ _ _ => ⟨trivial, trivial⟩)
                    refine FlowAll.cons ?_ ?_
                    · intro xF wq hR hd K hK
                      have dd6 : ((xF 6) = .bool true) := hd 6 (by kernel_rfl)
                      clear hd
                      simp only [List.take_succ_cons, List.take_zero, fillOf, Act.put, List.setIfInBounds_toArray, List.set_cons_zero, List.set_cons_succ, Nat.reduceAdd, Nat.zero_add] at hK ⊢
                      try generalize xF 6 = yy6 at *
                      obtain rfl := dd6
                      obtain hbR := id hR
                      rw [if_pos (by rfl)]
                      go_simp
                      exact hK.out _ _ (Below.refl _ _) (rfl) (fun _ _ _ => ⟨trivial, trivial⟩)
                    refine FlowAll.cons ?_ ?_
                    · intro xF wq hR hd K hK
                      have dd6 : ((xF 6) = .bool true) := hd 6 (by kernel_rfl)
                      have dd7 : ((xF 7) = .pointer (some ⟨w.heap.size, 1, none⟩)) := hd 7 (by kernel_rfl)
                      clear hd
                      simp only [List.take_succ_cons, List.take_zero, fillOf, Act.put, List.setIfInBounds_toArray, List.set_cons_zero, List.set_cons_succ, Nat.reduceAdd, Nat.zero_add] at hK ⊢
                      try generalize xF 6 = yy6 at *
                      try generalize xF 7 = yy7 at *
                      obtain rfl := dd6
                      obtain rfl := dd7
                      obtain hbR := id hR
                      obtain ⟨x0, x1⟩ := HX.out _ hR.1
                      rw [if_pos (by rfl)]
                      go_simp
                      exact hK.out _ _ (Below.refl _ _) (rfl) (fun _ _ _ => ⟨trivial, trivial⟩)
                    refine FlowAll.cons ?_ ?_
                    · intro xF wq hR hd K hK
                      have dd6 : ((xF 6) = .bool true) := hd 6 (by kernel_rfl)
                      clear hd
                      simp only [List.take_succ_cons, List.take_zero, fillOf, Act.put, List.setIfInBounds_toArray, List.set_cons_zero, List.set_cons_succ, Nat.reduceAdd, Nat.zero_add] at hK ⊢
                      try generalize xF 6 = yy6 at *
                      obtain rfl := dd6
                      obtain hbR := id hR
                      rw [if_pos (by rfl)]
                      go_simp
                      exact hK.out _ _ (Below.refl _ _) (rfl) (fun _ _ _ => ⟨trivial, trivial⟩)
                    refine FlowAll.cons ?_ ?_
                    · intro xF wq hR hd K hK
                      have dd6 : ((xF 6) = .bool true) := hd 6 (by kernel_rfl)
                      have dd9 : ((xF 9) = .int .i64 (k : Int)) := hd 9 (by kernel_rfl)
                      clear hd
                      simp only [List.take_succ_cons, List.take_zero, fillOf, Act.put, List.setIfInBounds_toArray, List.set_cons_zero, List.set_cons_succ, Nat.reduceAdd, Nat.zero_add] at hK ⊢
                      try generalize xF 6 = yy6 at *
                      try generalize xF 9 = yy9 at *
                      obtain rfl := dd6
                      obtain rfl := dd9
                      obtain hbR := id hR
                      rw [if_pos (by rfl)]
                      go_simp
                      exact hK.out _ _ (Below.refl _ _) (rfl) (fun _ _ _ => ⟨trivial, trivial⟩)
                    refine FlowAll.cons ?_ ?_
                    · intro xF wq hR hd K hK
                      have dd6 : ((xF 6) = .bool true) := hd 6 (by kernel_rfl)
                      have dd8 : ((xF 8) = .slice (some ⟨b0, off, none⟩) n2 c2) := hd 8 (by kernel_rfl)
                      have dd10 : ((xF 10) = .int .i64 (i : Int)) := hd 10 (by kernel_rfl)
                      clear hd
                      simp only [List.take_succ_cons, List.take_zero, fillOf, Act.put, List.setIfInBounds_toArray, List.set_cons_zero, List.set_cons_succ, Nat.reduceAdd, Nat.zero_add] at hK ⊢
                      try generalize xF 6 = yy6 at *
                      try generalize xF 8 = yy8 at *
                      try generalize xF 10 = yy10 at *
                      obtain rfl := dd6
                      obtain rfl := dd8
                      obtain rfl := dd10
                      obtain hbR := id hR
                      rw [if_pos (by rfl)]
                      go_simp
                      exact hK.out _ _ (Below.refl _ _) (rfl) (fun _ _ _ => ⟨trivial, trivial⟩)
                    refine FlowAll.cons ?_ ?_
                    · intro xF wq hR hd K hK
                      have dd6 : ((xF 6) = .bool true) := hd 6 (by kernel_rfl)
                      have dd11 : ((xF 11) = .pointer (some ⟨b0, off + i * 2, none⟩)) := hd 11 (by kernel_rfl)
                      clear hd
                      simp only [List.take_succ_cons, List.take_zero, fillOf, Act.put, List.setIfInBounds_toArray, List.set_cons_zero, List.set_cons_succ, Nat.reduceAdd, Nat.zero_add] at hK ⊢
                      try generalize xF 6 = yy6 at *
                      try generalize xF 11 = yy11 at *
                      obtain rfl := dd6
                      obtain rfl := dd11
                      obtain hbR := id hR
                      obtain ⟨e2, e3⟩ := HPR.out _ hR.1
                      rw [if_pos (by rfl)]
                      go_simp
                      exact hK.out _ _ (Below.refl _ _) (rfl) (fun _ _ _ => ⟨trivial, trivial⟩)
                    refine FlowAll.cons ?_ ?_
                    · intro xF wq hR hd K hK
                      have dd6 : ((xF 6) = .bool true) := hd 6 (by kernel_rfl)
                      clear hd
                      simp only [List.take_succ_cons, List.take_zero, fillOf, Act.put, List.setIfInBounds_toArray, List.set_cons_zero, List.set_cons_succ, Nat.reduceAdd, Nat.zero_add] at hK ⊢
                      try generalize xF 6 = yy6 at *
                      obtain rfl := dd6
                      obtain hbR := id hR
                      obtain ⟨_, z0, z1, _⟩ := id hR
                      rw [if_pos (by rfl)]
                      go_simp
                      exact hK.out _ _ (Below.refl _ _) (rfl) (fun _ _ _ => ⟨trivial, trivial⟩)
                    refine FlowAll.cons ?_ ?_
                    · intro xF wq hR hd K hK
                      have dd6 : ((xF 6) = .bool true) := hd 6 (by kernel_rfl)
                      have dd12 : ((xF 12) = .agg #[.int .i64 a', .int .i64 b']) := hd 12 (by kernel_rfl)
                      have dd13 : ((xF 13) = .agg #[.int .i64 a, .int .i64 b]) := hd 13 (by kernel_rfl)
                      clear hd
                      simp only [List.take_succ_cons, List.take_zero, fillOf, Act.put, List.setIfInBounds_toArray, List.set_cons_zero, List.set_cons_succ, Nat.reduceAdd, Nat.zero_add] at hK ⊢
                      try generalize xF 6 = yy6 at *
                      try generalize xF 12 = yy12 at *
                      try generalize xF 13 = yy13 at *
                      obtain rfl := dd6
                      obtain rfl := dd12
                      obtain rfl := dd13
                      obtain hbR := id hR
                      rw [if_pos (by rfl)]
                      go_simp
                      (go_at_call 15; (with_reducible refine (HL.out _).mono ?_); rintro e wK ⟨rfl, hbK⟩)
                      try go_wp2_with fail
                      exact hK.out _ _ (hbK) (rfl) (fun _ _ _ => ⟨trivial, trivial⟩)
                    refine FlowAll.cons ?_ ?_
                    · intro xF wq hR hd K hK
                      have dd6 : ((xF 6) = .bool true) := hd 6 (by kernel_rfl)
                      have dd14 : ((xF 14) = .bool true) := hd 14 (by kernel_rfl)
                      clear hd
                      simp only [List.take_succ_cons, List.take_zero, fillOf, Act.put, List.setIfInBounds_toArray, List.set_cons_zero, List.set_cons_succ, Nat.reduceAdd, Nat.zero_add] at hK ⊢
                      try generalize xF 6 = yy6 at *
                      try generalize xF 14 = yy14 at *
                      obtain rfl := dd6
                      obtain rfl := dd14
                      obtain hbR := id hR
                      rw [if_pos (by rfl)]
                      go_simp
                      exact hK.out _ _ (Below.refl _ _) (rfl) (fun _ _ _ => ⟨trivial, trivial⟩)
                    refine FlowAll.cons ?_ ?_
                    · intro xF wq hR hd K hK
                      have dd3 : ((xF 3) = .bool false) := hd 3 (by kernel_rfl)
                      have dd6 : ((xF 6) = .bool true) := hd 6 (by kernel_rfl)
                      have dd15 : ((xF 15) = .bool false) := hd 15 (by kernel_rfl)
                      clear hd
                      simp only [List.take_succ_cons, List.take_zero, fillOf, Act.put, List.setIfInBounds_toArray, List.set_cons_zero, List.set_cons_succ, Nat.reduceAdd, Nat.zero_add] at hK ⊢
                      try generalize xF 3 = yy3 at *
                      try generalize xF 6 = yy6 at *
                      try generalize xF 15 = yy15 at *
                      obtain rfl := dd3
                      obtain rfl := dd6
                      obtain rfl := dd15
                      obtain hbR := id hR
                      rw [if_pos (by rfl)]
                      go_simp
                      exact hK.out _ _ (Below.refl _ _) (rfl) (fun _ _ _ => ⟨trivial, trivial⟩)
                    refine FlowAll.cons ?_ ?_
                    · intro xF wq hR hd K hK
                      have dd3 : ((xF 3) = .bool false) := hd 3 (by kernel_rfl)
                      have dd16 : ((xF 16) = .bool false) := hd 16 (by kernel_rfl)
                      clear hd
                      simp only [List.take_succ_cons, List.take_zero, fillOf, Act.put, List.setIfInBounds_toArray, List.set_cons_zero, List.set_cons_succ, Nat.reduceAdd, Nat.zero_add] at hK ⊢
                      try generalize xF 3 = yy3 at *
                      try generalize xF 16 = yy16 at *
                      obtain rfl := dd3
                      obtain rfl := dd16
                      obtain hbR := id hR
                      rw [if_pos (by rfl)]
                      go_simp
                      exact hK.out _ _ (Below.refl _ _) (rfl) (fun _ _ _ => ⟨trivial, trivial⟩)
                    refine FlowAll.cons ?_ ?_
                    · intro xF wq hR hd K hK
                      have dd17 : ((xF 17) = .bool false) := hd 17 (by kernel_rfl)
                      clear hd
                      simp only [List.take_succ_cons, List.take_zero, fillOf, Act.put, List.setIfInBounds_toArray, List.set_cons_zero, List.set_cons_succ, Nat.reduceAdd, Nat.zero_add] at hK ⊢
                      try generalize xF 17 = yy17 at *
                      obtain rfl := dd17
                      obtain hbR := id hR
                      rw [if_pos (by rfl)]
                      go_simp
                      exact hK.out _ _ (Below.refl _ _) (rfl) (fun _ _ _ => ⟨trivial, trivial⟩)
                    refine FlowAll.cons ?_ ?_
                    · intro xF wq hR hd K hK
                      have dd18 : ((xF 18) = .bool false) := hd 18 (by kernel_rfl)
                      clear hd
                      simp only [List.take_succ_cons, List.take_zero, fillOf, Act.put, List.setIfInBounds_toArray, List.set_cons_zero, List.set_cons_succ, Nat.reduceAdd, Nat.zero_add] at hK ⊢
                      try generalize xF 18 = yy18 at *
                      obtain rfl := dd18
                      obtain hbR := id hR
                      rw [if_pos (by rfl)]
                      go_simp
                      exact hK.out _ _ (Below.refl _ _) (rfl) (fun _ _ _ => ⟨trivial, trivial⟩)
                    refine FlowAll.cons ?_ ?_
                    · intro xF wq hR hd K hK
                      have dd18 : ((xF 18) = .bool false) := hd 18 (by kernel_rfl)
                      have dd19 : ((xF 19) = .pointer (some ⟨wr.heap.size, 1, none⟩)) := hd 19 (by kernel_rfl)
                      clear hd
                      simp only [List.take_succ_cons, List.take_zero, fillOf, Act.put, List.setIfInBounds_toArray, List.set_cons_zero, List.set_cons_succ, Nat.reduceAdd, Nat.zero_add] at hK ⊢
                      try generalize xF 18 = yy18 at *
                      try generalize xF 19 = yy19 at *
                      obtain rfl := dd18
                      obtain rfl := dd19
                      obtain hbR := id hR
                      obtain ⟨_, z0, z1, _⟩ := id hR
                      rw [if_pos (by rfl)]
                      go_simp
                      exact hK.out _ _ (Below.refl _ _) (rfl) (fun _ _ _ => ⟨trivial, trivial⟩)
                    refine FlowAll.cons ?_ ?_
                    · intro xF wq hR hd K hK
                      have dd18 : ((xF 18) = .bool false) := hd 18 (by kernel_rfl)
                      have dd20 : ((xF 20) = .int .i64 b) := hd 20 (by kernel_rfl)
                      clear hd
                      simp only [List.take_succ_cons, List.take_zero, fillOf, Act.put, List.setIfInBounds_toArray, List.set_cons_zero, List.set_cons_succ, Nat.reduceAdd, Nat.zero_add] at hK ⊢
                      try generalize xF 18 = yy18 at *
                      try generalize xF 20 = yy20 at *
                      obtain rfl := dd18
                      obtain rfl := dd20
                      obtain hbR := id hR
                      rw [if_pos (by rfl)]
                      go_simp
                      exact hK.out _ _ (Below.refl _ _) (rfl) (fun _ _ _ => ⟨trivial, trivial⟩)
                    refine FlowAll.cons ?_ ?_
                    · intro xF wq hR hd K hK
                      have dd18 : ((xF 18) = .bool false) := hd 18 (by kernel_rfl)
                      clear hd
                      simp only [List.take_succ_cons, List.take_zero, fillOf, Act.put, List.setIfInBounds_toArray, List.set_cons_zero, List.set_cons_succ, Nat.reduceAdd, Nat.zero_add] at hK ⊢
                      try generalize xF 18 = yy18 at *
                      obtain rfl := dd18
                      obtain hbR := id hR
                      obtain ⟨x0, x1⟩ := HX.out _ hR.1
                      rw [if_pos (by rfl)]
                      go_simp
                      exact hK.out _ _ (Below.refl _ _) (rfl) (fun _ _ _ => ⟨trivial, trivial⟩)
                    refine FlowAll.cons ?_ ?_
                    · intro xF wq hR hd K hK
                      have dd18 : ((xF 18) = .bool false) := hd 18 (by kernel_rfl)
                      clear hd
                      simp only [List.take_succ_cons, List.take_zero, fillOf, Act.put, List.setIfInBounds_toArray, List.set_cons_zero, List.set_cons_succ, Nat.reduceAdd, Nat.zero_add] at hK ⊢
                      try generalize xF 18 = yy18 at *
                      obtain rfl := dd18
                      obtain hbR := id hR
                      rw [if_pos (by rfl)]
                      go_simp
                      exact hK.out _ _ (Below.refl _ _) (rfl) (fun _ _ _ => ⟨trivial, trivial⟩)
                    refine FlowAll.cons ?_ ?_
                    · intro xF wq hR hd K hK
                      have dd18 : ((xF 18) = .bool false) := hd 18 (by kernel_rfl)
                      have dd23 : ((xF 23) = .pointer (some ⟨wr.heap.size, 0, none⟩)) := hd 23 (by kernel_rfl)
                      clear hd
                      simp only [List.take_succ_cons, List.take_zero, fillOf, Act.put, List.setIfInBounds_toArray, List.set_cons_zero, List.set_cons_succ, Nat.reduceAdd, Nat.zero_add] at hK ⊢
                      try generalize xF 18 = yy18 at *
                      try generalize xF 23 = yy23 at *
                      obtain rfl := dd18
                      obtain rfl := dd23
                      obtain hbR := id hR
                      obtain ⟨_, z0, z1, _⟩ := id hR
                      rw [if_pos (by rfl)]
                      go_simp
                      exact hK.out _ _ (Below.refl _ _) (rfl) (fun _ _ _ => ⟨trivial, trivial⟩)
                    refine FlowAll.cons ?_ ?_
                    · intro xF wq hR hd K hK
                      have dd18 : ((xF 18) = .bool false) := hd 18 (by kernel_rfl)
                      have dd22 : ((xF 22) = .agg #[.slice a1 n1 c1, .slice (some ⟨b0, off, none⟩) n2 c2]) := hd 22 (by kernel_rfl)
                      have dd24 : ((xF 24) = .int .i64 a) := hd 24 (by kernel_rfl)
                      clear hd
                      simp only [List.take_succ_cons, List.take_zero, fillOf, Act.put, List.setIfInBounds_toArray, List.set_cons_zero, List.set_cons_succ, Nat.reduceAdd, Nat.zero_add] at hK ⊢
                      try generalize xF 18 = yy18 at *
                      try generalize xF 22 = yy22 at *
                      try generalize xF 24 = yy24 at *
                      obtain rfl := dd18
                      obtain rfl := dd22
                      obtain rfl := dd24
                      obtain hbR := id hR
                      rw [if_pos (by rfl)]
                      go_simp
                      (go_at_call 33; (with_reducible refine (HU.out _ hR.1).mono ?_); rintro e wK ⟨rfl, hbK⟩)
                      try go_wp2_with fail
                      exact hK.out _ _ (hbK) (rfl) (fun _ _ _ => ⟨trivial, trivial⟩)
                    refine FlowAll.cons ?_ ?_
                    · intro xF wq hR hd K hK
                      have dd18 : ((xF 18) = .bool false) := hd 18 (by kernel_rfl)
                      have dd21 : ((xF 21) = .int .i64 (b - 1)) := hd 21 (by kernel_rfl)
                      have dd25 : ((xF 25) = .int .i64 kk) := hd 25 (by kernel_rfl)
                      clear hd
                      simp only [List.take_succ_cons, List.take_zero, fillOf, Act.put, List.setIfInBounds_toArray, List.set_cons_zero, List.set_cons_succ, Nat.reduceAdd, Nat.zero_add] at hK ⊢
                      try generalize xF 18 = yy18 at *
                      try generalize xF 21 = yy21 at *
                      try generalize xF 25 = yy25 at *
                      obtain rfl := dd18
                      obtain rfl := dd21
                      obtain rfl := dd25
                      obtain hbR := id hR
                      rw [if_pos (by rfl)]
                      go_simp
                      exact hK.out _ _ (Below.refl _ _) (rfl) (fun _ _ _ => ⟨trivial, trivial⟩)
                    refine FlowAll.cons ?_ ?_
                    · intro xF wq hR hd K hK
                      have dd18 : ((xF 18) = .bool false) := hd 18 (by kernel_rfl)
                      have dd26 : ((xF 26) = .bool false) := hd 26 (by kernel_rfl)
                      clear hd
                      simp only [List.take_succ_cons, List.take_zero, fillOf, Act.put, List.setIfInBounds_toArray, List.set_cons_zero, List.set_cons_succ, Nat.reduceAdd, Nat.zero_add] at hK ⊢
                      try generalize xF 18 = yy18 at *
                      try generalize xF 26 = yy26 at *
                      obtain rfl := dd18
                      obtain rfl := dd26
                      obtain hbR := id hR
                      rw [if_pos (by rfl)]
                      go_simp
                      exact hK.out _ _ (Below.refl _ _) (rfl) (fun _ _ _ => ⟨trivial, trivial⟩)
                    exact FlowAll.nil
                  intro xF wq hR hF hP
                  clear hP
                  have dd0 : ((xF 0) = .agg #[.int .i64 a, .int .i64 b]) := hF 0 (by omega) (by decide)
                  have dd1 : ((xF 1) = .bool true) := hF 1 (by omega) (by decide)
                  have dd2 : ((xF 2) = .bool false) := hF 2 (by omega) (by decide)
                  have dd3 : ((xF 3) = .bool false) := hF 3 (by omega) (by decide)
                  have dd4 : ((xF 4) = .int .i64 (k : Int)) := hF 4 (by omega) (by decide)
                  have dd5 : ((xF 5) = .bool true) := hF 5 (by omega) (by decide)
                  have dd6 : ((xF 6) = .bool true) := hF 6 (by omega) (by decide)
                  have dd7 : ((xF 7) = .pointer (some ⟨w.heap.size, 1, none⟩)) := hF 7 (by omega) (by decide)
                  have dd8 : ((xF 8) = .slice (some ⟨b0, off, none⟩) n2 c2) := hF 8 (by omega) (by decide)
                  have dd9 : ((xF 9) = .int .i64 (k : Int)) := hF 9 (by omega) (by decide)
                  have dd10 : ((xF 10) = .int .i64 (i : Int)) := hF 10 (by omega) (by decide)
                  have dd11 : ((xF 11) = .pointer (some ⟨b0, off + i * 2, none⟩)) := hF 11 (by omega) (by decide)
                  have dd12 : ((xF 12) = .agg #[.int .i64 a', .int .i64 b']) := hF 12 (by omega) (by decide)
                  have dd13 : ((xF 13) = .agg #[.int .i64 a, .int .i64 b]) := hF 13 (by omega) (by decide)
                  have dd14 : ((xF 14) = .bool true) := hF 14 (by omega) (by decide)
                  have dd15 : ((xF 15) = .bool false) := hF 15 (by omega) (by decide)
                  have dd16 : ((xF 16) = .bool false) := hF 16 (by omega) (by decide)
                  have dd17 : ((xF 17) = .bool false) := hF 17 (by omega) (by decide)
                  have dd18 : ((xF 18) = .bool false) := hF 18 (by omega) (by decide)
                  have dd19 : ((xF 19) = .pointer (some ⟨wr.heap.size, 1, none⟩)) := hF 19 (by omega) (by decide)
                  have dd20 : ((xF 20) = .int .i64 b) := hF 20 (by omega) (by decide)
                  have dd21 : ((xF 21) = .int .i64 (b - 1)) := hF 21 (by omega) (by decide)
                  have dd22 : ((xF 22) = .agg #[.slice a1 n1 c1, .slice (some ⟨b0, off, none⟩) n2 c2]) := hF 22 (by omega) (by decide)
                  have dd23 : ((xF 23) = .pointer (some ⟨wr.heap.size, 0, none⟩)) := hF 23 (by omega) (by decide)
                  have dd24 : ((xF 24) = .int .i64 a) := hF 24 (by omega) (by decide)
                  have dd25 : ((xF 25) = .int .i64 kk) := hF 25 (by omega) (by decide)
                  have dd26 : ((xF 26) = .bool false) := hF 26 (by omega) (by decide)
                  have dd27 : ((xF 27) = .bool false) := hF 27 (by omega) (by decide)
                  clear hF
                  simp only [List.take_succ_cons, List.take_zero, List.drop_succ_cons, List.drop_zero, fillOf, Act.put, List.setIfInBounds_toArray, List.set_cons_zero, List.set_cons_succ, Nat.reduceAdd, Nat.zero_add]
                  try generalize xF 0 = yy0 at *
                  try generalize xF 1 = yy1 at *
                  try generalize xF 2 = yy2 at *
                  try generalize xF 3 = yy3 at *
                  try generalize xF 4 = yy4 at *
                  try generalize xF 5 = yy5 at *
                  try generalize xF 6 = yy6 at *
                  try generalize xF 7 = yy7 at *
                  try generalize xF 8 = yy8 at *
                  try generalize xF 9 = yy9 at *
                  try generalize xF 10 = yy10 at *
                  try generalize xF 11 = yy11 at *
                  try generalize xF 12 = yy12 at *
                  try generalize xF 13 = yy13 at *
                  try generalize xF 14 = yy14 at *
                  try generalize xF 15 = yy15 at *
                  try generalize xF 16 = yy16 at *
                  try generalize xF 17 = yy17 at *
                  try generalize xF 18 = yy18 at *
                  try generalize xF 19 = yy19 at *
                  try generalize xF 20 = yy20 at *
                  try generalize xF 21 = yy21 at *
                  try generalize xF 22 = yy22 at *
                  try generalize xF 23 = yy23 at *
                  try generalize xF 24 = yy24 at *
                  try generalize xF 25 = yy25 at *
                  try generalize xF 26 = yy26 at *
                  try generalize xF 27 = yy27 at *
                  clear xF
                  obtain rfl := dd0
                  obtain rfl := dd1
                  obtain rfl := dd2
                  obtain rfl := dd3
                  obtain rfl := dd4
                  obtain rfl := dd5
                  obtain rfl := dd6
                  obtain rfl := dd7
                  obtain rfl := dd8
                  obtain rfl := dd9
                  obtain rfl := dd10
                  obtain rfl := dd11
                  obtain rfl := dd12
                  obtain rfl := dd13
                  obtain rfl := dd14
                  obtain rfl := dd15
                  obtain rfl := dd16
                  obtain rfl := dd17
                  obtain rfl := dd18
                  obtain rfl := dd19
                  obtain rfl := dd20
                  obtain rfl := dd21
                  obtain rfl := dd22
                  obtain rfl := dd23
                  obtain rfl := dd24
                  obtain rfl := dd25
                  obtain rfl := dd26
                  obtain rfl := dd27
                  have hRE := Lib.hid hR
                  clear hR
                  have D9 := hRE.out.1
                  clear hRE
                  go_wp2
                  go_roundw
                  case rel => exact ⟨k + 1, by go_num, by omega, HOK, D9⟩
                  case measure => simp [intOf]; omega
            · have hg2 : ¬ (0 : Int) < (k : Int) := by omega
              have hg1 : decide ((0 : Int) < (k : Int)) = false := decide_eq_false hg2
              by_cases hle : b - 1 ≤ kk
              · obtain rfl : R = false := HFK.out (fun ho => by
                  have := ho.2.2
                  rw [← HXE.out] at this
                  simp only at this
                  rw [HKK.out] at this
                  omega)
                have hd : decide (b - 1 ≤ kk) = true := decide_eq_true hle
                go_wp2_with fail
                refine wp_flow 28 (fun _ => 1000) (fun ww => RowKit.Below w1.heap.size w1 ww ∧ ww.cell? ⟨wr.heap.size, 0, none⟩ = some (.int .i64 a) ∧ ww.cell? ⟨wr.heap.size, 1, none⟩ = some (.int .i64 b) ∧ wr.heap.size < ww.heap.size) (fun _ w w' => (fun (w w' : World) => RowKit.Below w.heap.size w w') w w') (fun kF vF wF => match kF with | 0 => (vF = .agg #[.int .i64 a, .int .i64 b]) | 1 => (vF = .bool true) | 2 => (vF = .bool false) | 3 => (vF = .bool false) | 4 => (vF = .int .i64 (k : Int)) | 5 => (vF = .bool false) | 6 => (vF = .bool false) | 7 => (vF = undef) | 8 => (vF = undef) | 9 => (vF = undef) | 10 => (vF = undef) | 11 => (vF = undef) | 12 => (vF = undef) | 13 => (vF = undef) | 14 => (vF = undef) | 15 => (vF = undef) | 16 => (vF = .bool false) | 17 => (vF = .bool false) | 18 => (vF = .bool false) | 19 => (vF = .pointer (some ⟨wr.heap.size, 1, none⟩)) | 20 => (vF = .int .i64 b) | 21 => (vF = .int .i64 (b - 1)) | 22 => (vF = .agg #[.slice a1 n1 c1, .slice (some ⟨b0, off, none⟩) n2 c2]) | 23 => (vF = .pointer (some ⟨wr.heap.size, 0, none⟩)) | 24 => (vF = .int .i64 a) | 25 => (vF = .int .i64 kk) | 26 => (vF = .bool true) | 27 => (vF = .bool true) | _ => True) (fun _ _ _ _ => True) (by kernel_rfl) (by kernel_rfl) ?_ ?_ ?_ ?_ ?_
                · exact ⟨D1.drew, HB.out.1, HB.out.2.1, HB.out.2.2⟩
                · intro iF wF1 wF2 hR hT; exact ⟨hR.1.trans (hT.mono hR.1.size), (hT.cell (p := ⟨wr.heap.size, 0, none⟩) hR.2.2.2).trans hR.2.1, (hT.cell (p := ⟨wr.heap.size, 1, none⟩) hR.2.2.2).trans hR.2.2.1, Nat.lt_of_lt_of_le hR.2.2.2 hT.size⟩
                · intro kF hkF iF hiF hne hdd hanc hdan vF wF1 wF2 h hT
                  rcases (by omega : kF = 0 ∨ kF = 1 ∨ kF = 2 ∨ kF = 3 ∨ kF = 4 ∨ kF = 5 ∨ kF = 6 ∨ kF = 7 ∨ kF = 8 ∨ kF = 9 ∨ kF = 10 ∨ kF = 11 ∨ kF = 12 ∨ kF = 13 ∨ kF = 14 ∨ kF = 15 ∨ kF = 16 ∨ kF = 17 ∨ kF = 18 ∨ kF = 19 ∨ kF = 20 ∨ kF = 21 ∨ kF = 22 ∨ kF = 23 ∨ kF = 24 ∨ kF = 25 ∨ kF = 26 ∨ kF = 27) with rfl | rfl | rfl | rfl | rfl | rfl | rfl | rfl | rfl | rfl | rfl | rfl | rfl | rfl | rfl | rfl | rfl | rfl | rfl | rfl | rfl | rfl | rfl | rfl | rfl | rfl | rfl | rfl
                  · exact h
                  · exact h
                  · exact h
                  · exact h
                  · exact h
                  · exact h
                  · exact h
                  · exact h
                  · exact h
                  · exact h
                  · exact h
                  · exact h
                  · exact h
                  · exact h
                  · exact h
                  · exact h
                  · exact h
                  · exact h
                  · exact h
                  · exact h
                  · exact h
                  · exact h
                  · exact h
                  · exact h
                  · exact h
                  · exact h
                  · exact h
                  · exact h
                · refine FlowAll.cons ?_ ?_
                  · intro xF wq hR hd K hK
                    clear hd
                    simp only [List.take_succ_cons, List.take_zero, fillOf, Act.put, List.setIfInBounds_toArray, List.set_cons_zero, List.set_cons_succ, Nat.reduceAdd, Nat.zero_add] at hK ⊢
                    obtain hbR := id hR
                    obtain ⟨_, z0, z1, _⟩ := id hR
                    rw [if_pos (by rfl)]
                    go_simp
                    exact hK.out _ _ (Below.refl _ _) (rfl) (fun _ _ _ => ⟨trivial, trivial⟩)
                  refine FlowAll.cons ?_ ?_
                  · intro xF wq hR hd K hK
                    have dd0 : ((xF 0) = .agg #[.int .i64 a, .int .i64 b]) := hd 0 (by kernel_rfl)
                    clear hd
                    simp only [List.take_succ_cons, List.take_zero, fillOf, Act.put, List.setIfInBounds_toArray, List.set_cons_zero, List.set_cons_succ, Nat.reduceAdd, Nat.zero_add] at hK ⊢
                    try generalize xF 0 = yy0 at *
                    obtain rfl := dd0
                    obtain hbR := id hR
                    rw [if_pos (by rfl)]
                    go_simp
                    (go_at_call 13; (with_reducible refine (HV.out _).mono ?_); rintro e wK ⟨rfl, hbK⟩)
                    try go_wp2_with fail
                    exact hK.out _ _ (hbK) (rfl) (fun _ _ _ => ⟨trivial, trivial⟩)
                  refine FlowAll.cons ?_ ?_
                  · intro xF wq hR hd K hK
                    have dd1 : ((xF 1) = .bool true) := hd 1 (by kernel_rfl)
                    clear hd
                    simp only [List.take_succ_cons, List.take_zero, fillOf, Act.put, List.setIfInBounds_toArray, List.set_cons_zero, List.set_cons_succ, Nat.reduceAdd, Nat.zero_add] at hK ⊢
                    try generalize xF 1 = yy1 at *
                    obtain rfl := dd1
                    obtain hbR := id hR
                    rw [if_pos (by rfl)]
                    go_simp
                    exact hK.out _ _ (Below.refl _ _) (rfl) (fun _ _ _ => ⟨trivial, trivial⟩)
                  refine FlowAll.cons ?_ ?_
                  · intro xF wq hR hd K hK
                    have dd2 : ((xF 2) = .bool false) := hd 2 (by kernel_rfl)
                    clear hd
                    simp only [List.take_succ_cons, List.take_zero, fillOf, Act.put, List.setIfInBounds_toArray, List.set_cons_zero, List.set_cons_succ, Nat.reduceAdd, Nat.zero_add] at hK ⊢
                    try generalize xF 2 = yy2 at *
                    obtain rfl := dd2
                    obtain hbR := id hR
                    rw [if_pos (by rfl)]
                    go_simp
                    exact hK.out _ _ (Below.refl _ _) (rfl) (fun _ _ _ => ⟨trivial, trivial⟩)
                  refine FlowAll.cons ?_ ?_
                  · intro xF wq hR hd K hK
                    have dd3 : ((xF 3) = .bool false) := hd 3 (by kernel_rfl)
                    clear hd
                    simp only [List.take_succ_cons, List.take_zero, fillOf, Act.put, List.setIfInBounds_toArray, List.set_cons_zero, List.set_cons_succ, Nat.reduceAdd, Nat.zero_add] at hK ⊢
                    try generalize xF 3 = yy3 at *
                    obtain rfl := dd3
                    obtain hbR := id hR
                    rw [if_pos (by rfl)]
                    go_simp
                    exact hK.out _ _ (Below.refl _ _) (rfl) (fun _ _ _ => ⟨trivial, trivial⟩)
                  refine FlowAll.cons ?_ ?_
                  · intro xF wq hR hd K hK
                    have dd3 : ((xF 3) = .bool false) := hd 3 (by kernel_rfl)
                    have dd4 : ((xF 4) = .int .i64 (k : Int)) := hd 4 (by kernel_rfl)
                    clear hd
                    simp only [List.take_succ_cons, List.take_zero, fillOf, Act.put, List.setIfInBounds_toArray, List.set_cons_zero, List.set_cons_succ, Nat.reduceAdd, Nat.zero_add] at hK ⊢
                    try generalize xF 3 = yy3 at *
                    try generalize xF 4 = yy4 at *
                    obtain rfl := dd3
                    obtain rfl := dd4
                    obtain hbR := id hR
                    rw [if_pos (by rfl)]
                    go_simp
                    exact hK.out _ _ (Below.refl _ _) (rfl) (fun _ _ _ => ⟨trivial, trivial⟩)
                  refine FlowAll.cons ?_ ?_
                  · intro xF wq hR hd K hK
                    have dd3 : ((xF 3) = .bool false) := hd 3 (by kernel_rfl)
                    have dd5 : ((xF 5) = .bool false) := hd 5 (by kernel_rfl)
                    clear hd
                    simp only [List.take_succ_cons, List.take_zero, fillOf, Act.put, List.setIfInBounds_toArray, List.set_cons_zero, List.set_cons_succ, Nat.reduceAdd, Nat.zero_add] at hK ⊢
                    try generalize xF 3 = yy3 at *
                    try generalize xF 5 = yy5 at *
                    obtain rfl := dd3
                    obtain rfl := dd5
                    obtain hbR := id hR
                    rw [if_pos (by rfl)]
                    go_simp
                    exact hK.out _ _ (Below.refl _ _) (rfl) (fun _ _ _ => ⟨trivial, trivial⟩)
                  refine FlowAll.cons ?_ ?_
                  · intro xF wq hR hd K hK
                    have dd6 : ((xF 6) = .bool false) := hd 6 (by kernel_rfl)
                    clear hd
                    simp only [List.take_succ_cons, List.take_zero, fillOf, Act.put, List.setIfInBounds_toArray, List.set_cons_zero, List.set_cons_succ, Nat.reduceAdd, Nat.zero_add] at hK ⊢
                    try generalize xF 6 = yy6 at *
                    obtain rfl := dd6
                    obtain hbR := id hR
                    rw [if_neg (by intro h; exact absurd (show false = true from h) Bool.false_ne_true)]
                    try simp only [Act.put, List.setIfInBounds_toArray, List.set_cons_zero, List.set_cons_succ]
                    exact hK.out _ _ (Below.refl _ _) (rfl) (fun _ _ _ => ⟨trivial, trivial⟩)
                  refine FlowAll.cons ?_ ?_
                  · intro xF wq hR hd K hK
                    have dd6 : ((xF 6) = .bool false) := hd 6 (by kernel_rfl)
                    clear hd
                    simp only [List.take_succ_cons, List.take_zero, fillOf, Act.put, List.setIfInBounds_toArray, List.set_cons_zero, List.set_cons_succ, Nat.reduceAdd, Nat.zero_add] at hK ⊢
                    try generalize xF 6 = yy6 at *
                    obtain rfl := dd6
                    obtain hbR := id hR
                    rw [if_neg (by intro h; exact absurd (show false = true from h) Bool.false_ne_true)]
                    try simp only [Act.put, List.setIfInBounds_toArray, List.set_cons_zero, List.set_cons_succ]
                    exact hK.out _ _ (Below.refl _ _) (rfl) (fun _ _ _ => ⟨trivial, trivial⟩)
                  refine FlowAll.cons ?_ ?_
                  · intro xF wq hR hd K hK
                    have dd6 : ((xF 6) = .bool false) := hd 6 (by kernel_rfl)
                    clear hd
                    simp only [List.take_succ_cons, List.take_zero, fillOf, Act.put, List.setIfInBounds_toArray, List.set_cons_zero, List.set_cons_succ, Nat.reduceAdd, Nat.zero_add] at hK ⊢
                    try generalize xF 6 = yy6 at *
                    obtain rfl := dd6
                    obtain hbR := id hR
                    rw [if_neg (by intro h; exact absurd (show false = true from h) Bool.false_ne_true)]
                    try simp only [Act.put, List.setIfInBounds_toArray, List.set_cons_zero, List.set_cons_succ]
                    exact hK.out _ _ (Below.refl _ _) (rfl) (fun _ _ _ => ⟨trivial, trivial⟩)
                  refine FlowAll.cons ?_ ?_
                  · intro xF wq hR hd K hK
                    have dd6 : ((xF 6) = .bool false) := hd 6 (by kernel_rfl)
                    clear hd
                    simp only [List.take_succ_cons, List.take_zero, fillOf, Act.put, List.setIfInBounds_toArray, List.set_cons_zero, List.set_cons_succ, Nat.reduceAdd, Nat.zero_add] at hK ⊢
                    try generalize xF 6 = yy6 at *
                    obtain rfl := dd6
                    obtain hbR := id hR
                    rw [if_neg (by intro h; exact absurd (show false = true from h) Bool.false_ne_true)]
                    try simp only [Act.put, List.setIfInBounds_toArray, List.set_cons_zero, List.set_cons_succ]
                    exact hK.out _ _ (Below.refl _ _) (rfl) (fun _ _ _ => ⟨trivial, trivial⟩)
                  refine FlowAll.cons ?_ ?_
                  · intro xF wq hR hd K hK
                    have dd6 : ((xF 6) = .bool false) := hd 6 (by kernel_rfl)
                    clear hd
                    simp only [List.take_succ_cons, List.take_zero, fillOf, Act.put, List.setIfInBounds_toArray, List.set_cons_zero, List.set_cons_succ, Nat.reduceAdd, Nat.zero_add] at hK ⊢
                    try generalize xF 6 = yy6 at *
                    obtain rfl := dd6
                    obtain hbR := id hR
                    rw [if_neg (by intro h; exact absurd (show false = true from h) Bool.false_ne_true)]
                    try simp only [Act.put, List.setIfInBounds_toArray, List.set_cons_zero, List.set_cons_succ]
                    exact hK.out _ _ (Below.refl _ _) (rfl) (fun _ _ _ => ⟨trivial, trivial⟩)
                  refine FlowAll.cons ?_ ?_
                  · intro xF wq hR hd K hK
                    have dd6 : ((xF 6) = .bool false) := hd 6 (by kernel_rfl)
                    clear hd
                    simp only [List.take_succ_cons, List.take_zero, fillOf, Act.put, List.setIfInBounds_toArray, List.set_cons_zero, List.set_cons_succ, Nat.reduceAdd, Nat.zero_add] at hK ⊢
                    try generalize xF 6 = yy6 at *
                    obtain rfl := dd6
                    obtain hbR := id hR
                    rw [if_neg (by intro h; exact absurd (show false = true from h) Bool.false_ne_true)]
                    try simp only [Act.put, List.setIfInBounds_toArray, List.set_cons_zero, List.set_cons_succ]
                    exact hK.out _ _ (Below.refl _ _) (rfl) (fun _ _ _ => ⟨trivial, trivial⟩)
                  refine FlowAll.cons ?_ ?_
                  · intro xF wq hR hd K hK
                    have dd6 : ((xF 6) = .bool false) := hd 6 (by kernel_rfl)
                    clear hd
                    simp only [List.take_succ_cons, List.take_zero, fillOf, Act.put, List.setIfInBounds_toArray, List.set_cons_zero, List.set_cons_succ, Nat.reduceAdd, Nat.zero_add] at hK ⊢
                    try generalize xF 6 = yy6 at *
                    obtain rfl := dd6
                    obtain hbR := id hR
                    rw [if_neg (by intro h; exact absurd (show false = true from h) Bool.false_ne_true)]
                    try simp only [Act.put, List.setIfInBounds_toArray, List.set_cons_zero, List.set_cons_succ]
                    exact hK.out _ _ (Below.refl _ _) (rfl) (fun _ _ _ => ⟨trivial, trivial⟩)
                  refine FlowAll.cons ?_ ?_
                  · intro xF wq hR hd K hK
                    have dd6 : ((xF 6) = .bool false) := hd 6 (by kernel_rfl)
                    clear hd
                    simp only [List.take_succ_cons, List.take_zero, fillOf, Act.put, List.setIfInBounds_toArray, List.set_cons_zero, List.set_cons_succ, Nat.reduceAdd, Nat.zero_add] at hK ⊢
                    try generalize xF 6 = yy6 at *
                    obtain rfl := dd6
                    obtain hbR := id hR
                    rw [if_neg (by intro h; exact absurd (show false = true from h) Bool.false_ne_true)]
                    try simp only [Act.put, List.setIfInBounds_toArray, List.set_cons_zero, List.set_cons_succ]
                    exact hK.out _ _ (Below.refl _ _) (rfl) (fun _ _ _ => ⟨trivial, trivial⟩)
                  refine FlowAll.cons ?_ ?_
                  · intro xF wq hR hd K hK
                    have dd6 : ((xF 6) = .bool false) := hd 6 (by kernel_rfl)
                    clear hd
                    simp only [List.take_succ_cons, List.take_zero, fillOf, Act.put, List.setIfInBounds_toArray, List.set_cons_zero, List.set_cons_succ, Nat.reduceAdd, Nat.zero_add] at hK ⊢
                    try generalize xF 6 = yy6 at *
                    obtain rfl := dd6
                    obtain hbR := id hR
                    rw [if_neg (by intro h; exact absurd (show false = true from h) Bool.false_ne_true)]
                    try simp only [Act.put, List.setIfInBounds_toArray, List.set_cons_zero, List.set_cons_succ]
                    exact hK.out _ _ (Below.refl _ _) (rfl) (fun _ _ _ => ⟨trivial, trivial⟩)
                  refine FlowAll.cons ?_ ?_
                  · intro xF wq hR hd K hK
                    have dd3 : ((xF 3) = .bool false) := hd 3 (by kernel_rfl)
                    have dd6 : ((xF 6) = .bool false) := hd 6 (by kernel_rfl)
                    have dd15 : ((xF 15) = undef) := hd 15 (by kernel_rfl)
                    clear hd
                    simp only [List.take_succ_cons, List.take_zero, fillOf, Act.put, List.setIfInBounds_toArray, List.set_cons_zero, List.set_cons_succ, Nat.reduceAdd, Nat.zero_add] at hK ⊢
                    try generalize xF 3 = yy3 at *
                    try generalize xF 6 = yy6 at *
                    try generalize xF 15 = yy15 at *
                    obtain rfl := dd3
                    obtain rfl := dd6
                    obtain rfl := dd15
                    obtain hbR := id hR
                    rw [if_pos (by rfl)]
                    go_simp
                    exact hK.out _ _ (Below.refl _ _) (rfl) (fun _ _ _ => ⟨trivial, trivial⟩)
                  refine FlowAll.cons ?_ ?_
                  · intro xF wq hR hd K hK
                    have dd3 : ((xF 3) = .bool false) := hd 3 (by kernel_rfl)
                    have dd16 : ((xF 16) = .bool false) := hd 16 (by kernel_rfl)
                    clear hd
                    simp only [List.take_succ_cons, List.take_zero, fillOf, Act.put, List.setIfInBounds_toArray, List.set_cons_zero, List.set_cons_succ, Nat.reduceAdd, Nat.zero_add] at hK ⊢
                    try generalize xF 3 = yy3 at *
                    try generalize xF 16 = yy16 at *
                    obtain rfl := dd3
                    obtain rfl := dd16
                    obtain hbR := id hR
                    rw [if_pos (by rfl)]
                    go_simp
                    exact hK.out _ _ (Below.refl _ _) (rfl) (fun _ _ _ => ⟨trivial, trivial⟩)
                  refine FlowAll.cons ?_ ?_
                  · intro xF wq hR hd K hK
                    have dd17 : ((xF 17) = .bool false) := hd 17 (by kernel_rfl)
                    clear hd
                    simp only [List.take_succ_cons, List.take_zero, fillOf, Act.put, List.setIfInBounds_toArray, List.set_cons_zero, List.set_cons_succ, Nat.reduceAdd, Nat.zero_add] at hK ⊢
                    try generalize xF 17 = yy17 at *
                    obtain rfl := dd17
                    obtain hbR := id hR
                    rw [if_pos (by rfl)]
                    go_simp
                    exact hK.out _ _ (Below.refl _ _) (rfl) (fun _ _ _ => ⟨trivial, trivial⟩)
                  refine FlowAll.cons ?_ ?_
                  · intro xF wq hR hd K hK
                    have dd18 : ((xF 18) = .bool false) := hd 18 (by kernel_rfl)
                    clear hd
                    simp only [List.take_succ_cons, List.take_zero, fillOf, Act.put, List.setIfInBounds_toArray, List.set_cons_zero, List.set_cons_succ, Nat.reduceAdd, Nat.zero_add] at hK ⊢
                    try generalize xF 18 = yy18 at *
                    obtain rfl := dd18
                    obtain hbR := id hR
                    rw [if_pos (by rfl)]
                    go_simp
                    exact hK.out _ _ (Below.refl _ _) (rfl) (fun _ _ _ => ⟨trivial, trivial⟩)
                  refine FlowAll.cons ?_ ?_
                  · intro xF wq hR hd K hK
                    have dd18 : ((xF 18) = .bool false) := hd 18 (by kernel_rfl)
                    have dd19 : ((xF 19) = .pointer (some ⟨wr.heap.size, 1, none⟩)) := hd 19 (by kernel_rfl)
                    clear hd
                    simp only [List.take_succ_cons, List.take_zero, fillOf, Act.put, List.setIfInBounds_toArray, List.set_cons_zero, List.set_cons_succ, Nat.reduceAdd, Nat.zero_add] at hK ⊢
                    try generalize xF 18 = yy18 at *
                    try generalize xF 19 = yy19 at *
                    obtain rfl := dd18
                    obtain rfl := dd19
                    obtain hbR := id hR
                    obtain ⟨_, z0, z1, _⟩ := id hR
                    rw [if_pos (by rfl)]
                    go_simp
                    exact hK.out _ _ (Below.refl _ _) (rfl) (fun _ _ _ => ⟨trivial, trivial⟩)
                  refine FlowAll.cons ?_ ?_
                  · intro xF wq hR hd K hK
                    have dd18 : ((xF 18) = .bool false) := hd 18 (by kernel_rfl)
                    have dd20 : ((xF 20) = .int .i64 b) := hd 20 (by kernel_rfl)
                    clear hd
                    simp only [List.take_succ_cons, List.take_zero, fillOf, Act.put, List.setIfInBounds_toArray, List.set_cons_zero, List.set_cons_succ, Nat.reduceAdd, Nat.zero_add] at hK ⊢
                    try generalize xF 18 = yy18 at *
                    try generalize xF 20 = yy20 at *
                    obtain rfl := dd18
                    obtain rfl := dd20
                    obtain hbR := id hR
                    rw [if_pos (by rfl)]
                    go_simp
                    exact hK.out _ _ (Below.refl _ _) (rfl) (fun _ _ _ => ⟨trivial, trivial⟩)
                  refine FlowAll.cons ?_ ?_
                  · intro xF wq hR hd K hK
                    have dd18 : ((xF 18) = .bool false) := hd 18 (by kernel_rfl)
                    clear hd
                    simp only [List.take_succ_cons, List.take_zero, fillOf, Act.put, List.setIfInBounds_toArray, List.set_cons_zero, List.set_cons_succ, Nat.reduceAdd, Nat.zero_add] at hK ⊢
                    try generalize xF 18 = yy18 at *
                    obtain rfl := dd18
                    obtain hbR := id hR
                    obtain ⟨x0, x1⟩ := HX.out _ hR.1
                    rw [if_pos (by rfl)]
                    go_simp
                    exact hK.out _ _ (Below.refl _ _) (rfl) (fun _ _ _ => ⟨trivial, trivial⟩)
                  refine FlowAll.cons ?_ ?_
                  · intro xF wq hR hd K hK
                    have dd18 : ((xF 18) = .bool false) := hd 18 (by kernel_rfl)
                    clear hd
                    simp only [List.take_succ_cons, List.take_zero, fillOf, Act.put, List.setIfInBounds_toArray, List.set_cons_zero, List.set_cons_succ, Nat.reduceAdd, Nat.zero_add] at hK ⊢
                    try generalize xF 18 = yy18 at *
                    obtain rfl := dd18
                    obtain hbR := id hR
                    rw [if_pos (by rfl)]
                    go_simp
                    exact hK.out _ _ (Below.refl _ _) (rfl) (fun _ _ _ => ⟨trivial, trivial⟩)
                  refine FlowAll.cons ?_ ?_
                  · intro xF wq hR hd K hK
                    have dd18 : ((xF 18) = .bool false) := hd 18 (by kernel_rfl)
                    have dd23 : ((xF 23) = .pointer (some ⟨wr.heap.size, 0, none⟩)) := hd 23 (by kernel_rfl)
                    clear hd
                    simp only [List.take_succ_cons, List.take_zero, fillOf, Act.put, List.setIfInBounds_toArray, List.set_cons_zero, List.set_cons_succ, Nat.reduceAdd, Nat.zero_add] at hK ⊢
                    try generalize xF 18 = yy18 at *
                    try generalize xF 23 = yy23 at *
                    obtain rfl := dd18
                    obtain rfl := dd23
                    obtain hbR := id hR
                    obtain ⟨_, z0, z1, _⟩ := id hR
                    rw [if_pos (by rfl)]
                    go_simp
                    exact hK.out _ _ (Below.refl _ _) (rfl) (fun _ _ _ => ⟨trivial, trivial⟩)
                  refine FlowAll.cons ?_ ?_
                  · intro xF wq hR hd K hK
                    have dd18 : ((xF 18) = .bool false) := hd 18 (by kernel_rfl)
                    have dd22 : ((xF 22) = .agg #[.slice a1 n1 c1, .slice (some ⟨b0, off, none⟩) n2 c2]) := hd 22 (by kernel_rfl)
                    have dd24 : ((xF 24) = .int .i64 a) := hd 24 (by kernel_rfl)
                    clear hd
                    simp only [List.take_succ_cons, List.take_zero, fillOf, Act.put, List.setIfInBounds_toArray, List.set_cons_zero, List.set_cons_succ, Nat.reduceAdd, Nat.zero_add] at hK ⊢
                    try generalize xF 18 = yy18 at *
                    try generalize xF 22 = yy22 at *
                    try generalize xF 24 = yy24 at *
                    obtain rfl := dd18
                    obtain rfl := dd22
                    obtain rfl := dd24
                    obtain hbR := id hR
                    rw [if_pos (by rfl)]
                    go_simp
                    (go_at_call 33; (with_reducible refine (HU.out _ hR.1).mono ?_); rintro e wK ⟨rfl, hbK⟩)
                    try go_wp2_with fail
                    exact hK.out _ _ (hbK) (rfl) (fun _ _ _ => ⟨trivial, trivial⟩)
                  refine FlowAll.cons ?_ ?_
                  · intro xF wq hR hd K hK
                    have dd18 : ((xF 18) = .bool false) := hd 18 (by kernel_rfl)
                    have dd21 : ((xF 21) = .int .i64 (b - 1)) := hd 21 (by kernel_rfl)
                    have dd25 : ((xF 25) = .int .i64 kk) := hd 25 (by kernel_rfl)
                    clear hd
                    simp only [List.take_succ_cons, List.take_zero, fillOf, Act.put, List.setIfInBounds_toArray, List.set_cons_zero, List.set_cons_succ, Nat.reduceAdd, Nat.zero_add] at hK ⊢
                    try generalize xF 18 = yy18 at *
                    try generalize xF 21 = yy21 at *
                    try generalize xF 25 = yy25 at *
                    obtain rfl := dd18
                    obtain rfl := dd21
                    obtain rfl := dd25
                    obtain hbR := id hR
                    rw [if_pos (by rfl)]
                    go_simp
                    exact hK.out _ _ (Below.refl _ _) (rfl) (fun _ _ _ => ⟨trivial, trivial⟩)
                  refine FlowAll.cons ?_ ?_
                  · intro xF wq hR hd K hK
                    have dd18 : ((xF 18) = .bool false) := hd 18 (by kernel_rfl)
                    have dd26 : ((xF 26) = .bool true) := hd 26 (by kernel_rfl)
                    clear hd
                    simp only [List.take_succ_cons, List.take_zero, fillOf, Act.put, List.setIfInBounds_toArray, List.set_cons_zero, List.set_cons_succ, Nat.reduceAdd, Nat.zero_add] at hK ⊢
                    try generalize xF 18 = yy18 at *
                    try generalize xF 26 = yy26 at *
                    obtain rfl := dd18
                    obtain rfl := dd26
                    obtain hbR := id hR
                    rw [if_pos (by rfl)]
                    go_simp
                    exact hK.out _ _ (Below.refl _ _) (rfl) (fun _ _ _ => ⟨trivial, trivial⟩)
                  exact FlowAll.nil
                intro xF wq hR hF hP
                clear hP
                have dd0 : ((xF 0) = .agg #[.int .i64 a, .int .i64 b]) := hF 0 (by omega) (by decide)
                have dd1 : ((xF 1) = .bool true) := hF 1 (by omega) (by decide)
                have dd2 : ((xF 2) = .bool false) := hF 2 (by omega) (by decide)
                have dd3 : ((xF 3) = .bool false) := hF 3 (by omega) (by decide)
                have dd4 : ((xF 4) = .int .i64 (k : Int)) := hF 4 (by omega) (by decide)
                have dd5 : ((xF 5) = .bool false) := hF 5 (by omega) (by decide)
                have dd6 : ((xF 6) = .bool false) := hF 6 (by omega) (by decide)
                have dd7 : ((xF 7) = undef) := hF 7 (by omega) (by decide)
                have dd8 : ((xF 8) = undef) := hF 8 (by omega) (by decide)
                have dd9 : ((xF 9) = undef) := hF 9 (by omega) (by decide)
                have dd10 : ((xF 10) = undef) := hF 10 (by omega) (by decide)
                have dd11 : ((xF 11) = undef) := hF 11 (by omega) (by decide)
                have dd12 : ((xF 12) = undef) := hF 12 (by omega) (by decide)
                have dd13 : ((xF 13) = undef) := hF 13 (by omega) (by decide)
                have dd14 : ((xF 14) = undef) := hF 14 (by omega) (by decide)
                have dd15 : ((xF 15) = undef) := hF 15 (by omega) (by decide)
                have dd16 : ((xF 16) = .bool false) := hF 16 (by omega) (by decide)
                have dd17 : ((xF 17) = .bool false) := hF 17 (by omega) (by decide)
                have dd18 : ((xF 18) = .bool false) := hF 18 (by omega) (by decide)
                have dd19 : ((xF 19) = .pointer (some ⟨wr.heap.size, 1, none⟩)) := hF 19 (by omega) (by decide)
                have dd20 : ((xF 20) = .int .i64 b) := hF 20 (by omega) (by decide)
                have dd21 : ((xF 21) = .int .i64 (b - 1)) := hF 21 (by omega) (by decide)
                have dd22 : ((xF 22) = .agg #[.slice a1 n1 c1, .slice (some ⟨b0, off, none⟩) n2 c2]) := hF 22 (by omega) (by decide)
                have dd23 : ((xF 23) = .pointer (some ⟨wr.heap.size, 0, none⟩)) := hF 23 (by omega) (by decide)
                have dd24 : ((xF 24) = .int .i64 a) := hF 24 (by omega) (by decide)
                have dd25 : ((xF 25) = .int .i64 kk) := hF 25 (by omega) (by decide)
                have dd26 : ((xF 26) = .bool true) := hF 26 (by omega) (by decide)
                have dd27 : ((xF 27) = .bool true) := hF 27 (by omega) (by decide)
                clear hF
                simp only [List.take_succ_cons, List.take_zero, List.drop_succ_cons, List.drop_zero, fillOf, Act.put, List.setIfInBounds_toArray, List.set_cons_zero, List.set_cons_succ, Nat.reduceAdd, Nat.zero_add]
                try generalize xF 0 = yy0 at *
                try generalize xF 1 = yy1 at *
                try generalize xF 2 = yy2 at *
                try generalize xF 3 = yy3 at *
                try generalize xF 4 = yy4 at *
                try generalize xF 5 = yy5 at *
                try generalize xF 6 = yy6 at *
                try generalize xF 7 = yy7 at *
                try generalize xF 8 = yy8 at *
                try generalize xF 9 = yy9 at *
                try generalize xF 10 = yy10 at *
                try generalize xF 11 = yy11 at *
                try generalize xF 12 = yy12 at *
                try generalize xF 13 = yy13 at *
                try generalize xF 14 = yy14 at *
                try generalize xF 15 = yy15 at *
                try generalize xF 16 = yy16 at *
                try generalize xF 17 = yy17 at *
                try generalize xF 18 = yy18 at *
                try generalize xF 19 = yy19 at *
                try generalize xF 20 = yy20 at *
                try generalize xF 21 = yy21 at *
                try generalize xF 22 = yy22 at *
                try generalize xF 23 = yy23 at *
                try generalize xF 24 = yy24 at *
                try generalize xF 25 = yy25 at *
                try generalize xF 26 = yy26 at *
                try generalize xF 27 = yy27 at *
                clear xF
                obtain rfl := dd0
                obtain rfl := dd1
                obtain rfl := dd2
                obtain rfl := dd3
                obtain rfl := dd4
                obtain rfl := dd5
                obtain rfl := dd6
                obtain rfl := dd7
                obtain rfl := dd8
                obtain rfl := dd9
                obtain rfl := dd10
                obtain rfl := dd11
                obtain rfl := dd12
                obtain rfl := dd13
                obtain rfl := dd14
                obtain rfl := dd15
                obtain rfl := dd16
                obtain rfl := dd17
                obtain rfl := dd18
                obtain rfl := dd19
                obtain rfl := dd20
                obtain rfl := dd21
                obtain rfl := dd22
                obtain rfl := dd23
                obtain rfl := dd24
                obtain rfl := dd25
                obtain rfl := dd26
                obtain rfl := dd27
                have hRE := Lib.hid hR
                clear hR
                have hb9 := E1.trans (hRE.out.1.mono E1.size)
                clear hRE
                go_wp2
                go_ret
                exact ⟨rfl, hb9⟩
              · have HOK : Hid (∀ j, j < k + 1 → dm.Ok2 (dm.upK c.1) c.2 j) := fun j hj => by
                  obtain rfl : j = k := by omega
                  refine ⟨by rw [← HXE.out]; exact HVT.out, fun h => absurd h hk0, ?_⟩
                  rw [← HXE.out]; simp only; rw [HKK.out]; omega
                have hd : decide (b - 1 ≤ kk) = false := decide_eq_false hle
                go_wp2_with fail
                refine wp_flow 28 (fun _ => 1000) (fun ww => RowKit.Below w1.heap.size w1 ww ∧ ww.cell? ⟨wr.heap.size, 0, none⟩ = some (.int .i64 a) ∧ ww.cell? ⟨wr.heap.size, 1, none⟩ = some (.int .i64 b) ∧ wr.heap.size < ww.heap.size) (fun _ w w' => (fun (w w' : World) => RowKit.Below w.heap.size w w') w w') (fun kF vF wF => match kF with | 0 => (vF = .agg #[.int .i64 a, .int .i64 b]) | 1 => (vF = .bool true) | 2 => (vF = .bool false) | 3 => (vF = .bool false) | 4 => (vF = .int .i64 (k : Int)) | 5 => (vF = .bool false) | 6 => (vF = .bool false) | 7 => (vF = undef) | 8 => (vF = undef) | 9 => (vF = undef) | 10 => (vF = undef) | 11 => (vF = undef) | 12 => (vF = undef) | 13 => (vF = undef) | 14 => (vF = undef) | 15 => (vF = undef) | 16 => (vF = .bool false) | 17 => (vF = .bool false) | 18 => (vF = .bool false) | 19 => (vF = .pointer (some ⟨wr.heap.size, 1, none⟩)) | 20 => (vF = .int .i64 b) | 21 => (vF = .int .i64 (b - 1)) | 22 => (vF = .agg #[.slice a1 n1 c1, .slice (some ⟨b0, off, none⟩) n2 c2]) | 23 => (vF = .pointer (some ⟨wr.heap.size, 0, none⟩)) | 24 => (vF = .int .i64 a) | 25 => (vF = .int .i64 kk) | 26 => (vF = .bool false) | 27 => (vF = .bool false) | _ => True) (fun _ _ _ _ => True) (by kernel_rfl) (by kernel_rfl) ?_ ?_ ?_ ?_ ?_
                · exact ⟨D1.drew, HB.out.1, HB.out.2.1, HB.out.2.2⟩
                · intro iF wF1 wF2 hR hT; exact ⟨hR.1.trans (hT.mono hR.1.size), (hT.cell (p := ⟨wr.heap.size, 0, none⟩) hR.2.2.2).trans hR.2.1, (hT.cell (p := ⟨wr.heap.size, 1, none⟩) hR.2.2.2).trans hR.2.2.1, Nat.lt_of_lt_of_le hR.2.2.2 hT.size⟩
                · intro kF hkF iF hiF hne hdd hanc hdan vF wF1 wF2 h hT
                  rcases (by omega : kF = 0 ∨ kF = 1 ∨ kF = 2 ∨ kF = 3 ∨ kF = 4 ∨ kF = 5 ∨ kF = 6 ∨ kF = 7 ∨ kF = 8 ∨ kF = 9 ∨ kF = 10 ∨ kF = 11 ∨ kF = 12 ∨ kF = 13 ∨ kF = 14 ∨ kF = 15 ∨ kF = 16 ∨ kF = 17 ∨ kF = 18 ∨ kF = 19 ∨ kF = 20 ∨ kF = 21 ∨ kF = 22 ∨ kF = 23 ∨ kF = 24 ∨ kF = 25 ∨ kF = 26 ∨ kF = 27) with rfl | rfl | rfl | rfl | rfl | rfl | rfl | rfl | rfl | rfl | rfl | rfl | rfl | rfl | rfl | rfl | rfl | rfl | rfl | rfl | rfl | rfl | rfl | rfl | rfl | rfl | rfl | rfl
                  · exact h
                  · exact h
                  · exact h
                  · exact h
                  · exact h
                  · exact h
                  · exact h
                  · exact h
                  · exact h
                  · exact h
                  · exact h
                  · exact h
                  · exact h
                  · exact h
                  · exact h
                  · exact h
                  · exact h
                  · exact h
                  · exact h
                  · exact h
                  · exact h
                  · exact h
                  · exact h
                  · exact h
                  · exact h
                  · exact h
                  · exact h
                  · exact h
                · refine FlowAll.cons ?_ ?_
                  · intro xF wq hR hd K hK
                    clear hd
                    simp only [List.take_succ_cons, List.take_zero, fillOf, Act.put, List.setIfInBounds_toArray, List.set_cons_zero, List.set_cons_succ, Nat.reduceAdd, Nat.zero_add] at hK ⊢
                    obtain hbR := id hR
                    obtain ⟨_, z0, z1, _⟩ := id hR
                    rw [if_pos (by rfl)]
                    go_simp
                    exact hK.out _ _ (Below.refl _ _) (rfl) (fun _ _ _ => ⟨trivial, trivial⟩)
                  refine FlowAll.cons ?_ ?_
                  · intro xF wq hR hd K hK
                    have dd0 : ((xF 0) = .agg #[.int .i64 a, .int .i64 b]) := hd 0 (by kernel_rfl)
                    clear hd
                    simp only [List.take_succ_cons, List.take_zero, fillOf, Act.put, List.setIfInBounds_toArray, List.set_cons_zero, List.set_cons_succ, Nat.reduceAdd, Nat.zero_add] at hK ⊢
                    try generalize xF 0 = yy0 at *
                    obtain rfl := dd0
                    obtain hbR := id hR
                    rw [if_pos (by rfl)]
                    go_simp
                    (go_at_call 13; (with_reducible refine (HV.out _).mono ?_); rintro e wK ⟨rfl, hbK⟩)
                    try go_wp2_with fail
                    exact hK.out _ _ (hbK) (rfl) (fun _ _ _ => ⟨trivial, trivial⟩)
                  refine FlowAll.cons ?_ ?_
                  · intro xF wq hR hd K hK
                    have dd1 : ((xF 1) = .bool true) := hd 1 (by kernel_rfl)
                    clear hd
                    simp only [List.take_succ_cons, List.take_zero, fillOf, Act.put, List.setIfInBounds_toArray, List.set_cons_zero, List.set_cons_succ, Nat.reduceAdd, Nat.zero_add] at hK ⊢
                    try generalize xF 1 = yy1 at *
                    obtain rfl := dd1
                    obtain hbR := id hR
                    rw [if_pos (by rfl)]
                    go_simp
                    exact hK.out _ _ (Below.refl _ _) (rfl) (fun _ _ _ => ⟨trivial, trivial⟩)
                  refine FlowAll.cons ?_ ?_
                  · intro xF wq hR hd K hK
                    have dd2 : ((xF 2) = .bool false) := hd 2 (by kernel_rfl)
                    clear hd
                    simp only [List.take_succ_cons, List.take_zero, fillOf, Act.put, List.setIfInBounds_toArray, List.set_cons_zero, List.set_cons_succ, Nat.reduceAdd, Nat.zero_add] at hK ⊢
                    try generalize xF 2 = yy2 at *
                    obtain rfl := dd2
                    obtain hbR := id hR
                    rw [if_pos (by rfl)]
                    go_simp
                    exact hK.out _ _ (Below.refl _ _) (rfl) (fun _ _ _ => ⟨trivial, trivial⟩)
                  refine FlowAll.cons ?_ ?_
                  · intro xF wq hR hd K hK
                    have dd3 : ((xF 3) = .bool false) := hd 3 (by kernel_rfl)
                    clear hd
                    simp only [List.take_succ_cons, List.take_zero, fillOf, Act.put, List.setIfInBounds_toArray, List.set_cons_zero, List.set_cons_succ, Nat.reduceAdd, Nat.zero_add] at hK ⊢
                    try generalize xF 3 = yy3 at *
                    obtain rfl := dd3
                    obtain hbR := id hR
                    rw [if_pos (by rfl)]
                    go_simp
                    exact hK.out _ _ (Below.refl _ _) (rfl) (fun _ _ _ => ⟨trivial, trivial⟩)
                  refine FlowAll.cons ?_ ?_
                  · intro xF wq hR hd K hK
                    have dd3 : ((xF 3) = .bool false) := hd 3 (by kernel_rfl)
                    have dd4 : ((xF 4) = .int .i64 (k : Int)) := hd 4 (by kernel_rfl)
                    clear hd
                    simp only [List.take_succ_cons, List.take_zero, fillOf, Act.put, List.setIfInBounds_toArray, List.set_cons_zero, List.set_cons_succ, Nat.reduceAdd, Nat.zero_add] at hK ⊢
                    try generalize xF 3 = yy3 at *
                    try generalize xF 4 = yy4 at *
                    obtain rfl := dd3
                    obtain rfl := dd4
                    obtain hbR := id hR
                    rw [if_pos (by rfl)]
                    go_simp
                    exact hK.out _ _ (Below.refl _ _) (rfl) (fun _ _ _ => ⟨trivial, trivial⟩)
                  refine FlowAll.cons ?_ ?_
                  · intro xF wq hR hd K hK
                    have dd3 : ((xF 3) = .bool false) := hd 3 (by kernel_rfl)
                    have dd5 : ((xF 5) = .bool false) := hd 5 (by kernel_rfl)
                    clear hd
                    simp only [List.take_succ_cons, List.take_zero, fillOf, Act.put, List.setIfInBounds_toArray, List.set_cons_zero, List.set_cons_succ, Nat.reduceAdd, Nat.zero_add] at hK ⊢
                    try generalize xF 3 = yy3 at *
                    try generalize xF 5 = yy5 at *
                    obtain rfl := dd3
                    obtain rfl := dd5
                    obtain hbR := id hR
                    rw [if_pos (by rfl)]
                    go_simp
                    exact hK.out _ _ (Below.refl _ _) (rfl) (fun _ _ _ => ⟨trivial, trivial⟩)
                  refine FlowAll.cons ?_ ?_
                  · intro xF wq hR hd K hK
                    have dd6 : ((xF 6) = .bool false) := hd 6 (by kernel_rfl)
                    clear hd
                    simp only [List.take_succ_cons, List.take_zero, fillOf, Act.put, List.setIfInBounds_toArray, List.set_cons_zero, List.set_cons_succ, Nat.reduceAdd, Nat.zero_add] at hK ⊢
                    try generalize xF 6 = yy6 at *
                    obtain rfl := dd6
                    obtain hbR := id hR
                    rw [if_neg (by intro h; exact absurd (show false = true from h) Bool.false_ne_true)]
                    try simp only [Act.put, List.setIfInBounds_toArray, List.set_cons_zero, List.set_cons_succ]
                    exact hK.out _ _ (Below.refl _ _) (rfl) (fun _ _ _ => ⟨trivial, trivial⟩)
                  refine FlowAll.cons ?_ ?_
                  · intro xF wq hR hd K hK
                    have dd6 : ((xF 6) = .bool false) := hd 6 (by kernel_rfl)
                    clear hd
                    simp only [List.take_succ_cons, List.take_zero, fillOf, Act.put, List.setIfInBounds_toArray, List.set_cons_zero, List.set_cons_succ, Nat.reduceAdd, Nat.zero_add] at hK ⊢
                    try generalize xF 6 = yy6 at *
                    obtain rfl := dd6
                    obtain hbR := id hR
                    rw [if_neg (by intro h; exact absurd (show false = true from h) Bool.false_ne_true)]
                    try simp only [Act.put, List.setIfInBounds_toArray, List.set_cons_zero, List.set_cons_succ]
                    exact hK.out _ _ (Below.refl _ _) (rfl) (fun _ _ _ => ⟨trivial, trivial⟩)
                  refine FlowAll.cons ?_ ?_
                  · intro xF wq hR hd K hK
                    have dd6 : ((xF 6) = .bool false) := hd 6 (by kernel_rfl)
                    clear hd
                    simp only [List.take_succ_cons, List.take_zero, fillOf, Act.put, List.setIfInBounds_toArray, List.set_cons_zero, List.set_cons_succ, Nat.reduceAdd, Nat.zero_add] at hK ⊢
                    try generalize xF 6 = yy6 at *
                    obtain rfl := dd6
                    obtain hbR := id hR
                    rw [if_neg (by intro h; exact absurd (show false = true from h) Bool.false_ne_true)]
                    try simp only [Act.put, List.setIfInBounds_toArray, List.set_cons_zero, List.set_cons_succ]
                    exact hK.out _ _ (Below.refl _ _) (rfl) (fun _ _ _ => ⟨trivial, trivial⟩)
                  refine FlowAll.cons ?_ ?_
                  · intro xF wq hR hd K hK
                    have dd6 : ((xF 6) = .bool false) := hd 6 (by kernel_rfl)
                    clear hd
                    simp only [List.take_succ_cons, List.take_zero, fillOf, Act.put, List.setIfInBounds_toArray, List.set_cons_zero, List.set_cons_succ, Nat.reduceAdd, Nat.zero_add] at hK ⊢
                    try generalize xF 6 = yy6 at *
                    obtain rfl := dd6
                    obtain hbR := id hR
                    rw [if_neg (by intro h; exact absurd (show false = true from h) Bool.false_ne_true)]
                    try simp only [Act.put, List.setIfInBounds_toArray, List.set_cons_zero, List.set_cons_succ]
                    exact hK.out _ _ (Below.refl _ _) (rfl) (fun _ _ _ => ⟨trivial, trivial⟩)
                  refine FlowAll.cons ?_ ?_
                  · intro xF wq hR hd K hK
                    have dd6 : ((xF 6) = .bool false) := hd 6 (by kernel_rfl)
                    clear hd
                    simp only [List.take_succ_cons, List.take_zero, fillOf, Act.put, List.setIfInBounds_toArray, List.set_cons_zero, List.set_cons_succ, Nat.reduceAdd, Nat.zero_add] at hK ⊢
                    try generalize xF 6 = yy6 at *
                    obtain rfl := dd6
                    obtain hbR := id hR
                    rw [if_neg (by intro h; exact absurd (show false = true from h) Bool.false_ne_true)]
                    try simp only [Act.put, List.setIfInBounds_toArray, List.set_cons_zero, List.set_cons_succ]
                    exact hK.out _ _ (Below.refl _ _) (rfl) (fun _ _ _ => ⟨trivial, trivial⟩)
                  refine FlowAll.cons ?_ ?_
                  · intro xF wq hR hd K hK
                    have dd6 : ((xF 6) = .bool false) := hd 6 (by kernel_rfl)
                    clear hd
                    simp only [List.take_succ_cons, List.take_zero, fillOf, Act.put, List.setIfInBounds_toArray, List.set_cons_zero, List.set_cons_succ, Nat.reduceAdd, Nat.zero_add] at hK ⊢
                    try generalize xF 6 = yy6 at *
                    obtain rfl := dd6
                    obtain hbR := id hR
                    rw [if_neg (by intro h; exact absurd (show false = true from h) Bool.false_ne_true)]
                    try simp only [Act.put, List.setIfInBounds_toArray, List.set_cons_zero, List.set_cons_succ]
                    exact hK.out _ _ (Below.refl _ _) (rfl) (fun _ _ _ => ⟨trivial, trivial⟩)
                  refine FlowAll.cons ?_ ?_
                  · intro xF wq hR hd K hK
                    have dd6 : ((xF 6) = .bool false) := hd 6 (by kernel_rfl)
                    clear hd
                    simp only [List.take_succ_cons, List.take_zero, fillOf, Act.put, List.setIfInBounds_toArray, List.set_cons_zero, List.set_cons_succ, Nat.reduceAdd, Nat.zero_add] at hK ⊢
                    try generalize xF 6 = yy6 at *
                    obtain rfl := dd6
                    obtain hbR := id hR
                    rw [if_neg (by intro h; exact absurd (show false = true from h) Bool.false_ne_true)]
                    try simp only [Act.put, List.setIfInBounds_toArray, List.set_cons_zero, List.set_cons_succ]
                    exact hK.out _ _ (Below.refl _ _) (rfl) (fun _ _ _ => ⟨trivial, trivial⟩)
                  refine FlowAll.cons ?_ ?_
                  · intro xF wq hR hd K hK
                    have dd6 : ((xF 6) = .bool false) := hd 6 (by kernel_rfl)
                    clear hd
                    simp only [List.take_succ_cons, List.take_zero, fillOf, Act.put, List.setIfInBounds_toArray, List.set_cons_zero, List.set_cons_succ, Nat.reduceAdd, Nat.zero_add] at hK ⊢
                    try generalize xF 6 = yy6 at *
                    obtain rfl := dd6
                    obtain hbR := id hR
                    rw [if_neg (by intro h; exact absurd (show false = true from h) Bool.false_ne_true)]
                    try simp only [Act.put, List.setIfInBounds_toArray, List.set_cons_zero, List.set_cons_succ]
                    exact hK.out _ _ (Below.refl _ _) (rfl) (fun _ _ _ => ⟨trivial, trivial⟩)
                  refine FlowAll.cons ?_ ?_
                  · intro xF wq hR hd K hK
                    have dd6 : ((xF 6) = .bool false) := hd 6 (by kernel_rfl)
                    clear hd
                    simp only [List.take_succ_cons, List.take_zero, fillOf, Act.put, List.setIfInBounds_toArray, List.set_cons_zero, List.set_cons_succ, Nat.reduceAdd, Nat.zero_add] at hK ⊢
                    try generalize xF 6 = yy6 at *
                    obtain rfl := dd6
                    obtain hbR := id hR
                    rw [if_neg (by intro h; exact absurd (show false = true from h) Bool.false_ne_true)]
                    try simp only [Act.put, List.setIfInBounds_toArray, List.set_cons_zero, List.set_cons_succ]
                    exact hK.out _ _ (Below.refl _ _) (rfl) (fun _ _ _ => ⟨trivial, trivial⟩)
                  refine FlowAll.cons ?_ ?_
                  · intro xF wq hR hd K hK
                    have dd3 : ((xF 3) = .bool false) := hd 3 (by kernel_rfl)
                    have dd6 : ((xF 6) = .bool false) := hd 6 (by kernel_rfl)
                    have dd15 : ((xF 15) = undef) := hd 15 (by kernel_rfl)
                    clear hd
                    simp only [List.take_succ_cons, List.take_zero, fillOf, Act.put, List.setIfInBounds_toArray, List.set_cons_zero, List.set_cons_succ, Nat.reduceAdd, Nat.zero_add] at hK ⊢
                    try generalize xF 3 = yy3 at *
                    try generalize xF 6 = yy6 at *
                    try generalize xF 15 = yy15 at *
                    obtain rfl := dd3
                    obtain rfl := dd6
                    obtain rfl := dd15
                    obtain hbR := id hR
                    rw [if_pos (by rfl)]
                    go_simp
                    exact hK.out _ _ (Below.refl _ _) (rfl) (fun _ _ _ => ⟨trivial, trivial⟩)
                  refine FlowAll.cons ?_ ?_
                  · intro xF wq hR hd K hK
                    have dd3 : ((xF 3) = .bool false) := hd 3 (by kernel_rfl)
                    have dd16 : ((xF 16) = .bool false) := hd 16 (by kernel_rfl)
                    clear hd
                    simp only [List.take_succ_cons, List.take_zero, fillOf, Act.put, List.setIfInBounds_toArray, List.set_cons_zero, List.set_cons_succ, Nat.reduceAdd, Nat.zero_add] at hK ⊢
                    try generalize xF 3 = yy3 at *
                    try generalize xF 16 = yy16 at *
                    obtain rfl := dd3
                    obtain rfl := dd16
                    obtain hbR := id hR
                    rw [if_pos (by rfl)]
                    go_simp
                    exact hK.out _ _ (Below.refl _ _) (rfl) (fun _ _ _ => ⟨trivial, trivial⟩)
                  refine FlowAll.cons ?_ ?_
                  · intro xF wq hR hd K hK
                    have dd17 : ((xF 17) = .bool false) := hd 17 (by kernel_rfl)
                    clear hd
                    simp only [List.take_succ_cons, List.take_zero, fillOf, Act.put, List.setIfInBounds_toArray, List.set_cons_zero, List.set_cons_succ, Nat.reduceAdd, Nat.zero_add] at hK ⊢
                    try generalize xF 17 = yy17 at *
                    obtain rfl := dd17
                    obtain hbR := id hR
                    rw [if_pos (by rfl)]
                    go_simp
                    exact hK.out _ _ (Below.refl _ _) (rfl) (fun _ _ _ => ⟨trivial, trivial⟩)
                  refine FlowAll.cons ?_ ?_
                  · intro xF wq hR hd K hK
                    have dd18 : ((xF 18) = .bool false) := hd 18 (by kernel_rfl)
                    clear hd
                    simp only [List.take_succ_cons, List.take_zero, fillOf, Act.put, List.setIfInBounds_toArray, List.set_cons_zero, List.set_cons_succ, Nat.reduceAdd, Nat.zero_add] at hK ⊢
                    try generalize xF 18 = yy18 at *
                    obtain rfl := dd18
                    obtain hbR := id hR
                    rw [if_pos (by rfl)]
                    go_simp
                    exact hK.out _ _ (Below.refl _ _) (rfl) (fun _ _ _ => ⟨trivial, trivial⟩)
                  refine FlowAll.cons ?_ ?_
                  · intro xF wq hR hd K hK
                    have dd18 : ((xF 18) = .bool false) := hd 18 (by kernel_rfl)
                    have dd19 : ((xF 19) = .pointer (some ⟨wr.heap.size, 1, none⟩)) := hd 19 (by kernel_rfl)
                    clear hd
                    simp only [List.take_succ_cons, List.take_zero, fillOf, Act.put, List.setIfInBounds_toArray, List.set_cons_zero, List.set_cons_succ, Nat.reduceAdd, Nat.zero_add] at hK ⊢
                    try generalize xF 18 = yy18 at *
                    try generalize xF 19 = yy19 at *
                    obtain rfl := dd18
                    obtain rfl := dd19
                    obtain hbR := id hR
                    obtain ⟨_, z0, z1, _⟩ := id hR
                    rw [if_pos (by rfl)]
                    go_simp
                    exact hK.out _ _ (Below.refl _ _) (rfl) (fun _ _ _ => ⟨trivial, trivial⟩)
                  refine FlowAll.cons ?_ ?_
                  · intro xF wq hR hd K hK
                    have dd18 : ((xF 18) = .bool false) := hd 18 (by kernel_rfl)
                    have dd20 : ((xF 20) = .int .i64 b) := hd 20 (by kernel_rfl)
                    clear hd
                    simp only [List.take_succ_cons, List.take_zero, fillOf, Act.put, List.setIfInBounds_toArray, List.set_cons_zero, List.set_cons_succ, Nat.reduceAdd, Nat.zero_add] at hK ⊢
                    try generalize xF 18 = yy18 at *
                    try generalize xF 20 = yy20 at *
                    obtain rfl := dd18
                    obtain rfl := dd20
                    obtain hbR := id hR
                    rw [if_pos (by rfl)]
                    go_simp
                    exact hK.out _ _ (Below.refl _ _) (rfl) (fun _ _ _ => ⟨trivial, trivial⟩)
                  refine FlowAll.cons ?_ ?_
                  · intro xF wq hR hd K hK
                    have dd18 : ((xF 18) = .bool false) := hd 18 (by kernel_rfl)
                    clear hd
                    simp only [List.take_succ_cons, List.take_zero, fillOf, Act.put, List.setIfInBounds_toArray, List.set_cons_zero, List.set_cons_succ, Nat.reduceAdd, Nat.zero_add] at hK ⊢
                    try generalize xF 18 = yy18 at *
                    obtain rfl := dd18
                    obtain hbR := id hR
                    obtain ⟨x0, x1⟩ := HX.out _ hR.1
                    rw [if_pos (by rfl)]
                    go_simp
                    exact hK.out _ _ (Below.refl _ _) (rfl) (fun _ _ _ => ⟨trivial, trivial⟩)
                  refine FlowAll.cons ?_ ?_
                  · intro xF wq hR hd K hK
                    have dd18 : ((xF 18) = .bool false) := hd 18 (by kernel_rfl)
                    clear hd
                    simp only [List.take_succ_cons, List.take_zero, fillOf, Act.put, List.setIfInBounds_toArray, List.set_cons_zero, List.set_cons_succ, Nat.reduceAdd, Nat.zero_add] at hK ⊢
                    try generalize xF 18 = yy18 at *
                    obtain rfl := dd18
                    obtain hbR := id hR
                    rw [if_pos (by rfl)]
                    go_simp
                    exact hK.out _ _ (Below.refl _ _) (rfl) (fun _ _ _ => ⟨trivial, trivial⟩)
                  refine FlowAll.cons ?_ ?_
                  · intro xF wq hR hd K hK
                    have dd18 : ((xF 18) = .bool false) := hd 18 (by kernel_rfl)
                    have dd23 : ((xF 23) = .pointer (some ⟨wr.heap.size, 0, none⟩)) := hd 23 (by kernel_rfl)
                    clear hd
                    simp only [List.take_succ_cons, List.take_zero, fillOf, Act.put, List.setIfInBounds_toArray, List.set_cons_zero, List.set_cons_succ, Nat.reduceAdd, Nat.zero_add] at hK ⊢
                    try generalize xF 18 = yy18 at *
                    try generalize xF 23 = yy23 at *
                    obtain rfl := dd18
                    obtain rfl := dd23
                    obtain hbR := id hR
                    obtain ⟨_, z0, z1, _⟩ := id hR
                    rw [if_pos (by rfl)]
                    go_simp
                    exact hK.out _ _ (Below.refl _ _) (rfl) (fun _ _ _ => ⟨trivial, trivial⟩)
                  refine FlowAll.cons ?_ ?_
                  · intro xF wq hR hd K hK
                    have dd18 : ((xF 18) = .bool false) := hd 18 (by kernel_rfl)
                    have dd22 : ((xF 22) = .agg #[.slice a1 n1 c1, .slice (some ⟨b0, off, none⟩) n2 c2]) := hd 22 (by kernel_rfl)
                    have dd24 : ((xF 24) = .int .i64 a) := hd 24 (by kernel_rfl)
                    clear hd
                    simp only [List.take_succ_cons, List.take_zero, fillOf, Act.put, List.setIfInBounds_toArray, List.set_cons_zero, List.set_cons_succ, Nat.reduceAdd, Nat.zero_add] at hK ⊢
                    try generalize xF 18 = yy18 at *
                    try generalize xF 22 = yy22 at *
                    try generalize xF 24 = yy24 at *
                    obtain rfl := dd18
                    obtain rfl := dd22
                    obtain rfl := dd24
                    obtain hbR := id hR
                    rw [if_pos (by rfl)]
                    go_simp
                    (go_at_call 33; (with_reducible refine (HU.out _ hR.1).mono ?_); rintro e wK ⟨rfl, hbK⟩)
                    try go_wp2_with fail
                    exact hK.out _ _ (hbK) (rfl) (fun _ _ _ => ⟨trivial, trivial⟩)
                  refine FlowAll.cons ?_ ?_
                  · intro xF wq hR hd K hK
                    have dd18 : ((xF 18) = .bool false) := hd 18 (by kernel_rfl)
                    have dd21 : ((xF 21) = .int .i64 (b - 1)) := hd 21 (by kernel_rfl)
                    have dd25 : ((xF 25) = .int .i64 kk) := hd 25 (by kernel_rfl)
                    clear hd
                    simp only [List.take_succ_cons, List.take_zero, fillOf, Act.put, List.setIfInBounds_toArray, List.set_cons_zero, List.set_cons_succ, Nat.reduceAdd, Nat.zero_add] at hK ⊢
                    try generalize xF 18 = yy18 at *
                    try generalize xF 21 = yy21 at *
                    try generalize xF 25 = yy25 at *
                    obtain rfl := dd18
                    obtain rfl := dd21
                    obtain rfl := dd25
                    obtain hbR := id hR
                    rw [if_pos (by rfl)]
                    go_simp
                    exact hK.out _ _ (Below.refl _ _) (rfl) (fun _ _ _ => ⟨trivial, trivial⟩)
                  refine FlowAll.cons ?_ ?_
                  · intro xF wq hR hd K hK
                    have dd18 : ((xF 18) = .bool false) := hd 18 (by kernel_rfl)
                    have dd26 : ((xF 26) = .bool false) := hd 26 (by kernel_rfl)
                    clear hd
                    simp only [List.take_succ_cons, List.take_zero, fillOf, Act.put, List.setIfInBounds_toArray, List.set_cons_zero, List.set_cons_succ, Nat.reduceAdd, Nat.zero_add] at hK ⊢
                    try generalize xF 18 = yy18 at *
                    try generalize xF 26 = yy26 at *
                    obtain rfl := dd18
                    obtain rfl := dd26
                    obtain hbR := id hR
                    rw [if_pos (by rfl)]
                    go_simp
                    exact hK.out _ _ (Below.refl _ _) (rfl) (fun _ _ _ => ⟨trivial, trivial⟩)
                  exact FlowAll.nil
                intro xF wq hR hF hP
                clear hP
                have dd0 : ((xF 0) = .agg #[.int .i64 a, .int .i64 b]) := hF 0 (by omega) (by decide)
                have dd1 : ((xF 1) = .bool true) := hF 1 (by omega) (by decide)
                have dd2 : ((xF 2) = .bool false) := hF 2 (by omega) (by decide)
                have dd3 : ((xF 3) = .bool false) := hF 3 (by omega) (by decide)
                have dd4 : ((xF 4) = .int .i64 (k : Int)) := hF 4 (by omega) (by decide)
                have dd5 : ((xF 5) = .bool false) := hF 5 (by omega) (by decide)
                have dd6 : ((xF 6) = .bool false) := hF 6 (by omega) (by decide)
                have dd7 : ((xF 7) = undef) := hF 7 (by omega) (by decide)
                have dd8 : ((xF 8) = undef) := hF 8 (by omega) (by decide)
                have dd9 : ((xF 9) = undef) := hF 9 (by omega) (by decide)
                have dd10 : ((xF 10) = undef) := hF 10 (by omega) (by decide)
                have dd11 : ((xF 11) = undef) := hF 11 (by omega) (by decide)
                have dd12 : ((xF 12) = undef) := hF 12 (by omega) (by decide)
                have dd13 : ((xF 13) = undef) := hF 13 (by omega) (by decide)
                have dd14 : ((xF 14) = undef) := hF 14 (by omega) (by decide)
                have dd15 : ((xF 15) = undef) := hF 15 (by omega) (by decide)
                have dd16 : ((xF 16) = .bool false) := hF 16 (by omega) (by decide)
                have dd17 : ((xF 17) = .bool false) := hF 17 (by omega) (by decide)
                have dd18 : ((xF 18) = .bool false) := hF 18 (by omega) (by decide)
                have dd19 : ((xF 19) = .pointer (some ⟨wr.heap.size, 1, none⟩)) := hF 19 (by omega) (by decide)
                have dd20 : ((xF 20) = .int .i64 b) := hF 20 (by omega) (by decide)
                have dd21 : ((xF 21) = .int .i64 (b - 1)) := hF 21 (by omega) (by decide)
                have dd22 : ((xF 22) = .agg #[.slice a1 n1 c1, .slice (some ⟨b0, off, none⟩) n2 c2]) := hF 22 (by omega) (by decide)
                have dd23 : ((xF 23) = .pointer (some ⟨wr.heap.size, 0, none⟩)) := hF 23 (by omega) (by decide)
                have dd24 : ((xF 24) = .int .i64 a) := hF 24 (by omega) (by decide)
                have dd25 : ((xF 25) = .int .i64 kk) := hF 25 (by omega) (by decide)
                have dd26 : ((xF 26) = .bool false) := hF 26 (by omega) (by decide)
                have dd27 : ((xF 27) = .bool false) := hF 27 (by omega) (by decide)
                clear hF
                simp only [List.take_succ_cons, List.take_zero, List.drop_succ_cons, List.drop_zero, fillOf, Act.put, List.setIfInBounds_toArray, List.set_cons_zero, List.set_cons_succ, Nat.reduceAdd, Nat.zero_add]
                try generalize xF 0 = yy0 at *
                try generalize xF 1 = yy1 at *
                try generalize xF 2 = yy2 at *
                try generalize xF 3 = yy3 at *
                try generalize xF 4 = yy4 at *
                try generalize xF 5 = yy5 at *
                try generalize xF 6 = yy6 at *
                try generalize xF 7 = yy7 at *
                try generalize xF 8 = yy8 at *
                try generalize xF 9 = yy9 at *
                try generalize xF 10 = yy10 at *
                try generalize xF 11 = yy11 at *
                try generalize xF 12 = yy12 at *
                try generalize xF 13 = yy13 at *
                try generalize xF 14 = yy14 at *
                try generalize xF 15 = yy15 at *
                try generalize xF 16 = yy16 at *
                try generalize xF 17 = yy17 at *
                try generalize xF 18 = yy18 at *
                try generalize xF 19 = yy19 at *
                try generalize xF 20 = yy20 at *
                try generalize xF 21 = yy21 at *
                try generalize xF 22 = yy22 at *
                try generalize xF 23 = yy23 at *
                try generalize xF 24 = yy24 at *
                try generalize xF 25 = yy25 at *
                try generalize xF 26 = yy26 at *
                try generalize xF 27 = yy27 at *
                clear xF
                obtain rfl := dd0
                obtain rfl := dd1
                obtain rfl := dd2
                obtain rfl := dd3
                obtain rfl := dd4
                obtain rfl := dd5
                obtain rfl := dd6
                obtain rfl := dd7
                obtain rfl := dd8
                obtain rfl := dd9
                obtain rfl := dd10
                obtain rfl := dd11
                obtain rfl := dd12
                obtain rfl := dd13
                obtain rfl := dd14
                obtain rfl := dd15
                obtain rfl := dd16
                obtain rfl := dd17
                obtain rfl := dd18
                obtain rfl := dd19
                obtain rfl := dd20
                obtain rfl := dd21
                obtain rfl := dd22
                obtain rfl := dd23
                obtain rfl := dd24
                obtain rfl := dd25
                obtain rfl := dd26
                obtain rfl := dd27
                have hRE := Lib.hid hR
                clear hR
                have D9 := hRE.out.1
                clear hRE
                go_wp2
                go_roundw
                case rel => exact ⟨k + 1, by go_num, by omega, HOK, D9⟩
                case measure => simp [intOf]; omega
        · obtain rfl : k = n2 := by omega
          obtain rfl : R = true := HT.out HO.out HO2.out
          have hb9 := E1.trans (D.mono E1.size)
          go_wp2
          go_ret
          exact ⟨rfl, hb9⟩
end Go.Proofs.Ytdcmoeklldkccaa
