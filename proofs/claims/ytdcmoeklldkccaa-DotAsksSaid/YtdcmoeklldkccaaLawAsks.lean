/- law DotAsks; the law's far. -/
import Derived.Test.YtdcmoeklldkccaaDotBox
import Derived.Test.YtdcmoeklldkccaaDotRef2
namespace Go.Proofs.Ytdcmoeklldkccaa
open Go Go.RowKit Go.ChangeShapes cl Go.Sort

set_option maxHeartbeats 3200000 in
set_option maxRecDepth 100000 in
theorem far_any (n g : Nat) (a1 a2 : Nat → Option Addr) (m1 m2 c1 c2 : Nat → Nat) (R : Bool) (w : World) (hc : ∀ j, j < n → w.cell? ⟨g, j * 2, none⟩ = some (.slice (a1 j) (m1 j) (c1 j)) ∧ w.cell? ⟨g, j * 2 + 1, none⟩ = some (.slice (a2 j) (m2 j) (c2 j)))
    (hg : g < w.heap.size) (hn : n ≤ 10) (hR1 : ∀ j, j < n → 40 < m1 j ∨ 60 < m2 j → R = true) (hR0 : (∀ j, j < n → ¬ (40 < m1 j) ∧ ¬ (60 < m2 j)) → R = false) :
    Calls Try.prog 10 #[.slice (some ⟨g, 0, none⟩) n n] w (Said R w) := by
  have HC := Lib.hid hc
  have H1 := Lib.hid hR1
  have H0 := Lib.hid hR0
  clear hc hR1 hR0
  go_enter Try.func10, Try.ntmps10
  go_wp2
  go_loopw [7, 21] (fun i _ wr => ∃ k : Nat, i = .int .i64 k ∧ k ≤ n ∧ Hid (∀ j, j < k → ¬ (40 < m1 j) ∧ ¬ (60 < m2 j)) ∧ Below w.heap.size w wr) (fun i _ _ => n - (intOf i).toNat)
  case atStart => exact ⟨0, rfl, Nat.zero_le _, fun j hj => absurd hj (Nat.not_lt_zero _), Below.refl _ _⟩
  case round =>
    obtain ⟨k, rfl, hk, HO, D⟩ := hrel
    by_cases hlt : k < n
    · have p0 := (D.cell (p := ⟨g, k * 2, none⟩) hg).trans (HC.out k hlt).1
      have p1 := (D.cell (p := ⟨g, k * 2 + 1, none⟩) hg).trans (HC.out k hlt).2
      have HF := Lib.hid (H1.out k hlt)
      obtain ⟨x1, hx1⟩ : ∃ x, x = a1 k := ⟨_, rfl⟩
      obtain ⟨x2, hx2⟩ : ∃ x, x = a2 k := ⟨_, rfl⟩
      obtain ⟨y1, hy1⟩ : ∃ x, x = m1 k := ⟨_, rfl⟩
      obtain ⟨y2, hy2⟩ : ∃ x, x = m2 k := ⟨_, rfl⟩
      obtain ⟨z1, hz1⟩ : ∃ x, x = c1 k := ⟨_, rfl⟩
      obtain ⟨z2, hz2⟩ : ∃ x, x = c2 k := ⟨_, rfl⟩
      rw [← hx1, ← hy1, ← hz1] at p0
      rw [← hx2, ← hy2, ← hz2] at p1
      rw [← hy1, ← hy2] at HF
      have HY1 := Lib.hid hy1
      have HY2 := Lib.hid hy2
      have hkI : (k : Int) < (n : Int) := by omega
      have D1 : Below w.heap.size w (wr.alloc (.cells #[.slice x1 y1 z1, .slice x2 y2 z2] 24)) := D.trans (ctx_below.mono D.size)
      clear hx1 hx2 hy1 hy2 hz1 hz2
      by_cases h1 : 40 < y1
      · obtain rfl : R = true := HF.out (Or.inl h1)
        have hd : decide ((40 : Int) < (y1 : Int)) = true := decide_eq_true (by omega)
        have hd' : (40 : Int) < (y1 : Int) := by omega
        go_wp2
        go_ret
        exact ⟨rfl, D1⟩
      · have hd : decide ((40 : Int) < (y1 : Int)) = false := decide_eq_false (by omega)
        have hd' : ¬ (40 : Int) < (y1 : Int) := by omega
        by_cases h2 : 60 < y2
        · obtain rfl : R = true := HF.out (Or.inr h2)
          have he : decide ((60 : Int) < (y2 : Int)) = true := decide_eq_true (by omega)
          have he' : (60 : Int) < (y2 : Int) := by omega
          go_wp2
          go_ret
          exact ⟨rfl, D1⟩
        · have he : decide ((60 : Int) < (y2 : Int)) = false := decide_eq_false (by omega)
          have he' : ¬ (60 : Int) < (y2 : Int) := by omega
          have HO2 : Hid (∀ j, j < k + 1 → ¬ (40 < m1 j) ∧ ¬ (60 < m2 j)) := fun j hj => by
            by_cases e : j = k
            · subst e; rw [← HY1.out, ← HY2.out]; exact ⟨h1, h2⟩
            · exact HO.out j (by omega)
          go_wp2
          go_roundw
          case rel => exact ⟨k + 1, by go_num, by omega, HO2, D1⟩
          case measure => simp [intOf]; omega
    · obtain rfl : k = n := by omega
      obtain rfl : R = false := H0.out HO.out
      go_wp2
      go_ret
      exact ⟨rfl, D⟩
set_option maxHeartbeats 8000000 in
set_option maxRecDepth 100000 in
theorem asks_law (c : dm.Ctx) (du dv eu ev : Int) (v : Value) (w : World) (h : CtxAt w w.heap.size v c) :
    Calls Try.prog 3 #[v, .agg #[.int .i64 du, .int .i64 dv], .agg #[.int .i64 eu, .int .i64 ev]] w (Said true w) := by
  obtain ⟨a1, n1, c1, a2, n2, c2, rfl, hn1, hn2⟩ := h.form
  have HC := Lib.hid h
  have HN1 := Lib.hid hn1
  have HN2 := Lib.hid hn2
  have hf1 : n1 ≤ 9223372036854775807 := by
    obtain ⟨_, _, e, _, h9⟩ := h.parts.1.form
    rw [hn1]; unfold maxLen at h9; exact h9
  have hf2 : n2 ≤ 9223372036854775807 := by
    obtain ⟨_, _, e, _, h9⟩ := h.parts.2.form
    rw [hn2]; unfold maxLen at h9; exact h9
  clear h hn1 hn2
  have HAW : Hid (∀ W, Calls Try.prog 11 #[] W (Said true W)) := fun W => awake_any W
  obtain ⟨W1, hW1⟩ : ∃ W, W = ((w.alloc (.cells #[.slice a1 n1 c1, .slice a2 n2 c2] 24)).alloc (.cells #[.int .i64 du, .int .i64 dv] 26)).alloc (.cells #[.int .i64 eu, .int .i64 ev] 26) := ⟨_, rfl⟩
  have E1 : Below w.heap.size w W1 := by rw [hW1]; exact (((Below.refl _ _).alloc (Nat.le_refl _) _).alloc (by simp) _).alloc (by simp <;> omega) _
  have x0 : W1.cell? ⟨w.heap.size, 0, none⟩ = some (.slice a1 n1 c1) := by rw [hW1]; go_simp
  have x1 : W1.cell? ⟨w.heap.size, 1, none⟩ = some (.slice a2 n2 c2) := by rw [hW1]; go_simp
  have x2 : W1.cell? ⟨w.heap.size + 1, 0, none⟩ = some (.int .i64 du) := by rw [hW1]; go_simp
  have x3 : W1.cell? ⟨w.heap.size + 1, 1, none⟩ = some (.int .i64 dv) := by rw [hW1]; go_simp
  have x4 : W1.cell? ⟨w.heap.size + 1 + 1, 0, none⟩ = some (.int .i64 eu) := by rw [hW1]; go_simp
  have x5 : W1.cell? ⟨w.heap.size + 1 + 1, 1, none⟩ = some (.int .i64 ev) := by rw [hW1]; go_simp
  have hs1 : w.heap.size + 3 ≤ W1.heap.size := by rw [hW1]; simp
  have HX : Hid (∀ W, Below W1.heap.size W1 W → W.cell? ⟨w.heap.size, 0, none⟩ = some (.slice a1 n1 c1) ∧ W.cell? ⟨w.heap.size, 1, none⟩ = some (.slice a2 n2 c2) ∧ W.cell? ⟨w.heap.size + 1, 0, none⟩ = some (.int .i64 du) ∧ W.cell? ⟨w.heap.size + 1, 1, none⟩ = some (.int .i64 dv) ∧ W.cell? ⟨w.heap.size + 1 + 1, 0, none⟩ = some (.int .i64 eu) ∧ W.cell? ⟨w.heap.size + 1 + 1, 1, none⟩ = some (.int .i64 ev)) := fun W hW =>
    ⟨(hW.cell (p := ⟨w.heap.size, 0, none⟩) (by show w.heap.size < _; omega)).trans x0, (hW.cell (p := ⟨w.heap.size, 1, none⟩) (by show w.heap.size < _; omega)).trans x1, (hW.cell (p := ⟨w.heap.size + 1, 0, none⟩) (by show w.heap.size + 1 < _; omega)).trans x2, (hW.cell (p := ⟨w.heap.size + 1, 1, none⟩) (by show w.heap.size + 1 < _; omega)).trans x3,
     (hW.cell (p := ⟨w.heap.size + 1 + 1, 0, none⟩) (by show w.heap.size + 1 + 1 < _; omega)).trans x4, (hW.cell (p := ⟨w.heap.size + 1 + 1, 1, none⟩) (by show w.heap.size + 1 + 1 < _; omega)).trans x5⟩
  have HW1 := Lib.hid hW1
  have HCW : Hid (∀ W, Below W1.heap.size W1 W → CtxAt W W.heap.size (.agg #[.slice a1 n1 c1, .slice a2 n2 c2]) c) := fun W hW => HC.out.next (E1.trans (hW.mono E1.size))
  obtain ⟨V, hV⟩ : ∃ V, V = valid (du, dv) := ⟨_, rfl⟩
  obtain ⟨L, hL⟩ : ∃ V, V = dless (du, dv) (eu, ev) := ⟨_, rfl⟩
  obtain ⟨H, hH⟩ : ∃ V, V = dm.hasF c (du, dv) := ⟨_, rfl⟩
  obtain ⟨R, hR⟩ : ∃ V, V = dm.rightB c := ⟨_, rfl⟩
  have HV1 : Hid (∀ W, Calls Try.prog 12 #[.agg #[.int .i64 du, .int .i64 dv]] W (Said V W)) := fun W => by rw [hV]; exact valid_any (du, dv) W
  have HV2 : Hid (∀ W, Calls Try.prog 13 #[.agg #[.int .i64 du, .int .i64 dv]] W (Said V W)) := fun W => by rw [hV]; exact rvalid_any (du, dv) W
  have HL1 : Hid (∀ W, Calls Try.prog 14 #[.agg #[.int .i64 du, .int .i64 dv], .agg #[.int .i64 eu, .int .i64 ev]] W (Said L W)) := fun W => by rw [hL]; exact less_any (du, dv) (eu, ev) W
  have HL2 : Hid (∀ W, Calls Try.prog 15 #[.agg #[.int .i64 du, .int .i64 dv], .agg #[.int .i64 eu, .int .i64 ev]] W (Said L W)) := fun W => by rw [hL]; exact rless_any (du, dv) (eu, ev) W
  have HH1 : Hid (∀ W, Below W1.heap.size W1 W → Calls Try.prog 16 #[.agg #[.slice a1 n1 c1, .slice a2 n2 c2], .agg #[.int .i64 du, .int .i64 dv]] W (Said H W)) := fun W hW => by rw [hH]; exact has_any c (du, dv) _ W (HCW.out W hW)
  have HH2 : Hid (∀ W, Below W1.heap.size W1 W → Calls Try.prog 17 #[.agg #[.slice a1 n1 c1, .slice a2 n2 c2], .agg #[.int .i64 du, .int .i64 dv]] W (Said H W)) := fun W hW => by rw [hH]; exact rhas_any c (du, dv) _ W (HCW.out W hW)
  have HR1 : Hid (∀ W, Below W1.heap.size W1 W → Calls Try.prog 18 #[.agg #[.slice a1 n1 c1, .slice a2 n2 c2]] W (Said R W)) := fun W hW => by rw [hR]; exact right_any c _ W (HCW.out W hW)
  have HR2 : Hid (∀ W, Below W1.heap.size W1 W → Calls Try.prog 19 #[.agg #[.slice a1 n1 c1, .slice a2 n2 c2]] W (Said R W)) := fun W hW => by rw [hR]; exact rright_any c _ W (HCW.out W hW)
  clear hV hL hH hR x0 x1 x2 x3 x4 x5 hW1
  by_cases hfar : 40 < n1 ∨ 60 < n2
  · have HFR : Hid (∀ (g : Nat) (W : World), g < W.heap.size → W.cell? ⟨g, 0, none⟩ = some (.slice a1 n1 c1) → W.cell? ⟨g, 1, none⟩ = some (.slice a2 n2 c2) → Calls Try.prog 10 #[.slice (some ⟨g, 0, none⟩) 1 1] W (Said true W)) := fun g W hg e0 e1 =>
      far_any 1 g (fun _ => a1) (fun _ => a2) (fun _ => n1) (fun _ => n2) (fun _ => c1) (fun _ => c2) true W (fun j hj => by cases j with | zero => exact ⟨e0, e1⟩ | succ j => omega) hg (by omega) (fun _ _ _ => rfl) (fun h => absurd hfar (by have := h 0 (by omega); omega))
    clear hfar
    go_enter Try.func3, Try.ntmps3
    go_wp2_with fail
    rw [← HW1.out]
    refine wp_flow 47 (fun _ => 1000) (fun ww => RowKit.Below W1.heap.size W1 ww) (fun _ w w' => (fun (w w' : World) => RowKit.Below w.heap.size w w') w w') (fun kF vF wF => match kF with | 0 => (vF = .agg #[.slice a1 n1 c1, .slice a2 n2 c2]) | 1 => (∃ g, vF = .slice (some ⟨g, 0, none⟩) 1 1 ∧ g < wF.heap.size ∧ wF.cell? ⟨g, 0, none⟩ = some (.slice a1 n1 c1) ∧ wF.cell? ⟨g, 1, none⟩ = some (.slice a2 n2 c2)) | 2 => (vF = .bool true) | 3 => (vF = .bool true) | 4 => (vF = .bool true) | 5 => (vF = .bool true) | 6 => (vF = .bool true) | 7 => (vF = undef) | 8 => (vF = undef) | 9 => (vF = undef) | 10 => (vF = undef) | 11 => (vF = undef) | 12 => (vF = undef) | 13 => (vF = undef) | 14 => (vF = undef) | 15 => (vF = undef) | 16 => (vF = undef) | 17 => (vF = undef) | 18 => (vF = undef) | 19 => (vF = undef) | 20 => (vF = undef) | 21 => (vF = undef) | 22 => (vF = undef) | 23 => (vF = undef) | 24 => (vF = undef) | 25 => (vF = undef) | 26 => (vF = undef) | 27 => (vF = undef) | 28 => (vF = undef) | 29 => (vF = undef) | 30 => (vF = undef) | 31 => (vF = undef) | 32 => (vF = undef) | 33 => (vF = undef) | 34 => (vF = undef) | 35 => (vF = undef) | 36 => (vF = undef) | 37 => (vF = undef) | 38 => (vF = undef) | 39 => (vF = undef) | 40 => (vF = undef) | 41 => (vF = undef) | 42 => (vF = undef) | 43 => (vF = undef) | 44 => (vF = undef) | 45 => (vF = undef) | 46 => (vF = .bool true) | _ => True) (fun _ _ _ _ => True) (by kernel_rfl) (by kernel_rfl) ?_ ?_ ?_ ?_ ?_
    · exact (Below.refl _ _).drew
    · intro iF wF1 wF2 hR hT; exact hR.trans (hT.mono hR.size)
    · intro kF hkF iF hiF hne hdd hanc hdan vF wF1 wF2 h hT
      rcases (by omega : kF = 0 ∨ kF = 1 ∨ kF = 2 ∨ kF = 3 ∨ kF = 4 ∨ kF = 5 ∨ kF = 6 ∨ kF = 7 ∨ kF = 8 ∨ kF = 9 ∨ kF = 10 ∨ kF = 11 ∨ kF = 12 ∨ kF = 13 ∨ kF = 14 ∨ kF = 15 ∨ kF = 16 ∨ kF = 17 ∨ kF = 18 ∨ kF = 19 ∨ kF = 20 ∨ kF = 21 ∨ kF = 22 ∨ kF = 23 ∨ kF = 24 ∨ kF = 25 ∨ kF = 26 ∨ kF = 27 ∨ kF = 28 ∨ kF = 29 ∨ kF = 30 ∨ kF = 31 ∨ kF = 32 ∨ kF = 33 ∨ kF = 34 ∨ kF = 35 ∨ kF = 36 ∨ kF = 37 ∨ kF = 38 ∨ kF = 39 ∨ kF = 40 ∨ kF = 41 ∨ kF = 42 ∨ kF = 43 ∨ kF = 44 ∨ kF = 45 ∨ kF = 46) with rfl | rfl | rfl | rfl | rfl | rfl | rfl | rfl | rfl | rfl | rfl | rfl | rfl | rfl | rfl | rfl | rfl | rfl | rfl | rfl | rfl | rfl | rfl | rfl | rfl | rfl | rfl | rfl | rfl | rfl | rfl | rfl | rfl | rfl | rfl | rfl | rfl | rfl | rfl | rfl | rfl | rfl | rfl | rfl | rfl | rfl | rfl
      · exact h
      · have h : (∃ g, vF = .slice (some ⟨g, 0, none⟩) 1 1 ∧ g < wF1.heap.size ∧ wF1.cell? ⟨g, 0, none⟩ = some (.slice a1 n1 c1) ∧ wF1.cell? ⟨g, 1, none⟩ = some (.slice a2 n2 c2)) := h
        show (∃ g, vF = .slice (some ⟨g, 0, none⟩) 1 1 ∧ g < wF2.heap.size ∧ wF2.cell? ⟨g, 0, none⟩ = some (.slice a1 n1 c1) ∧ wF2.cell? ⟨g, 1, none⟩ = some (.slice a2 n2 c2))
        have hT : (fun (w w' : World) => RowKit.Below w.heap.size w w') wF1 wF2 := hT
        simp only at hT
        obtain ⟨g, e, h1, h2, h3⟩ := h
        exact ⟨g, e, by have := hT.size; omega, (hT.cell (p := ⟨g, 0, none⟩) h1).trans h2, (hT.cell (p := ⟨g, 1, none⟩) h1).trans h3⟩
      · exact h
      · exact h
      · exact h
      · exact h
      · exact h
      · exact h
      · exact h
      · exact h
      · exact h
      · exact h
      · exact h
      · exact h
      · exact h
      · exact h
      · exact h
      · exact h
      · exact h
      · exact h
      · exact h
      · exact h
      · exact h
      · exact h
      · exact h
      · exact h
      · exact h
      · exact h
      · exact h
      · exact h
      · exact h
      · exact h
      · exact h
      · exact h
      · exact h
      · exact h
      · exact h
      · exact h
      · exact h
      · exact h
      · exact h
      · exact h
      · exact h
      · exact h
      · exact h
      · exact h
      · exact h
    · refine FlowAll.cons ?_ ?_
      · intro xF wq hR hd K hK
        clear hd
        simp only [List.take_succ_cons, List.take_zero, fillOf, Act.put, List.setIfInBounds_toArray, List.set_cons_zero, List.set_cons_succ, Nat.reduceAdd, Nat.zero_add] at hK ⊢
        obtain hbR := id hR
        obtain ⟨x0, x1, x2, x3, x4, x5⟩ := HX.out _ hR
        rw [if_pos (by rfl)]
        go_simp
        exact hK.out _ _ (Below.refl _ _) (rfl) (fun _ _ _ => ⟨trivial, trivial⟩)
      refine FlowAll.cons ?_ ?_
      · intro xF wq hR hd K hK
        have dd0 : ((xF 0) = .agg #[.slice a1 n1 c1, .slice a2 n2 c2]) := hd 0 (by kernel_rfl)
        clear hd
        simp only [List.take_succ_cons, List.take_zero, fillOf, Act.put, List.setIfInBounds_toArray, List.set_cons_zero, List.set_cons_succ, Nat.reduceAdd, Nat.zero_add] at hK ⊢
        try generalize xF 0 = yy0 at *
        obtain rfl := dd0
        obtain hbR := id hR
        rw [if_pos (by rfl)]
        go_simp
        exact hK.out _ _ (ctx_below) (⟨_, rfl, by simp, World.cell?_alloc_at _ _ _ _ rfl, World.cell?_alloc_at _ _ _ _ rfl⟩) (fun _ _ _ => ⟨trivial, trivial⟩)
      refine FlowAll.cons ?_ ?_
      · intro xF wq hR hd K hK
        have dd1 : (∃ g, (xF 1) = .slice (some ⟨g, 0, none⟩) 1 1 ∧ g < wq.heap.size ∧ wq.cell? ⟨g, 0, none⟩ = some (.slice a1 n1 c1) ∧ wq.cell? ⟨g, 1, none⟩ = some (.slice a2 n2 c2)) := hd 1 (by kernel_rfl)
        clear hd
        simp only [List.take_succ_cons, List.take_zero, fillOf, Act.put, List.setIfInBounds_toArray, List.set_cons_zero, List.set_cons_succ, Nat.reduceAdd, Nat.zero_add] at hK ⊢
        try generalize xF 1 = yy1 at *
        obtain ⟨g1, rfl, hg1, ga1, gb1⟩ := dd1
        obtain hbR := id hR
        rw [if_pos (by rfl)]
        go_simp
        (go_at_call 10; (with_reducible refine (HFR.out _ _ hg1 ga1 gb1).mono ?_); rintro e wK ⟨rfl, hbK⟩)
        try go_wp2_with fail
        exact hK.out _ _ (hbK) (rfl) (fun _ _ _ => ⟨trivial, trivial⟩)
      refine FlowAll.cons ?_ ?_
      · intro xF wq hR hd K hK
        have dd2 : ((xF 2) = .bool true) := hd 2 (by kernel_rfl)
        clear hd
        simp only [List.take_succ_cons, List.take_zero, fillOf, Act.put, List.setIfInBounds_toArray, List.set_cons_zero, List.set_cons_succ, Nat.reduceAdd, Nat.zero_add] at hK ⊢
        try generalize xF 2 = yy2 at *
        obtain rfl := dd2
        obtain hbR := id hR
        rw [if_pos (by rfl)]
        go_simp
        exact hK.out _ _ (Below.refl _ _) (rfl) (fun _ _ _ => ⟨trivial, trivial⟩)
      refine FlowAll.cons ?_ ?_
      · intro xF wq hR hd K hK
        have dd3 : ((xF 3) = .bool true) := hd 3 (by kernel_rfl)
        clear hd
        simp only [List.take_succ_cons, List.take_zero, fillOf, Act.put, List.setIfInBounds_toArray, List.set_cons_zero, List.set_cons_succ, Nat.reduceAdd, Nat.zero_add] at hK ⊢
        try generalize xF 3 = yy3 at *
        obtain rfl := dd3
        obtain hbR := id hR
        rw [if_pos (by rfl)]
        go_simp
        (go_at_call 11; (with_reducible refine (HAW.out _).mono ?_); rintro e wK ⟨rfl, hbK⟩)
        try go_wp2_with fail
        exact hK.out _ _ (hbK) (rfl) (fun _ _ _ => ⟨trivial, trivial⟩)
      refine FlowAll.cons ?_ ?_
      · intro xF wq hR hd K hK
        have dd3 : ((xF 3) = .bool true) := hd 3 (by kernel_rfl)
        have dd4 : ((xF 4) = .bool true) := hd 4 (by kernel_rfl)
        clear hd
        simp only [List.take_succ_cons, List.take_zero, fillOf, Act.put, List.setIfInBounds_toArray, List.set_cons_zero, List.set_cons_succ, Nat.reduceAdd, Nat.zero_add] at hK ⊢
        try generalize xF 3 = yy3 at *
        try generalize xF 4 = yy4 at *
        obtain rfl := dd3
        obtain rfl := dd4
        obtain hbR := id hR
        rw [if_pos (by rfl)]
        go_simp
        exact hK.out _ _ (Below.refl _ _) (rfl) (fun _ _ _ => ⟨trivial, trivial⟩)
      refine FlowAll.cons ?_ ?_
      · intro xF wq hR hd K hK
        have dd5 : ((xF 5) = .bool true) := hd 5 (by kernel_rfl)
        clear hd
        simp only [List.take_succ_cons, List.take_zero, fillOf, Act.put, List.setIfInBounds_toArray, List.set_cons_zero, List.set_cons_succ, Nat.reduceAdd, Nat.zero_add] at hK ⊢
        try generalize xF 5 = yy5 at *
        obtain rfl := dd5
        obtain hbR := id hR
        rw [if_pos (by rfl)]
        go_simp
        exact hK.out _ _ (Below.refl _ _) (rfl) (fun _ _ _ => ⟨trivial, trivial⟩)
      refine FlowAll.cons ?_ ?_
      · intro xF wq hR hd K hK
        have dd6 : ((xF 6) = .bool true) := hd 6 (by kernel_rfl)
        clear hd
        simp only [List.take_succ_cons, List.take_zero, fillOf, Act.put, List.setIfInBounds_toArray, List.set_cons_zero, List.set_cons_succ, Nat.reduceAdd, Nat.zero_add] at hK ⊢
        try generalize xF 6 = yy6 at *
        obtain rfl := dd6
        obtain hbR := id hR
        rw [if_neg (by intro h; exact absurd (show false = true from h) Bool.false_ne_true)]
        try simp only [Act.put, List.setIfInBounds_toArray, List.set_cons_zero, List.set_cons_succ]
        exact hK.out _ _ (Below.refl _ _) (rfl) (fun _ _ _ => ⟨trivial, trivial⟩)
      refine FlowAll.cons ?_ ?_
      · intro xF wq hR hd K hK
        have dd6 : ((xF 6) = .bool true) := hd 6 (by kernel_rfl)
        clear hd
        simp only [List.take_succ_cons, List.take_zero, fillOf, Act.put, List.setIfInBounds_toArray, List.set_cons_zero, List.set_cons_succ, Nat.reduceAdd, Nat.zero_add] at hK ⊢
        try generalize xF 6 = yy6 at *
        obtain rfl := dd6
        obtain hbR := id hR
        rw [if_neg (by intro h; exact absurd (show false = true from h) Bool.false_ne_true)]
        try simp only [Act.put, List.setIfInBounds_toArray, List.set_cons_zero, List.set_cons_succ]
        exact hK.out _ _ (Below.refl _ _) (rfl) (fun _ _ _ => ⟨trivial, trivial⟩)
      refine FlowAll.cons ?_ ?_
      · intro xF wq hR hd K hK
        have dd6 : ((xF 6) = .bool true) := hd 6 (by kernel_rfl)
        clear hd
        simp only [List.take_succ_cons, List.take_zero, fillOf, Act.put, List.setIfInBounds_toArray, List.set_cons_zero, List.set_cons_succ, Nat.reduceAdd, Nat.zero_add] at hK ⊢
        try generalize xF 6 = yy6 at *
        obtain rfl := dd6
        obtain hbR := id hR
        rw [if_neg (by intro h; exact absurd (show false = true from h) Bool.false_ne_true)]
        try simp only [Act.put, List.setIfInBounds_toArray, List.set_cons_zero, List.set_cons_succ]
        exact hK.out _ _ (Below.refl _ _) (rfl) (fun _ _ _ => ⟨trivial, trivial⟩)
      refine FlowAll.cons ?_ ?_
      · intro xF wq hR hd K hK
        have dd6 : ((xF 6) = .bool true) := hd 6 (by kernel_rfl)
        clear hd
        simp only [List.take_succ_cons, List.take_zero, fillOf, Act.put, List.setIfInBounds_toArray, List.set_cons_zero, List.set_cons_succ, Nat.reduceAdd, Nat.zero_add] at hK ⊢
        try generalize xF 6 = yy6 at *
        obtain rfl := dd6
        obtain hbR := id hR
        rw [if_neg (by intro h; exact absurd (show false = true from h) Bool.false_ne_true)]
        try simp only [Act.put, List.setIfInBounds_toArray, List.set_cons_zero, List.set_cons_succ]
        exact hK.out _ _ (Below.refl _ _) (rfl) (fun _ _ _ => ⟨trivial, trivial⟩)
      refine FlowAll.cons ?_ ?_
      · intro xF wq hR hd K hK
        have dd6 : ((xF 6) = .bool true) := hd 6 (by kernel_rfl)
        clear hd
        simp only [List.take_succ_cons, List.take_zero, fillOf, Act.put, List.setIfInBounds_toArray, List.set_cons_zero, List.set_cons_succ, Nat.reduceAdd, Nat.zero_add] at hK ⊢
        try generalize xF 6 = yy6 at *
        obtain rfl := dd6
        obtain hbR := id hR
        rw [if_neg (by intro h; exact absurd (show false = true from h) Bool.false_ne_true)]
        try simp only [Act.put, List.setIfInBounds_toArray, List.set_cons_zero, List.set_cons_succ]
        exact hK.out _ _ (Below.refl _ _) (rfl) (fun _ _ _ => ⟨trivial, trivial⟩)
      refine FlowAll.cons ?_ ?_
      · intro xF wq hR hd K hK
        have dd11 : ((xF 11) = undef) := hd 11 (by kernel_rfl)
        clear hd
        simp only [List.take_succ_cons, List.take_zero, fillOf, Act.put, List.setIfInBounds_toArray, List.set_cons_zero, List.set_cons_succ, Nat.reduceAdd, Nat.zero_add] at hK ⊢
        try generalize xF 11 = yy11 at *
        obtain rfl := dd11
        obtain hbR := id hR
        rw [if_neg (by intro h; exact absurd (show false = true from h) Bool.false_ne_true)]
        try simp only [Act.put, List.setIfInBounds_toArray, List.set_cons_zero, List.set_cons_succ]
        exact hK.out _ _ (Below.refl _ _) (rfl) (fun _ _ _ => ⟨trivial, trivial⟩)
      refine FlowAll.cons ?_ ?_
      · intro xF wq hR hd K hK
        have dd11 : ((xF 11) = undef) := hd 11 (by kernel_rfl)
        clear hd
        simp only [List.take_succ_cons, List.take_zero, fillOf, Act.put, List.setIfInBounds_toArray, List.set_cons_zero, List.set_cons_succ, Nat.reduceAdd, Nat.zero_add] at hK ⊢
        try generalize xF 11 = yy11 at *
        obtain rfl := dd11
        obtain hbR := id hR
        rw [if_neg (by intro h; exact absurd (show false = true from h) Bool.false_ne_true)]
        try simp only [Act.put, List.setIfInBounds_toArray, List.set_cons_zero, List.set_cons_succ]
        exact hK.out _ _ (Below.refl _ _) (rfl) (fun _ _ _ => ⟨trivial, trivial⟩)
      refine FlowAll.cons ?_ ?_
      · intro xF wq hR hd K hK
        have dd11 : ((xF 11) = undef) := hd 11 (by kernel_rfl)
        clear hd
        simp only [List.take_succ_cons, List.take_zero, fillOf, Act.put, List.setIfInBounds_toArray, List.set_cons_zero, List.set_cons_succ, Nat.reduceAdd, Nat.zero_add] at hK ⊢
        try generalize xF 11 = yy11 at *
        obtain rfl := dd11
        obtain hbR := id hR
        rw [if_neg (by intro h; exact absurd (show false = true from h) Bool.false_ne_true)]
        try simp only [Act.put, List.setIfInBounds_toArray, List.set_cons_zero, List.set_cons_succ]
        exact hK.out _ _ (Below.refl _ _) (rfl) (fun _ _ _ => ⟨trivial, trivial⟩)
      refine FlowAll.cons ?_ ?_
      · intro xF wq hR hd K hK
        have dd11 : ((xF 11) = undef) := hd 11 (by kernel_rfl)
        clear hd
        simp only [List.take_succ_cons, List.take_zero, fillOf, Act.put, List.setIfInBounds_toArray, List.set_cons_zero, List.set_cons_succ, Nat.reduceAdd, Nat.zero_add] at hK ⊢
        try generalize xF 11 = yy11 at *
        obtain rfl := dd11
        obtain hbR := id hR
        rw [if_neg (by intro h; exact absurd (show false = true from h) Bool.false_ne_true)]
        try simp only [Act.put, List.setIfInBounds_toArray, List.set_cons_zero, List.set_cons_succ]
        exact hK.out _ _ (Below.refl _ _) (rfl) (fun _ _ _ => ⟨trivial, trivial⟩)
      refine FlowAll.cons ?_ ?_
      · intro xF wq hR hd K hK
        have dd11 : ((xF 11) = undef) := hd 11 (by kernel_rfl)
        clear hd
        simp only [List.take_succ_cons, List.take_zero, fillOf, Act.put, List.setIfInBounds_toArray, List.set_cons_zero, List.set_cons_succ, Nat.reduceAdd, Nat.zero_add] at hK ⊢
        try generalize xF 11 = yy11 at *
        obtain rfl := dd11
        obtain hbR := id hR
        rw [if_neg (by intro h; exact absurd (show false = true from h) Bool.false_ne_true)]
        try simp only [Act.put, List.setIfInBounds_toArray, List.set_cons_zero, List.set_cons_succ]
        exact hK.out _ _ (Below.refl _ _) (rfl) (fun _ _ _ => ⟨trivial, trivial⟩)
      refine FlowAll.cons ?_ ?_
      · intro xF wq hR hd K hK
        have dd6 : ((xF 6) = .bool true) := hd 6 (by kernel_rfl)
        clear hd
        simp only [List.take_succ_cons, List.take_zero, fillOf, Act.put, List.setIfInBounds_toArray, List.set_cons_zero, List.set_cons_succ, Nat.reduceAdd, Nat.zero_add] at hK ⊢
        try generalize xF 6 = yy6 at *
        obtain rfl := dd6
        obtain hbR := id hR
        rw [if_neg (by intro h; exact absurd (show false = true from h) Bool.false_ne_true)]
        try simp only [Act.put, List.setIfInBounds_toArray, List.set_cons_zero, List.set_cons_succ]
        exact hK.out _ _ (Below.refl _ _) (rfl) (fun _ _ _ => ⟨trivial, trivial⟩)
      refine FlowAll.cons ?_ ?_
      · intro xF wq hR hd K hK
        have dd6 : ((xF 6) = .bool true) := hd 6 (by kernel_rfl)
        clear hd
        simp only [List.take_succ_cons, List.take_zero, fillOf, Act.put, List.setIfInBounds_toArray, List.set_cons_zero, List.set_cons_succ, Nat.reduceAdd, Nat.zero_add] at hK ⊢
        try generalize xF 6 = yy6 at *
        obtain rfl := dd6
        obtain hbR := id hR
        rw [if_neg (by intro h; exact absurd (show false = true from h) Bool.false_ne_true)]
        try simp only [Act.put, List.setIfInBounds_toArray, List.set_cons_zero, List.set_cons_succ]
        exact hK.out _ _ (Below.refl _ _) (rfl) (fun _ _ _ => ⟨trivial, trivial⟩)
      refine FlowAll.cons ?_ ?_
      · intro xF wq hR hd K hK
        have dd18 : ((xF 18) = undef) := hd 18 (by kernel_rfl)
        clear hd
        simp only [List.take_succ_cons, List.take_zero, fillOf, Act.put, List.setIfInBounds_toArray, List.set_cons_zero, List.set_cons_succ, Nat.reduceAdd, Nat.zero_add] at hK ⊢
        try generalize xF 18 = yy18 at *
        obtain rfl := dd18
        obtain hbR := id hR
        rw [if_neg (by intro h; exact absurd (show false = true from h) Bool.false_ne_true)]
        try simp only [Act.put, List.setIfInBounds_toArray, List.set_cons_zero, List.set_cons_succ]
        exact hK.out _ _ (Below.refl _ _) (rfl) (fun _ _ _ => ⟨trivial, trivial⟩)
      refine FlowAll.cons ?_ ?_
      · intro xF wq hR hd K hK
        have dd18 : ((xF 18) = undef) := hd 18 (by kernel_rfl)
        clear hd
        simp only [List.take_succ_cons, List.take_zero, fillOf, Act.put, List.setIfInBounds_toArray, List.set_cons_zero, List.set_cons_succ, Nat.reduceAdd, Nat.zero_add] at hK ⊢
        try generalize xF 18 = yy18 at *
        obtain rfl := dd18
        obtain hbR := id hR
        rw [if_neg (by intro h; exact absurd (show false = true from h) Bool.false_ne_true)]
        try simp only [Act.put, List.setIfInBounds_toArray, List.set_cons_zero, List.set_cons_succ]
        exact hK.out _ _ (Below.refl _ _) (rfl) (fun _ _ _ => ⟨trivial, trivial⟩)
      refine FlowAll.cons ?_ ?_
      · intro xF wq hR hd K hK
        have dd18 : ((xF 18) = undef) := hd 18 (by kernel_rfl)
        clear hd
        simp only [List.take_succ_cons, List.take_zero, fillOf, Act.put, List.setIfInBounds_toArray, List.set_cons_zero, List.set_cons_succ, Nat.reduceAdd, Nat.zero_add] at hK ⊢
        try generalize xF 18 = yy18 at *
        obtain rfl := dd18
        obtain hbR := id hR
        rw [if_neg (by intro h; exact absurd (show false = true from h) Bool.false_ne_true)]
        try simp only [Act.put, List.setIfInBounds_toArray, List.set_cons_zero, List.set_cons_succ]
        exact hK.out _ _ (Below.refl _ _) (rfl) (fun _ _ _ => ⟨trivial, trivial⟩)
      refine FlowAll.cons ?_ ?_
      · intro xF wq hR hd K hK
        have dd18 : ((xF 18) = undef) := hd 18 (by kernel_rfl)
        clear hd
        simp only [List.take_succ_cons, List.take_zero, fillOf, Act.put, List.setIfInBounds_toArray, List.set_cons_zero, List.set_cons_succ, Nat.reduceAdd, Nat.zero_add] at hK ⊢
        try generalize xF 18 = yy18 at *
        obtain rfl := dd18
        obtain hbR := id hR
        rw [if_neg (by intro h; exact absurd (show false = true from h) Bool.false_ne_true)]
        try simp only [Act.put, List.setIfInBounds_toArray, List.set_cons_zero, List.set_cons_succ]
        exact hK.out _ _ (Below.refl _ _) (rfl) (fun _ _ _ => ⟨trivial, trivial⟩)
      refine FlowAll.cons ?_ ?_
      · intro xF wq hR hd K hK
        have dd18 : ((xF 18) = undef) := hd 18 (by kernel_rfl)
        clear hd
        simp only [List.take_succ_cons, List.take_zero, fillOf, Act.put, List.setIfInBounds_toArray, List.set_cons_zero, List.set_cons_succ, Nat.reduceAdd, Nat.zero_add] at hK ⊢
        try generalize xF 18 = yy18 at *
        obtain rfl := dd18
        obtain hbR := id hR
        rw [if_neg (by intro h; exact absurd (show false = true from h) Bool.false_ne_true)]
        try simp only [Act.put, List.setIfInBounds_toArray, List.set_cons_zero, List.set_cons_succ]
        exact hK.out _ _ (Below.refl _ _) (rfl) (fun _ _ _ => ⟨trivial, trivial⟩)
      refine FlowAll.cons ?_ ?_
      · intro xF wq hR hd K hK
        have dd18 : ((xF 18) = undef) := hd 18 (by kernel_rfl)
        clear hd
        simp only [List.take_succ_cons, List.take_zero, fillOf, Act.put, List.setIfInBounds_toArray, List.set_cons_zero, List.set_cons_succ, Nat.reduceAdd, Nat.zero_add] at hK ⊢
        try generalize xF 18 = yy18 at *
        obtain rfl := dd18
        obtain hbR := id hR
        rw [if_neg (by intro h; exact absurd (show false = true from h) Bool.false_ne_true)]
        try simp only [Act.put, List.setIfInBounds_toArray, List.set_cons_zero, List.set_cons_succ]
        exact hK.out _ _ (Below.refl _ _) (rfl) (fun _ _ _ => ⟨trivial, trivial⟩)
      refine FlowAll.cons ?_ ?_
      · intro xF wq hR hd K hK
        have dd18 : ((xF 18) = undef) := hd 18 (by kernel_rfl)
        clear hd
        simp only [List.take_succ_cons, List.take_zero, fillOf, Act.put, List.setIfInBounds_toArray, List.set_cons_zero, List.set_cons_succ, Nat.reduceAdd, Nat.zero_add] at hK ⊢
        try generalize xF 18 = yy18 at *
        obtain rfl := dd18
        obtain hbR := id hR
        rw [if_neg (by intro h; exact absurd (show false = true from h) Bool.false_ne_true)]
        try simp only [Act.put, List.setIfInBounds_toArray, List.set_cons_zero, List.set_cons_succ]
        exact hK.out _ _ (Below.refl _ _) (rfl) (fun _ _ _ => ⟨trivial, trivial⟩)
      refine FlowAll.cons ?_ ?_
      · intro xF wq hR hd K hK
        have dd6 : ((xF 6) = .bool true) := hd 6 (by kernel_rfl)
        clear hd
        simp only [List.take_succ_cons, List.take_zero, fillOf, Act.put, List.setIfInBounds_toArray, List.set_cons_zero, List.set_cons_succ, Nat.reduceAdd, Nat.zero_add] at hK ⊢
        try generalize xF 6 = yy6 at *
        obtain rfl := dd6
        obtain hbR := id hR
        rw [if_neg (by intro h; exact absurd (show false = true from h) Bool.false_ne_true)]
        try simp only [Act.put, List.setIfInBounds_toArray, List.set_cons_zero, List.set_cons_succ]
        exact hK.out _ _ (Below.refl _ _) (rfl) (fun _ _ _ => ⟨trivial, trivial⟩)
      refine FlowAll.cons ?_ ?_
      · intro xF wq hR hd K hK
        have dd6 : ((xF 6) = .bool true) := hd 6 (by kernel_rfl)
        clear hd
        simp only [List.take_succ_cons, List.take_zero, fillOf, Act.put, List.setIfInBounds_toArray, List.set_cons_zero, List.set_cons_succ, Nat.reduceAdd, Nat.zero_add] at hK ⊢
        try generalize xF 6 = yy6 at *
        obtain rfl := dd6
        obtain hbR := id hR
        rw [if_neg (by intro h; exact absurd (show false = true from h) Bool.false_ne_true)]
        try simp only [Act.put, List.setIfInBounds_toArray, List.set_cons_zero, List.set_cons_succ]
        exact hK.out _ _ (Below.refl _ _) (rfl) (fun _ _ _ => ⟨trivial, trivial⟩)
      refine FlowAll.cons ?_ ?_
      · intro xF wq hR hd K hK
        have dd27 : ((xF 27) = undef) := hd 27 (by kernel_rfl)
        clear hd
        simp only [List.take_succ_cons, List.take_zero, fillOf, Act.put, List.setIfInBounds_toArray, List.set_cons_zero, List.set_cons_succ, Nat.reduceAdd, Nat.zero_add] at hK ⊢
        try generalize xF 27 = yy27 at *
        obtain rfl := dd27
        obtain hbR := id hR
        rw [if_neg (by intro h; exact absurd (show false = true from h) Bool.false_ne_true)]
        try simp only [Act.put, List.setIfInBounds_toArray, List.set_cons_zero, List.set_cons_succ]
        exact hK.out _ _ (Below.refl _ _) (rfl) (fun _ _ _ => ⟨trivial, trivial⟩)
      refine FlowAll.cons ?_ ?_
      · intro xF wq hR hd K hK
        have dd27 : ((xF 27) = undef) := hd 27 (by kernel_rfl)
        clear hd
        simp only [List.take_succ_cons, List.take_zero, fillOf, Act.put, List.setIfInBounds_toArray, List.set_cons_zero, List.set_cons_succ, Nat.reduceAdd, Nat.zero_add] at hK ⊢
        try generalize xF 27 = yy27 at *
        obtain rfl := dd27
        obtain hbR := id hR
        rw [if_neg (by intro h; exact absurd (show false = true from h) Bool.false_ne_true)]
        try simp only [Act.put, List.setIfInBounds_toArray, List.set_cons_zero, List.set_cons_succ]
        exact hK.out _ _ (Below.refl _ _) (rfl) (fun _ _ _ => ⟨trivial, trivial⟩)
      refine FlowAll.cons ?_ ?_
      · intro xF wq hR hd K hK
        have dd27 : ((xF 27) = undef) := hd 27 (by kernel_rfl)
        clear hd
        simp only [List.take_succ_cons, List.take_zero, fillOf, Act.put, List.setIfInBounds_toArray, List.set_cons_zero, List.set_cons_succ, Nat.reduceAdd, Nat.zero_add] at hK ⊢
        try generalize xF 27 = yy27 at *
        obtain rfl := dd27
        obtain hbR := id hR
        rw [if_neg (by intro h; exact absurd (show false = true from h) Bool.false_ne_true)]
        try simp only [Act.put, List.setIfInBounds_toArray, List.set_cons_zero, List.set_cons_succ]
        exact hK.out _ _ (Below.refl _ _) (rfl) (fun _ _ _ => ⟨trivial, trivial⟩)
      refine FlowAll.cons ?_ ?_
      · intro xF wq hR hd K hK
        have dd27 : ((xF 27) = undef) := hd 27 (by kernel_rfl)
        clear hd
        simp only [List.take_succ_cons, List.take_zero, fillOf, Act.put, List.setIfInBounds_toArray, List.set_cons_zero, List.set_cons_succ, Nat.reduceAdd, Nat.zero_add] at hK ⊢
        try generalize xF 27 = yy27 at *
        obtain rfl := dd27
        obtain hbR := id hR
        rw [if_neg (by intro h; exact absurd (show false = true from h) Bool.false_ne_true)]
        try simp only [Act.put, List.setIfInBounds_toArray, List.set_cons_zero, List.set_cons_succ]
        exact hK.out _ _ (Below.refl _ _) (rfl) (fun _ _ _ => ⟨trivial, trivial⟩)
      refine FlowAll.cons ?_ ?_
      · intro xF wq hR hd K hK
        have dd27 : ((xF 27) = undef) := hd 27 (by kernel_rfl)
        clear hd
        simp only [List.take_succ_cons, List.take_zero, fillOf, Act.put, List.setIfInBounds_toArray, List.set_cons_zero, List.set_cons_succ, Nat.reduceAdd, Nat.zero_add] at hK ⊢
        try generalize xF 27 = yy27 at *
        obtain rfl := dd27
        obtain hbR := id hR
        rw [if_neg (by intro h; exact absurd (show false = true from h) Bool.false_ne_true)]
        try simp only [Act.put, List.setIfInBounds_toArray, List.set_cons_zero, List.set_cons_succ]
        exact hK.out _ _ (Below.refl _ _) (rfl) (fun _ _ _ => ⟨trivial, trivial⟩)
      refine FlowAll.cons ?_ ?_
      · intro xF wq hR hd K hK
        have dd27 : ((xF 27) = undef) := hd 27 (by kernel_rfl)
        clear hd
        simp only [List.take_succ_cons, List.take_zero, fillOf, Act.put, List.setIfInBounds_toArray, List.set_cons_zero, List.set_cons_succ, Nat.reduceAdd, Nat.zero_add] at hK ⊢
        try generalize xF 27 = yy27 at *
        obtain rfl := dd27
        obtain hbR := id hR
        rw [if_neg (by intro h; exact absurd (show false = true from h) Bool.false_ne_true)]
        try simp only [Act.put, List.setIfInBounds_toArray, List.set_cons_zero, List.set_cons_succ]
        exact hK.out _ _ (Below.refl _ _) (rfl) (fun _ _ _ => ⟨trivial, trivial⟩)
      refine FlowAll.cons ?_ ?_
      · intro xF wq hR hd K hK
        have dd27 : ((xF 27) = undef) := hd 27 (by kernel_rfl)
        clear hd
        simp only [List.take_succ_cons, List.take_zero, fillOf, Act.put, List.setIfInBounds_toArray, List.set_cons_zero, List.set_cons_succ, Nat.reduceAdd, Nat.zero_add] at hK ⊢
        try generalize xF 27 = yy27 at *
        obtain rfl := dd27
        obtain hbR := id hR
        rw [if_neg (by intro h; exact absurd (show false = true from h) Bool.false_ne_true)]
        try simp only [Act.put, List.setIfInBounds_toArray, List.set_cons_zero, List.set_cons_succ]
        exact hK.out _ _ (Below.refl _ _) (rfl) (fun _ _ _ => ⟨trivial, trivial⟩)
      refine FlowAll.cons ?_ ?_
      · intro xF wq hR hd K hK
        have dd6 : ((xF 6) = .bool true) := hd 6 (by kernel_rfl)
        clear hd
        simp only [List.take_succ_cons, List.take_zero, fillOf, Act.put, List.setIfInBounds_toArray, List.set_cons_zero, List.set_cons_succ, Nat.reduceAdd, Nat.zero_add] at hK ⊢
        try generalize xF 6 = yy6 at *
        obtain rfl := dd6
        obtain hbR := id hR
        rw [if_neg (by intro h; exact absurd (show false = true from h) Bool.false_ne_true)]
        try simp only [Act.put, List.setIfInBounds_toArray, List.set_cons_zero, List.set_cons_succ]
        exact hK.out _ _ (Below.refl _ _) (rfl) (fun _ _ _ => ⟨trivial, trivial⟩)
      refine FlowAll.cons ?_ ?_
      · intro xF wq hR hd K hK
        have dd6 : ((xF 6) = .bool true) := hd 6 (by kernel_rfl)
        clear hd
        simp only [List.take_succ_cons, List.take_zero, fillOf, Act.put, List.setIfInBounds_toArray, List.set_cons_zero, List.set_cons_succ, Nat.reduceAdd, Nat.zero_add] at hK ⊢
        try generalize xF 6 = yy6 at *
        obtain rfl := dd6
        obtain hbR := id hR
        rw [if_neg (by intro h; exact absurd (show false = true from h) Bool.false_ne_true)]
        try simp only [Act.put, List.setIfInBounds_toArray, List.set_cons_zero, List.set_cons_succ]
        exact hK.out _ _ (Below.refl _ _) (rfl) (fun _ _ _ => ⟨trivial, trivial⟩)
      refine FlowAll.cons ?_ ?_
      · intro xF wq hR hd K hK
        have dd36 : ((xF 36) = undef) := hd 36 (by kernel_rfl)
        clear hd
        simp only [List.take_succ_cons, List.take_zero, fillOf, Act.put, List.setIfInBounds_toArray, List.set_cons_zero, List.set_cons_succ, Nat.reduceAdd, Nat.zero_add] at hK ⊢
        try generalize xF 36 = yy36 at *
        obtain rfl := dd36
        obtain hbR := id hR
        rw [if_neg (by intro h; exact absurd (show false = true from h) Bool.false_ne_true)]
        try simp only [Act.put, List.setIfInBounds_toArray, List.set_cons_zero, List.set_cons_succ]
        exact hK.out _ _ (Below.refl _ _) (rfl) (fun _ _ _ => ⟨trivial, trivial⟩)
      refine FlowAll.cons ?_ ?_
      · intro xF wq hR hd K hK
        have dd36 : ((xF 36) = undef) := hd 36 (by kernel_rfl)
        clear hd
        simp only [List.take_succ_cons, List.take_zero, fillOf, Act.put, List.setIfInBounds_toArray, List.set_cons_zero, List.set_cons_succ, Nat.reduceAdd, Nat.zero_add] at hK ⊢
        try generalize xF 36 = yy36 at *
        obtain rfl := dd36
        obtain hbR := id hR
        rw [if_neg (by intro h; exact absurd (show false = true from h) Bool.false_ne_true)]
        try simp only [Act.put, List.setIfInBounds_toArray, List.set_cons_zero, List.set_cons_succ]
        exact hK.out _ _ (Below.refl _ _) (rfl) (fun _ _ _ => ⟨trivial, trivial⟩)
      refine FlowAll.cons ?_ ?_
      · intro xF wq hR hd K hK
        have dd36 : ((xF 36) = undef) := hd 36 (by kernel_rfl)
        clear hd
        simp only [List.take_succ_cons, List.take_zero, fillOf, Act.put, List.setIfInBounds_toArray, List.set_cons_zero, List.set_cons_succ, Nat.reduceAdd, Nat.zero_add] at hK ⊢
        try generalize xF 36 = yy36 at *
        obtain rfl := dd36
        obtain hbR := id hR
        rw [if_neg (by intro h; exact absurd (show false = true from h) Bool.false_ne_true)]
        try simp only [Act.put, List.setIfInBounds_toArray, List.set_cons_zero, List.set_cons_succ]
        exact hK.out _ _ (Below.refl _ _) (rfl) (fun _ _ _ => ⟨trivial, trivial⟩)
      refine FlowAll.cons ?_ ?_
      · intro xF wq hR hd K hK
        have dd36 : ((xF 36) = undef) := hd 36 (by kernel_rfl)
        clear hd
        simp only [List.take_succ_cons, List.take_zero, fillOf, Act.put, List.setIfInBounds_toArray, List.set_cons_zero, List.set_cons_succ, Nat.reduceAdd, Nat.zero_add] at hK ⊢
        try generalize xF 36 = yy36 at *
        obtain rfl := dd36
        obtain hbR := id hR
        rw [if_neg (by intro h; exact absurd (show false = true from h) Bool.false_ne_true)]
        try simp only [Act.put, List.setIfInBounds_toArray, List.set_cons_zero, List.set_cons_succ]
        exact hK.out _ _ (Below.refl _ _) (rfl) (fun _ _ _ => ⟨trivial, trivial⟩)
      refine FlowAll.cons ?_ ?_
      · intro xF wq hR hd K hK
        have dd36 : ((xF 36) = undef) := hd 36 (by kernel_rfl)
        clear hd
        simp only [List.take_succ_cons, List.take_zero, fillOf, Act.put, List.setIfInBounds_toArray, List.set_cons_zero, List.set_cons_succ, Nat.reduceAdd, Nat.zero_add] at hK ⊢
        try generalize xF 36 = yy36 at *
        obtain rfl := dd36
        obtain hbR := id hR
        rw [if_neg (by intro h; exact absurd (show false = true from h) Bool.false_ne_true)]
        try simp only [Act.put, List.setIfInBounds_toArray, List.set_cons_zero, List.set_cons_succ]
        exact hK.out _ _ (Below.refl _ _) (rfl) (fun _ _ _ => ⟨trivial, trivial⟩)
      refine FlowAll.cons ?_ ?_
      · intro xF wq hR hd K hK
        have dd6 : ((xF 6) = .bool true) := hd 6 (by kernel_rfl)
        clear hd
        simp only [List.take_succ_cons, List.take_zero, fillOf, Act.put, List.setIfInBounds_toArray, List.set_cons_zero, List.set_cons_succ, Nat.reduceAdd, Nat.zero_add] at hK ⊢
        try generalize xF 6 = yy6 at *
        obtain rfl := dd6
        obtain hbR := id hR
        rw [if_neg (by intro h; exact absurd (show false = true from h) Bool.false_ne_true)]
        try simp only [Act.put, List.setIfInBounds_toArray, List.set_cons_zero, List.set_cons_succ]
        exact hK.out _ _ (Below.refl _ _) (rfl) (fun _ _ _ => ⟨trivial, trivial⟩)
      refine FlowAll.cons ?_ ?_
      · intro xF wq hR hd K hK
        have dd6 : ((xF 6) = .bool true) := hd 6 (by kernel_rfl)
        clear hd
        simp only [List.take_succ_cons, List.take_zero, fillOf, Act.put, List.setIfInBounds_toArray, List.set_cons_zero, List.set_cons_succ, Nat.reduceAdd, Nat.zero_add] at hK ⊢
        try generalize xF 6 = yy6 at *
        obtain rfl := dd6
        obtain hbR := id hR
        rw [if_neg (by intro h; exact absurd (show false = true from h) Bool.false_ne_true)]
        try simp only [Act.put, List.setIfInBounds_toArray, List.set_cons_zero, List.set_cons_succ]
        exact hK.out _ _ (Below.refl _ _) (rfl) (fun _ _ _ => ⟨trivial, trivial⟩)
      refine FlowAll.cons ?_ ?_
      · intro xF wq hR hd K hK
        have dd43 : ((xF 43) = undef) := hd 43 (by kernel_rfl)
        clear hd
        simp only [List.take_succ_cons, List.take_zero, fillOf, Act.put, List.setIfInBounds_toArray, List.set_cons_zero, List.set_cons_succ, Nat.reduceAdd, Nat.zero_add] at hK ⊢
        try generalize xF 43 = yy43 at *
        obtain rfl := dd43
        obtain hbR := id hR
        rw [if_neg (by intro h; exact absurd (show false = true from h) Bool.false_ne_true)]
        try simp only [Act.put, List.setIfInBounds_toArray, List.set_cons_zero, List.set_cons_succ]
        exact hK.out _ _ (Below.refl _ _) (rfl) (fun _ _ _ => ⟨trivial, trivial⟩)
      refine FlowAll.cons ?_ ?_
      · intro xF wq hR hd K hK
        have dd6 : ((xF 6) = .bool true) := hd 6 (by kernel_rfl)
        clear hd
        simp only [List.take_succ_cons, List.take_zero, fillOf, Act.put, List.setIfInBounds_toArray, List.set_cons_zero, List.set_cons_succ, Nat.reduceAdd, Nat.zero_add] at hK ⊢
        try generalize xF 6 = yy6 at *
        obtain rfl := dd6
        obtain hbR := id hR
        rw [if_neg (by intro h; exact absurd (show false = true from h) Bool.false_ne_true)]
        try simp only [Act.put, List.setIfInBounds_toArray, List.set_cons_zero, List.set_cons_succ]
        exact hK.out _ _ (Below.refl _ _) (rfl) (fun _ _ _ => ⟨trivial, trivial⟩)
      refine FlowAll.cons ?_ ?_
      · intro xF wq hR hd K hK
        have dd6 : ((xF 6) = .bool true) := hd 6 (by kernel_rfl)
        have dd45 : ((xF 45) = undef) := hd 45 (by kernel_rfl)
        clear hd
        simp only [List.take_succ_cons, List.take_zero, fillOf, Act.put, List.setIfInBounds_toArray, List.set_cons_zero, List.set_cons_succ, Nat.reduceAdd, Nat.zero_add] at hK ⊢
        try generalize xF 6 = yy6 at *
        try generalize xF 45 = yy45 at *
        obtain rfl := dd6
        obtain rfl := dd45
        obtain hbR := id hR
        rw [if_pos (by rfl)]
        go_simp
        exact hK.out _ _ (Below.refl _ _) (rfl) (fun _ _ _ => ⟨trivial, trivial⟩)
      exact FlowAll.nil
    intro xF wq hR hF hP
    clear hP
    have dd0 : ((xF 0) = .agg #[.slice a1 n1 c1, .slice a2 n2 c2]) := hF 0 (by omega) (by decide)
    have dd1 : (∃ g, (xF 1) = .slice (some ⟨g, 0, none⟩) 1 1 ∧ g < wq.heap.size ∧ wq.cell? ⟨g, 0, none⟩ = some (.slice a1 n1 c1) ∧ wq.cell? ⟨g, 1, none⟩ = some (.slice a2 n2 c2)) := hF 1 (by omega) (by decide)
    have dd2 : ((xF 2) = .bool true) := hF 2 (by omega) (by decide)
    have dd3 : ((xF 3) = .bool true) := hF 3 (by omega) (by decide)
    have dd4 : ((xF 4) = .bool true) := hF 4 (by omega) (by decide)
    have dd5 : ((xF 5) = .bool true) := hF 5 (by omega) (by decide)
    have dd6 : ((xF 6) = .bool true) := hF 6 (by omega) (by decide)
    have dd7 : ((xF 7) = undef) := hF 7 (by omega) (by decide)
    have dd8 : ((xF 8) = undef) := hF 8 (by omega) (by decide)
    have dd9 : ((xF 9) = undef) := hF 9 (by omega) (by decide)
    have dd10 : ((xF 10) = undef) := hF 10 (by omega) (by decide)
    have dd11 : ((xF 11) = undef) := hF 11 (by omega) (by decide)
    have dd12 : ((xF 12) = undef) := hF 12 (by omega) (by decide)
    have dd13 : ((xF 13) = undef) := hF 13 (by omega) (by decide)
    have dd14 : ((xF 14) = undef) := hF 14 (by omega) (by decide)
    have dd15 : ((xF 15) = undef) := hF 15 (by omega) (by decide)
    have dd16 : ((xF 16) = undef) := hF 16 (by omega) (by decide)
    have dd17 : ((xF 17) = undef) := hF 17 (by omega) (by decide)
    have dd18 : ((xF 18) = undef) := hF 18 (by omega) (by decide)
    have dd19 : ((xF 19) = undef) := hF 19 (by omega) (by decide)
    have dd20 : ((xF 20) = undef) := hF 20 (by omega) (by decide)
    have dd21 : ((xF 21) = undef) := hF 21 (by omega) (by decide)
    have dd22 : ((xF 22) = undef) := hF 22 (by omega) (by decide)
    have dd23 : ((xF 23) = undef) := hF 23 (by omega) (by decide)
    have dd24 : ((xF 24) = undef) := hF 24 (by omega) (by decide)
    have dd25 : ((xF 25) = undef) := hF 25 (by omega) (by decide)
    have dd26 : ((xF 26) = undef) := hF 26 (by omega) (by decide)
    have dd27 : ((xF 27) = undef) := hF 27 (by omega) (by decide)
    have dd28 : ((xF 28) = undef) := hF 28 (by omega) (by decide)
    have dd29 : ((xF 29) = undef) := hF 29 (by omega) (by decide)
    have dd30 : ((xF 30) = undef) := hF 30 (by omega) (by decide)
    have dd31 : ((xF 31) = undef) := hF 31 (by omega) (by decide)
    have dd32 : ((xF 32) = undef) := hF 32 (by omega) (by decide)
    have dd33 : ((xF 33) = undef) := hF 33 (by omega) (by decide)
    have dd34 : ((xF 34) = undef) := hF 34 (by omega) (by decide)
    have dd35 : ((xF 35) = undef) := hF 35 (by omega) (by decide)
    have dd36 : ((xF 36) = undef) := hF 36 (by omega) (by decide)
    have dd37 : ((xF 37) = undef) := hF 37 (by omega) (by decide)
    have dd38 : ((xF 38) = undef) := hF 38 (by omega) (by decide)
    have dd39 : ((xF 39) = undef) := hF 39 (by omega) (by decide)
    have dd40 : ((xF 40) = undef) := hF 40 (by omega) (by decide)
    have dd41 : ((xF 41) = undef) := hF 41 (by omega) (by decide)
    have dd42 : ((xF 42) = undef) := hF 42 (by omega) (by decide)
    have dd43 : ((xF 43) = undef) := hF 43 (by omega) (by decide)
    have dd44 : ((xF 44) = undef) := hF 44 (by omega) (by decide)
    have dd45 : ((xF 45) = undef) := hF 45 (by omega) (by decide)
    have dd46 : ((xF 46) = .bool true) := hF 46 (by omega) (by decide)
    clear hF
    simp only [List.take_succ_cons, List.take_zero, List.drop_succ_cons, List.drop_zero, fillOf, Act.put, List.setIfInBounds_toArray, List.set_cons_zero, List.set_cons_succ, Nat.reduceAdd, Nat.zero_add]
    try generalize xF 0 = yy0 at *
    try generalize xF 1 = yy1 at *
    try generalize xF 2 = yy2 at *
    try generalize xF 3 = yy3 at *
    try generalize xF 4 = yy4 at *
    try generalize xF 5 = yy5 at *
    try generalize xF 6 = yy6 at *
    try generalize xF 7 = yy7 at *
    try generalize xF 8 = yy8 at *
    try generalize xF 9 = yy9 at *
    try generalize xF 10 = yy10 at *
    try generalize xF 11 = yy11 at *
    try generalize xF 12 = yy12 at *
    try generalize xF 13 = yy13 at *
    try generalize xF 14 = yy14 at *
    try generalize xF 15 = yy15 at *
    try generalize xF 16 = yy16 at *
    try generalize xF 17 = yy17 at *
    try generalize xF 18 = yy18 at *
    try generalize xF 19 = yy19 at *
    try generalize xF 20 = yy20 at *
    try generalize xF 21 = yy21 at *
    try generalize xF 22 = yy22 at *
    try generalize xF 23 = yy23 at *
    try generalize xF 24 = yy24 at *
    try generalize xF 25 = yy25 at *
    try generalize xF 26 = yy26 at *
    try generalize xF 27 = yy27 at *
    try generalize xF 28 = yy28 at *
    try generalize xF 29 = yy29 at *
    try generalize xF 30 = yy30 at *
    try generalize xF 31 = yy31 at *
    try generalize xF 32 = yy32 at *
    try generalize xF 33 = yy33 at *
    try generalize xF 34 = yy34 at *
    try generalize xF 35 = yy35 at *
    try generalize xF 36 = yy36 at *
    try generalize xF 37 = yy37 at *
    try generalize xF 38 = yy38 at *
    try generalize xF 39 = yy39 at *
    try generalize xF 40 = yy40 at *
    try generalize xF 41 = yy41 at *
    try generalize xF 42 = yy42 at *
    try generalize xF 43 = yy43 at *
    try generalize xF 44 = yy44 at *
    try generalize xF 45 = yy45 at *
    try generalize xF 46 = yy46 at *
    clear xF
    obtain rfl := dd0
    obtain ⟨g1, rfl, hg1, ga1, gb1⟩ := dd1
    obtain rfl := dd2
    obtain rfl := dd3
    obtain rfl := dd4
    obtain rfl := dd5
    obtain rfl := dd6
    obtain rfl := dd7
    obtain rfl := dd8
    obtain rfl := dd9
    obtain rfl := dd10
    obtain rfl := dd11
    obtain rfl := dd12
    obtain rfl := dd13
    obtain rfl := dd14
    obtain rfl := dd15
    obtain rfl := dd16
    obtain rfl := dd17
    obtain rfl := dd18
    obtain rfl := dd19
    obtain rfl := dd20
    obtain rfl := dd21
    obtain rfl := dd22
    obtain rfl := dd23
    obtain rfl := dd24
    obtain rfl := dd25
    obtain rfl := dd26
    obtain rfl := dd27
    obtain rfl := dd28
    obtain rfl := dd29
    obtain rfl := dd30
    obtain rfl := dd31
    obtain rfl := dd32
    obtain rfl := dd33
    obtain rfl := dd34
    obtain rfl := dd35
    obtain rfl := dd36
    obtain rfl := dd37
    obtain rfl := dd38
    obtain rfl := dd39
    obtain rfl := dd40
    obtain rfl := dd41
    obtain rfl := dd42
    obtain rfl := dd43
    obtain rfl := dd44
    obtain rfl := dd45
    obtain rfl := dd46
    have hRE := Lib.hid hR
    clear hR
    have hb9 := E1.trans (hRE.out.mono E1.size)
    go_wp2
    go_ret
    exact ⟨rfl, hb9⟩
  · have HFR : Hid (∀ (g : Nat) (W : World), g < W.heap.size → W.cell? ⟨g, 0, none⟩ = some (.slice a1 n1 c1) → W.cell? ⟨g, 1, none⟩ = some (.slice a2 n2 c2) → Calls Try.prog 10 #[.slice (some ⟨g, 0, none⟩) 1 1] W (Said false W)) := fun g W hg e0 e1 =>
      far_any 1 g (fun _ => a1) (fun _ => a2) (fun _ => n1) (fun _ => n2) (fun _ => c1) (fun _ => c2) false W (fun j hj => by cases j with | zero => exact ⟨e0, e1⟩ | succ j => omega) hg (by omega) (fun _ _ h => absurd h hfar) (fun _ => rfl)
    clear hfar
    go_enter Try.func3, Try.ntmps3
    go_wp2_with fail
    rw [← HW1.out]
    refine wp_flow 47 (fun _ => 1000) (fun ww => RowKit.Below W1.heap.size W1 ww) (fun _ w w' => (fun (w w' : World) => RowKit.Below w.heap.size w w') w w') (fun kF vF wF => match kF with | 0 => (vF = .agg #[.slice a1 n1 c1, .slice a2 n2 c2]) | 1 => (∃ g, vF = .slice (some ⟨g, 0, none⟩) 1 1 ∧ g < wF.heap.size ∧ wF.cell? ⟨g, 0, none⟩ = some (.slice a1 n1 c1) ∧ wF.cell? ⟨g, 1, none⟩ = some (.slice a2 n2 c2)) | 2 => (vF = .bool false) | 3 => (vF = .bool false) | 4 => (vF = undef) | 5 => (vF = .bool false) | 6 => (vF = .bool false) | 7 => (vF = .agg #[.slice a1 n1 c1, .slice a2 n2 c2]) | 8 => (∃ g, vF = .slice (some ⟨g, 0, none⟩) 1 1 ∧ g < wF.heap.size ∧ wF.cell? ⟨g, 0, none⟩ = some (.slice a1 n1 c1) ∧ wF.cell? ⟨g, 1, none⟩ = some (.slice a2 n2 c2)) | 9 => (vF = .bool false) | 10 => (vF = .bool true) | 11 => (vF = .bool true) | 12 => (vF = .agg #[.int .i64 du, .int .i64 dv]) | 13 => (vF = .bool V) | 14 => (vF = .agg #[.int .i64 du, .int .i64 dv]) | 15 => (vF = .bool V) | 16 => (vF = .bool true) | 17 => (vF = .bool true) | 18 => (vF = .bool true) | 19 => (vF = .agg #[.int .i64 du, .int .i64 dv]) | 20 => (vF = .agg #[.int .i64 eu, .int .i64 ev]) | 21 => (vF = .bool L) | 22 => (vF = .agg #[.int .i64 du, .int .i64 dv]) | 23 => (vF = .agg #[.int .i64 eu, .int .i64 ev]) | 24 => (vF = .bool L) | 25 => (vF = .bool true) | 26 => (vF = .bool true) | 27 => (vF = .bool true) | 28 => (vF = .agg #[.slice a1 n1 c1, .slice a2 n2 c2]) | 29 => (vF = .agg #[.int .i64 du, .int .i64 dv]) | 30 => (vF = .bool H) | 31 => (vF = .agg #[.slice a1 n1 c1, .slice a2 n2 c2]) | 32 => (vF = .agg #[.int .i64 du, .int .i64 dv]) | 33 => (vF = .bool H) | 34 => (vF = .bool true) | 35 => (vF = .bool true) | 36 => (vF = .bool true) | 37 => (vF = .agg #[.slice a1 n1 c1, .slice a2 n2 c2]) | 38 => (vF = .bool R) | 39 => (vF = .agg #[.slice a1 n1 c1, .slice a2 n2 c2]) | 40 => (vF = .bool R) | 41 => (vF = .bool true) | 42 => (vF = .bool true) | 43 => (vF = .bool true) | 44 => (vF = .bool true) | 45 => (vF = .bool true) | 46 => (vF = .bool true) | _ => True) (fun _ _ _ _ => True) (by kernel_rfl) (by kernel_rfl) ?_ ?_ ?_ ?_ ?_
    · exact (Below.refl _ _).drew
    · intro iF wF1 wF2 hR hT; exact hR.trans (hT.mono hR.size)
    · intro kF hkF iF hiF hne hdd hanc hdan vF wF1 wF2 h hT
      rcases (by omega : kF = 0 ∨ kF = 1 ∨ kF = 2 ∨ kF = 3 ∨ kF = 4 ∨ kF = 5 ∨ kF = 6 ∨ kF = 7 ∨ kF = 8 ∨ kF = 9 ∨ kF = 10 ∨ kF = 11 ∨ kF = 12 ∨ kF = 13 ∨ kF = 14 ∨ kF = 15 ∨ kF = 16 ∨ kF = 17 ∨ kF = 18 ∨ kF = 19 ∨ kF = 20 ∨ kF = 21 ∨ kF = 22 ∨ kF = 23 ∨ kF = 24 ∨ kF = 25 ∨ kF = 26 ∨ kF = 27 ∨ kF = 28 ∨ kF = 29 ∨ kF = 30 ∨ kF = 31 ∨ kF = 32 ∨ kF = 33 ∨ kF = 34 ∨ kF = 35 ∨ kF = 36 ∨ kF = 37 ∨ kF = 38 ∨ kF = 39 ∨ kF = 40 ∨ kF = 41 ∨ kF = 42 ∨ kF = 43 ∨ kF = 44 ∨ kF = 45 ∨ kF = 46) with rfl | rfl | rfl | rfl | rfl | rfl | rfl | rfl | rfl | rfl | rfl | rfl | rfl | rfl | rfl | rfl | rfl | rfl | rfl | rfl | rfl | rfl | rfl | rfl | rfl | rfl | rfl | rfl | rfl | rfl | rfl | rfl | rfl | rfl | rfl | rfl | rfl | rfl | rfl | rfl | rfl | rfl | rfl | rfl | rfl | rfl | rfl
      · exact h
      · have h : (∃ g, vF = .slice (some ⟨g, 0, none⟩) 1 1 ∧ g < wF1.heap.size ∧ wF1.cell? ⟨g, 0, none⟩ = some (.slice a1 n1 c1) ∧ wF1.cell? ⟨g, 1, none⟩ = some (.slice a2 n2 c2)) := h
        show (∃ g, vF = .slice (some ⟨g, 0, none⟩) 1 1 ∧ g < wF2.heap.size ∧ wF2.cell? ⟨g, 0, none⟩ = some (.slice a1 n1 c1) ∧ wF2.cell? ⟨g, 1, none⟩ = some (.slice a2 n2 c2))
        have hT : (fun (w w' : World) => RowKit.Below w.heap.size w w') wF1 wF2 := hT
        simp only at hT
        obtain ⟨g, e, h1, h2, h3⟩ := h
        exact ⟨g, e, by have := hT.size; omega, (hT.cell (p := ⟨g, 0, none⟩) h1).trans h2, (hT.cell (p := ⟨g, 1, none⟩) h1).trans h3⟩
      · exact h
      · exact h
      · exact h
      · exact h
      · exact h
      · exact h
      · have h : (∃ g, vF = .slice (some ⟨g, 0, none⟩) 1 1 ∧ g < wF1.heap.size ∧ wF1.cell? ⟨g, 0, none⟩ = some (.slice a1 n1 c1) ∧ wF1.cell? ⟨g, 1, none⟩ = some (.slice a2 n2 c2)) := h
        show (∃ g, vF = .slice (some ⟨g, 0, none⟩) 1 1 ∧ g < wF2.heap.size ∧ wF2.cell? ⟨g, 0, none⟩ = some (.slice a1 n1 c1) ∧ wF2.cell? ⟨g, 1, none⟩ = some (.slice a2 n2 c2))
        have hT : (fun (w w' : World) => RowKit.Below w.heap.size w w') wF1 wF2 := hT
        simp only at hT
        obtain ⟨g, e, h1, h2, h3⟩ := h
        exact ⟨g, e, by have := hT.size; omega, (hT.cell (p := ⟨g, 0, none⟩) h1).trans h2, (hT.cell (p := ⟨g, 1, none⟩) h1).trans h3⟩
      · exact h
      · exact h
      · exact h
      · exact h
      · exact h
      · exact h
      · exact h
      · exact h
      · exact h
      · exact h
      · exact h
      · exact h
      · exact h
      · exact h
      · exact h
      · exact h
      · exact h
      · exact h
      · exact h
      · exact h
      · exact h
      · exact h
      · exact h
      · exact h
      · exact h
      · exact h
      · exact h
      · exact h
      · exact h
      · exact h
      · exact h
      · exact h
      · exact h
      · exact h
      · exact h
      · exact h
      · exact h
      · exact h
    · refine FlowAll.cons ?_ ?_
      · intro xF wq hR hd K hK
        clear hd
        simp only [List.take_succ_cons, List.take_zero, fillOf, Act.put, List.setIfInBounds_toArray, List.set_cons_zero, List.set_cons_succ, Nat.reduceAdd, Nat.zero_add] at hK ⊢
        obtain hbR := id hR
        obtain ⟨x0, x1, x2, x3, x4, x5⟩ := HX.out _ hR
        rw [if_pos (by rfl)]
        go_simp
        exact hK.out _ _ (Below.refl _ _) (rfl) (fun _ _ _ => ⟨trivial, trivial⟩)
      refine FlowAll.cons ?_ ?_
      · intro xF wq hR hd K hK
        have dd0 : ((xF 0) = .agg #[.slice a1 n1 c1, .slice a2 n2 c2]) := hd 0 (by kernel_rfl)
        clear hd
        simp only [List.take_succ_cons, List.take_zero, fillOf, Act.put, List.setIfInBounds_toArray, List.set_cons_zero, List.set_cons_succ, Nat.reduceAdd, Nat.zero_add] at hK ⊢
        try generalize xF 0 = yy0 at *
        obtain rfl := dd0
        obtain hbR := id hR
        rw [if_pos (by rfl)]
        go_simp
        exact hK.out _ _ (ctx_below) (⟨_, rfl, by simp, World.cell?_alloc_at _ _ _ _ rfl, World.cell?_alloc_at _ _ _ _ rfl⟩) (fun _ _ _ => ⟨trivial, trivial⟩)
      refine FlowAll.cons ?_ ?_
      · intro xF wq hR hd K hK
        have dd1 : (∃ g, (xF 1) = .slice (some ⟨g, 0, none⟩) 1 1 ∧ g < wq.heap.size ∧ wq.cell? ⟨g, 0, none⟩ = some (.slice a1 n1 c1) ∧ wq.cell? ⟨g, 1, none⟩ = some (.slice a2 n2 c2)) := hd 1 (by kernel_rfl)
        clear hd
        simp only [List.take_succ_cons, List.take_zero, fillOf, Act.put, List.setIfInBounds_toArray, List.set_cons_zero, List.set_cons_succ, Nat.reduceAdd, Nat.zero_add] at hK ⊢
        try generalize xF 1 = yy1 at *
        obtain ⟨g1, rfl, hg1, ga1, gb1⟩ := dd1
        obtain hbR := id hR
        rw [if_pos (by rfl)]
        go_simp
        (go_at_call 10; (with_reducible refine (HFR.out _ _ hg1 ga1 gb1).mono ?_); rintro e wK ⟨rfl, hbK⟩)
        try go_wp2_with fail
        exact hK.out _ _ (hbK) (rfl) (fun _ _ _ => ⟨trivial, trivial⟩)
      refine FlowAll.cons ?_ ?_
      · intro xF wq hR hd K hK
        have dd2 : ((xF 2) = .bool false) := hd 2 (by kernel_rfl)
        clear hd
        simp only [List.take_succ_cons, List.take_zero, fillOf, Act.put, List.setIfInBounds_toArray, List.set_cons_zero, List.set_cons_succ, Nat.reduceAdd, Nat.zero_add] at hK ⊢
        try generalize xF 2 = yy2 at *
        obtain rfl := dd2
        obtain hbR := id hR
        rw [if_pos (by rfl)]
        go_simp
        exact hK.out _ _ (Below.refl _ _) (rfl) (fun _ _ _ => ⟨trivial, trivial⟩)
      refine FlowAll.cons ?_ ?_
      · intro xF wq hR hd K hK
        have dd3 : ((xF 3) = .bool false) := hd 3 (by kernel_rfl)
        clear hd
        simp only [List.take_succ_cons, List.take_zero, fillOf, Act.put, List.setIfInBounds_toArray, List.set_cons_zero, List.set_cons_succ, Nat.reduceAdd, Nat.zero_add] at hK ⊢
        try generalize xF 3 = yy3 at *
        obtain rfl := dd3
        obtain hbR := id hR
        rw [if_neg (by intro h; exact absurd (show false = true from h) Bool.false_ne_true)]
        try simp only [Act.put, List.setIfInBounds_toArray, List.set_cons_zero, List.set_cons_succ]
        exact hK.out _ _ (Below.refl _ _) (rfl) (fun _ _ _ => ⟨trivial, trivial⟩)
      refine FlowAll.cons ?_ ?_
      · intro xF wq hR hd K hK
        have dd3 : ((xF 3) = .bool false) := hd 3 (by kernel_rfl)
        have dd4 : ((xF 4) = undef) := hd 4 (by kernel_rfl)
        clear hd
        simp only [List.take_succ_cons, List.take_zero, fillOf, Act.put, List.setIfInBounds_toArray, List.set_cons_zero, List.set_cons_succ, Nat.reduceAdd, Nat.zero_add] at hK ⊢
        try generalize xF 3 = yy3 at *
        try generalize xF 4 = yy4 at *
        obtain rfl := dd3
        obtain rfl := dd4
        obtain hbR := id hR
        rw [if_pos (by rfl)]
        go_simp
        exact hK.out _ _ (Below.refl _ _) (rfl) (fun _ _ _ => ⟨trivial, trivial⟩)
      refine FlowAll.cons ?_ ?_
      · intro xF wq hR hd K hK
        have dd5 : ((xF 5) = .bool false) := hd 5 (by kernel_rfl)
        clear hd
        simp only [List.take_succ_cons, List.take_zero, fillOf, Act.put, List.setIfInBounds_toArray, List.set_cons_zero, List.set_cons_succ, Nat.reduceAdd, Nat.zero_add] at hK ⊢
        try generalize xF 5 = yy5 at *
        obtain rfl := dd5
        obtain hbR := id hR
        rw [if_pos (by rfl)]
        go_simp
        exact hK.out _ _ (Below.refl _ _) (rfl) (fun _ _ _ => ⟨trivial, trivial⟩)
      refine FlowAll.cons ?_ ?_
      · intro xF wq hR hd K hK
        have dd6 : ((xF 6) = .bool false) := hd 6 (by kernel_rfl)
        clear hd
        simp only [List.take_succ_cons, List.take_zero, fillOf, Act.put, List.setIfInBounds_toArray, List.set_cons_zero, List.set_cons_succ, Nat.reduceAdd, Nat.zero_add] at hK ⊢
        try generalize xF 6 = yy6 at *
        obtain rfl := dd6
        obtain hbR := id hR
        obtain ⟨x0, x1, x2, x3, x4, x5⟩ := HX.out _ hR
        rw [if_pos (by rfl)]
        go_simp
        exact hK.out _ _ (Below.refl _ _) (rfl) (fun _ _ _ => ⟨trivial, trivial⟩)
      refine FlowAll.cons ?_ ?_
      · intro xF wq hR hd K hK
        have dd6 : ((xF 6) = .bool false) := hd 6 (by kernel_rfl)
        have dd7 : ((xF 7) = .agg #[.slice a1 n1 c1, .slice a2 n2 c2]) := hd 7 (by kernel_rfl)
        clear hd
        simp only [List.take_succ_cons, List.take_zero, fillOf, Act.put, List.setIfInBounds_toArray, List.set_cons_zero, List.set_cons_succ, Nat.reduceAdd, Nat.zero_add] at hK ⊢
        try generalize xF 6 = yy6 at *
        try generalize xF 7 = yy7 at *
        obtain rfl := dd6
        obtain rfl := dd7
        obtain hbR := id hR
        rw [if_pos (by rfl)]
        go_simp
        exact hK.out _ _ (ctx_below) (⟨_, rfl, by simp, World.cell?_alloc_at _ _ _ _ rfl, World.cell?_alloc_at _ _ _ _ rfl⟩) (fun _ _ _ => ⟨trivial, trivial⟩)
      refine FlowAll.cons ?_ ?_
      · intro xF wq hR hd K hK
        have dd6 : ((xF 6) = .bool false) := hd 6 (by kernel_rfl)
        have dd8 : (∃ g, (xF 8) = .slice (some ⟨g, 0, none⟩) 1 1 ∧ g < wq.heap.size ∧ wq.cell? ⟨g, 0, none⟩ = some (.slice a1 n1 c1) ∧ wq.cell? ⟨g, 1, none⟩ = some (.slice a2 n2 c2)) := hd 8 (by kernel_rfl)
        clear hd
        simp only [List.take_succ_cons, List.take_zero, fillOf, Act.put, List.setIfInBounds_toArray, List.set_cons_zero, List.set_cons_succ, Nat.reduceAdd, Nat.zero_add] at hK ⊢
        try generalize xF 6 = yy6 at *
        try generalize xF 8 = yy8 at *
        obtain rfl := dd6
        obtain ⟨g8, rfl, hg8, ga8, gb8⟩ := dd8
        obtain hbR := id hR
        rw [if_pos (by rfl)]
        go_simp
        (go_at_call 10; (with_reducible refine (HFR.out _ _ hg8 ga8 gb8).mono ?_); rintro e wK ⟨rfl, hbK⟩)
        try go_wp2_with fail
        exact hK.out _ _ (hbK) (rfl) (fun _ _ _ => ⟨trivial, trivial⟩)
      refine FlowAll.cons ?_ ?_
      · intro xF wq hR hd K hK
        have dd6 : ((xF 6) = .bool false) := hd 6 (by kernel_rfl)
        have dd9 : ((xF 9) = .bool false) := hd 9 (by kernel_rfl)
        clear hd
        simp only [List.take_succ_cons, List.take_zero, fillOf, Act.put, List.setIfInBounds_toArray, List.set_cons_zero, List.set_cons_succ, Nat.reduceAdd, Nat.zero_add] at hK ⊢
        try generalize xF 6 = yy6 at *
        try generalize xF 9 = yy9 at *
        obtain rfl := dd6
        obtain rfl := dd9
        obtain hbR := id hR
        rw [if_pos (by rfl)]
        go_simp
        exact hK.out _ _ (Below.refl _ _) (rfl) (fun _ _ _ => ⟨trivial, trivial⟩)
      refine FlowAll.cons ?_ ?_
      · intro xF wq hR hd K hK
        have dd6 : ((xF 6) = .bool false) := hd 6 (by kernel_rfl)
        have dd10 : ((xF 10) = .bool true) := hd 10 (by kernel_rfl)
        clear hd
        simp only [List.take_succ_cons, List.take_zero, fillOf, Act.put, List.setIfInBounds_toArray, List.set_cons_zero, List.set_cons_succ, Nat.reduceAdd, Nat.zero_add] at hK ⊢
        try generalize xF 6 = yy6 at *
        try generalize xF 10 = yy10 at *
        obtain rfl := dd6
        obtain rfl := dd10
        obtain hbR := id hR
        rw [if_pos (by rfl)]
        go_simp
        exact hK.out _ _ (Below.refl _ _) (rfl) (fun _ _ _ => ⟨trivial, trivial⟩)
      refine FlowAll.cons ?_ ?_
      · intro xF wq hR hd K hK
        have dd11 : ((xF 11) = .bool true) := hd 11 (by kernel_rfl)
        clear hd
        simp only [List.take_succ_cons, List.take_zero, fillOf, Act.put, List.setIfInBounds_toArray, List.set_cons_zero, List.set_cons_succ, Nat.reduceAdd, Nat.zero_add] at hK ⊢
        try generalize xF 11 = yy11 at *
        obtain rfl := dd11
        obtain hbR := id hR
        obtain ⟨x0, x1, x2, x3, x4, x5⟩ := HX.out _ hR
        rw [if_pos (by rfl)]
        go_simp
        exact hK.out _ _ (Below.refl _ _) (rfl) (fun _ _ _ => ⟨trivial, trivial⟩)
      refine FlowAll.cons ?_ ?_
      · intro xF wq hR hd K hK
        have dd11 : ((xF 11) = .bool true) := hd 11 (by kernel_rfl)
        have dd12 : ((xF 12) = .agg #[.int .i64 du, .int .i64 dv]) := hd 12 (by kernel_rfl)
        clear hd
        simp only [List.take_succ_cons, List.take_zero, fillOf, Act.put, List.setIfInBounds_toArray, List.set_cons_zero, List.set_cons_succ, Nat.reduceAdd, Nat.zero_add] at hK ⊢
        try generalize xF 11 = yy11 at *
        try generalize xF 12 = yy12 at *
        obtain rfl := dd11
        obtain rfl := dd12
        obtain hbR := id hR
        rw [if_pos (by rfl)]
        go_simp
        (go_at_call 12; (with_reducible refine (HV1.out _).mono ?_); rintro e wK ⟨rfl, hbK⟩)
        try go_wp2_with fail
        exact hK.out _ _ (hbK) (rfl) (fun _ _ _ => ⟨trivial, trivial⟩)
      refine FlowAll.cons ?_ ?_
      · intro xF wq hR hd K hK
        have dd11 : ((xF 11) = .bool true) := hd 11 (by kernel_rfl)
        clear hd
        simp only [List.take_succ_cons, List.take_zero, fillOf, Act.put, List.setIfInBounds_toArray, List.set_cons_zero, List.set_cons_succ, Nat.reduceAdd, Nat.zero_add] at hK ⊢
        try generalize xF 11 = yy11 at *
        obtain rfl := dd11
        obtain hbR := id hR
        obtain ⟨x0, x1, x2, x3, x4, x5⟩ := HX.out _ hR
        rw [if_pos (by rfl)]
        go_simp
        exact hK.out _ _ (Below.refl _ _) (rfl) (fun _ _ _ => ⟨trivial, trivial⟩)
      refine FlowAll.cons ?_ ?_
      · intro xF wq hR hd K hK
        have dd11 : ((xF 11) = .bool true) := hd 11 (by kernel_rfl)
        have dd14 : ((xF 14) = .agg #[.int .i64 du, .int .i64 dv]) := hd 14 (by kernel_rfl)
        clear hd
        simp only [List.take_succ_cons, List.take_zero, fillOf, Act.put, List.setIfInBounds_toArray, List.set_cons_zero, List.set_cons_succ, Nat.reduceAdd, Nat.zero_add] at hK ⊢
        try generalize xF 11 = yy11 at *
        try generalize xF 14 = yy14 at *
        obtain rfl := dd11
        obtain rfl := dd14
        obtain hbR := id hR
        rw [if_pos (by rfl)]
        go_simp
        (go_at_call 13; (with_reducible refine (HV2.out _).mono ?_); rintro e wK ⟨rfl, hbK⟩)
        try go_wp2_with fail
        exact hK.out _ _ (hbK) (rfl) (fun _ _ _ => ⟨trivial, trivial⟩)
      refine FlowAll.cons ?_ ?_
      · intro xF wq hR hd K hK
        have dd11 : ((xF 11) = .bool true) := hd 11 (by kernel_rfl)
        have dd13 : ((xF 13) = .bool V) := hd 13 (by kernel_rfl)
        have dd15 : ((xF 15) = .bool V) := hd 15 (by kernel_rfl)
        clear hd
        simp only [List.take_succ_cons, List.take_zero, fillOf, Act.put, List.setIfInBounds_toArray, List.set_cons_zero, List.set_cons_succ, Nat.reduceAdd, Nat.zero_add] at hK ⊢
        try generalize xF 11 = yy11 at *
        try generalize xF 13 = yy13 at *
        try generalize xF 15 = yy15 at *
        obtain rfl := dd11
        obtain rfl := dd13
        obtain rfl := dd15
        obtain hbR := id hR
        rw [if_pos (by rfl)]
        go_simp
        exact hK.out _ _ (Below.refl _ _) (rfl) (fun _ _ _ => ⟨trivial, trivial⟩)
      refine FlowAll.cons ?_ ?_
      · intro xF wq hR hd K hK
        have dd6 : ((xF 6) = .bool false) := hd 6 (by kernel_rfl)
        have dd11 : ((xF 11) = .bool true) := hd 11 (by kernel_rfl)
        have dd16 : ((xF 16) = .bool true) := hd 16 (by kernel_rfl)
        clear hd
        simp only [List.take_succ_cons, List.take_zero, fillOf, Act.put, List.setIfInBounds_toArray, List.set_cons_zero, List.set_cons_succ, Nat.reduceAdd, Nat.zero_add] at hK ⊢
        try generalize xF 6 = yy6 at *
        try generalize xF 11 = yy11 at *
        try generalize xF 16 = yy16 at *
        obtain rfl := dd6
        obtain rfl := dd11
        obtain rfl := dd16
        obtain hbR := id hR
        rw [if_pos (by rfl)]
        go_simp
        exact hK.out _ _ (Below.refl _ _) (rfl) (fun _ _ _ => ⟨trivial, trivial⟩)
      refine FlowAll.cons ?_ ?_
      · intro xF wq hR hd K hK
        have dd6 : ((xF 6) = .bool false) := hd 6 (by kernel_rfl)
        have dd17 : ((xF 17) = .bool true) := hd 17 (by kernel_rfl)
        clear hd
        simp only [List.take_succ_cons, List.take_zero, fillOf, Act.put, List.setIfInBounds_toArray, List.set_cons_zero, List.set_cons_succ, Nat.reduceAdd, Nat.zero_add] at hK ⊢
        try generalize xF 6 = yy6 at *
        try generalize xF 17 = yy17 at *
        obtain rfl := dd6
        obtain rfl := dd17
        obtain hbR := id hR
        rw [if_pos (by rfl)]
        go_simp
        exact hK.out _ _ (Below.refl _ _) (rfl) (fun _ _ _ => ⟨trivial, trivial⟩)
      refine FlowAll.cons ?_ ?_
      · intro xF wq hR hd K hK
        have dd18 : ((xF 18) = .bool true) := hd 18 (by kernel_rfl)
        clear hd
        simp only [List.take_succ_cons, List.take_zero, fillOf, Act.put, List.setIfInBounds_toArray, List.set_cons_zero, List.set_cons_succ, Nat.reduceAdd, Nat.zero_add] at hK ⊢
        try generalize xF 18 = yy18 at *
        obtain rfl := dd18
        obtain hbR := id hR
        obtain ⟨x0, x1, x2, x3, x4, x5⟩ := HX.out _ hR
        rw [if_pos (by rfl)]
        go_simp
        exact hK.out _ _ (Below.refl _ _) (rfl) (fun _ _ _ => ⟨trivial, trivial⟩)
      refine FlowAll.cons ?_ ?_
      · intro xF wq hR hd K hK
        have dd18 : ((xF 18) = .bool true) := hd 18 (by kernel_rfl)
        clear hd
        simp only [List.take_succ_cons, List.take_zero, fillOf, Act.put, List.setIfInBounds_toArray, List.set_cons_zero, List.set_cons_succ, Nat.reduceAdd, Nat.zero_add] at hK ⊢
        try generalize xF 18 = yy18 at *
        obtain rfl := dd18
        obtain hbR := id hR
        obtain ⟨x0, x1, x2, x3, x4, x5⟩ := HX.out _ hR
        rw [if_pos (by rfl)]
        go_simp
        exact hK.out _ _ (Below.refl _ _) (rfl) (fun _ _ _ => ⟨trivial, trivial⟩)
      refine FlowAll.cons ?_ ?_
      · intro xF wq hR hd K hK
        have dd18 : ((xF 18) = .bool true) := hd 18 (by kernel_rfl)
        have dd19 : ((xF 19) = .agg #[.int .i64 du, .int .i64 dv]) := hd 19 (by kernel_rfl)
        have dd20 : ((xF 20) = .agg #[.int .i64 eu, .int .i64 ev]) := hd 20 (by kernel_rfl)
        clear hd
        simp only [List.take_succ_cons, List.take_zero, fillOf, Act.put, List.setIfInBounds_toArray, List.set_cons_zero, List.set_cons_succ, Nat.reduceAdd, Nat.zero_add] at hK ⊢
        try generalize xF 18 = yy18 at *
        try generalize xF 19 = yy19 at *
        try generalize xF 20 = yy20 at *
        obtain rfl := dd18
        obtain rfl := dd19
        obtain rfl := dd20
        obtain hbR := id hR
        rw [if_pos (by rfl)]
        go_simp
        (go_at_call 14; (with_reducible refine (HL1.out _).mono ?_); rintro e wK ⟨rfl, hbK⟩)
        try go_wp2_with fail
        exact hK.out _ _ (hbK) (rfl) (fun _ _ _ => ⟨trivial, trivial⟩)
      refine FlowAll.cons ?_ ?_
      · intro xF wq hR hd K hK
        have dd18 : ((xF 18) = .bool true) := hd 18 (by kernel_rfl)
        clear hd
        simp only [List.take_succ_cons, List.take_zero, fillOf, Act.put, List.setIfInBounds_toArray, List.set_cons_zero, List.set_cons_succ, Nat.reduceAdd, Nat.zero_add] at hK ⊢
        try generalize xF 18 = yy18 at *
        obtain rfl := dd18
        obtain hbR := id hR
        obtain ⟨x0, x1, x2, x3, x4, x5⟩ := HX.out _ hR
        rw [if_pos (by rfl)]
        go_simp
        exact hK.out _ _ (Below.refl _ _) (rfl) (fun _ _ _ => ⟨trivial, trivial⟩)
      refine FlowAll.cons ?_ ?_
      · intro xF wq hR hd K hK
        have dd18 : ((xF 18) = .bool true) := hd 18 (by kernel_rfl)
        clear hd
        simp only [List.take_succ_cons, List.take_zero, fillOf, Act.put, List.setIfInBounds_toArray, List.set_cons_zero, List.set_cons_succ, Nat.reduceAdd, Nat.zero_add] at hK ⊢
        try generalize xF 18 = yy18 at *
        obtain rfl := dd18
        obtain hbR := id hR
        obtain ⟨x0, x1, x2, x3, x4, x5⟩ := HX.out _ hR
        rw [if_pos (by rfl)]
        go_simp
        exact hK.out _ _ (Below.refl _ _) (rfl) (fun _ _ _ => ⟨trivial, trivial⟩)
      refine FlowAll.cons ?_ ?_
      · intro xF wq hR hd K hK
        have dd18 : ((xF 18) = .bool true) := hd 18 (by kernel_rfl)
        have dd22 : ((xF 22) = .agg #[.int .i64 du, .int .i64 dv]) := hd 22 (by kernel_rfl)
        have dd23 : ((xF 23) = .agg #[.int .i64 eu, .int .i64 ev]) := hd 23 (by kernel_rfl)
        clear hd
        simp only [List.take_succ_cons, List.take_zero, fillOf, Act.put, List.setIfInBounds_toArray, List.set_cons_zero, List.set_cons_succ, Nat.reduceAdd, Nat.zero_add] at hK ⊢
        try generalize xF 18 = yy18 at *
        try generalize xF 22 = yy22 at *
        try generalize xF 23 = yy23 at *
        obtain rfl := dd18
        obtain rfl := dd22
        obtain rfl := dd23
        obtain hbR := id hR
        rw [if_pos (by rfl)]
        go_simp
        (go_at_call 15; (with_reducible refine (HL2.out _).mono ?_); rintro e wK ⟨rfl, hbK⟩)
        try go_wp2_with fail
        exact hK.out _ _ (hbK) (rfl) (fun _ _ _ => ⟨trivial, trivial⟩)
      refine FlowAll.cons ?_ ?_
      · intro xF wq hR hd K hK
        have dd18 : ((xF 18) = .bool true) := hd 18 (by kernel_rfl)
        have dd21 : ((xF 21) = .bool L) := hd 21 (by kernel_rfl)
        have dd24 : ((xF 24) = .bool L) := hd 24 (by kernel_rfl)
        clear hd
        simp only [List.take_succ_cons, List.take_zero, fillOf, Act.put, List.setIfInBounds_toArray, List.set_cons_zero, List.set_cons_succ, Nat.reduceAdd, Nat.zero_add] at hK ⊢
        try generalize xF 18 = yy18 at *
        try generalize xF 21 = yy21 at *
        try generalize xF 24 = yy24 at *
        obtain rfl := dd18
        obtain rfl := dd21
        obtain rfl := dd24
        obtain hbR := id hR
        rw [if_pos (by rfl)]
        go_simp
        exact hK.out _ _ (Below.refl _ _) (rfl) (fun _ _ _ => ⟨trivial, trivial⟩)
      refine FlowAll.cons ?_ ?_
      · intro xF wq hR hd K hK
        have dd6 : ((xF 6) = .bool false) := hd 6 (by kernel_rfl)
        have dd18 : ((xF 18) = .bool true) := hd 18 (by kernel_rfl)
        have dd25 : ((xF 25) = .bool true) := hd 25 (by kernel_rfl)
        clear hd
        simp only [List.take_succ_cons, List.take_zero, fillOf, Act.put, List.setIfInBounds_toArray, List.set_cons_zero, List.set_cons_succ, Nat.reduceAdd, Nat.zero_add] at hK ⊢
        try generalize xF 6 = yy6 at *
        try generalize xF 18 = yy18 at *
        try generalize xF 25 = yy25 at *
        obtain rfl := dd6
        obtain rfl := dd18
        obtain rfl := dd25
        obtain hbR := id hR
        rw [if_pos (by rfl)]
        go_simp
        exact hK.out _ _ (Below.refl _ _) (rfl) (fun _ _ _ => ⟨trivial, trivial⟩)
      refine FlowAll.cons ?_ ?_
      · intro xF wq hR hd K hK
        have dd6 : ((xF 6) = .bool false) := hd 6 (by kernel_rfl)
        have dd26 : ((xF 26) = .bool true) := hd 26 (by kernel_rfl)
        clear hd
        simp only [List.take_succ_cons, List.take_zero, fillOf, Act.put, List.setIfInBounds_toArray, List.set_cons_zero, List.set_cons_succ, Nat.reduceAdd, Nat.zero_add] at hK ⊢
        try generalize xF 6 = yy6 at *
        try generalize xF 26 = yy26 at *
        obtain rfl := dd6
        obtain rfl := dd26
        obtain hbR := id hR
        rw [if_pos (by rfl)]
        go_simp
        exact hK.out _ _ (Below.refl _ _) (rfl) (fun _ _ _ => ⟨trivial, trivial⟩)
      refine FlowAll.cons ?_ ?_
      · intro xF wq hR hd K hK
        have dd27 : ((xF 27) = .bool true) := hd 27 (by kernel_rfl)
        clear hd
        simp only [List.take_succ_cons, List.take_zero, fillOf, Act.put, List.setIfInBounds_toArray, List.set_cons_zero, List.set_cons_succ, Nat.reduceAdd, Nat.zero_add] at hK ⊢
        try generalize xF 27 = yy27 at *
        obtain rfl := dd27
        obtain hbR := id hR
        obtain ⟨x0, x1, x2, x3, x4, x5⟩ := HX.out _ hR
        rw [if_pos (by rfl)]
        go_simp
        exact hK.out _ _ (Below.refl _ _) (rfl) (fun _ _ _ => ⟨trivial, trivial⟩)
      refine FlowAll.cons ?_ ?_
      · intro xF wq hR hd K hK
        have dd27 : ((xF 27) = .bool true) := hd 27 (by kernel_rfl)
        clear hd
        simp only [List.take_succ_cons, List.take_zero, fillOf, Act.put, List.setIfInBounds_toArray, List.set_cons_zero, List.set_cons_succ, Nat.reduceAdd, Nat.zero_add] at hK ⊢
        try generalize xF 27 = yy27 at *
        obtain rfl := dd27
        obtain hbR := id hR
        obtain ⟨x0, x1, x2, x3, x4, x5⟩ := HX.out _ hR
        rw [if_pos (by rfl)]
        go_simp
        exact hK.out _ _ (Below.refl _ _) (rfl) (fun _ _ _ => ⟨trivial, trivial⟩)
      refine FlowAll.cons ?_ ?_
      · intro xF wq hR hd K hK
        have dd27 : ((xF 27) = .bool true) := hd 27 (by kernel_rfl)
        have dd28 : ((xF 28) = .agg #[.slice a1 n1 c1, .slice a2 n2 c2]) := hd 28 (by kernel_rfl)
        have dd29 : ((xF 29) = .agg #[.int .i64 du, .int .i64 dv]) := hd 29 (by kernel_rfl)
        clear hd
        simp only [List.take_succ_cons, List.take_zero, fillOf, Act.put, List.setIfInBounds_toArray, List.set_cons_zero, List.set_cons_succ, Nat.reduceAdd, Nat.zero_add] at hK ⊢
        try generalize xF 27 = yy27 at *
        try generalize xF 28 = yy28 at *
        try generalize xF 29 = yy29 at *
        obtain rfl := dd27
        obtain rfl := dd28
        obtain rfl := dd29
        obtain hbR := id hR
        rw [if_pos (by rfl)]
        go_simp
        (go_at_call 16; (with_reducible refine (HH1.out _ hR).mono ?_); rintro e wK ⟨rfl, hbK⟩)
        try go_wp2_with fail
        exact hK.out _ _ (hbK) (rfl) (fun _ _ _ => ⟨trivial, trivial⟩)
      refine FlowAll.cons ?_ ?_
      · intro xF wq hR hd K hK
        have dd27 : ((xF 27) = .bool true) := hd 27 (by kernel_rfl)
        clear hd
        simp only [List.take_succ_cons, List.take_zero, fillOf, Act.put, List.setIfInBounds_toArray, List.set_cons_zero, List.set_cons_succ, Nat.reduceAdd, Nat.zero_add] at hK ⊢
        try generalize xF 27 = yy27 at *
        obtain rfl := dd27
        obtain hbR := id hR
        obtain ⟨x0, x1, x2, x3, x4, x5⟩ := HX.out _ hR
        rw [if_pos (by rfl)]
        go_simp
        exact hK.out _ _ (Below.refl _ _) (rfl) (fun _ _ _ => ⟨trivial, trivial⟩)
      refine FlowAll.cons ?_ ?_
      · intro xF wq hR hd K hK
        have dd27 : ((xF 27) = .bool true) := hd 27 (by kernel_rfl)
        clear hd
        simp only [List.take_succ_cons, List.take_zero, fillOf, Act.put, List.setIfInBounds_toArray, List.set_cons_zero, List.set_cons_succ, Nat.reduceAdd, Nat.zero_add] at hK ⊢
        try generalize xF 27 = yy27 at *
        obtain rfl := dd27
        obtain hbR := id hR
        obtain ⟨x0, x1, x2, x3, x4, x5⟩ := HX.out _ hR
        rw [if_pos (by rfl)]
        go_simp
        exact hK.out _ _ (Below.refl _ _) (rfl) (fun _ _ _ => ⟨trivial, trivial⟩)
      refine FlowAll.cons ?_ ?_
      · intro xF wq hR hd K hK
        have dd27 : ((xF 27) = .bool true) := hd 27 (by kernel_rfl)
        have dd31 : ((xF 31) = .agg #[.slice a1 n1 c1, .slice a2 n2 c2]) := hd 31 (by kernel_rfl)
        have dd32 : ((xF 32) = .agg #[.int .i64 du, .int .i64 dv]) := hd 32 (by kernel_rfl)
        clear hd
        simp only [List.take_succ_cons, List.take_zero, fillOf, Act.put, List.setIfInBounds_toArray, List.set_cons_zero, List.set_cons_succ, Nat.reduceAdd, Nat.zero_add] at hK ⊢
        try generalize xF 27 = yy27 at *
        try generalize xF 31 = yy31 at *
        try generalize xF 32 = yy32 at *
        obtain rfl := dd27
        obtain rfl := dd31
        obtain rfl := dd32
        obtain hbR := id hR
        rw [if_pos (by rfl)]
        go_simp
        (go_at_call 17; (with_reducible refine (HH2.out _ hR).mono ?_); rintro e wK ⟨rfl, hbK⟩)
        try go_wp2_with fail
        exact hK.out _ _ (hbK) (rfl) (fun _ _ _ => ⟨trivial, trivial⟩)
      refine FlowAll.cons ?_ ?_
      · intro xF wq hR hd K hK
        have dd27 : ((xF 27) = .bool true) := hd 27 (by kernel_rfl)
        have dd30 : ((xF 30) = .bool H) := hd 30 (by kernel_rfl)
        have dd33 : ((xF 33) = .bool H) := hd 33 (by kernel_rfl)
        clear hd
        simp only [List.take_succ_cons, List.take_zero, fillOf, Act.put, List.setIfInBounds_toArray, List.set_cons_zero, List.set_cons_succ, Nat.reduceAdd, Nat.zero_add] at hK ⊢
        try generalize xF 27 = yy27 at *
        try generalize xF 30 = yy30 at *
        try generalize xF 33 = yy33 at *
        obtain rfl := dd27
        obtain rfl := dd30
        obtain rfl := dd33
        obtain hbR := id hR
        rw [if_pos (by rfl)]
        go_simp
        exact hK.out _ _ (Below.refl _ _) (rfl) (fun _ _ _ => ⟨trivial, trivial⟩)
      refine FlowAll.cons ?_ ?_
      · intro xF wq hR hd K hK
        have dd6 : ((xF 6) = .bool false) := hd 6 (by kernel_rfl)
        have dd27 : ((xF 27) = .bool true) := hd 27 (by kernel_rfl)
        have dd34 : ((xF 34) = .bool true) := hd 34 (by kernel_rfl)
        clear hd
        simp only [List.take_succ_cons, List.take_zero, fillOf, Act.put, List.setIfInBounds_toArray, List.set_cons_zero, List.set_cons_succ, Nat.reduceAdd, Nat.zero_add] at hK ⊢
        try generalize xF 6 = yy6 at *
        try generalize xF 27 = yy27 at *
        try generalize xF 34 = yy34 at *
        obtain rfl := dd6
        obtain rfl := dd27
        obtain rfl := dd34
        obtain hbR := id hR
        rw [if_pos (by rfl)]
        go_simp
        exact hK.out _ _ (Below.refl _ _) (rfl) (fun _ _ _ => ⟨trivial, trivial⟩)
      refine FlowAll.cons ?_ ?_
      · intro xF wq hR hd K hK
        have dd6 : ((xF 6) = .bool false) := hd 6 (by kernel_rfl)
        have dd35 : ((xF 35) = .bool true) := hd 35 (by kernel_rfl)
        clear hd
        simp only [List.take_succ_cons, List.take_zero, fillOf, Act.put, List.setIfInBounds_toArray, List.set_cons_zero, List.set_cons_succ, Nat.reduceAdd, Nat.zero_add] at hK ⊢
        try generalize xF 6 = yy6 at *
        try generalize xF 35 = yy35 at *
        obtain rfl := dd6
        obtain rfl := dd35
        obtain hbR := id hR
        rw [if_pos (by rfl)]
        go_simp
        exact hK.out _ _ (Below.refl _ _) (rfl) (fun _ _ _ => ⟨trivial, trivial⟩)
      refine FlowAll.cons ?_ ?_
      · intro xF wq hR hd K hK
        have dd36 : ((xF 36) = .bool true) := hd 36 (by kernel_rfl)
        clear hd
        simp only [List.take_succ_cons, List.take_zero, fillOf, Act.put, List.setIfInBounds_toArray, List.set_cons_zero, List.set_cons_succ, Nat.reduceAdd, Nat.zero_add] at hK ⊢
        try generalize xF 36 = yy36 at *
        obtain rfl := dd36
        obtain hbR := id hR
        obtain ⟨x0, x1, x2, x3, x4, x5⟩ := HX.out _ hR
        rw [if_pos (by rfl)]
        go_simp
        exact hK.out _ _ (Below.refl _ _) (rfl) (fun _ _ _ => ⟨trivial, trivial⟩)
      refine FlowAll.cons ?_ ?_
      · intro xF wq hR hd K hK
        have dd36 : ((xF 36) = .bool true) := hd 36 (by kernel_rfl)
        have dd37 : ((xF 37) = .agg #[.slice a1 n1 c1, .slice a2 n2 c2]) := hd 37 (by kernel_rfl)
        clear hd
        simp only [List.take_succ_cons, List.take_zero, fillOf, Act.put, List.setIfInBounds_toArray, List.set_cons_zero, List.set_cons_succ, Nat.reduceAdd, Nat.zero_add] at hK ⊢
        try generalize xF 36 = yy36 at *
        try generalize xF 37 = yy37 at *
        obtain rfl := dd36
        obtain rfl := dd37
        obtain hbR := id hR
        rw [if_pos (by rfl)]
        go_simp
        (go_at_call 18; (with_reducible refine (HR1.out _ hR).mono ?_); rintro e wK ⟨rfl, hbK⟩)
        try go_wp2_with fail
        exact hK.out _ _ (hbK) (rfl) (fun _ _ _ => ⟨trivial, trivial⟩)
      refine FlowAll.cons ?_ ?_
      · intro xF wq hR hd K hK
        have dd36 : ((xF 36) = .bool true) := hd 36 (by kernel_rfl)
        clear hd
        simp only [List.take_succ_cons, List.take_zero, fillOf, Act.put, List.setIfInBounds_toArray, List.set_cons_zero, List.set_cons_succ, Nat.reduceAdd, Nat.zero_add] at hK ⊢
        try generalize xF 36 = yy36 at *
        obtain rfl := dd36
        obtain hbR := id hR
        obtain ⟨x0, x1, x2, x3, x4, x5⟩ := HX.out _ hR
        rw [if_pos (by rfl)]
        go_simp
        exact hK.out _ _ (Below.refl _ _) (rfl) (fun _ _ _ => ⟨trivial, trivial⟩)
      refine FlowAll.cons ?_ ?_
      · intro xF wq hR hd K hK
        have dd36 : ((xF 36) = .bool true) := hd 36 (by kernel_rfl)
        have dd39 : ((xF 39) = .agg #[.slice a1 n1 c1, .slice a2 n2 c2]) := hd 39 (by kernel_rfl)
        clear hd
        simp only [List.take_succ_cons, List.take_zero, fillOf, Act.put, List.setIfInBounds_toArray, List.set_cons_zero, List.set_cons_succ, Nat.reduceAdd, Nat.zero_add] at hK ⊢
        try generalize xF 36 = yy36 at *
        try generalize xF 39 = yy39 at *
        obtain rfl := dd36
        obtain rfl := dd39
        obtain hbR := id hR
        rw [if_pos (by rfl)]
        go_simp
        (go_at_call 19; (with_reducible refine (HR2.out _ hR).mono ?_); rintro e wK ⟨rfl, hbK⟩)
        try go_wp2_with fail
        exact hK.out _ _ (hbK) (rfl) (fun _ _ _ => ⟨trivial, trivial⟩)
      refine FlowAll.cons ?_ ?_
      · intro xF wq hR hd K hK
        have dd36 : ((xF 36) = .bool true) := hd 36 (by kernel_rfl)
        have dd38 : ((xF 38) = .bool R) := hd 38 (by kernel_rfl)
        have dd40 : ((xF 40) = .bool R) := hd 40 (by kernel_rfl)
        clear hd
        simp only [List.take_succ_cons, List.take_zero, fillOf, Act.put, List.setIfInBounds_toArray, List.set_cons_zero, List.set_cons_succ, Nat.reduceAdd, Nat.zero_add] at hK ⊢
        try generalize xF 36 = yy36 at *
        try generalize xF 38 = yy38 at *
        try generalize xF 40 = yy40 at *
        obtain rfl := dd36
        obtain rfl := dd38
        obtain rfl := dd40
        obtain hbR := id hR
        rw [if_pos (by rfl)]
        go_simp
        exact hK.out _ _ (Below.refl _ _) (rfl) (fun _ _ _ => ⟨trivial, trivial⟩)
      refine FlowAll.cons ?_ ?_
      · intro xF wq hR hd K hK
        have dd6 : ((xF 6) = .bool false) := hd 6 (by kernel_rfl)
        have dd36 : ((xF 36) = .bool true) := hd 36 (by kernel_rfl)
        have dd41 : ((xF 41) = .bool true) := hd 41 (by kernel_rfl)
        clear hd
        simp only [List.take_succ_cons, List.take_zero, fillOf, Act.put, List.setIfInBounds_toArray, List.set_cons_zero, List.set_cons_succ, Nat.reduceAdd, Nat.zero_add] at hK ⊢
        try generalize xF 6 = yy6 at *
        try generalize xF 36 = yy36 at *
        try generalize xF 41 = yy41 at *
        obtain rfl := dd6
        obtain rfl := dd36
        obtain rfl := dd41
        obtain hbR := id hR
        rw [if_pos (by rfl)]
        go_simp
        exact hK.out _ _ (Below.refl _ _) (rfl) (fun _ _ _ => ⟨trivial, trivial⟩)
      refine FlowAll.cons ?_ ?_
      · intro xF wq hR hd K hK
        have dd6 : ((xF 6) = .bool false) := hd 6 (by kernel_rfl)
        have dd42 : ((xF 42) = .bool true) := hd 42 (by kernel_rfl)
        clear hd
        simp only [List.take_succ_cons, List.take_zero, fillOf, Act.put, List.setIfInBounds_toArray, List.set_cons_zero, List.set_cons_succ, Nat.reduceAdd, Nat.zero_add] at hK ⊢
        try generalize xF 6 = yy6 at *
        try generalize xF 42 = yy42 at *
        obtain rfl := dd6
        obtain rfl := dd42
        obtain hbR := id hR
        rw [if_pos (by rfl)]
        go_simp
        exact hK.out _ _ (Below.refl _ _) (rfl) (fun _ _ _ => ⟨trivial, trivial⟩)
      refine FlowAll.cons ?_ ?_
      · intro xF wq hR hd K hK
        have dd43 : ((xF 43) = .bool true) := hd 43 (by kernel_rfl)
        clear hd
        simp only [List.take_succ_cons, List.take_zero, fillOf, Act.put, List.setIfInBounds_toArray, List.set_cons_zero, List.set_cons_succ, Nat.reduceAdd, Nat.zero_add] at hK ⊢
        try generalize xF 43 = yy43 at *
        obtain rfl := dd43
        obtain hbR := id hR
        rw [if_pos (by rfl)]
        go_simp
        (go_at_call 11; (with_reducible refine (HAW.out _).mono ?_); rintro e wK ⟨rfl, hbK⟩)
        try go_wp2_with fail
        exact hK.out _ _ (hbK) (rfl) (fun _ _ _ => ⟨trivial, trivial⟩)
      refine FlowAll.cons ?_ ?_
      · intro xF wq hR hd K hK
        have dd6 : ((xF 6) = .bool false) := hd 6 (by kernel_rfl)
        have dd43 : ((xF 43) = .bool true) := hd 43 (by kernel_rfl)
        have dd44 : ((xF 44) = .bool true) := hd 44 (by kernel_rfl)
        clear hd
        simp only [List.take_succ_cons, List.take_zero, fillOf, Act.put, List.setIfInBounds_toArray, List.set_cons_zero, List.set_cons_succ, Nat.reduceAdd, Nat.zero_add] at hK ⊢
        try generalize xF 6 = yy6 at *
        try generalize xF 43 = yy43 at *
        try generalize xF 44 = yy44 at *
        obtain rfl := dd6
        obtain rfl := dd43
        obtain rfl := dd44
        obtain hbR := id hR
        rw [if_pos (by rfl)]
        go_simp
        exact hK.out _ _ (Below.refl _ _) (rfl) (fun _ _ _ => ⟨trivial, trivial⟩)
      refine FlowAll.cons ?_ ?_
      · intro xF wq hR hd K hK
        have dd6 : ((xF 6) = .bool false) := hd 6 (by kernel_rfl)
        have dd45 : ((xF 45) = .bool true) := hd 45 (by kernel_rfl)
        clear hd
        simp only [List.take_succ_cons, List.take_zero, fillOf, Act.put, List.setIfInBounds_toArray, List.set_cons_zero, List.set_cons_succ, Nat.reduceAdd, Nat.zero_add] at hK ⊢
        try generalize xF 6 = yy6 at *
        try generalize xF 45 = yy45 at *
        obtain rfl := dd6
        obtain rfl := dd45
        obtain hbR := id hR
        rw [if_pos (by rfl)]
        go_simp
        exact hK.out _ _ (Below.refl _ _) (rfl) (fun _ _ _ => ⟨trivial, trivial⟩)
      exact FlowAll.nil
    intro xF wq hR hF hP
    clear hP
    have dd0 : ((xF 0) = .agg #[.slice a1 n1 c1, .slice a2 n2 c2]) := hF 0 (by omega) (by decide)
    have dd1 : (∃ g, (xF 1) = .slice (some ⟨g, 0, none⟩) 1 1 ∧ g < wq.heap.size ∧ wq.cell? ⟨g, 0, none⟩ = some (.slice a1 n1 c1) ∧ wq.cell? ⟨g, 1, none⟩ = some (.slice a2 n2 c2)) := hF 1 (by omega) (by decide)
    have dd2 : ((xF 2) = .bool false) := hF 2 (by omega) (by decide)
    have dd3 : ((xF 3) = .bool false) := hF 3 (by omega) (by decide)
    have dd4 : ((xF 4) = undef) := hF 4 (by omega) (by decide)
    have dd5 : ((xF 5) = .bool false) := hF 5 (by omega) (by decide)
    have dd6 : ((xF 6) = .bool false) := hF 6 (by omega) (by decide)
    have dd7 : ((xF 7) = .agg #[.slice a1 n1 c1, .slice a2 n2 c2]) := hF 7 (by omega) (by decide)
    have dd8 : (∃ g, (xF 8) = .slice (some ⟨g, 0, none⟩) 1 1 ∧ g < wq.heap.size ∧ wq.cell? ⟨g, 0, none⟩ = some (.slice a1 n1 c1) ∧ wq.cell? ⟨g, 1, none⟩ = some (.slice a2 n2 c2)) := hF 8 (by omega) (by decide)
    have dd9 : ((xF 9) = .bool false) := hF 9 (by omega) (by decide)
    have dd10 : ((xF 10) = .bool true) := hF 10 (by omega) (by decide)
    have dd11 : ((xF 11) = .bool true) := hF 11 (by omega) (by decide)
    have dd12 : ((xF 12) = .agg #[.int .i64 du, .int .i64 dv]) := hF 12 (by omega) (by decide)
    have dd13 : ((xF 13) = .bool V) := hF 13 (by omega) (by decide)
    have dd14 : ((xF 14) = .agg #[.int .i64 du, .int .i64 dv]) := hF 14 (by omega) (by decide)
    have dd15 : ((xF 15) = .bool V) := hF 15 (by omega) (by decide)
    have dd16 : ((xF 16) = .bool true) := hF 16 (by omega) (by decide)
    have dd17 : ((xF 17) = .bool true) := hF 17 (by omega) (by decide)
    have dd18 : ((xF 18) = .bool true) := hF 18 (by omega) (by decide)
    have dd19 : ((xF 19) = .agg #[.int .i64 du, .int .i64 dv]) := hF 19 (by omega) (by decide)
    have dd20 : ((xF 20) = .agg #[.int .i64 eu, .int .i64 ev]) := hF 20 (by omega) (by decide)
    have dd21 : ((xF 21) = .bool L) := hF 21 (by omega) (by decide)
    have dd22 : ((xF 22) = .agg #[.int .i64 du, .int .i64 dv]) := hF 22 (by omega) (by decide)
    have dd23 : ((xF 23) = .agg #[.int .i64 eu, .int .i64 ev]) := hF 23 (by omega) (by decide)
    have dd24 : ((xF 24) = .bool L) := hF 24 (by omega) (by decide)
    have dd25 : ((xF 25) = .bool true) := hF 25 (by omega) (by decide)
    have dd26 : ((xF 26) = .bool true) := hF 26 (by omega) (by decide)
    have dd27 : ((xF 27) = .bool true) := hF 27 (by omega) (by decide)
    have dd28 : ((xF 28) = .agg #[.slice a1 n1 c1, .slice a2 n2 c2]) := hF 28 (by omega) (by decide)
    have dd29 : ((xF 29) = .agg #[.int .i64 du, .int .i64 dv]) := hF 29 (by omega) (by decide)
    have dd30 : ((xF 30) = .bool H) := hF 30 (by omega) (by decide)
    have dd31 : ((xF 31) = .agg #[.slice a1 n1 c1, .slice a2 n2 c2]) := hF 31 (by omega) (by decide)
    have dd32 : ((xF 32) = .agg #[.int .i64 du, .int .i64 dv]) := hF 32 (by omega) (by decide)
    have dd33 : ((xF 33) = .bool H) := hF 33 (by omega) (by decide)
    have dd34 : ((xF 34) = .bool true) := hF 34 (by omega) (by decide)
    have dd35 : ((xF 35) = .bool true) := hF 35 (by omega) (by decide)
    have dd36 : ((xF 36) = .bool true) := hF 36 (by omega) (by decide)
    have dd37 : ((xF 37) = .agg #[.slice a1 n1 c1, .slice a2 n2 c2]) := hF 37 (by omega) (by decide)
    have dd38 : ((xF 38) = .bool R) := hF 38 (by omega) (by decide)
    have dd39 : ((xF 39) = .agg #[.slice a1 n1 c1, .slice a2 n2 c2]) := hF 39 (by omega) (by decide)
    have dd40 : ((xF 40) = .bool R) := hF 40 (by omega) (by decide)
    have dd41 : ((xF 41) = .bool true) := hF 41 (by omega) (by decide)
    have dd42 : ((xF 42) = .bool true) := hF 42 (by omega) (by decide)
    have dd43 : ((xF 43) = .bool true) := hF 43 (by omega) (by decide)
    have dd44 : ((xF 44) = .bool true) := hF 44 (by omega) (by decide)
    have dd45 : ((xF 45) = .bool true) := hF 45 (by omega) (by decide)
    have dd46 : ((xF 46) = .bool true) := hF 46 (by omega) (by decide)
    clear hF
    simp only [List.take_succ_cons, List.take_zero, List.drop_succ_cons, List.drop_zero, fillOf, Act.put, List.setIfInBounds_toArray, List.set_cons_zero, List.set_cons_succ, Nat.reduceAdd, Nat.zero_add]
    try generalize xF 0 = yy0 at *
    try generalize xF 1 = yy1 at *
    try generalize xF 2 = yy2 at *
    try generalize xF 3 = yy3 at *
    try generalize xF 4 = yy4 at *
    try generalize xF 5 = yy5 at *
    try generalize xF 6 = yy6 at *
    try generalize xF 7 = yy7 at *
    try generalize xF 8 = yy8 at *
    try generalize xF 9 = yy9 at *
    try generalize xF 10 = yy10 at *
    try generalize xF 11 = yy11 at *
    try generalize xF 12 = yy12 at *
    try generalize xF 13 = yy13 at *
    try generalize xF 14 = yy14 at *
    try generalize xF 15 = yy15 at *
    try generalize xF 16 = yy16 at *
    try generalize xF 17 = yy17 at *
    try generalize xF 18 = yy18 at *
    try generalize xF 19 = yy19 at *
    try generalize xF 20 = yy20 at *
    try generalize xF 21 = yy21 at *
    try generalize xF 22 = yy22 at *
    try generalize xF 23 = yy23 at *
    try generalize xF 24 = yy24 at *
    try generalize xF 25 = yy25 at *
    try generalize xF 26 = yy26 at *
    try generalize xF 27 = yy27 at *
    try generalize xF 28 = yy28 at *
    try generalize xF 29 = yy29 at *
    try generalize xF 30 = yy30 at *
    try generalize xF 31 = yy31 at *
    try generalize xF 32 = yy32 at *
    try generalize xF 33 = yy33 at *
    try generalize xF 34 = yy34 at *
    try generalize xF 35 = yy35 at *
    try generalize xF 36 = yy36 at *
    try generalize xF 37 = yy37 at *
    try generalize xF 38 = yy38 at *
    try generalize xF 39 = yy39 at *
    try generalize xF 40 = yy40 at *
    try generalize xF 41 = yy41 at *
    try generalize xF 42 = yy42 at *
    try generalize xF 43 = yy43 at *
    try generalize xF 44 = yy44 at *
    try generalize xF 45 = yy45 at *
    try generalize xF 46 = yy46 at *
    clear xF
    obtain rfl := dd0
    obtain ⟨g1, rfl, hg1, ga1, gb1⟩ := dd1
    obtain rfl := dd2
    obtain rfl := dd3
    obtain rfl := dd4
    obtain rfl := dd5
    obtain rfl := dd6
    obtain rfl := dd7
    obtain ⟨g8, rfl, hg8, ga8, gb8⟩ := dd8
    obtain rfl := dd9
    obtain rfl := dd10
    obtain rfl := dd11
    obtain rfl := dd12
    obtain rfl := dd13
    obtain rfl := dd14
    obtain rfl := dd15
    obtain rfl := dd16
    obtain rfl := dd17
    obtain rfl := dd18
    obtain rfl := dd19
    obtain rfl := dd20
    obtain rfl := dd21
    obtain rfl := dd22
    obtain rfl := dd23
    obtain rfl := dd24
    obtain rfl := dd25
    obtain rfl := dd26
    obtain rfl := dd27
    obtain rfl := dd28
    obtain rfl := dd29
    obtain rfl := dd30
    obtain rfl := dd31
    obtain rfl := dd32
    obtain rfl := dd33
    obtain rfl := dd34
    obtain rfl := dd35
    obtain rfl := dd36
    obtain rfl := dd37
    obtain rfl := dd38
    obtain rfl := dd39
    obtain rfl := dd40
    obtain rfl := dd41
    obtain rfl := dd42
    obtain rfl := dd43
    obtain rfl := dd44
    obtain rfl := dd45
    obtain rfl := dd46
    have hRE := Lib.hid hR
    clear hR
    have hb9 := E1.trans (hRE.out.mono E1.size)
    go_wp2
    go_ret
    exact ⟨rfl, hb9⟩
end Go.Proofs.Ytdcmoeklldkccaa
