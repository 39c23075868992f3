/- law DotJoins. -/
import Derived.Test.YtdcmoeklldkccaaDotBox
import Derived.Test.YtdcmoeklldkccaaDotJ2
import Derived.Test.YtdcmoeklldkccaaDotLk
import Derived.Test.YtdcmoeklldkccaaFlow
namespace Go.Proofs.Ytdcmoeklldkccaa
open Go Go.RowKit Go.ChangeShapes cl Go.Sort

set_option maxHeartbeats 8000000 in
set_option maxRecDepth 100000 in
theorem joins_law (a b : dm.Ctx) (du dv : Int) (va vb : Value) (w : World) (ha : CtxAt w w.heap.size va a) (hb : CtxAt w w.heap.size vb b) :
    Calls Try.prog 4 #[va, vb, .agg #[.int .i64 du, .int .i64 dv]] w (Said true w) := by
  obtain ⟨a1, n1, c1, a2, m1, c2, rfl, hn1, hm1⟩ := ha.form
  obtain ⟨b1, n2, d1, b2, m2, d2, rfl, hn2, hm2⟩ := hb.form
  have HCA := Lib.hid ha
  have HCB := Lib.hid hb
  have HN1 := Lib.hid hn1
  have HM1 := Lib.hid hm1
  have HN2 := Lib.hid hn2
  have HM2 := Lib.hid hm2
  have HAW : Hid (∀ W, Calls Try.prog 11 #[] W (Said true W)) := fun W => awake_any W
  obtain ⟨W1, hW1⟩ : ∃ W, W = ((w.alloc (.cells #[.slice a1 n1 c1, .slice a2 m1 c2] 24)).alloc (.cells #[.slice b1 n2 d1, .slice b2 m2 d2] 24)).alloc (.cells #[.int .i64 du, .int .i64 dv] 26) := ⟨_, rfl⟩
  have E1 : Below w.heap.size w W1 := by rw [hW1]; exact (((Below.refl _ _).alloc (Nat.le_refl _) _).alloc (by simp) _).alloc (by simp <;> omega) _
  have x0 : W1.cell? ⟨w.heap.size, 0, none⟩ = some (.slice a1 n1 c1) := by rw [hW1]; go_simp
  have x1 : W1.cell? ⟨w.heap.size, 1, none⟩ = some (.slice a2 m1 c2) := by rw [hW1]; go_simp
  have x2 : W1.cell? ⟨w.heap.size + 1, 0, none⟩ = some (.slice b1 n2 d1) := by rw [hW1]; go_simp
  have x3 : W1.cell? ⟨w.heap.size + 1, 1, none⟩ = some (.slice b2 m2 d2) := by rw [hW1]; go_simp
  have x4 : W1.cell? ⟨w.heap.size + 1 + 1, 0, none⟩ = some (.int .i64 du) := by rw [hW1]; go_simp
  have x5 : W1.cell? ⟨w.heap.size + 1 + 1, 1, none⟩ = some (.int .i64 dv) := by rw [hW1]; go_simp
  have hs1 : W1.heap.size = w.heap.size + 3 := by rw [hW1]; simp
  have HX : Hid (∀ W, Below W1.heap.size W1 W → W.cell? ⟨w.heap.size, 0, none⟩ = some (.slice a1 n1 c1) ∧ W.cell? ⟨w.heap.size, 1, none⟩ = some (.slice a2 m1 c2) ∧ W.cell? ⟨w.heap.size + 1, 0, none⟩ = some (.slice b1 n2 d1) ∧ W.cell? ⟨w.heap.size + 1, 1, none⟩ = some (.slice b2 m2 d2) ∧ W.cell? ⟨w.heap.size + 1 + 1, 0, none⟩ = some (.int .i64 du) ∧ W.cell? ⟨w.heap.size + 1 + 1, 1, none⟩ = some (.int .i64 dv)) := fun W hW =>
    ⟨(hW.cell (p := ⟨w.heap.size, 0, none⟩) (by show w.heap.size < _; omega)).trans x0, (hW.cell (p := ⟨w.heap.size, 1, none⟩) (by show w.heap.size < _; omega)).trans x1, (hW.cell (p := ⟨w.heap.size + 1, 0, none⟩) (by show w.heap.size + 1 < _; omega)).trans x2, (hW.cell (p := ⟨w.heap.size + 1, 1, none⟩) (by show w.heap.size + 1 < _; omega)).trans x3,
     (hW.cell (p := ⟨w.heap.size + 1 + 1, 0, none⟩) (by show w.heap.size + 1 + 1 < _; omega)).trans x4, (hW.cell (p := ⟨w.heap.size + 1 + 1, 1, none⟩) (by show w.heap.size + 1 + 1 < _; omega)).trans x5⟩
  have HW1 := Lib.hid hW1
  have HWA : Hid (∀ W, Below W1.heap.size W1 W → CtxAt W W.heap.size (.agg #[.slice a1 n1 c1, .slice a2 m1 c2]) a) := fun W hW => HCA.out.next (E1.trans (hW.mono E1.size))
  have HWB : Hid (∀ W, Below W1.heap.size W1 W → CtxAt W W.heap.size (.agg #[.slice b1 n2 d1, .slice b2 m2 d2]) b) := fun W hW => HCB.out.next (E1.trans (hW.mono E1.size))
  obtain ⟨O, hO⟩ : ∃ O, O = Obj.cells #[.slice a1 n1 c1, .slice a2 m1 c2, .slice b1 n2 d1, .slice b2 m2 d2] 24 := ⟨_, rfl⟩
  have HF0 : Hid (∀ R, (40 < n1 ∨ 60 < m1 ∨ 40 < n2 ∨ 60 < m2 → R = true) → (¬ (40 < n1 ∨ 60 < m1 ∨ 40 < n2 ∨ 60 < m2) → R = false) → Calls Try.prog 10 #[.slice (some ⟨w.heap.size + 1 + 1 + 1, 0, none⟩) 2 2] (W1.alloc O) (Said R (W1.alloc O))) := fun R h1 h0 => by
    have hg : w.heap.size + 1 + 1 + 1 = W1.heap.size := by omega
    rw [hg, hO]
    refine far_any 2 W1.heap.size (fun j => if j = 0 then a1 else b1) (fun j => if j = 0 then a2 else b2) (fun j => if j = 0 then n1 else n2) (fun j => if j = 0 then m1 else m2) (fun j => if j = 0 then c1 else d1) (fun j => if j = 0 then c2 else d2) R _ (fun j hj => ?_) (by simp) (by omega) (fun j hj => ?_) (fun h => ?_)
    · match j, hj with
      | 0, _ => exact ⟨World.cell?_alloc_at _ _ _ _ rfl, World.cell?_alloc_at _ _ _ _ rfl⟩
      | 1, _ => exact ⟨World.cell?_alloc_at _ _ _ _ rfl, World.cell?_alloc_at _ _ _ _ rfl⟩
    · match j, hj with
      | 0, _ => exact fun h => h1 (by rcases h with h | h; exact Or.inl h; exact Or.inr (Or.inl h))
      | 1, _ => exact fun h => h1 (by rcases h with h | h; exact Or.inr (Or.inr (Or.inl h)); exact Or.inr (Or.inr (Or.inr h)))
    · have e0 := h 0 (by omega)
      have e1 := h 1 (by omega)
      simp only [if_true, Nat.one_ne_zero, if_false] at e0 e1
      exact h0 (by omega)
  have k2 : Below W1.heap.size W1 (W1.alloc O) := ctx_below
  rw [hW1] at x0 x1 x2 x3 x4 x5
  have HOO := Lib.hid hO
  clear hW1 ha hb hn1 hm1 hn2 hm2 hO
  by_cases hfar : 40 < n1 ∨ 60 < m1 ∨ 40 < n2 ∨ 60 < m2
  · have HFR := Lib.hid (HF0.out true (fun _ => rfl) (fun h => absurd hfar h))
    clear hfar HF0
    go_enter Try.func4, Try.ntmps4
    go_wp2_with fail
    rw [← HW1.out]
    try rw [← HOO.out]
    (with_reducible refine HFR.out.mono ?_)
    rintro e w3 ⟨rfl, b3⟩
    have D3 : Below W1.heap.size W1 w3 := k2.trans (b3.mono k2.size)
    clear x0 x1 x2 x3 x4 x5 b3
    go_wp2_with fail
    (with_reducible refine (HAW.out _).mono ?_)
    rintro e w4 ⟨rfl, b4⟩
    have hb9 := E1.trans ((D3.trans (b4.mono D3.size)).mono E1.size)
    go_wp2
    go_ret
    exact ⟨rfl, hb9⟩
  · have HFR := Lib.hid (HF0.out false (fun h => absurd h hfar) (fun _ => rfl))
    have hl1 : n1 ≤ 40 := by omega
    have hl2 : m1 ≤ 60 := by omega
    have hl3 : n2 ≤ 40 := by omega
    have hl4 : m2 ≤ 60 := by omega
    have la1 : a.1.length ≤ 1000 := by rw [← HN1.out]; omega
    have la2 : a.2.length ≤ 60 := by rw [← HM1.out]; exact hl2
    have lb1 : b.1.length ≤ 1000 := by rw [← HN2.out]; omega
    have lb2 : b.2.length ≤ 60 := by rw [← HM2.out]; exact hl4
    obtain ⟨S, hS⟩ : ∃ S, S = decide (a = b) := ⟨_, rfl⟩
    obtain ⟨U, hU⟩ : ∃ U, U = underB a b := ⟨_, rfl⟩
    have HAD : Hid (∀ W, Below W1.heap.size W1 W → Calls Try.prog 20 #[.agg #[.slice a1 n1 c1, .slice a2 m1 c2], .agg #[.int .i64 du, .int .i64 dv]] W (CSay (PA a (du, dv)) W)) := fun W hW => add_says a (du, dv) _ W (HWA.out W hW) (by omega)
    have HRAD : Hid (∀ W, Below W1.heap.size W1 W → Calls Try.prog 21 #[.agg #[.slice a1 n1 c1, .slice a2 m1 c2], .agg #[.int .i64 du, .int .i64 dv]] W (CSay (PA a (du, dv)) W)) := fun W hW => radd_says a (du, dv) _ W (HWA.out W hW) la1 (by omega)
    have HJO : Hid (∀ W, Below W1.heap.size W1 W → Calls Try.prog 22 #[.agg #[.slice a1 n1 c1, .slice a2 m1 c2], .agg #[.slice b1 n2 d1, .slice b2 m2 d2]] W (CSay (PJ a b) W)) := fun W hW => join_says a b _ _ W (HWA.out W hW) (HWB.out W hW) (by omega) (by omega)
    have HRJO : Hid (∀ W, Below W1.heap.size W1 W → Calls Try.prog 23 #[.agg #[.slice a1 n1 c1, .slice a2 m1 c2], .agg #[.slice b1 n2 d1, .slice b2 m2 d2]] W (CSay (PJ a b) W)) := fun W hW => rjoin_says a b _ _ W (HWA.out W hW) (HWB.out W hW) la1 (by omega) (by omega)
    have HS1 : Hid (∀ W, Below W1.heap.size W1 W → Calls Try.prog 25 #[.agg #[.slice a1 n1 c1, .slice a2 m1 c2], .agg #[.slice b1 n2 d1, .slice b2 m2 d2]] W (Said S W)) := fun W hW => by rw [hS]; exact csame_any a b _ _ W (HWA.out W hW) (HWB.out W hW)
    have HS2 : Hid (∀ W, Below W1.heap.size W1 W → Calls Try.prog 24 #[.agg #[.slice a1 n1 c1, .slice a2 m1 c2], .agg #[.slice b1 n2 d1, .slice b2 m2 d2]] W (Said S W)) := fun W hW => by rw [hS]; exact rsame_any a b _ _ W (HWA.out W hW) (HWB.out W hW)
    have HU1 : Hid (∀ W, Below W1.heap.size W1 W → Calls Try.prog 26 #[.agg #[.slice a1 n1 c1, .slice a2 m1 c2], .agg #[.slice b1 n2 d1, .slice b2 m2 d2]] W (Said U W)) := fun W hW => by rw [hU]; exact under_any a b _ _ W (HWA.out W hW) (HWB.out W hW) (by omega) (by omega)
    have HU2 : Hid (∀ W, Below W1.heap.size W1 W → Calls Try.prog 27 #[.agg #[.slice a1 n1 c1, .slice a2 m1 c2], .agg #[.slice b1 n2 d1, .slice b2 m2 d2]] W (Said U W)) := fun W hW => by rw [hU]; exact runder_any a b _ _ W (HWA.out W hW) (HWB.out W hW) (by omega) (by omega) (by omega)
    have HL := Lib.hid (And.intro la1 (And.intro la2 (And.intro lb1 lb2)))
    clear hfar HF0 hS hU la1 la2 lb1 lb2 hl1 hl2 hl3 hl4
    go_enter Try.func4, Try.ntmps4
    go_wp2_with fail
    rw [← HW1.out]
    try rw [← HOO.out]
    (with_reducible refine HFR.out.mono ?_)
    rintro e w3 ⟨rfl, b3⟩
    have D3 : Below W1.heap.size W1 w3 := k2.trans (b3.mono k2.size)
    clear x0 x1 x2 x3 x4 x5 b3 k2
    go_wp2_with fail
    refine wp_flow 8 (fun _ => 1000) (fun ww => RowKit.Below W1.heap.size W1 ww) (fun _ w w' => (fun (w w' : World) => RowKit.Below w.heap.size w w') w w') (fun kF vF wF => match kF with | 0 => (vF = .agg #[.slice a1 n1 c1, .slice a2 m1 c2]) | 1 => (vF = .agg #[.int .i64 du, .int .i64 dv]) | 2 => (∃ x1 x2 x3 x4 x5 x6 cc, vF = .agg #[.slice x1 x2 x3, .slice x4 x5 x6] ∧ CtxAt wF wF.heap.size (.agg #[.slice x1 x2 x3, .slice x4 x5 x6]) cc ∧ PA a (du, dv) cc) | 3 => (vF = .agg #[.slice a1 n1 c1, .slice a2 m1 c2]) | 4 => (vF = .agg #[.int .i64 du, .int .i64 dv]) | 5 => (∃ x1 x2 x3 x4 x5 x6 cc, vF = .agg #[.slice x1 x2 x3, .slice x4 x5 x6] ∧ CtxAt wF wF.heap.size (.agg #[.slice x1 x2 x3, .slice x4 x5 x6]) cc ∧ PA a (du, dv) cc) | 6 => (∃ g, vF = .pointer (some ⟨g, 0, none⟩) ∧ NB W1.heap.size wF g) | 7 => (∃ g, vF = .pointer (some ⟨g, 0, none⟩) ∧ NB W1.heap.size wF g) | _ => True) (fun i j v u => i = 6 ∧ j = 7 → v ≠ u) (by kernel_rfl) (by kernel_rfl) ?_ ?_ ?_ ?_ ?_
    · exact D3.drew
    · intro iF wF1 wF2 hR hT; exact hR.trans (hT.mono hR.size)
    · intro kF hkF iF hiF hne hdd hanc hdan vF wF1 wF2 h hT
      rcases (by omega : kF = 0 ∨ kF = 1 ∨ kF = 2 ∨ kF = 3 ∨ kF = 4 ∨ kF = 5 ∨ kF = 6 ∨ kF = 7) with rfl | rfl | rfl | rfl | rfl | rfl | rfl | rfl
      · exact h
      · exact h
      · have h : (∃ x1 x2 x3 x4 x5 x6 cc, vF = .agg #[.slice x1 x2 x3, .slice x4 x5 x6] ∧ CtxAt wF1 wF1.heap.size (.agg #[.slice x1 x2 x3, .slice x4 x5 x6]) cc ∧ PA a (du, dv) cc) := h
        show (∃ x1 x2 x3 x4 x5 x6 cc, vF = .agg #[.slice x1 x2 x3, .slice x4 x5 x6] ∧ CtxAt wF2 wF2.heap.size (.agg #[.slice x1 x2 x3, .slice x4 x5 x6]) cc ∧ PA a (du, dv) cc)
        have hT : (fun (w w' : World) => RowKit.Below w.heap.size w w') wF1 wF2 := hT
        simp only at hT
        obtain ⟨z1, z2, z3, z4, z5, z6, cc, e, h1, h2⟩ := h
        exact ⟨z1, z2, z3, z4, z5, z6, cc, e, h1.next hT, h2⟩
      · exact h
      · exact h
      · have h : (∃ x1 x2 x3 x4 x5 x6 cc, vF = .agg #[.slice x1 x2 x3, .slice x4 x5 x6] ∧ CtxAt wF1 wF1.heap.size (.agg #[.slice x1 x2 x3, .slice x4 x5 x6]) cc ∧ PA a (du, dv) cc) := h
        show (∃ x1 x2 x3 x4 x5 x6 cc, vF = .agg #[.slice x1 x2 x3, .slice x4 x5 x6] ∧ CtxAt wF2 wF2.heap.size (.agg #[.slice x1 x2 x3, .slice x4 x5 x6]) cc ∧ PA a (du, dv) cc)
        have hT : (fun (w w' : World) => RowKit.Below w.heap.size w w') wF1 wF2 := hT
        simp only at hT
        obtain ⟨z1, z2, z3, z4, z5, z6, cc, e, h1, h2⟩ := h
        exact ⟨z1, z2, z3, z4, z5, z6, cc, e, h1.next hT, h2⟩
      · have h : (∃ g, vF = .pointer (some ⟨g, 0, none⟩) ∧ NB W1.heap.size wF1 g) := h
        show (∃ g, vF = .pointer (some ⟨g, 0, none⟩) ∧ NB W1.heap.size wF2 g)
        have hT : (fun (w w' : World) => RowKit.Below w.heap.size w w') wF1 wF2 := hT
        simp only at hT
        obtain ⟨g, e, h1⟩ := h
        exact ⟨g, e, h1.next hT⟩
      · have h : (∃ g, vF = .pointer (some ⟨g, 0, none⟩) ∧ NB W1.heap.size wF1 g) := h
        show (∃ g, vF = .pointer (some ⟨g, 0, none⟩) ∧ NB W1.heap.size wF2 g)
        have hT : (fun (w w' : World) => RowKit.Below w.heap.size w w') wF1 wF2 := hT
        simp only at hT
        obtain ⟨g, e, h1⟩ := h
        exact ⟨g, e, h1.next hT⟩
    · refine FlowAll.cons ?_ ?_
      · intro xF w6 hR hd K hK
        clear hd
        simp only [List.take_succ_cons, List.take_zero, fillOf, Act.put, List.setIfInBounds_toArray, List.set_cons_zero, List.set_cons_succ, Nat.reduceAdd, Nat.zero_add] at hK ⊢
        obtain hbR := id hR
        obtain ⟨x0, x1, x2, x3, x4, x5⟩ := HX.out _ hR
        rw [if_pos (by rfl)]
        go_simp
        exact hK.out _ _ (Below.refl _ _) (rfl) (fun _ _ _ => ⟨fun h => by omega, fun h => by omega⟩)
      refine FlowAll.cons ?_ ?_
      · intro xF w6 hR hd K hK
        clear hd
        simp only [List.take_succ_cons, List.take_zero, fillOf, Act.put, List.setIfInBounds_toArray, List.set_cons_zero, List.set_cons_succ, Nat.reduceAdd, Nat.zero_add] at hK ⊢
        obtain hbR := id hR
        obtain ⟨x0, x1, x2, x3, x4, x5⟩ := HX.out _ hR
        rw [if_pos (by rfl)]
        go_simp
        exact hK.out _ _ (Below.refl _ _) (rfl) (fun _ _ _ => ⟨fun h => by omega, fun h => by omega⟩)
      refine FlowAll.cons ?_ ?_
      · intro xF w6 hR hd K hK
        have dd0 : ((xF 0) = .agg #[.slice a1 n1 c1, .slice a2 m1 c2]) := hd 0 (by kernel_rfl)
        have dd1 : ((xF 1) = .agg #[.int .i64 du, .int .i64 dv]) := hd 1 (by kernel_rfl)
        clear hd
        simp only [List.take_succ_cons, List.take_zero, fillOf, Act.put, List.setIfInBounds_toArray, List.set_cons_zero, List.set_cons_succ, Nat.reduceAdd, Nat.zero_add] at hK ⊢
        try generalize xF 0 = yy0 at *
        try generalize xF 1 = yy1 at *
        obtain rfl := dd0
        obtain rfl := dd1
        obtain hbR := id hR
        rw [if_pos (by rfl)]
        go_simp
        (go_at_call 20; (with_reducible refine (HAD.out _ hR).mono ?_); rintro e wK ⟨z1, z2, z3, z4, z5, z6, cK, rfl, hcK, hpK, hbK⟩)
        try go_wp2_with fail
        exact hK.out _ _ (hbK) (⟨_, _, _, _, _, _, cK, rfl, hcK, hpK⟩) (fun _ _ _ => ⟨fun h => by omega, fun h => by omega⟩)
      refine FlowAll.cons ?_ ?_
      · intro xF w6 hR hd K hK
        clear hd
        simp only [List.take_succ_cons, List.take_zero, fillOf, Act.put, List.setIfInBounds_toArray, List.set_cons_zero, List.set_cons_succ, Nat.reduceAdd, Nat.zero_add] at hK ⊢
        obtain hbR := id hR
        obtain ⟨x0, x1, x2, x3, x4, x5⟩ := HX.out _ hR
        rw [if_pos (by rfl)]
        go_simp
        exact hK.out _ _ (Below.refl _ _) (rfl) (fun _ _ _ => ⟨fun h => by omega, fun h => by omega⟩)
      refine FlowAll.cons ?_ ?_
      · intro xF w6 hR hd K hK
        clear hd
        simp only [List.take_succ_cons, List.take_zero, fillOf, Act.put, List.setIfInBounds_toArray, List.set_cons_zero, List.set_cons_succ, Nat.reduceAdd, Nat.zero_add] at hK ⊢
        obtain hbR := id hR
        obtain ⟨x0, x1, x2, x3, x4, x5⟩ := HX.out _ hR
        rw [if_pos (by rfl)]
        go_simp
        exact hK.out _ _ (Below.refl _ _) (rfl) (fun _ _ _ => ⟨fun h => by omega, fun h => by omega⟩)
      refine FlowAll.cons ?_ ?_
      · intro xF w6 hR hd K hK
        have dd3 : ((xF 3) = .agg #[.slice a1 n1 c1, .slice a2 m1 c2]) := hd 3 (by kernel_rfl)
        have dd4 : ((xF 4) = .agg #[.int .i64 du, .int .i64 dv]) := hd 4 (by kernel_rfl)
        clear hd
        simp only [List.take_succ_cons, List.take_zero, fillOf, Act.put, List.setIfInBounds_toArray, List.set_cons_zero, List.set_cons_succ, Nat.reduceAdd, Nat.zero_add] at hK ⊢
        try generalize xF 3 = yy3 at *
        try generalize xF 4 = yy4 at *
        obtain rfl := dd3
        obtain rfl := dd4
        obtain hbR := id hR
        rw [if_pos (by rfl)]
        go_simp
        (go_at_call 21; (with_reducible refine (HRAD.out _ hR).mono ?_); rintro e wK ⟨z1, z2, z3, z4, z5, z6, cK, rfl, hcK, hpK, hbK⟩)
        try go_wp2_with fail
        exact hK.out _ _ (hbK) (⟨_, _, _, _, _, _, cK, rfl, hcK, hpK⟩) (fun _ _ _ => ⟨fun h => by omega, fun h => by omega⟩)
      refine FlowAll.cons ?_ ?_
      · intro xF w6 hR hd K hK
        clear hd
        simp only [List.take_succ_cons, List.take_zero, fillOf, Act.put, List.setIfInBounds_toArray, List.set_cons_zero, List.set_cons_succ, Nat.reduceAdd, Nat.zero_add] at hK ⊢
        obtain hbR := id hR
        rw [if_pos (by rfl)]
        go_simp
        refine hK.out _ _ ?_ ?_ ?_
        · exact ctx_below
        · exact ⟨_, rfl, NB.new hR.size⟩
        · intro j u hju
          refine ⟨fun hj => ?_, fun hj => ?_⟩
          · obtain ⟨hj1, hj2⟩ := hj
            subst hj2
            obtain ⟨g, rfl, hg⟩ : (∃ g, u = .pointer (some ⟨g, 0, none⟩) ∧ NB W1.heap.size w6 g) := hju
            have := hg.lt
            intro e
            simp only [Value.pointer.injEq, Option.some.injEq, Addr.mk.injEq] at e
            omega
          · obtain ⟨hj1, hj2⟩ := hj
            subst hj1
            obtain ⟨g, rfl, hg⟩ : (∃ g, u = .pointer (some ⟨g, 0, none⟩) ∧ NB W1.heap.size w6 g) := hju
            have := hg.lt
            intro e
            simp only [Value.pointer.injEq, Option.some.injEq, Addr.mk.injEq] at e
            omega
      refine FlowAll.cons ?_ ?_
      · intro xF w6 hR hd K hK
        clear hd
        simp only [List.take_succ_cons, List.take_zero, fillOf, Act.put, List.setIfInBounds_toArray, List.set_cons_zero, List.set_cons_succ, Nat.reduceAdd, Nat.zero_add] at hK ⊢
        obtain hbR := id hR
        rw [if_pos (by rfl)]
        go_simp
        refine hK.out _ _ ?_ ?_ ?_
        · exact ctx_below
        · exact ⟨_, rfl, NB.new hR.size⟩
        · intro j u hju
          refine ⟨fun hj => ?_, fun hj => ?_⟩
          · obtain ⟨hj1, hj2⟩ := hj
            subst hj2
            obtain ⟨g, rfl, hg⟩ : (∃ g, u = .pointer (some ⟨g, 0, none⟩) ∧ NB W1.heap.size w6 g) := hju
            have := hg.lt
            intro e
            simp only [Value.pointer.injEq, Option.some.injEq, Addr.mk.injEq] at e
            omega
          · obtain ⟨hj1, hj2⟩ := hj
            subst hj1
            obtain ⟨g, rfl, hg⟩ : (∃ g, u = .pointer (some ⟨g, 0, none⟩) ∧ NB W1.heap.size w6 g) := hju
            have := hg.lt
            intro e
            simp only [Value.pointer.injEq, Option.some.injEq, Addr.mk.injEq] at e
            omega
      exact FlowAll.nil
    intro xF w6 hR hF hP
    have hne : (6 = 6 ∧ 7 = 7 → xF 6 ≠ xF 7) := hP 6 7 (by omega) (by omega) (by decide) (by decide) (by omega)
    clear hP
    have dd0 : ((xF 0) = .agg #[.slice a1 n1 c1, .slice a2 m1 c2]) := hF 0 (by omega) (by decide)
    have dd1 : ((xF 1) = .agg #[.int .i64 du, .int .i64 dv]) := hF 1 (by omega) (by decide)
    have dd2 : (∃ x1 x2 x3 x4 x5 x6 cc, (xF 2) = .agg #[.slice x1 x2 x3, .slice x4 x5 x6] ∧ CtxAt w6 w6.heap.size (.agg #[.slice x1 x2 x3, .slice x4 x5 x6]) cc ∧ PA a (du, dv) cc) := hF 2 (by omega) (by decide)
    have dd3 : ((xF 3) = .agg #[.slice a1 n1 c1, .slice a2 m1 c2]) := hF 3 (by omega) (by decide)
    have dd4 : ((xF 4) = .agg #[.int .i64 du, .int .i64 dv]) := hF 4 (by omega) (by decide)
    have dd5 : (∃ x1 x2 x3 x4 x5 x6 cc, (xF 5) = .agg #[.slice x1 x2 x3, .slice x4 x5 x6] ∧ CtxAt w6 w6.heap.size (.agg #[.slice x1 x2 x3, .slice x4 x5 x6]) cc ∧ PA a (du, dv) cc) := hF 5 (by omega) (by decide)
    have dd6 : (∃ g, (xF 6) = .pointer (some ⟨g, 0, none⟩) ∧ NB W1.heap.size w6 g) := hF 6 (by omega) (by decide)
    have dd7 : (∃ g, (xF 7) = .pointer (some ⟨g, 0, none⟩) ∧ NB W1.heap.size w6 g) := hF 7 (by omega) (by decide)
    clear hF
    simp only [List.take_succ_cons, List.take_zero, List.drop_succ_cons, List.drop_zero, fillOf, Act.put, List.setIfInBounds_toArray, List.set_cons_zero, List.set_cons_succ, Nat.reduceAdd, Nat.zero_add]
    try generalize xF 0 = yy0 at *
    try generalize xF 1 = yy1 at *
    try generalize xF 2 = yy2 at *
    try generalize xF 3 = yy3 at *
    try generalize xF 4 = yy4 at *
    try generalize xF 5 = yy5 at *
    try generalize xF 6 = yy6 at *
    try generalize xF 7 = yy7 at *
    clear xF
    obtain rfl := dd0
    obtain rfl := dd1
    obtain ⟨i1, i2, i3, i4, i5, i6, ki, rfl, hci, hpi⟩ := dd2
    obtain rfl := dd3
    obtain rfl := dd4
    obtain ⟨j1, j2, j3, j4, j5, j6, kj, rfl, hcj, hpj⟩ := dd5
    obtain ⟨gi, rfl, hgi⟩ := dd6
    obtain ⟨gj, rfl, hgj⟩ := dd7
    have hRE := Lib.hid hR
    clear hR
    have hne : gi ≠ gj := fun e => hne ⟨rfl, rfl⟩ (by rw [e])
    refine store_ctx rfl (.tmp 7) (.tmp 18) rfl gi rfl rfl hgi (fun wx hx1 => ?_)
    simp only [Act.put]
    refine store_ctx rfl (.tmp 8) (.tmp 21) rfl gj rfl rfl (hgj.far (Ne.symm hne) hx1) (fun W5 hx2 => ?_)
    simp only [Act.put]
    have E50 : Below W1.heap.size W1 W5 := (hRE.out.trans (hx1.below _ hgi.lo)).trans (hx2.below _ hgj.lo)
    have Xi : Hid (KB W5 gi i1 i2 i3 i4 i5 i6 ki) := KB.mk ⟨(hx2.out _ hne).trans hx1.r0, (hx2.out _ hne).trans hx1.r1, by rw [hx2.size, hx1.size]; exact hgi.lt, (hci.keep hx1.keeps).keep hx2.keeps⟩
    have Xj : Hid (KB W5 gj j1 j2 j3 j4 j5 j6 kj) := KB.mk ⟨hx2.r0, hx2.r1, by rw [hx2.size, hx1.size]; exact hgj.lt, (hcj.keep hx1.keeps).keep hx2.keeps⟩
    have HPi := Lib.hid hpi
    have HPj := Lib.hid hpj
    clear hx1 hx2 hne hRE hgi hgj hci hcj hpi hpj
    have E5 := E50
    clear E50
    go_wp2_with fail
    refine wp_flow 8 (fun _ => 1000) (fun ww => RowKit.Below W5.heap.size W5 ww) (fun _ w w' => (fun (w w' : World) => RowKit.Below w.heap.size w w') w w') (fun kF vF wF => match kF with | 0 => (vF = .agg #[.slice a1 n1 c1, .slice a2 m1 c2]) | 1 => (vF = .agg #[.slice b1 n2 d1, .slice b2 m2 d2]) | 2 => (∃ x1 x2 x3 x4 x5 x6 cc, vF = .agg #[.slice x1 x2 x3, .slice x4 x5 x6] ∧ CtxAt wF wF.heap.size (.agg #[.slice x1 x2 x3, .slice x4 x5 x6]) cc ∧ PJ a b cc) | 3 => (vF = .agg #[.slice a1 n1 c1, .slice a2 m1 c2]) | 4 => (vF = .agg #[.slice b1 n2 d1, .slice b2 m2 d2]) | 5 => (∃ x1 x2 x3 x4 x5 x6 cc, vF = .agg #[.slice x1 x2 x3, .slice x4 x5 x6] ∧ CtxAt wF wF.heap.size (.agg #[.slice x1 x2 x3, .slice x4 x5 x6]) cc ∧ PJ a b cc) | 6 => (∃ g, vF = .pointer (some ⟨g, 0, none⟩) ∧ NB W5.heap.size wF g) | 7 => (∃ g, vF = .pointer (some ⟨g, 0, none⟩) ∧ NB W5.heap.size wF g) | _ => True) (fun i j v u => i = 6 ∧ j = 7 → v ≠ u) (by kernel_rfl) (by kernel_rfl) ?_ ?_ ?_ ?_ ?_
    · exact (Below.refl _ _).drew
    · intro iF wF1 wF2 hR hT; exact hR.trans (hT.mono hR.size)
    · intro kF hkF iF hiF hne hdd hanc hdan vF wF1 wF2 h hT
      rcases (by omega : kF = 0 ∨ kF = 1 ∨ kF = 2 ∨ kF = 3 ∨ kF = 4 ∨ kF = 5 ∨ kF = 6 ∨ kF = 7) with rfl | rfl | rfl | rfl | rfl | rfl | rfl | rfl
      · exact h
      · exact h
      · have h : (∃ x1 x2 x3 x4 x5 x6 cc, vF = .agg #[.slice x1 x2 x3, .slice x4 x5 x6] ∧ CtxAt wF1 wF1.heap.size (.agg #[.slice x1 x2 x3, .slice x4 x5 x6]) cc ∧ PJ a b cc) := h
        show (∃ x1 x2 x3 x4 x5 x6 cc, vF = .agg #[.slice x1 x2 x3, .slice x4 x5 x6] ∧ CtxAt wF2 wF2.heap.size (.agg #[.slice x1 x2 x3, .slice x4 x5 x6]) cc ∧ PJ a b cc)
        have hT : (fun (w w' : World) => RowKit.Below w.heap.size w w') wF1 wF2 := hT
        simp only at hT
        obtain ⟨z1, z2, z3, z4, z5, z6, cc, e, h1, h2⟩ := h
        exact ⟨z1, z2, z3, z4, z5, z6, cc, e, h1.next hT, h2⟩
      · exact h
      · exact h
      · have h : (∃ x1 x2 x3 x4 x5 x6 cc, vF = .agg #[.slice x1 x2 x3, .slice x4 x5 x6] ∧ CtxAt wF1 wF1.heap.size (.agg #[.slice x1 x2 x3, .slice x4 x5 x6]) cc ∧ PJ a b cc) := h
        show (∃ x1 x2 x3 x4 x5 x6 cc, vF = .agg #[.slice x1 x2 x3, .slice x4 x5 x6] ∧ CtxAt wF2 wF2.heap.size (.agg #[.slice x1 x2 x3, .slice x4 x5 x6]) cc ∧ PJ a b cc)
        have hT : (fun (w w' : World) => RowKit.Below w.heap.size w w') wF1 wF2 := hT
        simp only at hT
        obtain ⟨z1, z2, z3, z4, z5, z6, cc, e, h1, h2⟩ := h
        exact ⟨z1, z2, z3, z4, z5, z6, cc, e, h1.next hT, h2⟩
      · have h : (∃ g, vF = .pointer (some ⟨g, 0, none⟩) ∧ NB W5.heap.size wF1 g) := h
        show (∃ g, vF = .pointer (some ⟨g, 0, none⟩) ∧ NB W5.heap.size wF2 g)
        have hT : (fun (w w' : World) => RowKit.Below w.heap.size w w') wF1 wF2 := hT
        simp only at hT
        obtain ⟨g, e, h1⟩ := h
        exact ⟨g, e, h1.next hT⟩
      · have h : (∃ g, vF = .pointer (some ⟨g, 0, none⟩) ∧ NB W5.heap.size wF1 g) := h
        show (∃ g, vF = .pointer (some ⟨g, 0, none⟩) ∧ NB W5.heap.size wF2 g)
        have hT : (fun (w w' : World) => RowKit.Below w.heap.size w w') wF1 wF2 := hT
        simp only at hT
        obtain ⟨g, e, h1⟩ := h
        exact ⟨g, e, h1.next hT⟩
    · refine FlowAll.cons ?_ ?_
      · intro xF w9 hR hd K hK
        clear hd
        simp only [List.take_succ_cons, List.take_zero, fillOf, Act.put, List.setIfInBounds_toArray, List.set_cons_zero, List.set_cons_succ, Nat.reduceAdd, Nat.zero_add] at hK ⊢
        obtain hbR := id hR
        obtain ⟨x0, x1, x2, x3, x4, x5⟩ := HX.out _ (E5.trans (hR.mono E5.size))
        rw [if_pos (by rfl)]
        go_simp
        exact hK.out _ _ (Below.refl _ _) (rfl) (fun _ _ _ => ⟨fun h => by omega, fun h => by omega⟩)
      refine FlowAll.cons ?_ ?_
      · intro xF w9 hR hd K hK
        clear hd
        simp only [List.take_succ_cons, List.take_zero, fillOf, Act.put, List.setIfInBounds_toArray, List.set_cons_zero, List.set_cons_succ, Nat.reduceAdd, Nat.zero_add] at hK ⊢
        obtain hbR := id hR
        obtain ⟨x0, x1, x2, x3, x4, x5⟩ := HX.out _ (E5.trans (hR.mono E5.size))
        rw [if_pos (by rfl)]
        go_simp
        exact hK.out _ _ (Below.refl _ _) (rfl) (fun _ _ _ => ⟨fun h => by omega, fun h => by omega⟩)
      refine FlowAll.cons ?_ ?_
      · intro xF w9 hR hd K hK
        have dd0 : ((xF 0) = .agg #[.slice a1 n1 c1, .slice a2 m1 c2]) := hd 0 (by kernel_rfl)
        have dd1 : ((xF 1) = .agg #[.slice b1 n2 d1, .slice b2 m2 d2]) := hd 1 (by kernel_rfl)
        clear hd
        simp only [List.take_succ_cons, List.take_zero, fillOf, Act.put, List.setIfInBounds_toArray, List.set_cons_zero, List.set_cons_succ, Nat.reduceAdd, Nat.zero_add] at hK ⊢
        try generalize xF 0 = yy0 at *
        try generalize xF 1 = yy1 at *
        obtain rfl := dd0
        obtain rfl := dd1
        obtain hbR := id hR
        rw [if_pos (by rfl)]
        go_simp
        (go_at_call 22; (with_reducible refine (HJO.out _ (E5.trans (hR.mono E5.size))).mono ?_); rintro e wK ⟨z1, z2, z3, z4, z5, z6, cK, rfl, hcK, hpK, hbK⟩)
        try go_wp2_with fail
        exact hK.out _ _ (hbK) (⟨_, _, _, _, _, _, cK, rfl, hcK, hpK⟩) (fun _ _ _ => ⟨fun h => by omega, fun h => by omega⟩)
      refine FlowAll.cons ?_ ?_
      · intro xF w9 hR hd K hK
        clear hd
        simp only [List.take_succ_cons, List.take_zero, fillOf, Act.put, List.setIfInBounds_toArray, List.set_cons_zero, List.set_cons_succ, Nat.reduceAdd, Nat.zero_add] at hK ⊢
        obtain hbR := id hR
        obtain ⟨x0, x1, x2, x3, x4, x5⟩ := HX.out _ (E5.trans (hR.mono E5.size))
        rw [if_pos (by rfl)]
        go_simp
        exact hK.out _ _ (Below.refl _ _) (rfl) (fun _ _ _ => ⟨fun h => by omega, fun h => by omega⟩)
      refine FlowAll.cons ?_ ?_
      · intro xF w9 hR hd K hK
        clear hd
        simp only [List.take_succ_cons, List.take_zero, fillOf, Act.put, List.setIfInBounds_toArray, List.set_cons_zero, List.set_cons_succ, Nat.reduceAdd, Nat.zero_add] at hK ⊢
        obtain hbR := id hR
        obtain ⟨x0, x1, x2, x3, x4, x5⟩ := HX.out _ (E5.trans (hR.mono E5.size))
        rw [if_pos (by rfl)]
        go_simp
        exact hK.out _ _ (Below.refl _ _) (rfl) (fun _ _ _ => ⟨fun h => by omega, fun h => by omega⟩)
      refine FlowAll.cons ?_ ?_
      · intro xF w9 hR hd K hK
        have dd3 : ((xF 3) = .agg #[.slice a1 n1 c1, .slice a2 m1 c2]) := hd 3 (by kernel_rfl)
        have dd4 : ((xF 4) = .agg #[.slice b1 n2 d1, .slice b2 m2 d2]) := hd 4 (by kernel_rfl)
        clear hd
        simp only [List.take_succ_cons, List.take_zero, fillOf, Act.put, List.setIfInBounds_toArray, List.set_cons_zero, List.set_cons_succ, Nat.reduceAdd, Nat.zero_add] at hK ⊢
        try generalize xF 3 = yy3 at *
        try generalize xF 4 = yy4 at *
        obtain rfl := dd3
        obtain rfl := dd4
        obtain hbR := id hR
        rw [if_pos (by rfl)]
        go_simp
        (go_at_call 23; (with_reducible refine (HRJO.out _ (E5.trans (hR.mono E5.size))).mono ?_); rintro e wK ⟨z1, z2, z3, z4, z5, z6, cK, rfl, hcK, hpK, hbK⟩)
        try go_wp2_with fail
        exact hK.out _ _ (hbK) (⟨_, _, _, _, _, _, cK, rfl, hcK, hpK⟩) (fun _ _ _ => ⟨fun h => by omega, fun h => by omega⟩)
      refine FlowAll.cons ?_ ?_
      · intro xF w9 hR hd K hK
        clear hd
        simp only [List.take_succ_cons, List.take_zero, fillOf, Act.put, List.setIfInBounds_toArray, List.set_cons_zero, List.set_cons_succ, Nat.reduceAdd, Nat.zero_add] at hK ⊢
        obtain hbR := id hR
        rw [if_pos (by rfl)]
        go_simp
        refine hK.out _ _ ?_ ?_ ?_
        · exact ctx_below
        · exact ⟨_, rfl, NB.new hR.size⟩
        · intro j u hju
          refine ⟨fun hj => ?_, fun hj => ?_⟩
          · obtain ⟨hj1, hj2⟩ := hj
            subst hj2
            obtain ⟨g, rfl, hg⟩ : (∃ g, u = .pointer (some ⟨g, 0, none⟩) ∧ NB W5.heap.size w9 g) := hju
            have := hg.lt
            intro e
            simp only [Value.pointer.injEq, Option.some.injEq, Addr.mk.injEq] at e
            omega
          · obtain ⟨hj1, hj2⟩ := hj
            subst hj1
            obtain ⟨g, rfl, hg⟩ : (∃ g, u = .pointer (some ⟨g, 0, none⟩) ∧ NB W5.heap.size w9 g) := hju
            have := hg.lt
            intro e
            simp only [Value.pointer.injEq, Option.some.injEq, Addr.mk.injEq] at e
            omega
      refine FlowAll.cons ?_ ?_
      · intro xF w9 hR hd K hK
        clear hd
        simp only [List.take_succ_cons, List.take_zero, fillOf, Act.put, List.setIfInBounds_toArray, List.set_cons_zero, List.set_cons_succ, Nat.reduceAdd, Nat.zero_add] at hK ⊢
        obtain hbR := id hR
        rw [if_pos (by rfl)]
        go_simp
        refine hK.out _ _ ?_ ?_ ?_
        · exact ctx_below
        · exact ⟨_, rfl, NB.new hR.size⟩
        · intro j u hju
          refine ⟨fun hj => ?_, fun hj => ?_⟩
          · obtain ⟨hj1, hj2⟩ := hj
            subst hj2
            obtain ⟨g, rfl, hg⟩ : (∃ g, u = .pointer (some ⟨g, 0, none⟩) ∧ NB W5.heap.size w9 g) := hju
            have := hg.lt
            intro e
            simp only [Value.pointer.injEq, Option.some.injEq, Addr.mk.injEq] at e
            omega
          · obtain ⟨hj1, hj2⟩ := hj
            subst hj1
            obtain ⟨g, rfl, hg⟩ : (∃ g, u = .pointer (some ⟨g, 0, none⟩) ∧ NB W5.heap.size w9 g) := hju
            have := hg.lt
            intro e
            simp only [Value.pointer.injEq, Option.some.injEq, Addr.mk.injEq] at e
            omega
      exact FlowAll.nil
    intro xF w9 hR hF hP
    have hne : (6 = 6 ∧ 7 = 7 → xF 6 ≠ xF 7) := hP 6 7 (by omega) (by omega) (by decide) (by decide) (by omega)
    clear hP
    have dd0 : ((xF 0) = .agg #[.slice a1 n1 c1, .slice a2 m1 c2]) := hF 0 (by omega) (by decide)
    have dd1 : ((xF 1) = .agg #[.slice b1 n2 d1, .slice b2 m2 d2]) := hF 1 (by omega) (by decide)
    have dd2 : (∃ x1 x2 x3 x4 x5 x6 cc, (xF 2) = .agg #[.slice x1 x2 x3, .slice x4 x5 x6] ∧ CtxAt w9 w9.heap.size (.agg #[.slice x1 x2 x3, .slice x4 x5 x6]) cc ∧ PJ a b cc) := hF 2 (by omega) (by decide)
    have dd3 : ((xF 3) = .agg #[.slice a1 n1 c1, .slice a2 m1 c2]) := hF 3 (by omega) (by decide)
    have dd4 : ((xF 4) = .agg #[.slice b1 n2 d1, .slice b2 m2 d2]) := hF 4 (by omega) (by decide)
    have dd5 : (∃ x1 x2 x3 x4 x5 x6 cc, (xF 5) = .agg #[.slice x1 x2 x3, .slice x4 x5 x6] ∧ CtxAt w9 w9.heap.size (.agg #[.slice x1 x2 x3, .slice x4 x5 x6]) cc ∧ PJ a b cc) := hF 5 (by omega) (by decide)
    have dd6 : (∃ g, (xF 6) = .pointer (some ⟨g, 0, none⟩) ∧ NB W5.heap.size w9 g) := hF 6 (by omega) (by decide)
    have dd7 : (∃ g, (xF 7) = .pointer (some ⟨g, 0, none⟩) ∧ NB W5.heap.size w9 g) := hF 7 (by omega) (by decide)
    clear hF
    simp only [List.take_succ_cons, List.take_zero, List.drop_succ_cons, List.drop_zero, fillOf, Act.put, List.setIfInBounds_toArray, List.set_cons_zero, List.set_cons_succ, Nat.reduceAdd, Nat.zero_add]
    try generalize xF 0 = yy0 at *
    try generalize xF 1 = yy1 at *
    try generalize xF 2 = yy2 at *
    try generalize xF 3 = yy3 at *
    try generalize xF 4 = yy4 at *
    try generalize xF 5 = yy5 at *
    try generalize xF 6 = yy6 at *
    try generalize xF 7 = yy7 at *
    clear xF
    obtain rfl := dd0
    obtain rfl := dd1
    obtain ⟨jm1, jm2, jm3, jm4, jm5, jm6, kjm, rfl, hcjm, hpjm⟩ := dd2
    obtain rfl := dd3
    obtain rfl := dd4
    obtain ⟨jn1, jn2, jn3, jn4, jn5, jn6, kjn, rfl, hcjn, hpjn⟩ := dd5
    obtain ⟨gjm, rfl, hgjm⟩ := dd6
    obtain ⟨gjn, rfl, hgjn⟩ := dd7
    have hRE := Lib.hid hR
    clear hR
    have hne : gjm ≠ gjn := fun e => hne ⟨rfl, rfl⟩ (by rw [e])
    refine store_ctx rfl (.tmp 9) (.tmp 24) rfl gjm rfl rfl hgjm (fun wx hx1 => ?_)
    simp only [Act.put]
    refine store_ctx rfl (.tmp 10) (.tmp 27) rfl gjn rfl rfl (hgjn.far (Ne.symm hne) hx1) (fun W7 hx2 => ?_)
    simp only [Act.put]
    have E70 : Below W5.heap.size W5 W7 := (hRE.out.trans (hx1.below _ hgjm.lo)).trans (hx2.below _ hgjn.lo)
    have Xjm : Hid (KB W7 gjm jm1 jm2 jm3 jm4 jm5 jm6 kjm) := KB.mk ⟨(hx2.out _ hne).trans hx1.r0, (hx2.out _ hne).trans hx1.r1, by rw [hx2.size, hx1.size]; exact hgjm.lt, (hcjm.keep hx1.keeps).keep hx2.keeps⟩
    have Xjn : Hid (KB W7 gjn jn1 jn2 jn3 jn4 jn5 jn6 kjn) := KB.mk ⟨hx2.r0, hx2.r1, by rw [hx2.size, hx1.size]; exact hgjn.lt, (hcjn.keep hx1.keeps).keep hx2.keeps⟩
    have HPjm := Lib.hid hpjm
    have HPjn := Lib.hid hpjn
    clear hx1 hx2 hne hRE hgjm hgjn hcjm hcjn hpjm hpjn
    have E7 : Below W1.heap.size W1 W7 := E5.trans (E70.mono E5.size)
    replace Xi := Lib.hid (Xi.out.on E70)
    replace Xj := Lib.hid (Xj.out.on E70)
    obtain rfl : ki = kj := HPi.out.eq HPj.out
    obtain rfl : kjm = kjn := HPjm.out.eq HPjn.out
    obtain ⟨V, hV⟩ : ∃ V, V = underB kjm a := ⟨_, rfl⟩
    have lm : kjm.2.length ≤ 120 := by have := HPjm.out.len; have := HL.out.2.1; have := HL.out.2.2.2; omega
    have SIJ : Hid (∀ W, Below W7.heap.size W7 W → Calls Try.prog 24 #[.agg #[.slice i1 i2 i3, .slice i4 i5 i6], .agg #[.slice j1 j2 j3, .slice j4 j5 j6]] W (Said true W)) := fun W hW => by
      have := rsame_any ki ki _ _ W (Xi.out W hW).ctx (Xj.out W hW).ctx
      rwa [decide_eq_true rfl] at this
    have SMN : Hid (∀ W, Below W7.heap.size W7 W → Calls Try.prog 24 #[.agg #[.slice jm1 jm2 jm3, .slice jm4 jm5 jm6], .agg #[.slice jn1 jn2 jn3, .slice jn4 jn5 jn6]] W (Said true W)) := fun W hW => by
      have := rsame_any kjm kjm _ _ W (Xjm.out W hW).ctx (Xjn.out W hW).ctx
      rwa [decide_eq_true rfl] at this
    have HV1 : Hid (∀ W, Below W7.heap.size W7 W → Calls Try.prog 26 #[.agg #[.slice jm1 jm2 jm3, .slice jm4 jm5 jm6], .agg #[.slice a1 n1 c1, .slice a2 m1 c2]] W (Said V W)) := fun W hW => by rw [hV]; exact under_any kjm a _ _ W (Xjm.out W hW).ctx (HWA.out W (E7.trans (hW.mono E7.size))) (by omega) (by have := HL.out.2.1; omega)
    have HV2 : Hid (∀ W, Below W7.heap.size W7 W → Calls Try.prog 27 #[.agg #[.slice jn1 jn2 jn3, .slice jn4 jn5 jn6], .agg #[.slice a1 n1 c1, .slice a2 m1 c2]] W (Said V W)) := fun W hW => by rw [hV]; exact runder_any kjm a _ _ W (Xjn.out W hW).ctx (HWA.out W (E7.trans (hW.mono E7.size))) (by omega) (by have := HL.out.1; omega) (by have := HL.out.2.1; omega)
    clear hV E70 lm HAD HRAD HJO HRJO
    go_wp2_with fail
    refine wp_flow 38 (fun _ => 1000) (fun ww => RowKit.Below W7.heap.size W7 ww) (fun _ w w' => (fun (w w' : World) => RowKit.Below w.heap.size w w') w w') (fun kF vF wF => match kF with | 0 => (vF = .agg #[.slice i1 i2 i3, .slice i4 i5 i6]) | 1 => (vF = .agg #[.slice j1 j2 j3, .slice j4 j5 j6]) | 2 => (vF = .bool true) | 3 => (vF = .bool true) | 4 => (vF = .agg #[.slice jm1 jm2 jm3, .slice jm4 jm5 jm6]) | 5 => (vF = .agg #[.slice jn1 jn2 jn3, .slice jn4 jn5 jn6]) | 6 => (vF = .bool true) | 7 => (vF = .bool true) | 8 => (vF = .bool true) | 9 => (vF = .agg #[.slice a1 n1 c1, .slice a2 m1 c2]) | 10 => (vF = .agg #[.slice b1 n2 d1, .slice b2 m2 d2]) | 11 => (vF = .bool S) | 12 => (vF = .agg #[.slice a1 n1 c1, .slice a2 m1 c2]) | 13 => (vF = .agg #[.slice b1 n2 d1, .slice b2 m2 d2]) | 14 => (vF = .bool S) | 15 => (vF = .bool true) | 16 => (vF = .bool true) | 17 => (vF = .bool true) | 18 => (vF = .agg #[.slice a1 n1 c1, .slice a2 m1 c2]) | 19 => (vF = .agg #[.slice b1 n2 d1, .slice b2 m2 d2]) | 20 => (vF = .bool U) | 21 => (vF = .agg #[.slice a1 n1 c1, .slice a2 m1 c2]) | 22 => (vF = .agg #[.slice b1 n2 d1, .slice b2 m2 d2]) | 23 => (vF = .bool U) | 24 => (vF = .bool true) | 25 => (vF = .bool true) | 26 => (vF = .bool true) | 27 => (vF = .agg #[.slice jm1 jm2 jm3, .slice jm4 jm5 jm6]) | 28 => (vF = .agg #[.slice a1 n1 c1, .slice a2 m1 c2]) | 29 => (vF = .bool V) | 30 => (vF = .agg #[.slice jn1 jn2 jn3, .slice jn4 jn5 jn6]) | 31 => (vF = .agg #[.slice a1 n1 c1, .slice a2 m1 c2]) | 32 => (vF = .bool V) | 33 => (vF = .bool true) | 34 => (vF = .bool true) | 35 => (vF = .bool true) | 36 => (vF = .bool true) | 37 => (vF = .bool true) | _ => True) (fun _ _ _ _ => True) (by kernel_rfl) (by kernel_rfl) ?_ ?_ ?_ ?_ ?_
    · exact (Below.refl _ _).drew
    · intro iF wF1 wF2 hR hT; exact hR.trans (hT.mono hR.size)
    · intro kF hkF iF hiF hne hdd hanc hdan vF wF1 wF2 h hT
      rcases (by omega : kF = 0 ∨ kF = 1 ∨ kF = 2 ∨ kF = 3 ∨ kF = 4 ∨ kF = 5 ∨ kF = 6 ∨ kF = 7 ∨ kF = 8 ∨ kF = 9 ∨ kF = 10 ∨ kF = 11 ∨ kF = 12 ∨ kF = 13 ∨ kF = 14 ∨ kF = 15 ∨ kF = 16 ∨ kF = 17 ∨ kF = 18 ∨ kF = 19 ∨ kF = 20 ∨ kF = 21 ∨ kF = 22 ∨ kF = 23 ∨ kF = 24 ∨ kF = 25 ∨ kF = 26 ∨ kF = 27 ∨ kF = 28 ∨ kF = 29 ∨ kF = 30 ∨ kF = 31 ∨ kF = 32 ∨ kF = 33 ∨ kF = 34 ∨ kF = 35 ∨ kF = 36 ∨ kF = 37) with rfl | rfl | rfl | rfl | rfl | rfl | rfl | rfl | rfl | rfl | rfl | rfl | rfl | rfl | rfl | rfl | rfl | rfl | rfl | rfl | rfl | rfl | rfl | rfl | rfl | rfl | rfl | rfl | rfl | rfl | rfl | rfl | rfl | rfl | rfl | rfl | rfl | rfl
      · exact h
      · exact h
      · exact h
      · exact h
      · exact h
      · exact h
      · exact h
      · exact h
      · exact h
      · exact h
      · exact h
      · exact h
      · exact h
      · exact h
      · exact h
      · exact h
      · exact h
      · exact h
      · exact h
      · exact h
      · exact h
      · exact h
      · exact h
      · exact h
      · exact h
      · exact h
      · exact h
      · exact h
      · exact h
      · exact h
      · exact h
      · exact h
      · exact h
      · exact h
      · exact h
      · exact h
      · exact h
      · exact h
    · refine FlowAll.cons ?_ ?_
      · intro xF w11 hR hd K hK
        clear hd
        simp only [List.take_succ_cons, List.take_zero, fillOf, Act.put, List.setIfInBounds_toArray, List.set_cons_zero, List.set_cons_succ, Nat.reduceAdd, Nat.zero_add] at hK ⊢
        obtain hbR := id hR
        obtain ⟨x0, x1, _, _⟩ := Xi.out _ hR
        rw [if_pos (by rfl)]
        go_simp
        exact hK.out _ _ (Below.refl _ _) (rfl) (fun _ _ _ => ⟨trivial, trivial⟩)
      refine FlowAll.cons ?_ ?_
      · intro xF w11 hR hd K hK
        clear hd
        simp only [List.take_succ_cons, List.take_zero, fillOf, Act.put, List.setIfInBounds_toArray, List.set_cons_zero, List.set_cons_succ, Nat.reduceAdd, Nat.zero_add] at hK ⊢
        obtain hbR := id hR
        obtain ⟨x0, x1, _, _⟩ := Xj.out _ hR
        rw [if_pos (by rfl)]
        go_simp
        exact hK.out _ _ (Below.refl _ _) (rfl) (fun _ _ _ => ⟨trivial, trivial⟩)
      refine FlowAll.cons ?_ ?_
      · intro xF w11 hR hd K hK
        have dd0 : ((xF 0) = .agg #[.slice i1 i2 i3, .slice i4 i5 i6]) := hd 0 (by kernel_rfl)
        have dd1 : ((xF 1) = .agg #[.slice j1 j2 j3, .slice j4 j5 j6]) := hd 1 (by kernel_rfl)
        clear hd
        simp only [List.take_succ_cons, List.take_zero, fillOf, Act.put, List.setIfInBounds_toArray, List.set_cons_zero, List.set_cons_succ, Nat.reduceAdd, Nat.zero_add] at hK ⊢
        try generalize xF 0 = yy0 at *
        try generalize xF 1 = yy1 at *
        obtain rfl := dd0
        obtain rfl := dd1
        obtain hbR := id hR
        rw [if_pos (by rfl)]
        go_simp
        (go_at_call 24; (with_reducible refine (SIJ.out _ hR).mono ?_); rintro e wK ⟨rfl, hbK⟩)
        try go_wp2_with fail
        exact hK.out _ _ (hbK) (rfl) (fun _ _ _ => ⟨trivial, trivial⟩)
      refine FlowAll.cons ?_ ?_
      · intro xF w11 hR hd K hK
        have dd2 : ((xF 2) = .bool true) := hd 2 (by kernel_rfl)
        clear hd
        simp only [List.take_succ_cons, List.take_zero, fillOf, Act.put, List.setIfInBounds_toArray, List.set_cons_zero, List.set_cons_succ, Nat.reduceAdd, Nat.zero_add] at hK ⊢
        try generalize xF 2 = yy2 at *
        obtain rfl := dd2
        obtain hbR := id hR
        rw [if_pos (by rfl)]
        go_simp
        exact hK.out _ _ (Below.refl _ _) (rfl) (fun _ _ _ => ⟨trivial, trivial⟩)
      refine FlowAll.cons ?_ ?_
      · intro xF w11 hR hd K hK
        have dd3 : ((xF 3) = .bool true) := hd 3 (by kernel_rfl)
        clear hd
        simp only [List.take_succ_cons, List.take_zero, fillOf, Act.put, List.setIfInBounds_toArray, List.set_cons_zero, List.set_cons_succ, Nat.reduceAdd, Nat.zero_add] at hK ⊢
        try generalize xF 3 = yy3 at *
        obtain rfl := dd3
        obtain hbR := id hR
        obtain ⟨x0, x1, _, _⟩ := Xjm.out _ hR
        rw [if_pos (by rfl)]
        go_simp
        exact hK.out _ _ (Below.refl _ _) (rfl) (fun _ _ _ => ⟨trivial, trivial⟩)
      refine FlowAll.cons ?_ ?_
      · intro xF w11 hR hd K hK
        have dd3 : ((xF 3) = .bool true) := hd 3 (by kernel_rfl)
        clear hd
        simp only [List.take_succ_cons, List.take_zero, fillOf, Act.put, List.setIfInBounds_toArray, List.set_cons_zero, List.set_cons_succ, Nat.reduceAdd, Nat.zero_add] at hK ⊢
        try generalize xF 3 = yy3 at *
        obtain rfl := dd3
        obtain hbR := id hR
        obtain ⟨x0, x1, _, _⟩ := Xjn.out _ hR
        rw [if_pos (by rfl)]
        go_simp
        exact hK.out _ _ (Below.refl _ _) (rfl) (fun _ _ _ => ⟨trivial, trivial⟩)
      refine FlowAll.cons ?_ ?_
      · intro xF w11 hR hd K hK
        have dd3 : ((xF 3) = .bool true) := hd 3 (by kernel_rfl)
        have dd4 : ((xF 4) = .agg #[.slice jm1 jm2 jm3, .slice jm4 jm5 jm6]) := hd 4 (by kernel_rfl)
        have dd5 : ((xF 5) = .agg #[.slice jn1 jn2 jn3, .slice jn4 jn5 jn6]) := hd 5 (by kernel_rfl)
        clear hd
        simp only [List.take_succ_cons, List.take_zero, fillOf, Act.put, List.setIfInBounds_toArray, List.set_cons_zero, List.set_cons_succ, Nat.reduceAdd, Nat.zero_add] at hK ⊢
        try generalize xF 3 = yy3 at *
        try generalize xF 4 = yy4 at *
        try generalize xF 5 = yy5 at *
        obtain rfl := dd3
        obtain rfl := dd4
        obtain rfl := dd5
        obtain hbR := id hR
        rw [if_pos (by rfl)]
        go_simp
        (go_at_call 24; (with_reducible refine (SMN.out _ hR).mono ?_); rintro e wK ⟨rfl, hbK⟩)
        try go_wp2_with fail
        exact hK.out _ _ (hbK) (rfl) (fun _ _ _ => ⟨trivial, trivial⟩)
      refine FlowAll.cons ?_ ?_
      · intro xF w11 hR hd K hK
        have dd3 : ((xF 3) = .bool true) := hd 3 (by kernel_rfl)
        have dd6 : ((xF 6) = .bool true) := hd 6 (by kernel_rfl)
        clear hd
        simp only [List.take_succ_cons, List.take_zero, fillOf, Act.put, List.setIfInBounds_toArray, List.set_cons_zero, List.set_cons_succ, Nat.reduceAdd, Nat.zero_add] at hK ⊢
        try generalize xF 3 = yy3 at *
        try generalize xF 6 = yy6 at *
        obtain rfl := dd3
        obtain rfl := dd6
        obtain hbR := id hR
        rw [if_pos (by rfl)]
        go_simp
        exact hK.out _ _ (Below.refl _ _) (rfl) (fun _ _ _ => ⟨trivial, trivial⟩)
      refine FlowAll.cons ?_ ?_
      · intro xF w11 hR hd K hK
        have dd7 : ((xF 7) = .bool true) := hd 7 (by kernel_rfl)
        clear hd
        simp only [List.take_succ_cons, List.take_zero, fillOf, Act.put, List.setIfInBounds_toArray, List.set_cons_zero, List.set_cons_succ, Nat.reduceAdd, Nat.zero_add] at hK ⊢
        try generalize xF 7 = yy7 at *
        obtain rfl := dd7
        obtain hbR := id hR
        rw [if_pos (by rfl)]
        go_simp
        exact hK.out _ _ (Below.refl _ _) (rfl) (fun _ _ _ => ⟨trivial, trivial⟩)
      refine FlowAll.cons ?_ ?_
      · intro xF w11 hR hd K hK
        have dd8 : ((xF 8) = .bool true) := hd 8 (by kernel_rfl)
        clear hd
        simp only [List.take_succ_cons, List.take_zero, fillOf, Act.put, List.setIfInBounds_toArray, List.set_cons_zero, List.set_cons_succ, Nat.reduceAdd, Nat.zero_add] at hK ⊢
        try generalize xF 8 = yy8 at *
        obtain rfl := dd8
        obtain hbR := id hR
        obtain ⟨x0, x1, x2, x3, x4, x5⟩ := HX.out _ (E7.trans (hR.mono E7.size))
        rw [if_pos (by rfl)]
        go_simp
        exact hK.out _ _ (Below.refl _ _) (rfl) (fun _ _ _ => ⟨trivial, trivial⟩)
      refine FlowAll.cons ?_ ?_
      · intro xF w11 hR hd K hK
        have dd8 : ((xF 8) = .bool true) := hd 8 (by kernel_rfl)
        clear hd
        simp only [List.take_succ_cons, List.take_zero, fillOf, Act.put, List.setIfInBounds_toArray, List.set_cons_zero, List.set_cons_succ, Nat.reduceAdd, Nat.zero_add] at hK ⊢
        try generalize xF 8 = yy8 at *
        obtain rfl := dd8
        obtain hbR := id hR
        obtain ⟨x0, x1, x2, x3, x4, x5⟩ := HX.out _ (E7.trans (hR.mono E7.size))
        rw [if_pos (by rfl)]
        go_simp
        exact hK.out _ _ (Below.refl _ _) (rfl) (fun _ _ _ => ⟨trivial, trivial⟩)
      refine FlowAll.cons ?_ ?_
      · intro xF w11 hR hd K hK
        have dd8 : ((xF 8) = .bool true) := hd 8 (by kernel_rfl)
        have dd9 : ((xF 9) = .agg #[.slice a1 n1 c1, .slice a2 m1 c2]) := hd 9 (by kernel_rfl)
        have dd10 : ((xF 10) = .agg #[.slice b1 n2 d1, .slice b2 m2 d2]) := hd 10 (by kernel_rfl)
        clear hd
        simp only [List.take_succ_cons, List.take_zero, fillOf, Act.put, List.setIfInBounds_toArray, List.set_cons_zero, List.set_cons_succ, Nat.reduceAdd, Nat.zero_add] at hK ⊢
        try generalize xF 8 = yy8 at *
        try generalize xF 9 = yy9 at *
        try generalize xF 10 = yy10 at *
        obtain rfl := dd8
        obtain rfl := dd9
        obtain rfl := dd10
        obtain hbR := id hR
        rw [if_pos (by rfl)]
        go_simp
        (go_at_call 25; (with_reducible refine (HS1.out _ (E7.trans (hR.mono E7.size))).mono ?_); rintro e wK ⟨rfl, hbK⟩)
        try go_wp2_with fail
        exact hK.out _ _ (hbK) (rfl) (fun _ _ _ => ⟨trivial, trivial⟩)
      refine FlowAll.cons ?_ ?_
      · intro xF w11 hR hd K hK
        have dd8 : ((xF 8) = .bool true) := hd 8 (by kernel_rfl)
        clear hd
        simp only [List.take_succ_cons, List.take_zero, fillOf, Act.put, List.setIfInBounds_toArray, List.set_cons_zero, List.set_cons_succ, Nat.reduceAdd, Nat.zero_add] at hK ⊢
        try generalize xF 8 = yy8 at *
        obtain rfl := dd8
        obtain hbR := id hR
        obtain ⟨x0, x1, x2, x3, x4, x5⟩ := HX.out _ (E7.trans (hR.mono E7.size))
        rw [if_pos (by rfl)]
        go_simp
        exact hK.out _ _ (Below.refl _ _) (rfl) (fun _ _ _ => ⟨trivial, trivial⟩)
      refine FlowAll.cons ?_ ?_
      · intro xF w11 hR hd K hK
        have dd8 : ((xF 8) = .bool true) := hd 8 (by kernel_rfl)
        clear hd
        simp only [List.take_succ_cons, List.take_zero, fillOf, Act.put, List.setIfInBounds_toArray, List.set_cons_zero, List.set_cons_succ, Nat.reduceAdd, Nat.zero_add] at hK ⊢
        try generalize xF 8 = yy8 at *
        obtain rfl := dd8
        obtain hbR := id hR
        obtain ⟨x0, x1, x2, x3, x4, x5⟩ := HX.out _ (E7.trans (hR.mono E7.size))
        rw [if_pos (by rfl)]
        go_simp
        exact hK.out _ _ (Below.refl _ _) (rfl) (fun _ _ _ => ⟨trivial, trivial⟩)
      refine FlowAll.cons ?_ ?_
      · intro xF w11 hR hd K hK
        have dd8 : ((xF 8) = .bool true) := hd 8 (by kernel_rfl)
        have dd12 : ((xF 12) = .agg #[.slice a1 n1 c1, .slice a2 m1 c2]) := hd 12 (by kernel_rfl)
        have dd13 : ((xF 13) = .agg #[.slice b1 n2 d1, .slice b2 m2 d2]) := hd 13 (by kernel_rfl)
        clear hd
        simp only [List.take_succ_cons, List.take_zero, fillOf, Act.put, List.setIfInBounds_toArray, List.set_cons_zero, List.set_cons_succ, Nat.reduceAdd, Nat.zero_add] at hK ⊢
        try generalize xF 8 = yy8 at *
        try generalize xF 12 = yy12 at *
        try generalize xF 13 = yy13 at *
        obtain rfl := dd8
        obtain rfl := dd12
        obtain rfl := dd13
        obtain hbR := id hR
        rw [if_pos (by rfl)]
        go_simp
        (go_at_call 24; (with_reducible refine (HS2.out _ (E7.trans (hR.mono E7.size))).mono ?_); rintro e wK ⟨rfl, hbK⟩)
        try go_wp2_with fail
        exact hK.out _ _ (hbK) (rfl) (fun _ _ _ => ⟨trivial, trivial⟩)
      refine FlowAll.cons ?_ ?_
      · intro xF w11 hR hd K hK
        have dd8 : ((xF 8) = .bool true) := hd 8 (by kernel_rfl)
        have dd11 : ((xF 11) = .bool S) := hd 11 (by kernel_rfl)
        have dd14 : ((xF 14) = .bool S) := hd 14 (by kernel_rfl)
        clear hd
        simp only [List.take_succ_cons, List.take_zero, fillOf, Act.put, List.setIfInBounds_toArray, List.set_cons_zero, List.set_cons_succ, Nat.reduceAdd, Nat.zero_add] at hK ⊢
        try generalize xF 8 = yy8 at *
        try generalize xF 11 = yy11 at *
        try generalize xF 14 = yy14 at *
        obtain rfl := dd8
        obtain rfl := dd11
        obtain rfl := dd14
        obtain hbR := id hR
        rw [if_pos (by rfl)]
        go_simp
        exact hK.out _ _ (Below.refl _ _) (rfl) (fun _ _ _ => ⟨trivial, trivial⟩)
      refine FlowAll.cons ?_ ?_
      · intro xF w11 hR hd K hK
        have dd8 : ((xF 8) = .bool true) := hd 8 (by kernel_rfl)
        have dd15 : ((xF 15) = .bool true) := hd 15 (by kernel_rfl)
        clear hd
        simp only [List.take_succ_cons, List.take_zero, fillOf, Act.put, List.setIfInBounds_toArray, List.set_cons_zero, List.set_cons_succ, Nat.reduceAdd, Nat.zero_add] at hK ⊢
        try generalize xF 8 = yy8 at *
        try generalize xF 15 = yy15 at *
        obtain rfl := dd8
        obtain rfl := dd15
        obtain hbR := id hR
        rw [if_pos (by rfl)]
        go_simp
        exact hK.out _ _ (Below.refl _ _) (rfl) (fun _ _ _ => ⟨trivial, trivial⟩)
      refine FlowAll.cons ?_ ?_
      · intro xF w11 hR hd K hK
        have dd16 : ((xF 16) = .bool true) := hd 16 (by kernel_rfl)
        clear hd
        simp only [List.take_succ_cons, List.take_zero, fillOf, Act.put, List.setIfInBounds_toArray, List.set_cons_zero, List.set_cons_succ, Nat.reduceAdd, Nat.zero_add] at hK ⊢
        try generalize xF 16 = yy16 at *
        obtain rfl := dd16
        obtain hbR := id hR
        rw [if_pos (by rfl)]
        go_simp
        exact hK.out _ _ (Below.refl _ _) (rfl) (fun _ _ _ => ⟨trivial, trivial⟩)
      refine FlowAll.cons ?_ ?_
      · intro xF w11 hR hd K hK
        have dd17 : ((xF 17) = .bool true) := hd 17 (by kernel_rfl)
        clear hd
        simp only [List.take_succ_cons, List.take_zero, fillOf, Act.put, List.setIfInBounds_toArray, List.set_cons_zero, List.set_cons_succ, Nat.reduceAdd, Nat.zero_add] at hK ⊢
        try generalize xF 17 = yy17 at *
        obtain rfl := dd17
        obtain hbR := id hR
        obtain ⟨x0, x1, x2, x3, x4, x5⟩ := HX.out _ (E7.trans (hR.mono E7.size))
        rw [if_pos (by rfl)]
        go_simp
        exact hK.out _ _ (Below.refl _ _) (rfl) (fun _ _ _ => ⟨trivial, trivial⟩)
      refine FlowAll.cons ?_ ?_
      · intro xF w11 hR hd K hK
        have dd17 : ((xF 17) = .bool true) := hd 17 (by kernel_rfl)
        clear hd
        simp only [List.take_succ_cons, List.take_zero, fillOf, Act.put, List.setIfInBounds_toArray, List.set_cons_zero, List.set_cons_succ, Nat.reduceAdd, Nat.zero_add] at hK ⊢
        try generalize xF 17 = yy17 at *
        obtain rfl := dd17
        obtain hbR := id hR
        obtain ⟨x0, x1, x2, x3, x4, x5⟩ := HX.out _ (E7.trans (hR.mono E7.size))
        rw [if_pos (by rfl)]
        go_simp
        exact hK.out _ _ (Below.refl _ _) (rfl) (fun _ _ _ => ⟨trivial, trivial⟩)
      refine FlowAll.cons ?_ ?_
      · intro xF w11 hR hd K hK
        have dd17 : ((xF 17) = .bool true) := hd 17 (by kernel_rfl)
        have dd18 : ((xF 18) = .agg #[.slice a1 n1 c1, .slice a2 m1 c2]) := hd 18 (by kernel_rfl)
        have dd19 : ((xF 19) = .agg #[.slice b1 n2 d1, .slice b2 m2 d2]) := hd 19 (by kernel_rfl)
        clear hd
        simp only [List.take_succ_cons, List.take_zero, fillOf, Act.put, List.setIfInBounds_toArray, List.set_cons_zero, List.set_cons_succ, Nat.reduceAdd, Nat.zero_add] at hK ⊢
        try generalize xF 17 = yy17 at *
        try generalize xF 18 = yy18 at *
        try generalize xF 19 = yy19 at *
        obtain rfl := dd17
        obtain rfl := dd18
        obtain rfl := dd19
        obtain hbR := id hR
        rw [if_pos (by rfl)]
        go_simp
        (go_at_call 26; (with_reducible refine (HU1.out _ (E7.trans (hR.mono E7.size))).mono ?_); rintro e wK ⟨rfl, hbK⟩)
        try go_wp2_with fail
        exact hK.out _ _ (hbK) (rfl) (fun _ _ _ => ⟨trivial, trivial⟩)
      refine FlowAll.cons ?_ ?_
      · intro xF w11 hR hd K hK
        have dd17 : ((xF 17) = .bool true) := hd 17 (by kernel_rfl)
        clear hd
        simp only [List.take_succ_cons, List.take_zero, fillOf, Act.put, List.setIfInBounds_toArray, List.set_cons_zero, List.set_cons_succ, Nat.reduceAdd, Nat.zero_add] at hK ⊢
        try generalize xF 17 = yy17 at *
        obtain rfl := dd17
        obtain hbR := id hR
        obtain ⟨x0, x1, x2, x3, x4, x5⟩ := HX.out _ (E7.trans (hR.mono E7.size))
        rw [if_pos (by rfl)]
        go_simp
        exact hK.out _ _ (Below.refl _ _) (rfl) (fun _ _ _ => ⟨trivial, trivial⟩)
      refine FlowAll.cons ?_ ?_
      · intro xF w11 hR hd K hK
        have dd17 : ((xF 17) = .bool true) := hd 17 (by kernel_rfl)
        clear hd
        simp only [List.take_succ_cons, List.take_zero, fillOf, Act.put, List.setIfInBounds_toArray, List.set_cons_zero, List.set_cons_succ, Nat.reduceAdd, Nat.zero_add] at hK ⊢
        try generalize xF 17 = yy17 at *
        obtain rfl := dd17
        obtain hbR := id hR
        obtain ⟨x0, x1, x2, x3, x4, x5⟩ := HX.out _ (E7.trans (hR.mono E7.size))
        rw [if_pos (by rfl)]
        go_simp
        exact hK.out _ _ (Below.refl _ _) (rfl) (fun _ _ _ => ⟨trivial, trivial⟩)
      refine FlowAll.cons ?_ ?_
      · intro xF w11 hR hd K hK
        have dd17 : ((xF 17) = .bool true) := hd 17 (by kernel_rfl)
        have dd21 : ((xF 21) = .agg #[.slice a1 n1 c1, .slice a2 m1 c2]) := hd 21 (by kernel_rfl)
        have dd22 : ((xF 22) = .agg #[.slice b1 n2 d1, .slice b2 m2 d2]) := hd 22 (by kernel_rfl)
        clear hd
        simp only [List.take_succ_cons, List.take_zero, fillOf, Act.put, List.setIfInBounds_toArray, List.set_cons_zero, List.set_cons_succ, Nat.reduceAdd, Nat.zero_add] at hK ⊢
        try generalize xF 17 = yy17 at *
        try generalize xF 21 = yy21 at *
        try generalize xF 22 = yy22 at *
        obtain rfl := dd17
        obtain rfl := dd21
        obtain rfl := dd22
        obtain hbR := id hR
        rw [if_pos (by rfl)]
        go_simp
        (go_at_call 27; (with_reducible refine (HU2.out _ (E7.trans (hR.mono E7.size))).mono ?_); rintro e wK ⟨rfl, hbK⟩)
        try go_wp2_with fail
        exact hK.out _ _ (hbK) (rfl) (fun _ _ _ => ⟨trivial, trivial⟩)
      refine FlowAll.cons ?_ ?_
      · intro xF w11 hR hd K hK
        have dd17 : ((xF 17) = .bool true) := hd 17 (by kernel_rfl)
        have dd20 : ((xF 20) = .bool U) := hd 20 (by kernel_rfl)
        have dd23 : ((xF 23) = .bool U) := hd 23 (by kernel_rfl)
        clear hd
        simp only [List.take_succ_cons, List.take_zero, fillOf, Act.put, List.setIfInBounds_toArray, List.set_cons_zero, List.set_cons_succ, Nat.reduceAdd, Nat.zero_add] at hK ⊢
        try generalize xF 17 = yy17 at *
        try generalize xF 20 = yy20 at *
        try generalize xF 23 = yy23 at *
        obtain rfl := dd17
        obtain rfl := dd20
        obtain rfl := dd23
        obtain hbR := id hR
        rw [if_pos (by rfl)]
        go_simp
        exact hK.out _ _ (Below.refl _ _) (rfl) (fun _ _ _ => ⟨trivial, trivial⟩)
      refine FlowAll.cons ?_ ?_
      · intro xF w11 hR hd K hK
        have dd17 : ((xF 17) = .bool true) := hd 17 (by kernel_rfl)
        have dd24 : ((xF 24) = .bool true) := hd 24 (by kernel_rfl)
        clear hd
        simp only [List.take_succ_cons, List.take_zero, fillOf, Act.put, List.setIfInBounds_toArray, List.set_cons_zero, List.set_cons_succ, Nat.reduceAdd, Nat.zero_add] at hK ⊢
        try generalize xF 17 = yy17 at *
        try generalize xF 24 = yy24 at *
        obtain rfl := dd17
        obtain rfl := dd24
        obtain hbR := id hR
        rw [if_pos (by rfl)]
        go_simp
        exact hK.out _ _ (Below.refl _ _) (rfl) (fun _ _ _ => ⟨trivial, trivial⟩)
      refine FlowAll.cons ?_ ?_
      · intro xF w11 hR hd K hK
        have dd25 : ((xF 25) = .bool true) := hd 25 (by kernel_rfl)
        clear hd
        simp only [List.take_succ_cons, List.take_zero, fillOf, Act.put, List.setIfInBounds_toArray, List.set_cons_zero, List.set_cons_succ, Nat.reduceAdd, Nat.zero_add] at hK ⊢
        try generalize xF 25 = yy25 at *
        obtain rfl := dd25
        obtain hbR := id hR
        rw [if_pos (by rfl)]
        go_simp
        exact hK.out _ _ (Below.refl _ _) (rfl) (fun _ _ _ => ⟨trivial, trivial⟩)
      refine FlowAll.cons ?_ ?_
      · intro xF w11 hR hd K hK
        have dd26 : ((xF 26) = .bool true) := hd 26 (by kernel_rfl)
        clear hd
        simp only [List.take_succ_cons, List.take_zero, fillOf, Act.put, List.setIfInBounds_toArray, List.set_cons_zero, List.set_cons_succ, Nat.reduceAdd, Nat.zero_add] at hK ⊢
        try generalize xF 26 = yy26 at *
        obtain rfl := dd26
        obtain hbR := id hR
        obtain ⟨x0, x1, _, _⟩ := Xjm.out _ hR
        rw [if_pos (by rfl)]
        go_simp
        exact hK.out _ _ (Below.refl _ _) (rfl) (fun _ _ _ => ⟨trivial, trivial⟩)
      refine FlowAll.cons ?_ ?_
      · intro xF w11 hR hd K hK
        have dd26 : ((xF 26) = .bool true) := hd 26 (by kernel_rfl)
        clear hd
        simp only [List.take_succ_cons, List.take_zero, fillOf, Act.put, List.setIfInBounds_toArray, List.set_cons_zero, List.set_cons_succ, Nat.reduceAdd, Nat.zero_add] at hK ⊢
        try generalize xF 26 = yy26 at *
        obtain rfl := dd26
        obtain hbR := id hR
        obtain ⟨x0, x1, x2, x3, x4, x5⟩ := HX.out _ (E7.trans (hR.mono E7.size))
        rw [if_pos (by rfl)]
        go_simp
        exact hK.out _ _ (Below.refl _ _) (rfl) (fun _ _ _ => ⟨trivial, trivial⟩)
      refine FlowAll.cons ?_ ?_
      · intro xF w11 hR hd K hK
        have dd26 : ((xF 26) = .bool true) := hd 26 (by kernel_rfl)
        have dd27 : ((xF 27) = .agg #[.slice jm1 jm2 jm3, .slice jm4 jm5 jm6]) := hd 27 (by kernel_rfl)
        have dd28 : ((xF 28) = .agg #[.slice a1 n1 c1, .slice a2 m1 c2]) := hd 28 (by kernel_rfl)
        clear hd
        simp only [List.take_succ_cons, List.take_zero, fillOf, Act.put, List.setIfInBounds_toArray, List.set_cons_zero, List.set_cons_succ, Nat.reduceAdd, Nat.zero_add] at hK ⊢
        try generalize xF 26 = yy26 at *
        try generalize xF 27 = yy27 at *
        try generalize xF 28 = yy28 at *
        obtain rfl := dd26
        obtain rfl := dd27
        obtain rfl := dd28
        obtain hbR := id hR
        rw [if_pos (by rfl)]
        go_simp
        (go_at_call 26; (with_reducible refine (HV1.out _ hR).mono ?_); rintro e wK ⟨rfl, hbK⟩)
        try go_wp2_with fail
        exact hK.out _ _ (hbK) (rfl) (fun _ _ _ => ⟨trivial, trivial⟩)
      refine FlowAll.cons ?_ ?_
      · intro xF w11 hR hd K hK
        have dd26 : ((xF 26) = .bool true) := hd 26 (by kernel_rfl)
        clear hd
        simp only [List.take_succ_cons, List.take_zero, fillOf, Act.put, List.setIfInBounds_toArray, List.set_cons_zero, List.set_cons_succ, Nat.reduceAdd, Nat.zero_add] at hK ⊢
        try generalize xF 26 = yy26 at *
        obtain rfl := dd26
        obtain hbR := id hR
        obtain ⟨x0, x1, _, _⟩ := Xjn.out _ hR
        rw [if_pos (by rfl)]
        go_simp
        exact hK.out _ _ (Below.refl _ _) (rfl) (fun _ _ _ => ⟨trivial, trivial⟩)
      refine FlowAll.cons ?_ ?_
      · intro xF w11 hR hd K hK
        have dd26 : ((xF 26) = .bool true) := hd 26 (by kernel_rfl)
        clear hd
        simp only [List.take_succ_cons, List.take_zero, fillOf, Act.put, List.setIfInBounds_toArray, List.set_cons_zero, List.set_cons_succ, Nat.reduceAdd, Nat.zero_add] at hK ⊢
        try generalize xF 26 = yy26 at *
        obtain rfl := dd26
        obtain hbR := id hR
        obtain ⟨x0, x1, x2, x3, x4, x5⟩ := HX.out _ (E7.trans (hR.mono E7.size))
        rw [if_pos (by rfl)]
        go_simp
        exact hK.out _ _ (Below.refl _ _) (rfl) (fun _ _ _ => ⟨trivial, trivial⟩)
      refine FlowAll.cons ?_ ?_
      · intro xF w11 hR hd K hK
        have dd26 : ((xF 26) = .bool true) := hd 26 (by kernel_rfl)
        have dd30 : ((xF 30) = .agg #[.slice jn1 jn2 jn3, .slice jn4 jn5 jn6]) := hd 30 (by kernel_rfl)
        have dd31 : ((xF 31) = .agg #[.slice a1 n1 c1, .slice a2 m1 c2]) := hd 31 (by kernel_rfl)
        clear hd
        simp only [List.take_succ_cons, List.take_zero, fillOf, Act.put, List.setIfInBounds_toArray, List.set_cons_zero, List.set_cons_succ, Nat.reduceAdd, Nat.zero_add] at hK ⊢
        try generalize xF 26 = yy26 at *
        try generalize xF 30 = yy30 at *
        try generalize xF 31 = yy31 at *
        obtain rfl := dd26
        obtain rfl := dd30
        obtain rfl := dd31
        obtain hbR := id hR
        rw [if_pos (by rfl)]
        go_simp
        (go_at_call 27; (with_reducible refine (HV2.out _ hR).mono ?_); rintro e wK ⟨rfl, hbK⟩)
        try go_wp2_with fail
        exact hK.out _ _ (hbK) (rfl) (fun _ _ _ => ⟨trivial, trivial⟩)
      refine FlowAll.cons ?_ ?_
      · intro xF w11 hR hd K hK
        have dd26 : ((xF 26) = .bool true) := hd 26 (by kernel_rfl)
        have dd29 : ((xF 29) = .bool V) := hd 29 (by kernel_rfl)
        have dd32 : ((xF 32) = .bool V) := hd 32 (by kernel_rfl)
        clear hd
        simp only [List.take_succ_cons, List.take_zero, fillOf, Act.put, List.setIfInBounds_toArray, List.set_cons_zero, List.set_cons_succ, Nat.reduceAdd, Nat.zero_add] at hK ⊢
        try generalize xF 26 = yy26 at *
        try generalize xF 29 = yy29 at *
        try generalize xF 32 = yy32 at *
        obtain rfl := dd26
        obtain rfl := dd29
        obtain rfl := dd32
        obtain hbR := id hR
        rw [if_pos (by rfl)]
        go_simp
        exact hK.out _ _ (Below.refl _ _) (rfl) (fun _ _ _ => ⟨trivial, trivial⟩)
      refine FlowAll.cons ?_ ?_
      · intro xF w11 hR hd K hK
        have dd26 : ((xF 26) = .bool true) := hd 26 (by kernel_rfl)
        have dd33 : ((xF 33) = .bool true) := hd 33 (by kernel_rfl)
        clear hd
        simp only [List.take_succ_cons, List.take_zero, fillOf, Act.put, List.setIfInBounds_toArray, List.set_cons_zero, List.set_cons_succ, Nat.reduceAdd, Nat.zero_add] at hK ⊢
        try generalize xF 26 = yy26 at *
        try generalize xF 33 = yy33 at *
        obtain rfl := dd26
        obtain rfl := dd33
        obtain hbR := id hR
        rw [if_pos (by rfl)]
        go_simp
        exact hK.out _ _ (Below.refl _ _) (rfl) (fun _ _ _ => ⟨trivial, trivial⟩)
      refine FlowAll.cons ?_ ?_
      · intro xF w11 hR hd K hK
        have dd34 : ((xF 34) = .bool true) := hd 34 (by kernel_rfl)
        clear hd
        simp only [List.take_succ_cons, List.take_zero, fillOf, Act.put, List.setIfInBounds_toArray, List.set_cons_zero, List.set_cons_succ, Nat.reduceAdd, Nat.zero_add] at hK ⊢
        try generalize xF 34 = yy34 at *
        obtain rfl := dd34
        obtain hbR := id hR
        rw [if_pos (by rfl)]
        go_simp
        exact hK.out _ _ (Below.refl _ _) (rfl) (fun _ _ _ => ⟨trivial, trivial⟩)
      refine FlowAll.cons ?_ ?_
      · intro xF w11 hR hd K hK
        have dd35 : ((xF 35) = .bool true) := hd 35 (by kernel_rfl)
        clear hd
        simp only [List.take_succ_cons, List.take_zero, fillOf, Act.put, List.setIfInBounds_toArray, List.set_cons_zero, List.set_cons_succ, Nat.reduceAdd, Nat.zero_add] at hK ⊢
        try generalize xF 35 = yy35 at *
        obtain rfl := dd35
        obtain hbR := id hR
        rw [if_pos (by rfl)]
        go_simp
        (go_at_call 11; (with_reducible refine (HAW.out _).mono ?_); rintro e wK ⟨rfl, hbK⟩)
        try go_wp2_with fail
        exact hK.out _ _ (hbK) (rfl) (fun _ _ _ => ⟨trivial, trivial⟩)
      refine FlowAll.cons ?_ ?_
      · intro xF w11 hR hd K hK
        have dd35 : ((xF 35) = .bool true) := hd 35 (by kernel_rfl)
        have dd36 : ((xF 36) = .bool true) := hd 36 (by kernel_rfl)
        clear hd
        simp only [List.take_succ_cons, List.take_zero, fillOf, Act.put, List.setIfInBounds_toArray, List.set_cons_zero, List.set_cons_succ, Nat.reduceAdd, Nat.zero_add] at hK ⊢
        try generalize xF 35 = yy35 at *
        try generalize xF 36 = yy36 at *
        obtain rfl := dd35
        obtain rfl := dd36
        obtain hbR := id hR
        rw [if_pos (by rfl)]
        go_simp
        exact hK.out _ _ (Below.refl _ _) (rfl) (fun _ _ _ => ⟨trivial, trivial⟩)
      exact FlowAll.nil
    intro xF w11 hR hF hP
    clear hP
    have dd0 : ((xF 0) = .agg #[.slice i1 i2 i3, .slice i4 i5 i6]) := hF 0 (by omega) (by decide)
    have dd1 : ((xF 1) = .agg #[.slice j1 j2 j3, .slice j4 j5 j6]) := hF 1 (by omega) (by decide)
    have dd2 : ((xF 2) = .bool true) := hF 2 (by omega) (by decide)
    have dd3 : ((xF 3) = .bool true) := hF 3 (by omega) (by decide)
    have dd4 : ((xF 4) = .agg #[.slice jm1 jm2 jm3, .slice jm4 jm5 jm6]) := hF 4 (by omega) (by decide)
    have dd5 : ((xF 5) = .agg #[.slice jn1 jn2 jn3, .slice jn4 jn5 jn6]) := hF 5 (by omega) (by decide)
    have dd6 : ((xF 6) = .bool true) := hF 6 (by omega) (by decide)
    have dd7 : ((xF 7) = .bool true) := hF 7 (by omega) (by decide)
    have dd8 : ((xF 8) = .bool true) := hF 8 (by omega) (by decide)
    have dd9 : ((xF 9) = .agg #[.slice a1 n1 c1, .slice a2 m1 c2]) := hF 9 (by omega) (by decide)
    have dd10 : ((xF 10) = .agg #[.slice b1 n2 d1, .slice b2 m2 d2]) := hF 10 (by omega) (by decide)
    have dd11 : ((xF 11) = .bool S) := hF 11 (by omega) (by decide)
    have dd12 : ((xF 12) = .agg #[.slice a1 n1 c1, .slice a2 m1 c2]) := hF 12 (by omega) (by decide)
    have dd13 : ((xF 13) = .agg #[.slice b1 n2 d1, .slice b2 m2 d2]) := hF 13 (by omega) (by decide)
    have dd14 : ((xF 14) = .bool S) := hF 14 (by omega) (by decide)
    have dd15 : ((xF 15) = .bool true) := hF 15 (by omega) (by decide)
    have dd16 : ((xF 16) = .bool true) := hF 16 (by omega) (by decide)
    have dd17 : ((xF 17) = .bool true) := hF 17 (by omega) (by decide)
    have dd18 : ((xF 18) = .agg #[.slice a1 n1 c1, .slice a2 m1 c2]) := hF 18 (by omega) (by decide)
    have dd19 : ((xF 19) = .agg #[.slice b1 n2 d1, .slice b2 m2 d2]) := hF 19 (by omega) (by decide)
    have dd20 : ((xF 20) = .bool U) := hF 20 (by omega) (by decide)
    have dd21 : ((xF 21) = .agg #[.slice a1 n1 c1, .slice a2 m1 c2]) := hF 21 (by omega) (by decide)
    have dd22 : ((xF 22) = .agg #[.slice b1 n2 d1, .slice b2 m2 d2]) := hF 22 (by omega) (by decide)
    have dd23 : ((xF 23) = .bool U) := hF 23 (by omega) (by decide)
    have dd24 : ((xF 24) = .bool true) := hF 24 (by omega) (by decide)
    have dd25 : ((xF 25) = .bool true) := hF 25 (by omega) (by decide)
    have dd26 : ((xF 26) = .bool true) := hF 26 (by omega) (by decide)
    have dd27 : ((xF 27) = .agg #[.slice jm1 jm2 jm3, .slice jm4 jm5 jm6]) := hF 27 (by omega) (by decide)
    have dd28 : ((xF 28) = .agg #[.slice a1 n1 c1, .slice a2 m1 c2]) := hF 28 (by omega) (by decide)
    have dd29 : ((xF 29) = .bool V) := hF 29 (by omega) (by decide)
    have dd30 : ((xF 30) = .agg #[.slice jn1 jn2 jn3, .slice jn4 jn5 jn6]) := hF 30 (by omega) (by decide)
    have dd31 : ((xF 31) = .agg #[.slice a1 n1 c1, .slice a2 m1 c2]) := hF 31 (by omega) (by decide)
    have dd32 : ((xF 32) = .bool V) := hF 32 (by omega) (by decide)
    have dd33 : ((xF 33) = .bool true) := hF 33 (by omega) (by decide)
    have dd34 : ((xF 34) = .bool true) := hF 34 (by omega) (by decide)
    have dd35 : ((xF 35) = .bool true) := hF 35 (by omega) (by decide)
    have dd36 : ((xF 36) = .bool true) := hF 36 (by omega) (by decide)
    have dd37 : ((xF 37) = .bool true) := hF 37 (by omega) (by decide)
    clear hF
    simp only [List.take_succ_cons, List.take_zero, List.drop_succ_cons, List.drop_zero, fillOf, Act.put, List.setIfInBounds_toArray, List.set_cons_zero, List.set_cons_succ, Nat.reduceAdd, Nat.zero_add]
    try generalize xF 0 = yy0 at *
    try generalize xF 1 = yy1 at *
    try generalize xF 2 = yy2 at *
    try generalize xF 3 = yy3 at *
    try generalize xF 4 = yy4 at *
    try generalize xF 5 = yy5 at *
    try generalize xF 6 = yy6 at *
    try generalize xF 7 = yy7 at *
    try generalize xF 8 = yy8 at *
    try generalize xF 9 = yy9 at *
    try generalize xF 10 = yy10 at *
    try generalize xF 11 = yy11 at *
    try generalize xF 12 = yy12 at *
    try generalize xF 13 = yy13 at *
    try generalize xF 14 = yy14 at *
    try generalize xF 15 = yy15 at *
    try generalize xF 16 = yy16 at *
    try generalize xF 17 = yy17 at *
    try generalize xF 18 = yy18 at *
    try generalize xF 19 = yy19 at *
    try generalize xF 20 = yy20 at *
    try generalize xF 21 = yy21 at *
    try generalize xF 22 = yy22 at *
    try generalize xF 23 = yy23 at *
    try generalize xF 24 = yy24 at *
    try generalize xF 25 = yy25 at *
    try generalize xF 26 = yy26 at *
    try generalize xF 27 = yy27 at *
    try generalize xF 28 = yy28 at *
    try generalize xF 29 = yy29 at *
    try generalize xF 30 = yy30 at *
    try generalize xF 31 = yy31 at *
    try generalize xF 32 = yy32 at *
    try generalize xF 33 = yy33 at *
    try generalize xF 34 = yy34 at *
    try generalize xF 35 = yy35 at *
    try generalize xF 36 = yy36 at *
    try generalize xF 37 = yy37 at *
    clear xF
    obtain rfl := dd0
    obtain rfl := dd1
    obtain rfl := dd2
    obtain rfl := dd3
    obtain rfl := dd4
    obtain rfl := dd5
    obtain rfl := dd6
    obtain rfl := dd7
    obtain rfl := dd8
    obtain rfl := dd9
    obtain rfl := dd10
    obtain rfl := dd11
    obtain rfl := dd12
    obtain rfl := dd13
    obtain rfl := dd14
    obtain rfl := dd15
    obtain rfl := dd16
    obtain rfl := dd17
    obtain rfl := dd18
    obtain rfl := dd19
    obtain rfl := dd20
    obtain rfl := dd21
    obtain rfl := dd22
    obtain rfl := dd23
    obtain rfl := dd24
    obtain rfl := dd25
    obtain rfl := dd26
    obtain rfl := dd27
    obtain rfl := dd28
    obtain rfl := dd29
    obtain rfl := dd30
    obtain rfl := dd31
    obtain rfl := dd32
    obtain rfl := dd33
    obtain rfl := dd34
    obtain rfl := dd35
    obtain rfl := dd36
    obtain rfl := dd37
    have hRE := Lib.hid hR
    clear hR
    have hb9 := E1.trans ((E7.trans (hRE.out.mono E7.size)).mono E1.size)
    go_wp2
    go_ret
    exact ⟨rfl, hb9⟩
end Go.Proofs.Ytdcmoeklldkccaa
