/- the document's upto, Has, Same; the law's far. -/
import Derived.Test.YtdcmoeklldkccaaDotBox
import Derived.Test.YtdcmoeklldkccaaDotLk
import Derived.Test.YtdcmoeklldkccaaFlow
namespace Go.Proofs.Ytdcmoeklldkccaa
open Go Go.RowKit Go.ChangeShapes cl Go.Sort

theorem ret_int {k : IntKind} {a b : Int} (h : a = b) : Ending.returned (.int k a) = .returned (.int k b) := by rw [h]
theorem rany_snoc {l : List Dot} {r : Nat} (h : r < l.length) (p : Dot → Bool) : (l.take (r + 1)).any p = ((l.take r).any p || p (l.getD r (0, 0))) := by
  rw [dm.take_snoc h, List.any_append]
  simp
set_option maxHeartbeats 3200000 in
set_option maxRecDepth 100000 in
theorem rupto_any (c : dm.Ctx) (nd : Int) (v : Value) (w : World) (h : CtxAt w w.heap.size v c) : Calls Try.prog 33 #[v, .int .i64 nd] w fun e w' => e = .returned (.int .i64 (dm.kn c.1 nd)) ∧ Below w.heap.size w w' := by
  obtain ⟨a1, n1, c1, a2, n2, c2, rfl, hn1, hn2⟩ := h.form
  have HC := Lib.hid h
  have HN1 := Lib.hid hn1
  have HN2 := Lib.hid hn2
  have hf1 : n1 ≤ 9223372036854775807 := by
    obtain ⟨_, _, e, _, h9⟩ := h.parts.1.form
    rw [hn1]; unfold maxLen at h9; exact h9
  have hf2 : n2 ≤ 9223372036854775807 := by
    obtain ⟨_, _, e, _, h9⟩ := h.parts.2.form
    rw [hn2]; unfold maxLen at h9; exact h9
  clear h hn1 hn2
  obtain ⟨w1, hw1⟩ : ∃ W, W = w.alloc (.cells #[.slice a1 n1 c1, .slice a2 n2 c2] 24) := ⟨_, rfl⟩
  have E1 : Below w.heap.size w w1 := by rw [hw1]; exact ctx_below
  have x0 : w1.cell? ⟨w.heap.size, 0, none⟩ = some (.slice a1 n1 c1) := by rw [hw1]; exact World.cell?_alloc_at _ _ _ _ rfl
  have HW1 := Lib.hid hw1
  have HX := Lib.hid x0
  have HD : Hid (∀ W, Below w1.heap.size w1 W → Dots W W.heap.size (.slice a1 n1 c1) c.1) := fun W hW => (HC.out.next (E1.trans (hW.mono E1.size))).parts.1
  have HKN0 : Hid ((∀ j, j < n1 → ¬ (c.1.getD j (0, 0)).1 = nd) → dm.kn c.1 nd = 0) := fun hh => dm.kn_none fun d hd => by
    obtain ⟨j, hj, e⟩ := dm.mem_getD hd
    have := hh j (by rw [HN1.out]; exact hj)
    rwa [e] at this
  have HKN1 : Hid (∀ i, i < n1 → (c.1.getD i (0, 0)).1 = nd → (∀ j, j < i → ¬ (c.1.getD j (0, 0)).1 = nd) → dm.kn c.1 nd = (c.1.getD i (0, 0)).2) := fun i hi he hno => by
    have hi' : i < c.1.length := by rw [← HN1.out]; exact hi
    have := dm.kn_first c.1 i nd hi' (by rw [← getD_at hi']; exact he) (fun j hj => by rw [← getD_at (by omega : j < c.1.length)]; exact hno j hj)
    rw [this, getD_at hi']
  obtain ⟨kk, hkk⟩ : ∃ k, k = dm.kn c.1 nd := ⟨_, rfl⟩
  rw [← hkk] at HKN0 HKN1 ⊢
  rw [hw1] at x0
  clear hw1 hkk
  go_enter Try.func33, Try.ntmps33
  go_wp2
  rw [← HW1.out]
  clear x0
  go_loopw [10, 20] (fun i _ wr => ∃ k : Nat, i = .int .i64 k ∧ k ≤ n1 ∧ Hid (∀ j, j < k → ¬ (c.1.getD j (0, 0)).1 = nd) ∧ Below w1.heap.size w1 wr) (fun i _ _ => n1 - (intOf i).toNat)
  case atStart => exact ⟨0, rfl, Nat.zero_le _, fun j hj => absurd hj (Nat.not_lt_zero _), Below.refl _ _⟩
  case round =>
    obtain ⟨k, rfl, hk, HO, D⟩ := hrel
    by_cases hlt : k < n1
    · obtain ⟨b0, off, rfl, hB, p0, p1⟩ := Dots.get (HD.out _ D) HN1.out hlt
      obtain ⟨⟨u, v⟩, hx⟩ : ∃ x, x = c.1.getD k (0, 0) := ⟨_, rfl⟩
      have hK := HKN1.out k hlt
      rw [← hx] at p0 p1 hK
      simp only at p0 p1 hK
      have HXE := Lib.hid hx
      have HK1 := Lib.hid hK
      have hkI : (k : Int) < (n1 : Int) := by omega
      have hal : Below wr.heap.size wr (wr.alloc (.cells #[.int .i64 u, .int .i64 v] 26)) := ctx_below
      have D1 := D.trans (hal.mono D.size)
      clear hx hK
      by_cases hu : u = nd
      · subst hu
        have HE := Lib.hid (HK1.out rfl HO.out)
        have hb9 := E1.trans (D1.mono E1.size)
        go_wp2
        go_ret
        exact ⟨ret_int HE.out.symm, hb9⟩
      · have hd : (u == nd) = false := by simpa using hu
        have HO2 : Hid (∀ j, j < k + 1 → ¬ (c.1.getD j (0, 0)).1 = nd) := fun j hj => by
          by_cases e : j = k
          · subst e; rw [← HXE.out]; exact hu
          · exact HO.out j (by omega)
        go_wp2
        go_roundw
        case rel => exact ⟨k + 1, by go_num, by omega, HO2, D1⟩
        case measure => simp [intOf]; omega
    · obtain rfl : k = n1 := by omega
      have HE := Lib.hid (HKN0.out HO.out)
      have hb9 := E1.trans (D.mono E1.size)
      go_wp2
      go_ret
      exact ⟨ret_int HE.out.symm, hb9⟩

set_option maxHeartbeats 6400000 in
set_option maxRecDepth 100000 in
theorem rhas_any (c : dm.Ctx) (d : Dot) (v : Value) (w : World) (h : CtxAt w w.heap.size v c) : Calls Try.prog 17 #[v, .agg #[.int .i64 d.1, .int .i64 d.2]] w (Said (dm.hasF c d) w) := by
  obtain ⟨a1, n1, c1, a2, n2, c2, rfl, hn1, hn2⟩ := h.form
  have HC := Lib.hid h
  have HN1 := Lib.hid hn1
  have HN2 := Lib.hid hn2
  have hf1 : n1 ≤ 9223372036854775807 := by
    obtain ⟨_, _, e, _, h9⟩ := h.parts.1.form
    rw [hn1]; unfold maxLen at h9; exact h9
  have hf2 : n2 ≤ 9223372036854775807 := by
    obtain ⟨_, _, e, _, h9⟩ := h.parts.2.form
    rw [hn2]; unfold maxLen at h9; exact h9
  clear h hn1 hn2
  obtain ⟨du, dv⟩ := d
  obtain ⟨w1, hw1⟩ : ∃ W, W = (w.alloc (.cells #[.slice a1 n1 c1, .slice a2 n2 c2] 24)).alloc (.cells #[.int .i64 du, .int .i64 dv] 26) := ⟨_, rfl⟩
  have E1 : Below w.heap.size w w1 := by rw [hw1]; exact ctx_below.trans (ctx_below.mono (by simp))
  have x0 : w1.cell? ⟨w.heap.size, 0, none⟩ = some (.slice a1 n1 c1) := by rw [hw1]; go_simp
  have x1 : w1.cell? ⟨w.heap.size, 1, none⟩ = some (.slice a2 n2 c2) := by rw [hw1]; go_simp
  have x2 : w1.cell? ⟨w.heap.size + 1, 0, none⟩ = some (.int .i64 du) := by rw [hw1]; go_simp
  have x3 : w1.cell? ⟨w.heap.size + 1, 1, none⟩ = some (.int .i64 dv) := by rw [hw1]; go_simp
  have hs1 : w.heap.size + 2 ≤ w1.heap.size := by rw [hw1]; simp
  have HX : Hid (∀ W, Below w1.heap.size w1 W → W.cell? ⟨w.heap.size, 0, none⟩ = some (.slice a1 n1 c1) ∧ W.cell? ⟨w.heap.size, 1, none⟩ = some (.slice a2 n2 c2) ∧ W.cell? ⟨w.heap.size + 1, 0, none⟩ = some (.int .i64 du) ∧ W.cell? ⟨w.heap.size + 1, 1, none⟩ = some (.int .i64 dv)) := fun W hW =>
    ⟨(hW.cell (p := ⟨w.heap.size, 0, none⟩) (by show w.heap.size < _; omega)).trans x0, (hW.cell (p := ⟨w.heap.size, 1, none⟩) (by show w.heap.size < _; omega)).trans x1, (hW.cell (p := ⟨w.heap.size + 1, 0, none⟩) (by show w.heap.size + 1 < _; omega)).trans x2, (hW.cell (p := ⟨w.heap.size + 1, 1, none⟩) (by show w.heap.size + 1 < _; omega)).trans x3⟩
  have HW1 := Lib.hid hw1
  have HD : Hid (∀ W, Below w1.heap.size w1 W → Dots W W.heap.size (.slice a2 n2 c2) c.2) := fun W hW => (HC.out.next (E1.trans (hW.mono E1.size))).parts.2
  have HVA : Hid (∀ W, Calls Try.prog 13 #[.agg #[.int .i64 du, .int .i64 dv]] W (Said (valid (du, dv)) W)) := fun W => rvalid_any (du, dv) W
  obtain ⟨kk, hkk⟩ : ∃ k, k = dm.kn c.1 du := ⟨_, rfl⟩
  have HUP : Hid (∀ W, Below w1.heap.size w1 W → Calls Try.prog 33 #[.agg #[.slice a1 n1 c1, .slice a2 n2 c2], .int .i64 du] W fun e w' => e = .returned (.int .i64 kk) ∧ Below W.heap.size W w') := fun W hW => by
    have := rupto_any c du _ W (HC.out.next (E1.trans (hW.mono E1.size)))
    rwa [← hkk] at this
  have HH : Hid (dm.hasF c (du, dv) = (valid (du, dv) && (decide (dv ≤ kk) || c.2.any (fun x => decide (x = (du, dv)))))) := by
    show _ = _
    rw [hkk, Bool.eq_iff_iff, dm.hasF_iff]
    unfold dm.Knows
    simp only [Bool.and_eq_true, Bool.or_eq_true, decide_eq_true_eq, List.any_eq_true]
    constructor
    · rintro ⟨h1, h2 | h2⟩
      · exact ⟨h1, Or.inl h2⟩
      · exact ⟨h1, Or.inr ⟨_, h2, rfl⟩⟩
    · rintro ⟨h1, h2 | ⟨x, h2, rfl⟩⟩
      · exact ⟨h1, Or.inl h2⟩
      · exact ⟨h1, Or.inr h2⟩
  obtain ⟨R, hR⟩ : ∃ R, R = dm.hasF c (du, dv) := ⟨_, rfl⟩
  rw [← hR] at HH ⊢
  have D0 : Below w1.heap.size w1 w1 := Below.refl _ _
  clear hw1 x0 x1 x2 x3 hkk hR
  cases hv : valid (du, dv) with
  | false =>
    rw [hv] at HVA HH
    obtain rfl : R = false := HH.out
    clear hv HH
    go_enter Try.func17, Try.ntmps17
    go_wp2_with fail
    rw [← HW1.out]
    (with_reducible refine (HVA.out _).mono ?_)
    rintro e w2 ⟨rfl, b2⟩
    have hb9 := E1.trans (b2.mono E1.size)
    go_wp2
    go_ret
    exact ⟨rfl, hb9⟩
  | true =>
    rw [hv] at HVA HH
    clear hv
    go_enter Try.func17, Try.ntmps17
    go_wp2_with fail
    rw [← HW1.out]
    (with_reducible refine (HVA.out _).mono ?_)
    rintro e w2 ⟨rfl, b2⟩
    have D := D0.trans b2
    clear b2 D0
    by_cases hle : dv ≤ kk
    · obtain rfl : R = true := by rw [HH.out, decide_eq_true hle]; rfl
      have hd : decide (dv ≤ kk) = true := decide_eq_true hle
      go_wp2_with fail
      refine wp_flow 7 (fun _ => 1000) (fun ww => RowKit.Below w1.heap.size w1 ww) (fun _ w w' => (fun (w w' : World) => RowKit.Below w.heap.size w w') w w') (fun kF vF wF => match kF with | 0 => (vF = .pointer (some ⟨w.heap.size + 1, 1, none⟩)) | 1 => (vF = .int .i64 dv) | 2 => (vF = .agg #[.slice a1 n1 c1, .slice a2 n2 c2]) | 3 => (vF = .pointer (some ⟨w.heap.size + 1, 0, none⟩)) | 4 => (vF = .int .i64 du) | 5 => (vF = .int .i64 kk) | 6 => (vF = .bool true) | _ => True) (fun _ _ _ _ => True) (by kernel_rfl) (by kernel_rfl) ?_ ?_ ?_ ?_ ?_
      · exact D.drew
      · intro iF wF1 wF2 hR hT; exact hR.trans (hT.mono hR.size)
      · intro kF hkF iF hiF hne hdd hanc hdan vF wF1 wF2 h hT
        rcases (by omega : kF = 0 ∨ kF = 1 ∨ kF = 2 ∨ kF = 3 ∨ kF = 4 ∨ kF = 5 ∨ kF = 6) with rfl | rfl | rfl | rfl | rfl | rfl | rfl
        · have h : (vF = .pointer (some ⟨w.heap.size + 1, 1, none⟩)) := h
          show (vF = .pointer (some ⟨w.heap.size + 1, 1, none⟩))
          have hT : (fun (w w' : World) => RowKit.Below w.heap.size w w') wF1 wF2 := hT
          simp only at hT
          exact h
        · have h : (vF = .int .i64 dv) := h
          show (vF = .int .i64 dv)
          have hT : (fun (w w' : World) => RowKit.Below w.heap.size w w') wF1 wF2 := hT
          simp only at hT
          exact h
        · have h : (vF = .agg #[.slice a1 n1 c1, .slice a2 n2 c2]) := h
          show (vF = .agg #[.slice a1 n1 c1, .slice a2 n2 c2])
          have hT : (fun (w w' : World) => RowKit.Below w.heap.size w w') wF1 wF2 := hT
          simp only at hT
          exact h
        · have h : (vF = .pointer (some ⟨w.heap.size + 1, 0, none⟩)) := h
          show (vF = .pointer (some ⟨w.heap.size + 1, 0, none⟩))
          have hT : (fun (w w' : World) => RowKit.Below w.heap.size w w') wF1 wF2 := hT
          simp only at hT
          exact h
        · have h : (vF = .int .i64 du) := h
          show (vF = .int .i64 du)
          have hT : (fun (w w' : World) => RowKit.Below w.heap.size w w') wF1 wF2 := hT
          simp only at hT
          exact h
        · have h : (vF = .int .i64 kk) := h
          show (vF = .int .i64 kk)
          have hT : (fun (w w' : World) => RowKit.Below w.heap.size w w') wF1 wF2 := hT
          simp only at hT
          exact h
        · have h : (vF = .bool true) := h
          show (vF = .bool true)
          have hT : (fun (w w' : World) => RowKit.Below w.heap.size w w') wF1 wF2 := hT
          simp only at hT
          exact h
      · refine FlowAll.cons ?_ ?_
        · intro xF w3 hR hd K hK
          clear hd
          simp only [List.take_succ_cons, List.take_zero, fillOf, Act.put, List.setIfInBounds_toArray, List.set_cons_zero, List.set_cons_succ, Nat.reduceAdd, Nat.zero_add] at hK ⊢
          try generalize xF 0 = yy0 at *
          try generalize xF 1 = yy1 at *
          try generalize xF 2 = yy2 at *
          try generalize xF 3 = yy3 at *
          try generalize xF 4 = yy4 at *
          try generalize xF 5 = yy5 at *
          try generalize xF 6 = yy6 at *
          clear xF
          obtain hbR := id hR
          rw [if_pos (by rfl)]
          go_simp
          refine hK.out _ _ ?_ ?_ ?_
          · exact Below.refl _ _
          · exact rfl
          · exact fun _ _ _ => ⟨trivial, trivial⟩
        refine FlowAll.cons ?_ ?_
        · intro xF w3 hR hd K hK
          have dd0 : ((xF 0) = .pointer (some ⟨w.heap.size + 1, 1, none⟩)) := hd 0 (by kernel_rfl)
          clear hd
          simp only [List.take_succ_cons, List.take_zero, fillOf, Act.put, List.setIfInBounds_toArray, List.set_cons_zero, List.set_cons_succ, Nat.reduceAdd, Nat.zero_add] at hK ⊢
          try generalize xF 0 = yy0 at *
          try generalize xF 1 = yy1 at *
          try generalize xF 2 = yy2 at *
          try generalize xF 3 = yy3 at *
          try generalize xF 4 = yy4 at *
          try generalize xF 5 = yy5 at *
          try generalize xF 6 = yy6 at *
          clear xF
          obtain rfl := dd0
          obtain hbR := id hR
          obtain ⟨x0, x1, x2, x3⟩ := HX.out _ hR
          rw [if_pos (by rfl)]
          go_simp
          refine hK.out _ _ ?_ ?_ ?_
          · exact Below.refl _ _
          · exact rfl
          · exact fun _ _ _ => ⟨trivial, trivial⟩
        refine FlowAll.cons ?_ ?_
        · intro xF w3 hR hd K hK
          clear hd
          simp only [List.take_succ_cons, List.take_zero, fillOf, Act.put, List.setIfInBounds_toArray, List.set_cons_zero, List.set_cons_succ, Nat.reduceAdd, Nat.zero_add] at hK ⊢
          try generalize xF 0 = yy0 at *
          try generalize xF 1 = yy1 at *
          try generalize xF 2 = yy2 at *
          try generalize xF 3 = yy3 at *
          try generalize xF 4 = yy4 at *
          try generalize xF 5 = yy5 at *
          try generalize xF 6 = yy6 at *
          clear xF
          obtain hbR := id hR
          obtain ⟨x0, x1, x2, x3⟩ := HX.out _ hR
          rw [if_pos (by rfl)]
          go_simp
          refine hK.out _ _ ?_ ?_ ?_
          · exact Below.refl _ _
          · exact rfl
          · exact fun _ _ _ => ⟨trivial, trivial⟩
        refine FlowAll.cons ?_ ?_
        · intro xF w3 hR hd K hK
          clear hd
          simp only [List.take_succ_cons, List.take_zero, fillOf, Act.put, List.setIfInBounds_toArray, List.set_cons_zero, List.set_cons_succ, Nat.reduceAdd, Nat.zero_add] at hK ⊢
          try generalize xF 0 = yy0 at *
          try generalize xF 1 = yy1 at *
          try generalize xF 2 = yy2 at *
          try generalize xF 3 = yy3 at *
          try generalize xF 4 = yy4 at *
          try generalize xF 5 = yy5 at *
          try generalize xF 6 = yy6 at *
          clear xF
          obtain hbR := id hR
          rw [if_pos (by rfl)]
          go_simp
          refine hK.out _ _ ?_ ?_ ?_
          · exact Below.refl _ _
          · exact rfl
          · exact fun _ _ _ => ⟨trivial, trivial⟩
        refine FlowAll.cons ?_ ?_
        · intro xF w3 hR hd K hK
          have dd3 : ((xF 3) = .pointer (some ⟨w.heap.size + 1, 0, none⟩)) := hd 3 (by kernel_rfl)
          clear hd
          simp only [List.take_succ_cons, List.take_zero, fillOf, Act.put, List.setIfInBounds_toArray, List.set_cons_zero, List.set_cons_succ, Nat.reduceAdd, Nat.zero_add] at hK ⊢
          try generalize xF 0 = yy0 at *
          try generalize xF 1 = yy1 at *
          try generalize xF 2 = yy2 at *
          try generalize xF 3 = yy3 at *
          try generalize xF 4 = yy4 at *
          try generalize xF 5 = yy5 at *
          try generalize xF 6 = yy6 at *
          clear xF
          obtain rfl := dd3
          obtain hbR := id hR
          obtain ⟨x0, x1, x2, x3⟩ := HX.out _ hR
          rw [if_pos (by rfl)]
          go_simp
          refine hK.out _ _ ?_ ?_ ?_
          · exact Below.refl _ _
          · exact rfl
          · exact fun _ _ _ => ⟨trivial, trivial⟩
        refine FlowAll.cons ?_ ?_
        · intro xF w3 hR hd K hK
          have dd2 : ((xF 2) = .agg #[.slice a1 n1 c1, .slice a2 n2 c2]) := hd 2 (by kernel_rfl)
          have dd4 : ((xF 4) = .int .i64 du) := hd 4 (by kernel_rfl)
          clear hd
          simp only [List.take_succ_cons, List.take_zero, fillOf, Act.put, List.setIfInBounds_toArray, List.set_cons_zero, List.set_cons_succ, Nat.reduceAdd, Nat.zero_add] at hK ⊢
          try generalize xF 0 = yy0 at *
          try generalize xF 1 = yy1 at *
          try generalize xF 2 = yy2 at *
          try generalize xF 3 = yy3 at *
          try generalize xF 4 = yy4 at *
          try generalize xF 5 = yy5 at *
          try generalize xF 6 = yy6 at *
          clear xF
          obtain rfl := dd2
          obtain rfl := dd4
          obtain hbR := id hR
          rw [if_pos (by rfl)]
          go_simp
          (go_at_call 33; (with_reducible refine (HUP.out _ hR).mono ?_); rintro e wK ⟨rfl, hbK⟩)
          try go_wp2_with fail
          refine hK.out _ _ ?_ ?_ ?_
          · exact hbK
          · exact rfl
          · exact fun _ _ _ => ⟨trivial, trivial⟩
        refine FlowAll.cons ?_ ?_
        · intro xF w3 hR hd K hK
          have dd1 : ((xF 1) = .int .i64 dv) := hd 1 (by kernel_rfl)
          have dd5 : ((xF 5) = .int .i64 kk) := hd 5 (by kernel_rfl)
          clear hd
          simp only [List.take_succ_cons, List.take_zero, fillOf, Act.put, List.setIfInBounds_toArray, List.set_cons_zero, List.set_cons_succ, Nat.reduceAdd, Nat.zero_add] at hK ⊢
          try generalize xF 0 = yy0 at *
          try generalize xF 1 = yy1 at *
          try generalize xF 2 = yy2 at *
          try generalize xF 3 = yy3 at *
          try generalize xF 4 = yy4 at *
          try generalize xF 5 = yy5 at *
          try generalize xF 6 = yy6 at *
          clear xF
          obtain rfl := dd1
          obtain rfl := dd5
          obtain hbR := id hR
          rw [if_pos (by rfl)]
          go_simp
          refine hK.out _ _ ?_ ?_ ?_
          · exact Below.refl _ _
          · exact rfl
          · exact fun _ _ _ => ⟨trivial, trivial⟩
        exact FlowAll.nil
      intro xF w3 hR hF hP
      clear hP
      have dd0 : ((xF 0) = .pointer (some ⟨w.heap.size + 1, 1, none⟩)) := hF 0 (by omega) (by decide)
      have dd1 : ((xF 1) = .int .i64 dv) := hF 1 (by omega) (by decide)
      have dd2 : ((xF 2) = .agg #[.slice a1 n1 c1, .slice a2 n2 c2]) := hF 2 (by omega) (by decide)
      have dd3 : ((xF 3) = .pointer (some ⟨w.heap.size + 1, 0, none⟩)) := hF 3 (by omega) (by decide)
      have dd4 : ((xF 4) = .int .i64 du) := hF 4 (by omega) (by decide)
      have dd5 : ((xF 5) = .int .i64 kk) := hF 5 (by omega) (by decide)
      have dd6 : ((xF 6) = .bool true) := hF 6 (by omega) (by decide)
      clear hF
      simp only [List.take_succ_cons, List.take_zero, List.drop_succ_cons, List.drop_zero, fillOf, Act.put, List.setIfInBounds_toArray, List.set_cons_zero, List.set_cons_succ, Nat.reduceAdd, Nat.zero_add]
      try generalize xF 0 = yy0 at *
      try generalize xF 1 = yy1 at *
      try generalize xF 2 = yy2 at *
      try generalize xF 3 = yy3 at *
      try generalize xF 4 = yy4 at *
      try generalize xF 5 = yy5 at *
      try generalize xF 6 = yy6 at *
      clear xF
      obtain rfl := dd0
      obtain rfl := dd1
      obtain rfl := dd2
      obtain rfl := dd3
      obtain rfl := dd4
      obtain rfl := dd5
      obtain rfl := dd6
      have hRE := Lib.hid hR
      clear hR
      have hb9 := E1.trans (hRE.out.mono E1.size)
      clear hRE
      go_wp2
      go_ret
      exact ⟨rfl, hb9⟩
    · have hd : decide (dv ≤ kk) = false := decide_eq_false hle
      have HR : Hid (R = c.2.any (fun x => decide (x = (du, dv)))) := by show _ = _; rw [HH.out, hd]; rfl
      go_wp2_with fail
      refine wp_flow 7 (fun _ => 1000) (fun ww => RowKit.Below w1.heap.size w1 ww) (fun _ w w' => (fun (w w' : World) => RowKit.Below w.heap.size w w') w w') (fun kF vF wF => match kF with | 0 => (vF = .pointer (some ⟨w.heap.size + 1, 1, none⟩)) | 1 => (vF = .int .i64 dv) | 2 => (vF = .agg #[.slice a1 n1 c1, .slice a2 n2 c2]) | 3 => (vF = .pointer (some ⟨w.heap.size + 1, 0, none⟩)) | 4 => (vF = .int .i64 du) | 5 => (vF = .int .i64 kk) | 6 => (vF = .bool false) | _ => True) (fun _ _ _ _ => True) (by kernel_rfl) (by kernel_rfl) ?_ ?_ ?_ ?_ ?_
      · exact D.drew
      · intro iF wF1 wF2 hR hT; exact hR.trans (hT.mono hR.size)
      · intro kF hkF iF hiF hne hdd hanc hdan vF wF1 wF2 h hT
        rcases (by omega : kF = 0 ∨ kF = 1 ∨ kF = 2 ∨ kF = 3 ∨ kF = 4 ∨ kF = 5 ∨ kF = 6) with rfl | rfl | rfl | rfl | rfl | rfl | rfl
        · have h : (vF = .pointer (some ⟨w.heap.size + 1, 1, none⟩)) := h
          show (vF = .pointer (some ⟨w.heap.size + 1, 1, none⟩))
          have hT : (fun (w w' : World) => RowKit.Below w.heap.size w w') wF1 wF2 := hT
          simp only at hT
          exact h
        · have h : (vF = .int .i64 dv) := h
          show (vF = .int .i64 dv)
          have hT : (fun (w w' : World) => RowKit.Below w.heap.size w w') wF1 wF2 := hT
          simp only at hT
          exact h
        · have h : (vF = .agg #[.slice a1 n1 c1, .slice a2 n2 c2]) := h
          show (vF = .agg #[.slice a1 n1 c1, .slice a2 n2 c2])
          have hT : (fun (w w' : World) => RowKit.Below w.heap.size w w') wF1 wF2 := hT
          simp only at hT
          exact h
        · have h : (vF = .pointer (some ⟨w.heap.size + 1, 0, none⟩)) := h
          show (vF = .pointer (some ⟨w.heap.size + 1, 0, none⟩))
          have hT : (fun (w w' : World) => RowKit.Below w.heap.size w w') wF1 wF2 := hT
          simp only at hT
          exact h
        · have h : (vF = .int .i64 du) := h
          show (vF = .int .i64 du)
          have hT : (fun (w w' : World) => RowKit.Below w.heap.size w w') wF1 wF2 := hT
          simp only at hT
          exact h
        · have h : (vF = .int .i64 kk) := h
          show (vF = .int .i64 kk)
          have hT : (fun (w w' : World) => RowKit.Below w.heap.size w w') wF1 wF2 := hT
          simp only at hT
          exact h
        · have h : (vF = .bool false) := h
          show (vF = .bool false)
          have hT : (fun (w w' : World) => RowKit.Below w.heap.size w w') wF1 wF2 := hT
          simp only at hT
          exact h
      · refine FlowAll.cons ?_ ?_
        · intro xF w3 hR hd K hK
          clear hd
          simp only [List.take_succ_cons, List.take_zero, fillOf, Act.put, List.setIfInBounds_toArray, List.set_cons_zero, List.set_cons_succ, Nat.reduceAdd, Nat.zero_add] at hK ⊢
          try generalize xF 0 = yy0 at *
          try generalize xF 1 = yy1 at *
          try generalize xF 2 = yy2 at *
          try generalize xF 3 = yy3 at *
          try generalize xF 4 = yy4 at *
          try generalize xF 5 = yy5 at *
          try generalize xF 6 = yy6 at *
          clear xF
          obtain hbR := id hR
          rw [if_pos (by rfl)]
          go_simp
          refine hK.out _ _ ?_ ?_ ?_
          · exact Below.refl _ _
          · exact rfl
          · exact fun _ _ _ => ⟨trivial, trivial⟩
        refine FlowAll.cons ?_ ?_
        · intro xF w3 hR hd K hK
          have dd0 : ((xF 0) = .pointer (some ⟨w.heap.size + 1, 1, none⟩)) := hd 0 (by kernel_rfl)
          clear hd
          simp only [List.take_succ_cons, List.take_zero, fillOf, Act.put, List.setIfInBounds_toArray, List.set_cons_zero, List.set_cons_succ, Nat.reduceAdd, Nat.zero_add] at hK ⊢
          try generalize xF 0 = yy0 at *
          try generalize xF 1 = yy1 at *
          try generalize xF 2 = yy2 at *
          try generalize xF 3 = yy3 at *
          try generalize xF 4 = yy4 at *
          try generalize xF 5 = yy5 at *
          try generalize xF 6 = yy6 at *
          clear xF
          obtain rfl := dd0
          obtain hbR := id hR
          obtain ⟨x0, x1, x2, x3⟩ := HX.out _ hR
          rw [if_pos (by rfl)]
          go_simp
          refine hK.out _ _ ?_ ?_ ?_
          · exact Below.refl _ _
          · exact rfl
          · exact fun _ _ _ => ⟨trivial, trivial⟩
        refine FlowAll.cons ?_ ?_
        · intro xF w3 hR hd K hK
          clear hd
          simp only [List.take_succ_cons, List.take_zero, fillOf, Act.put, List.setIfInBounds_toArray, List.set_cons_zero, List.set_cons_succ, Nat.reduceAdd, Nat.zero_add] at hK ⊢
          try generalize xF 0 = yy0 at *
          try generalize xF 1 = yy1 at *
          try generalize xF 2 = yy2 at *
          try generalize xF 3 = yy3 at *
          try generalize xF 4 = yy4 at *
          try generalize xF 5 = yy5 at *
          try generalize xF 6 = yy6 at *
          clear xF
          obtain hbR := id hR
          obtain ⟨x0, x1, x2, x3⟩ := HX.out _ hR
          rw [if_pos (by rfl)]
          go_simp
          refine hK.out _ _ ?_ ?_ ?_
          · exact Below.refl _ _
          · exact rfl
          · exact fun _ _ _ => ⟨trivial, trivial⟩
        refine FlowAll.cons ?_ ?_
        · intro xF w3 hR hd K hK
          clear hd
          simp only [List.take_succ_cons, List.take_zero, fillOf, Act.put, List.setIfInBounds_toArray, List.set_cons_zero, List.set_cons_succ, Nat.reduceAdd, Nat.zero_add] at hK ⊢
          try generalize xF 0 = yy0 at *
          try generalize xF 1 = yy1 at *
          try generalize xF 2 = yy2 at *
          try generalize xF 3 = yy3 at *
          try generalize xF 4 = yy4 at *
          try generalize xF 5 = yy5 at *
          try generalize xF 6 = yy6 at *
          clear xF
          obtain hbR := id hR
          rw [if_pos (by rfl)]
          go_simp
          refine hK.out _ _ ?_ ?_ ?_
          · exact Below.refl _ _
          · exact rfl
          · exact fun _ _ _ => ⟨trivial, trivial⟩
        refine FlowAll.cons ?_ ?_
        · intro xF w3 hR hd K hK
          have dd3 : ((xF 3) = .pointer (some ⟨w.heap.size + 1, 0, none⟩)) := hd 3 (by kernel_rfl)
          clear hd
          simp only [List.take_succ_cons, List.take_zero, fillOf, Act.put, List.setIfInBounds_toArray, List.set_cons_zero, List.set_cons_succ, Nat.reduceAdd, Nat.zero_add] at hK ⊢
          try generalize xF 0 = yy0 at *
          try generalize xF 1 = yy1 at *
          try generalize xF 2 = yy2 at *
          try generalize xF 3 = yy3 at *
          try generalize xF 4 = yy4 at *
          try generalize xF 5 = yy5 at *
          try generalize xF 6 = yy6 at *
          clear xF
          obtain rfl := dd3
          obtain hbR := id hR
          obtain ⟨x0, x1, x2, x3⟩ := HX.out _ hR
          rw [if_pos (by rfl)]
          go_simp
          refine hK.out _ _ ?_ ?_ ?_
          · exact Below.refl _ _
          · exact rfl
          · exact fun _ _ _ => ⟨trivial, trivial⟩
        refine FlowAll.cons ?_ ?_
        · intro xF w3 hR hd K hK
          have dd2 : ((xF 2) = .agg #[.slice a1 n1 c1, .slice a2 n2 c2]) := hd 2 (by kernel_rfl)
          have dd4 : ((xF 4) = .int .i64 du) := hd 4 (by kernel_rfl)
          clear hd
          simp only [List.take_succ_cons, List.take_zero, fillOf, Act.put, List.setIfInBounds_toArray, List.set_cons_zero, List.set_cons_succ, Nat.reduceAdd, Nat.zero_add] at hK ⊢
          try generalize xF 0 = yy0 at *
          try generalize xF 1 = yy1 at *
          try generalize xF 2 = yy2 at *
          try generalize xF 3 = yy3 at *
          try generalize xF 4 = yy4 at *
          try generalize xF 5 = yy5 at *
          try generalize xF 6 = yy6 at *
          clear xF
          obtain rfl := dd2
          obtain rfl := dd4
          obtain hbR := id hR
          rw [if_pos (by rfl)]
          go_simp
          (go_at_call 33; (with_reducible refine (HUP.out _ hR).mono ?_); rintro e wK ⟨rfl, hbK⟩)
          try go_wp2_with fail
          refine hK.out _ _ ?_ ?_ ?_
          · exact hbK
          · exact rfl
          · exact fun _ _ _ => ⟨trivial, trivial⟩
        refine FlowAll.cons ?_ ?_
        · intro xF w3 hR hd K hK
          have dd1 : ((xF 1) = .int .i64 dv) := hd 1 (by kernel_rfl)
          have dd5 : ((xF 5) = .int .i64 kk) := hd 5 (by kernel_rfl)
          clear hd
          simp only [List.take_succ_cons, List.take_zero, fillOf, Act.put, List.setIfInBounds_toArray, List.set_cons_zero, List.set_cons_succ, Nat.reduceAdd, Nat.zero_add] at hK ⊢
          try generalize xF 0 = yy0 at *
          try generalize xF 1 = yy1 at *
          try generalize xF 2 = yy2 at *
          try generalize xF 3 = yy3 at *
          try generalize xF 4 = yy4 at *
          try generalize xF 5 = yy5 at *
          try generalize xF 6 = yy6 at *
          clear xF
          obtain rfl := dd1
          obtain rfl := dd5
          obtain hbR := id hR
          rw [if_pos (by rfl)]
          go_simp
          refine hK.out _ _ ?_ ?_ ?_
          · exact Below.refl _ _
          · exact rfl
          · exact fun _ _ _ => ⟨trivial, trivial⟩
        exact FlowAll.nil
      intro xF w3 hR hF hP
      clear hP
      have dd0 : ((xF 0) = .pointer (some ⟨w.heap.size + 1, 1, none⟩)) := hF 0 (by omega) (by decide)
      have dd1 : ((xF 1) = .int .i64 dv) := hF 1 (by omega) (by decide)
      have dd2 : ((xF 2) = .agg #[.slice a1 n1 c1, .slice a2 n2 c2]) := hF 2 (by omega) (by decide)
      have dd3 : ((xF 3) = .pointer (some ⟨w.heap.size + 1, 0, none⟩)) := hF 3 (by omega) (by decide)
      have dd4 : ((xF 4) = .int .i64 du) := hF 4 (by omega) (by decide)
      have dd5 : ((xF 5) = .int .i64 kk) := hF 5 (by omega) (by decide)
      have dd6 : ((xF 6) = .bool false) := hF 6 (by omega) (by decide)
      clear hF
      simp only [List.take_succ_cons, List.take_zero, List.drop_succ_cons, List.drop_zero, fillOf, Act.put, List.setIfInBounds_toArray, List.set_cons_zero, List.set_cons_succ, Nat.reduceAdd, Nat.zero_add]
      try generalize xF 0 = yy0 at *
      try generalize xF 1 = yy1 at *
      try generalize xF 2 = yy2 at *
      try generalize xF 3 = yy3 at *
      try generalize xF 4 = yy4 at *
      try generalize xF 5 = yy5 at *
      try generalize xF 6 = yy6 at *
      clear xF
      obtain rfl := dd0
      obtain rfl := dd1
      obtain rfl := dd2
      obtain rfl := dd3
      obtain rfl := dd4
      obtain rfl := dd5
      obtain rfl := dd6
      have hRE := Lib.hid hR
      clear hR
      have D3 := hRE.out
      clear hRE HH D
      obtain ⟨_, x1, _, _⟩ := HX.out _ D3
      go_wp2
      clear x1
      go_loopw [20, 27] (fun i _ wr => ∃ k : Nat, i = .int .i64 k ∧ k ≤ n2 ∧ Hid ((c.2.take k).any (fun x => decide (x = (du, dv))) = false) ∧ Below w1.heap.size w1 wr) (fun i _ _ => n2 - (intOf i).toNat)
      case atStart => exact ⟨0, rfl, Nat.zero_le _, rfl, D3⟩
      case round =>
        clear D3
        obtain ⟨k, rfl, hk, HO, D⟩ := hrel
        by_cases hlt : k < n2
        · obtain ⟨b0, off, rfl, hB, p0, p1⟩ := Dots.get (HD.out _ D) HN2.out hlt
          have HKL : Hid (k < c.2.length) := by show k < _; rw [← HN2.out]; exact hlt
          have HSN := Lib.hid (rany_snoc HKL.out (fun x => decide (x = (du, dv))))
          obtain ⟨⟨u, v⟩, hx⟩ : ∃ x, x = c.2.getD k (0, 0) := ⟨_, rfl⟩
          rw [← hx] at p0 p1 HSN
          rw [HO.out] at HSN
          simp only at p0 p1
          have HXE := Lib.hid hx
          have hkI : (k : Int) < (n2 : Int) := by omega
          have hal : Below wr.heap.size wr (wr.alloc (.cells #[.int .i64 u, .int .i64 v] 26)) := ctx_below
          have D1 := D.trans (hal.mono D.size)
          obtain ⟨_, _, x2, x3⟩ := HX.out _ D1
          obtain ⟨_, _, x2', x3'⟩ := HX.out _ D
          clear hx
          by_cases hu : u = du
          · subst hu
            by_cases hvv : v = dv
            · subst hvv
              obtain rfl : R = true := by
                rw [HR.out, List.any_eq_true]
                exact ⟨_, dm.getD_mem HKL.out, by rw [← HXE.out]; simp⟩
              have hb9 := E1.trans (D1.mono E1.size)
              go_wp2
              go_ret
              exact ⟨rfl, hb9⟩
            · have hq : (v == dv) = false := by simpa using hvv
              have HO2 : Hid ((c.2.take (k + 1)).any (fun x => decide (x = (u, dv))) = false) := by show _ = _; rw [HSN.out]; simp [hvv]
              go_wp2
              go_roundw
              case rel => exact ⟨k + 1, by go_num, by omega, HO2, D1⟩
              case measure => simp [intOf]; omega
          · have hq : (u == du) = false := by simpa using hu
            have HO2 : Hid ((c.2.take (k + 1)).any (fun x => decide (x = (du, dv))) = false) := by show _ = _; rw [HSN.out]; simp [hu]
            go_wp2
            go_roundw
            case rel => exact ⟨k + 1, by go_num, by omega, HO2, D1⟩
            case measure => simp [intOf]; omega
        · obtain rfl : k = n2 := by omega
          obtain rfl : R = false := by
            have := HO.out
            rw [List.take_of_length_le (by rw [HN2.out]; exact Nat.le_refl _)] at this
            rw [HR.out, this]
          have hb9 := E1.trans (D.mono E1.size)
          go_wp2
          go_ret
          exact ⟨rfl, hb9⟩
end Go.Proofs.Ytdcmoeklldkccaa
