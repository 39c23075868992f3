/- dot.Add: a context with a dot more. -/
import Derived.Test.YtdcmoeklldkccaaDotFrom
import Derived.Test.YtdcmoeklldkccaaFlow
namespace Go.Proofs.Ytdcmoeklldkccaa
open Go Go.RowKit Go.ChangeShapes cl Go.Sort

structure AddR (H : Nat) (v1 v2 : Value) (a b : Int) (w3 ww : World) : Prop where
  r0 : ww.cell? ⟨H, 0, none⟩ = some v1
  r1 : ww.cell? ⟨H, 1, none⟩ = some v2
  r2 : ww.cell? ⟨H + 1, 0, none⟩ = some (.int .i64 a)
  r3 : ww.cell? ⟨H + 1, 1, none⟩ = some (.int .i64 b)
  below : Below (H + 3) w3 ww
  size : H + 3 ≤ ww.heap.size
theorem AddR.step {H : Nat} {v1 v2 : Value} {a b : Int} {w3 w w' : World} (h : AddR H v1 v2 a b w3 w) (hT : Below w.heap.size w w') : AddR H v1 v2 a b w3 w' := by
  have hs := h.size
  exact ⟨(hT.cell (p := ⟨H, 0, none⟩) (by show H < _; omega)).trans h.r0, (hT.cell (p := ⟨H, 1, none⟩) (by show H < _; omega)).trans h.r1, (hT.cell (p := ⟨H + 1, 0, none⟩) (by show H + 1 < _; omega)).trans h.r2,
    (hT.cell (p := ⟨H + 1, 1, none⟩) (by show H + 1 < _; omega)).trans h.r3, h.below.trans (hT.mono hs), Nat.le_trans hs hT.size⟩
theorem AddR.start {H : Nat} {v1 v2 : Value} {a b : Int} {w3 w : World} (h : AddR H v1 v2 a b w3 w) : AddR H v1 v2 a b w3 w.drew := h.step (below_drewN (Below.refl _ _) 1)
/-- a context comes back that was handed in -/
def SameC (v : Value) (w : World) (e : Ending) (w' : World) : Prop := e = .returned v ∧ Below w.heap.size w w'
set_option maxHeartbeats 3200000 in
set_option maxRecDepth 100000 in
theorem add_yes (c : dm.Ctx) (d : Dot) (v : Value) (w : World) (h : CtxAt w w.heap.size v c) (hv : valid d = true) (hr : dm.Right c) (hl : c.2.length ≤ 500000) :
    Calls Try.prog 20 #[v, .agg #[.int .i64 d.1, .int .i64 d.2]] w (CtxP (fun e => dm.Knows c e ∨ e = d) (c.2.length + 1) w) := by
  obtain ⟨v1, v2, rfl, h1, h2⟩ := h
  obtain ⟨m, hm⟩ : ∃ m, m = c.2.length := ⟨_, rfl⟩
  obtain ⟨a1, c1, rfl, _, _⟩ := h1.form
  obtain ⟨a2, c2, rfl, _, _⟩ := h2.form
  obtain ⟨n1, hn1⟩ : ∃ n1, n1 = c.1.length := ⟨_, rfl⟩
  rw [← hm] at hl ⊢
  rw [← hn1] at h1 ⊢
  rw [← hm] at h2
  have HCX : Hid (CtxAt w w.heap.size (.agg #[.slice a1 n1 c1, .slice a2 m c2]) c) := ⟨_, _, rfl, h1, h2⟩
  have HR := Lib.hid hr
  have HM := Lib.hid hm
  obtain ⟨a, b⟩ := d
  have hA : Below w.heap.size w (((w.alloc (.cells #[.slice a1 n1 c1, .slice a2 m c2] 24)).alloc (.cells #[.int .i64 a, .int .i64 b] 26)).alloc (.cells #[.slice none 0 0, .slice none 0 0] 24)) :=
    (((Below.refl _ _).alloc (Nat.le_refl _) _).alloc (by simp) _).alloc (by simp <;> omega) _
  have HVA : Hid (∀ W, Calls Try.prog 12 #[.agg #[.int .i64 a, .int .i64 b]] W (Said true W)) := fun W => by have := valid_any (a, b) W; rwa [hv] at this
  have HV := Lib.hid hv
  clear h1 h2 hn1 hm hr hv
  go_enter Try.func20, Try.ntmps20
  go_wp2_with fail
  (with_reducible refine (HVA.out _).mono ?_)
  rintro e w2 ⟨rfl, g2⟩
  have B2 := hA.trans (g2.mono (by simp <;> omega))
  have HR2 : Hid (Calls Try.prog 18 #[.agg #[.slice a1 n1 c1, .slice a2 m c2]] w2 (Said true w2)) := by
    have := right_any c _ w2 (HCX.out.next B2)
    rwa [dm.rightB_true HR.out] at this
  have hz2 : w.heap.size + 3 ≤ w2.heap.size := by have := g2.size; simp at this; omega
  have HB2 : Hid (AddR w.heap.size (.slice a1 n1 c1) (.slice a2 m c2) a b w2 w2) := by
    refine ⟨?_, ?_, ?_, ?_, Below.refl _ _, hz2⟩
    · exact (g2.cell (p := ⟨w.heap.size, 0, none⟩) (by simp <;> omega)).trans (by go_simp)
    · exact (g2.cell (p := ⟨w.heap.size, 1, none⟩) (by simp <;> omega)).trans (by go_simp)
    · exact (g2.cell (p := ⟨w.heap.size + 1, 0, none⟩) (by simp <;> omega)).trans (by go_simp)
    · exact (g2.cell (p := ⟨w.heap.size + 1, 1, none⟩) (by simp <;> omega)).trans (by go_simp)
  have HT : Hid (w2.cell? ⟨w.heap.size + 2, 0, none⟩ = some (.slice none 0 0) ∧ w2.cell? ⟨w.heap.size + 2, 1, none⟩ = some (.slice none 0 0) ∧ w2.frozen? ⟨w.heap.size + 2, 0, none⟩ = false ∧ w2.frozen? ⟨w.heap.size + 2, 1, none⟩ = false) := by
    refine ⟨?_, ?_, ?_, ?_⟩
    · exact (g2.cell (p := ⟨w.heap.size + 2, 0, none⟩) (by simp <;> omega)).trans (by go_simp)
    · exact (g2.cell (p := ⟨w.heap.size + 2, 1, none⟩) (by simp <;> omega)).trans (by go_simp)
    · exact (g2.frozen (p := ⟨w.heap.size + 2, 0, none⟩) (by simp <;> omega)).trans (by go_simp)
    · exact (g2.frozen (p := ⟨w.heap.size + 2, 1, none⟩) (by simp <;> omega)).trans (by go_simp)
  clear hA g2
  obtain ⟨r0, r1, r2, r3, _, _⟩ := id HB2.out
  go_wp2_with fail
  (with_reducible refine HR2.out.mono ?_)
  rintro e w3 ⟨rfl, g3⟩
  have HR0 := Lib.hid (HB2.out.step g3)
  clear r0 r1 r2 r3 HB2
  have B3 := B2.trans (g3.mono (by omega))
  clear g3
  have HUP : Hid (∀ W, Below (w.heap.size + 3) w2 W → Calls Try.prog 34 #[.agg #[.slice a1 n1 c1, .slice a2 m c2]] W fun e w' => e = .returned (arrV (dm.upK c.1)) ∧ Below W.heap.size W w') := fun W hW => by
    exact upTo_any c _ W (HCX.out.next (B2.trans (hW.mono (by omega)))) HR.out.vok
  have HCL : Hid (∀ W, Below (w.heap.size + 3) w2 W → Calls Try.prog 36 #[.slice a2 m c2] W fun e w' => ∃ v' ao cp, e = .returned v' ∧ v' = .slice ao m cp ∧ w'.ownsRow W.heap.size 26 2 v' m (dcells c.2) ∧ Below W.heap.size W w') := fun W hW => by
    obtain ⟨y1, y2, ey, _, h2⟩ := HCX.out.next (B2.trans (hW.mono (by omega)))
    simp only [Value.agg.injEq, Array.mk.injEq, List.cons.injEq, and_true] at ey
    obtain ⟨_, rfl⟩ := ey
    refine (clone_any c.2 _ W h2 (by have := HM.out; omega)).mono ?_
    rintro e w' ⟨v', rfl, ho, hb⟩
    rw [← HM.out] at ho
    obtain ⟨ao, cp, rfl⟩ := own_form ho
    exact ⟨_, ao, cp, rfl, rfl, ho, hb⟩
  go_wp2_with fail
  refine wp_flow 7 (fun _ => 1000) (fun ww => AddR w.heap.size (.slice a1 n1 c1) (.slice a2 m c2) a b w2 ww) (fun _ w w' => (fun (w w' : World) => RowKit.Below w.heap.size w w') w w') (fun kF vF wF => match kF with | 0 => (vF = .agg #[.slice a1 n1 c1, .slice a2 m c2]) | 1 => (vF = arrV (dm.upK c.1)) | 2 => (vF = .pointer (some ⟨w.heap.size, 1, none⟩)) | 3 => (vF = .slice a2 m c2) | 4 => (∃ ao cp, vF = .slice ao m cp ∧ wF.ownsRow (w.heap.size + 3) 26 2 (.slice ao m cp) m (dcells c.2)) | 5 => (vF = .agg #[.int .i64 a, .int .i64 b]) | 6 => (∃ g, vF = .slice (some ⟨g, 0, none⟩) 1 1 ∧ g < wF.heap.size ∧ wF.cell? ⟨g, 0, none⟩ = some (.int .i64 a) ∧ wF.cell? ⟨g, 1, none⟩ = some (.int .i64 b)) | _ => True) (fun _ _ _ _ => True) (by kernel_rfl) (by kernel_rfl) ?_ ?_ ?_ ?_ ?_
  · exact AddR.start HR0.out
  · intro iF wF1 wF2 hR hT; exact hR.step hT
  · intro kF hkF iF hiF hne hdd hanc hdan vF wF1 wF2 h hT
    rcases (by omega : kF = 0 ∨ kF = 1 ∨ kF = 2 ∨ kF = 3 ∨ kF = 4 ∨ kF = 5 ∨ kF = 6) with rfl | rfl | rfl | rfl | rfl | rfl | rfl
    · have h : (vF = .agg #[.slice a1 n1 c1, .slice a2 m c2]) := h
      show (vF = .agg #[.slice a1 n1 c1, .slice a2 m c2])
      have hT : (fun (w w' : World) => RowKit.Below w.heap.size w w') wF1 wF2 := hT
      simp only at hT
      exact h
    · have h : (vF = arrV (dm.upK c.1)) := h
      show (vF = arrV (dm.upK c.1))
      have hT : (fun (w w' : World) => RowKit.Below w.heap.size w w') wF1 wF2 := hT
      simp only at hT
      exact h
    · have h : (vF = .pointer (some ⟨w.heap.size, 1, none⟩)) := h
      show (vF = .pointer (some ⟨w.heap.size, 1, none⟩))
      have hT : (fun (w w' : World) => RowKit.Below w.heap.size w w') wF1 wF2 := hT
      simp only at hT
      exact h
    · have h : (vF = .slice a2 m c2) := h
      show (vF = .slice a2 m c2)
      have hT : (fun (w w' : World) => RowKit.Below w.heap.size w w') wF1 wF2 := hT
      simp only at hT
      exact h
    · have h : (∃ ao cp, vF = .slice ao m cp ∧ wF1.ownsRow (w.heap.size + 3) 26 2 (.slice ao m cp) m (dcells c.2)) := h
      show (∃ ao cp, vF = .slice ao m cp ∧ wF2.ownsRow (w.heap.size + 3) 26 2 (.slice ao m cp) m (dcells c.2))
      have hT : (fun (w w' : World) => RowKit.Below w.heap.size w w') wF1 wF2 := hT
      simp only at hT
      obtain ⟨ao, cp, e, ho⟩ := h
      exact ⟨ao, cp, e, own_stay ho hT⟩
    · have h : (vF = .agg #[.int .i64 a, .int .i64 b]) := h
      show (vF = .agg #[.int .i64 a, .int .i64 b])
      have hT : (fun (w w' : World) => RowKit.Below w.heap.size w w') wF1 wF2 := hT
      simp only at hT
      exact h
    · have h : (∃ g, vF = .slice (some ⟨g, 0, none⟩) 1 1 ∧ g < wF1.heap.size ∧ wF1.cell? ⟨g, 0, none⟩ = some (.int .i64 a) ∧ wF1.cell? ⟨g, 1, none⟩ = some (.int .i64 b)) := h
      show (∃ g, vF = .slice (some ⟨g, 0, none⟩) 1 1 ∧ g < wF2.heap.size ∧ wF2.cell? ⟨g, 0, none⟩ = some (.int .i64 a) ∧ wF2.cell? ⟨g, 1, none⟩ = some (.int .i64 b))
      have hT : (fun (w w' : World) => RowKit.Below w.heap.size w w') wF1 wF2 := hT
      simp only at hT
      obtain ⟨g, e, h1, h2, h3⟩ := h
      exact ⟨g, e, by have := hT.size; omega, (hT.cell (p := ⟨g, 0, none⟩) h1).trans h2, (hT.cell (p := ⟨g, 1, none⟩) h1).trans h3⟩
  · refine FlowAll.cons ?_ ?_
    · intro xF ww hR hd K hK
      clear hd
      simp only [List.take_succ_cons, List.take_zero, fillOf, Act.put, List.setIfInBounds_toArray, List.set_cons_zero, List.set_cons_succ, Nat.reduceAdd, Nat.zero_add] at hK ⊢
      try generalize xF 0 = yy0 at *
      try generalize xF 1 = yy1 at *
      try generalize xF 2 = yy2 at *
      try generalize xF 3 = yy3 at *
      try generalize xF 4 = yy4 at *
      try generalize xF 5 = yy5 at *
      try generalize xF 6 = yy6 at *
      clear xF
      obtain ⟨r0, r1, r2, r3, hbl, hsz⟩ := id hR
      rw [if_pos (by rfl)]
      go_simp
      refine hK.out _ _ ?_ ?_ ?_
      · exact Below.refl _ _
      · exact rfl
      · exact fun _ _ _ => ⟨trivial, trivial⟩
    refine FlowAll.cons ?_ ?_
    · intro xF ww hR hd K hK
      have dd0 : ((xF 0) = .agg #[.slice a1 n1 c1, .slice a2 m c2]) := hd 0 (by kernel_rfl)
      clear hd
      simp only [List.take_succ_cons, List.take_zero, fillOf, Act.put, List.setIfInBounds_toArray, List.set_cons_zero, List.set_cons_succ, Nat.reduceAdd, Nat.zero_add] at hK ⊢
      try generalize xF 0 = yy0 at *
      try generalize xF 1 = yy1 at *
      try generalize xF 2 = yy2 at *
      try generalize xF 3 = yy3 at *
      try generalize xF 4 = yy4 at *
      try generalize xF 5 = yy5 at *
      try generalize xF 6 = yy6 at *
      clear xF
      obtain rfl := dd0
      obtain ⟨r0, r1, r2, r3, hbl, hsz⟩ := id hR
      rw [if_pos (by rfl)]
      go_simp
      (go_at_call 34; (with_reducible refine (HUP.out _ hR.below).mono ?_); rintro e wK ⟨rfl, hbK⟩)
      try go_wp2_with fail
      refine hK.out _ _ ?_ ?_ ?_
      · exact hbK
      · exact rfl
      · exact fun _ _ _ => ⟨trivial, trivial⟩
    refine FlowAll.cons ?_ ?_
    · intro xF ww hR hd K hK
      clear hd
      simp only [List.take_succ_cons, List.take_zero, fillOf, Act.put, List.setIfInBounds_toArray, List.set_cons_zero, List.set_cons_succ, Nat.reduceAdd, Nat.zero_add] at hK ⊢
      try generalize xF 0 = yy0 at *
      try generalize xF 1 = yy1 at *
      try generalize xF 2 = yy2 at *
      try generalize xF 3 = yy3 at *
      try generalize xF 4 = yy4 at *
      try generalize xF 5 = yy5 at *
      try generalize xF 6 = yy6 at *
      clear xF
      obtain ⟨r0, r1, r2, r3, hbl, hsz⟩ := id hR
      rw [if_pos (by rfl)]
      go_simp
      refine hK.out _ _ ?_ ?_ ?_
      · exact Below.refl _ _
      · exact rfl
      · exact fun _ _ _ => ⟨trivial, trivial⟩
    refine FlowAll.cons ?_ ?_
    · intro xF ww hR hd K hK
      have dd2 : ((xF 2) = .pointer (some ⟨w.heap.size, 1, none⟩)) := hd 2 (by kernel_rfl)
      clear hd
      simp only [List.take_succ_cons, List.take_zero, fillOf, Act.put, List.setIfInBounds_toArray, List.set_cons_zero, List.set_cons_succ, Nat.reduceAdd, Nat.zero_add] at hK ⊢
      try generalize xF 0 = yy0 at *
      try generalize xF 1 = yy1 at *
      try generalize xF 2 = yy2 at *
      try generalize xF 3 = yy3 at *
      try generalize xF 4 = yy4 at *
      try generalize xF 5 = yy5 at *
      try generalize xF 6 = yy6 at *
      clear xF
      obtain rfl := dd2
      obtain ⟨r0, r1, r2, r3, hbl, hsz⟩ := id hR
      rw [if_pos (by rfl)]
      go_simp
      refine hK.out _ _ ?_ ?_ ?_
      · exact Below.refl _ _
      · exact rfl
      · exact fun _ _ _ => ⟨trivial, trivial⟩
    refine FlowAll.cons ?_ ?_
    · intro xF ww hR hd K hK
      have dd3 : ((xF 3) = .slice a2 m c2) := hd 3 (by kernel_rfl)
      clear hd
      simp only [List.take_succ_cons, List.take_zero, fillOf, Act.put, List.setIfInBounds_toArray, List.set_cons_zero, List.set_cons_succ, Nat.reduceAdd, Nat.zero_add] at hK ⊢
      try generalize xF 0 = yy0 at *
      try generalize xF 1 = yy1 at *
      try generalize xF 2 = yy2 at *
      try generalize xF 3 = yy3 at *
      try generalize xF 4 = yy4 at *
      try generalize xF 5 = yy5 at *
      try generalize xF 6 = yy6 at *
      clear xF
      obtain rfl := dd3
      obtain ⟨r0, r1, r2, r3, hbl, hsz⟩ := id hR
      rw [if_pos (by rfl)]
      go_simp
      (go_at_call 36; (with_reducible refine (HCL.out _ hR.below).mono ?_); rintro e wK ⟨v4, ao, cp, rfl, rfl, hown4, hbK⟩)
      try go_wp2_with fail
      refine hK.out _ _ ?_ ?_ ?_
      · exact hbK
      · exact ⟨ao, cp, rfl, own_mono hown4 (by have := hR.size; omega)⟩
      · exact fun _ _ _ => ⟨trivial, trivial⟩
    refine FlowAll.cons ?_ ?_
    · intro xF ww hR hd K hK
      clear hd
      simp only [List.take_succ_cons, List.take_zero, fillOf, Act.put, List.setIfInBounds_toArray, List.set_cons_zero, List.set_cons_succ, Nat.reduceAdd, Nat.zero_add] at hK ⊢
      try generalize xF 0 = yy0 at *
      try generalize xF 1 = yy1 at *
      try generalize xF 2 = yy2 at *
      try generalize xF 3 = yy3 at *
      try generalize xF 4 = yy4 at *
      try generalize xF 5 = yy5 at *
      try generalize xF 6 = yy6 at *
      clear xF
      obtain ⟨r0, r1, r2, r3, hbl, hsz⟩ := id hR
      rw [if_pos (by rfl)]
      go_simp
      refine hK.out _ _ ?_ ?_ ?_
      · exact Below.refl _ _
      · exact rfl
      · exact fun _ _ _ => ⟨trivial, trivial⟩
    refine FlowAll.cons ?_ ?_
    · intro xF ww hR hd K hK
      have dd5 : ((xF 5) = .agg #[.int .i64 a, .int .i64 b]) := hd 5 (by kernel_rfl)
      clear hd
      simp only [List.take_succ_cons, List.take_zero, fillOf, Act.put, List.setIfInBounds_toArray, List.set_cons_zero, List.set_cons_succ, Nat.reduceAdd, Nat.zero_add] at hK ⊢
      try generalize xF 0 = yy0 at *
      try generalize xF 1 = yy1 at *
      try generalize xF 2 = yy2 at *
      try generalize xF 3 = yy3 at *
      try generalize xF 4 = yy4 at *
      try generalize xF 5 = yy5 at *
      try generalize xF 6 = yy6 at *
      clear xF
      obtain rfl := dd5
      obtain ⟨r0, r1, r2, r3, hbl, hsz⟩ := id hR
      rw [if_pos (by rfl)]
      go_simp
      refine hK.out _ _ ?_ ?_ ?_
      · exact (Below.refl _ _).alloc (Nat.le_refl _) _
      · exact ⟨_, rfl, by simp, World.cell?_alloc_at _ _ _ _ rfl, World.cell?_alloc_at _ _ _ _ rfl⟩
      · exact fun _ _ _ => ⟨trivial, trivial⟩
    exact FlowAll.nil
  intro xF ww hR hF hP
  clear hP
  have dd0 : ((xF 0) = .agg #[.slice a1 n1 c1, .slice a2 m c2]) := hF 0 (by omega) (by decide)
  have dd1 : ((xF 1) = arrV (dm.upK c.1)) := hF 1 (by omega) (by decide)
  have dd2 : ((xF 2) = .pointer (some ⟨w.heap.size, 1, none⟩)) := hF 2 (by omega) (by decide)
  have dd3 : ((xF 3) = .slice a2 m c2) := hF 3 (by omega) (by decide)
  have dd4 : (∃ ao cp, (xF 4) = .slice ao m cp ∧ ww.ownsRow (w.heap.size + 3) 26 2 (.slice ao m cp) m (dcells c.2)) := hF 4 (by omega) (by decide)
  have dd5 : ((xF 5) = .agg #[.int .i64 a, .int .i64 b]) := hF 5 (by omega) (by decide)
  have dd6 : (∃ g, (xF 6) = .slice (some ⟨g, 0, none⟩) 1 1 ∧ g < ww.heap.size ∧ ww.cell? ⟨g, 0, none⟩ = some (.int .i64 a) ∧ ww.cell? ⟨g, 1, none⟩ = some (.int .i64 b)) := hF 6 (by omega) (by decide)
  clear hF
  simp only [List.take_succ_cons, List.take_zero, List.drop_succ_cons, List.drop_zero, fillOf, Act.put, List.setIfInBounds_toArray, List.set_cons_zero, List.set_cons_succ, Nat.reduceAdd, Nat.zero_add]
  try generalize xF 0 = yy0 at *
  try generalize xF 1 = yy1 at *
  try generalize xF 2 = yy2 at *
  try generalize xF 3 = yy3 at *
  try generalize xF 4 = yy4 at *
  try generalize xF 5 = yy5 at *
  try generalize xF 6 = yy6 at *
  clear xF
  obtain rfl := dd0
  obtain rfl := dd1
  obtain rfl := dd2
  obtain rfl := dd3
  obtain ⟨ao, cp, rfl, hown⟩ := dd4
  obtain rfl := dd5
  obtain ⟨g, rfl, hg, g0, g1⟩ := dd6
  have hRE := Lib.hid hR
  clear hR
  have HCO := Lib.hid hown
  have hz9 := hRE.out.size
  have HLN : Hid ((dcells [(a, b)]).length = 1 * 2) := rfl
  have HG : Hid (∀ j u, (dcells [(a, b)])[j]? = some u → ww.cell? ((⟨g, 0, none⟩ : Addr).add j) = some u) := fun j u hj => by
    rw [Addr.add_lit, Nat.zero_add]
    match j, hj with
    | 0, hj => exact g0.trans hj
    | 1, hj => exact g1.trans hj
  clear hown
  refine kit.appN (.tmp 18) (.tmp 20) 22 rfl rfl (w.heap.size + 3) Try.underlying22 infoDot rfl (by decide) (by decide) HCO.out rfl (dcells [(a, b)]) rfl HLN.out (fun e => by cases e) (fun ad e j u hj => by cases e; exact HG.out j u hj) dcells_one (by omega) hz9 ?_
  intro v5 w5 hown5 hb5
  obtain ⟨o5, k5, rfl⟩ := own_form hown5
  have HLA := Lib.hid (lay_any (dm.upK c.1) (c.2 ++ [(a, b)]) (.slice o5 (m + 1) k5) (m + 1) (w.heap.size + 3) w5 (by rw [dcells_app]; exact hown5) (by rw [List.length_append, HM.out]; rfl) (by have := hb5.size; omega) (by omega)
    (fun n => dm.upK_bd ⟨HR.out.vok, HR.out.vup⟩ n) (fun e he => by
      rcases List.mem_append.1 he with h | h
      · exact (HR.out.cok e h).1
      · simp only [List.mem_cons, List.not_mem_nil, or_false] at h
        rw [h]; exact HV.out))
  have hbl5 := hRE.out.below.trans hb5
  have hz5 := hb5.size
  clear hown5 hb5 HCO HG HLN
  go_wp2_with fail
  (with_reducible refine HLA.out.mono ?_)
  rintro e w6 ⟨v6, L', hp, hu, rfl, hown6, g6⟩
  have e0 : dm.upK c.1 = dm.kn c.1 := funext fun n => dm.upK_kn HR.out.vup n
  rw [e0] at hown6
  have HKN := Lib.hid (dm.add_knows HR.out HV.out hp hu)
  have HIS : Hid (dm.Is (dm.layF (dm.kn c.1) L') (fun e => dm.Knows c e ∨ e = (a, b)) (m + 1)) := by
    refine ⟨HKN.out.1, HKN.out.2, dm.layF_len1 _ _, ?_⟩
    have h1 := dm.layF_len2 (dm.kn c.1) L'
    have h2 := hp.length_eq
    rw [List.length_append, ← HM.out] at h2
    exact Nat.le_trans h1 (Nat.le_of_eq h2)
  have hbl6 := hbl5.trans g6
  have c0 := (hbl6.cell (p := ⟨w.heap.size + 2, 0, none⟩) (Nat.lt_succ_self _)).trans HT.out.1
  have c1' := (hbl6.cell (p := ⟨w.heap.size + 2, 1, none⟩) (Nat.lt_succ_self _)).trans HT.out.2.1
  have f0 := (hbl6.frozen (p := ⟨w.heap.size + 2, 0, none⟩) (Nat.lt_succ_self _)).trans HT.out.2.2.1
  have f1 := (hbl6.frozen (p := ⟨w.heap.size + 2, 1, none⟩) (Nat.lt_succ_self _)).trans HT.out.2.2.2
  have hb9 := B2.trans (hbl6.mono (by omega))
  obtain ⟨x1, y1, z1, x2, y2, z2, rfl⟩ := hown6.form
  have HOC := Lib.hid (((hown6.set (a := ⟨w.heap.size + 2, 0, none⟩) (by show w.heap.size + 2 < _; omega) (.slice x1 y1 z1)).set (a := ⟨w.heap.size + 2, 1, none⟩) (by show w.heap.size + 2 < _; omega) (.slice x2 y2 z2)).at)
  have HB9 := Lib.hid ((hb9.setCell (p := ⟨w.heap.size + 2, 0, none⟩) (by show w.heap.size ≤ w.heap.size + 2; omega) (.slice x1 y1 z1)).setCell (p := ⟨w.heap.size + 2, 1, none⟩) (by show w.heap.size ≤ w.heap.size + 2; omega) (.slice x2 y2 z2))
  clear hp hu hown6 g6 hbl6 hb9 hbl5 e0
  go_wp2
  refine bodyPost_ret (v := .agg #[.slice x1 y1 z1, .slice x2 y2 z2]) (by simp [results, Try.results20, go_sem, c0, c1']) rfl ?_
  exact ⟨_, _, rfl, HOC.out, HIS.out, HB9.out⟩

set_option maxHeartbeats 3200000 in
set_option maxRecDepth 100000 in
/-- not valid, or not right: as it was -/
theorem add_no (c : dm.Ctx) (d : Dot) (v : Value) (w : World) (h : CtxAt w w.heap.size v c) (hn : ¬ (valid d = true ∧ dm.Right c)) :
    Calls Try.prog 20 #[v, .agg #[.int .i64 d.1, .int .i64 d.2]] w (SameC v w) := by
  obtain ⟨v1, v2, rfl, h1, h2⟩ := h
  obtain ⟨a1, c1, rfl, _, _⟩ := h1.form
  obtain ⟨a2, c2, rfl, _, _⟩ := h2.form
  have HCX : Hid (CtxAt w w.heap.size (.agg #[.slice a1 c.1.length c1, .slice a2 c.2.length c2]) c) := ⟨_, _, rfl, h1, h2⟩
  obtain ⟨n1, hn1⟩ : ∃ n1, n1 = c.1.length := ⟨_, rfl⟩
  obtain ⟨m, hm⟩ : ∃ m, m = c.2.length := ⟨_, rfl⟩
  rw [← hn1, ← hm] at HCX
  rw [← hn1, ← hm]
  obtain ⟨a, b⟩ := d
  have hA : Below w.heap.size w (((w.alloc (.cells #[.slice a1 n1 c1, .slice a2 m c2] 24)).alloc (.cells #[.int .i64 a, .int .i64 b] 26)).alloc (.cells #[.slice none 0 0, .slice none 0 0] 24)) :=
    (((Below.refl _ _).alloc (Nat.le_refl _) _).alloc (by simp) _).alloc (by simp <;> omega) _
  have HVA : Hid (∀ W, Calls Try.prog 12 #[.agg #[.int .i64 a, .int .i64 b]] W (Said (valid (a, b)) W)) := fun W => valid_any (a, b) W
  have HRI : Hid (∀ W, Below w.heap.size w W → Calls Try.prog 18 #[.agg #[.slice a1 n1 c1, .slice a2 m c2]] W (Said (dm.rightB c) W)) := fun W hW => right_any c _ W (HCX.out.next hW)
  have HN : Hid (valid (a, b) = true → dm.rightB c = false) := fun hv => dm.rightB_false (fun hr => hn ⟨hv, hr⟩)
  clear h1 h2 hn1 hm hn
  cases hv : valid (a, b) with
  | false =>
    rw [hv] at HVA
    clear HN hv
    go_enter Try.func20, Try.ntmps20
    go_wp2_with fail
    (with_reducible refine (HVA.out _).mono ?_)
    rintro e w2 ⟨rfl, g2⟩
    have B2 := hA.trans (g2.mono (by simp <;> omega))
    have r0 := (g2.cell (p := ⟨w.heap.size, 0, none⟩) (by simp <;> omega)).trans (show _ = some (.slice a1 n1 c1) by go_simp)
    have r1 := (g2.cell (p := ⟨w.heap.size, 1, none⟩) (by simp <;> omega)).trans (show _ = some (.slice a2 m c2) by go_simp)
    have c0 := (g2.cell (p := ⟨w.heap.size + 2, 0, none⟩) (by simp <;> omega)).trans (show _ = some (.slice none 0 0) by go_simp)
    have c1' := (g2.cell (p := ⟨w.heap.size + 2, 1, none⟩) (by simp <;> omega)).trans (show _ = some (.slice none 0 0) by go_simp)
    have f0 := (g2.frozen (p := ⟨w.heap.size + 2, 0, none⟩) (by simp <;> omega)).trans (show _ = false by go_simp)
    have f1 := (g2.frozen (p := ⟨w.heap.size + 2, 1, none⟩) (by simp <;> omega)).trans (show _ = false by go_simp)
    go_wp2
    refine bodyPost_ret (v := .agg #[.slice a1 n1 c1, .slice a2 m c2]) (by simp [results, Try.results20, go_sem, c0, c1']) rfl ?_
    exact ⟨rfl, (B2.setCell (p := ⟨w.heap.size + 2, 0, none⟩) (by show w.heap.size ≤ w.heap.size + 2; omega) _).setCell (p := ⟨w.heap.size + 2, 1, none⟩) (by show w.heap.size ≤ w.heap.size + 2; omega) _⟩
  | true =>
    rw [hv] at HVA
    have HRF := Lib.hid (HN.out hv)
    rw [HRF.out] at HRI
    clear HN hv
    go_enter Try.func20, Try.ntmps20
    go_wp2_with fail
    (with_reducible refine (HVA.out _).mono ?_)
    rintro e w2 ⟨rfl, g2⟩
    have B2 := hA.trans (g2.mono (by simp <;> omega))
    have HRI2 := Lib.hid (HRI.out w2 B2)
    have r0 := (g2.cell (p := ⟨w.heap.size, 0, none⟩) (by simp <;> omega)).trans (show _ = some (.slice a1 n1 c1) by go_simp)
    have r1 := (g2.cell (p := ⟨w.heap.size, 1, none⟩) (by simp <;> omega)).trans (show _ = some (.slice a2 m c2) by go_simp)
    have c0 := (g2.cell (p := ⟨w.heap.size + 2, 0, none⟩) (by simp <;> omega)).trans (show _ = some (.slice none 0 0) by go_simp)
    have c1' := (g2.cell (p := ⟨w.heap.size + 2, 1, none⟩) (by simp <;> omega)).trans (show _ = some (.slice none 0 0) by go_simp)
    have f0 := (g2.frozen (p := ⟨w.heap.size + 2, 0, none⟩) (by simp <;> omega)).trans (show _ = false by go_simp)
    have f1 := (g2.frozen (p := ⟨w.heap.size + 2, 1, none⟩) (by simp <;> omega)).trans (show _ = false by go_simp)
    have HK4 := Lib.hid (And.intro r0 (And.intro r1 (And.intro c0 (And.intro c1' (And.intro f0 f1)))))
    have hz2 : w.heap.size + 3 ≤ w2.heap.size := by have := g2.size; simp at this; omega
    clear g2 hA HRI c0 c1' f0 f1
    go_wp2_with fail
    (with_reducible refine HRI2.out.mono ?_)
    rintro e w3 ⟨rfl, g3⟩
    have B3 := B2.trans (g3.mono (by have := B2.size; omega))
    clear r0 r1
    have r0 := (g3.cell (p := ⟨w.heap.size, 0, none⟩) (by show w.heap.size < _; omega)).trans HK4.out.1
    have r1 := (g3.cell (p := ⟨w.heap.size, 1, none⟩) (by show w.heap.size < _; omega)).trans HK4.out.2.1
    have c0 := (g3.cell (p := ⟨w.heap.size + 2, 0, none⟩) (by show w.heap.size + 2 < _; omega)).trans HK4.out.2.2.1
    have c1' := (g3.cell (p := ⟨w.heap.size + 2, 1, none⟩) (by show w.heap.size + 2 < _; omega)).trans HK4.out.2.2.2.1
    have f0 := (g3.frozen (p := ⟨w.heap.size + 2, 0, none⟩) (by show w.heap.size + 2 < _; omega)).trans HK4.out.2.2.2.2.1
    have f1 := (g3.frozen (p := ⟨w.heap.size + 2, 1, none⟩) (by show w.heap.size + 2 < _; omega)).trans HK4.out.2.2.2.2.2
    go_wp2
    refine bodyPost_ret (v := .agg #[.slice a1 n1 c1, .slice a2 m c2]) (by simp [results, Try.results20, go_sem, c0, c1']) rfl ?_
    exact ⟨rfl, (B3.setCell (p := ⟨w.heap.size + 2, 0, none⟩) (by show w.heap.size ≤ w.heap.size + 2; omega) _).setCell (p := ⟨w.heap.size + 2, 1, none⟩) (by show w.heap.size ≤ w.heap.size + 2; omega) _⟩
end Go.Proofs.Ytdcmoeklldkccaa
