/- law DotKnows. -/
import Derived.Test.YtdcmoeklldkccaaDotBox
import Derived.Test.YtdcmoeklldkccaaDotLk
import Derived.Test.YtdcmoeklldkccaaFlow
import Derived.Test.YtdcmoeklldkccaaAppZ
namespace Go.Proofs.Ytdcmoeklldkccaa
open Go Go.RowKit Go.ChangeShapes cl Go.Sort

theorem KB.get {W0 : World} {b : Nat} {a1 : Option Addr} {n1 c1 : Nat} {a2 : Option Addr} {n2 c2 : Nat} {c : dm.Ctx} (h : KB W0 b a1 n1 c1 a2 n2 c2 c) (W : World) (hW : Below W0.heap.size W0 W) : CBox W b a1 n1 c1 a2 n2 c2 c := h W hW
theorem add_says {W0 : World} {b : Nat} {a1 : Option Addr} {n1 c1 : Nat} {a2 : Option Addr} {n2 c2 : Nat} {c : dm.Ctx} {S : Dot → Prop} {m : Nat} (h : KB W0 b a1 n1 c1 a2 n2 c2 c) (hs : dm.Is c S m) (hm : m ≤ 400) (d : Dot) (W : World) (hW : Below W0.heap.size W0 W) :
    Calls Try.prog 20 #[.agg #[.slice a1 n1 c1, .slice a2 n2 c2], .agg #[.int .i64 d.1, .int .i64 d.2]] W fun e w' => ∃ a1 n1 c1 a2 n2 c2 c', e = .returned (.agg #[.slice a1 n1 c1, .slice a2 n2 c2]) ∧ CtxAt w' w'.heap.size (.agg #[.slice a1 n1 c1, .slice a2 n2 c2]) c' ∧ dm.Is c' (fun e => S e ∨ e = d ∧ valid d = true) (m + 1) ∧ Below W.heap.size W w' := by
  have hl := hs.len2
  cases hv : valid d with
  | true =>
    refine (add_yes c d _ W (h W hW).ctx hv hs.right (by omega)).mono ?_
    rintro e w' ⟨v, cc, rfl, hat, his, hb⟩
    obtain ⟨a1, n1, c1, a2, n2, c2, rfl, _, _⟩ := hat.form
    exact ⟨_, _, _, _, _, _, cc, rfl, hat, ⟨his.right, fun x => by rw [his.know, hs.know]; simp, his.len1, by have := his.len2; omega⟩, hb⟩
  | false =>
    refine (add_no c d _ W (h W hW).ctx (fun hh => by rw [hv] at hh; cases hh.1)).mono ?_
    rintro e w' ⟨rfl, hb⟩
    exact ⟨_, _, _, _, _, _, c, rfl, (h W hW).ctx.next hb, ⟨hs.right, fun x => by rw [hs.know]; simp, hs.len1, by omega⟩, hb⟩
theorem wf_i64 {n : Int} (h : (Lit.int .i64 n).wf = true) : -9223372036854775808 ≤ n ∧ n ≤ 9223372036854775807 := by
  simpa [Lit.wf, IntKind.min, IntKind.max, IntKind.signed, IntKind.bits] using h
theorem any_snoc {l : List Dot} {r : Nat} (h : r < l.length) (p : Dot → Bool) : (l.take (r + 1)).any p = ((l.take r).any p || p (l.getD r (0, 0))) := by
  rw [dm.take_snoc h, List.any_append]
  simp
set_option maxHeartbeats 8000000 in
set_option maxRecDepth 100000 in
theorem knows_law (l : List Dot) (vl : Value) (du dv : Int) (w : World) (hl : Dots w w.heap.size vl l) (hwf : ∀ x ∈ l, (Lit.int .i64 x.1).wf = true ∧ (Lit.int .i64 x.2).wf = true) (hd0 : (Lit.int .i64 dv).wf = true) :
    Calls Try.prog 6 #[vl, .agg #[.int .i64 du, .int .i64 dv]] w (Said true w) := by
  have HWF := Lib.hid hwf
  have HD0 := Lib.hid hd0
  clear hwf hd0
  obtain ⟨nl, hnl⟩ : ∃ q, q = l.length := ⟨_, rfl⟩
  obtain ⟨aol, cpl, rfl⟩ : ∃ ao cap, vl = .slice ao nl cap := by
    obtain ⟨ao, cap, e, _⟩ := hl.form
    exact ⟨ao, cap, by rw [hnl]; exact e⟩
  have hfl : nl ≤ 9223372036854775807 := by
    obtain ⟨_, _, e, _, h9⟩ := hl.form
    rw [hnl]; unfold maxLen at h9; exact h9
  have HNl := Lib.hid hnl
  have HDl : Hid (∀ W, Below w.heap.size w W → Dots W W.heap.size (.slice aol nl cpl) l) := fun W hW => (hl.below hW).mono hW.size
  clear hnl hl
  have HAW : Hid (∀ W, Calls Try.prog 11 #[] W (Said true W)) := fun W => awake_any W
  obtain ⟨w0, hw0⟩ : ∃ W, W = w.alloc (.cells #[.int .i64 du, .int .i64 dv] 26) := ⟨_, rfl⟩
  have E0 : Below w.heap.size w w0 := by rw [hw0]; exact ctx_below
  have HZ : Hid (w0.cell? ⟨w.heap.size, 0, none⟩ = some (.int .i64 du) ∧ w0.cell? ⟨w.heap.size, 1, none⟩ = some (.int .i64 dv) ∧ w0.heap.size = w.heap.size + 1) := by rw [hw0]; exact ⟨World.cell?_alloc_at _ _ _ _ rfl, World.cell?_alloc_at _ _ _ _ rfl, World.size_alloc _ _⟩
  have HW0 := Lib.hid hw0
  clear hw0
  by_cases cn : 60 < nl
  · have cn1 : (60 : Int) < (nl : Int) := by omega
    have cn2 : decide ((60 : Int) < (nl : Int)) = true := decide_eq_true cn1
    go_enter Try.func6, Try.ntmps6
    go_wp2_with fail
    rw [← HW0.out]
    (with_reducible refine (HAW.out _).mono ?_)
    rintro e w1 ⟨rfl, b1⟩
    have hb9 := E0.trans (b1.mono E0.size)
    go_wp2
    go_ret
    exact ⟨rfl, hb9⟩
  have cn1 : ¬ (60 : Int) < (nl : Int) := by omega
  have cn2 : decide ((60 : Int) < (nl : Int)) = false := decide_eq_false cn1
  go_enter Try.func6, Try.ntmps6
  have HF := Lib.hid (from_says HDl.out (by have := HNl.out; omega) w0 E0)
  go_wp2_with fail
  rw [← HW0.out]
  (with_reducible refine HF.out.mono ?_)
  rintro e w1 ⟨p1, p2, p3, p4, p5, p6, c, rfl, hc1, his1, hb1⟩
  obtain ⟨w2, hw2⟩ : ∃ W, W = w1.alloc (.cells #[.slice p1 p2 p3, .slice p4 p5 p6] 24) := ⟨_, rfl⟩
  have k2 : Below w1.heap.size w1 w2 := by rw [hw2]; exact ctx_below
  have E2 : Below w0.heap.size w0 w2 := hb1.trans (k2.mono hb1.size)
  have X0 : Hid (KB w2 w1.heap.size p1 p2 p3 p4 p5 p6 c) := by rw [hw2]; exact KB.mk (CBox.mk' hc1 rfl)
  have HIc := Lib.hid his1
  have HW2 := Lib.hid hw2
  have HA := Lib.hid (add_says X0.out HIc.out (by omega) (du, dv) w2 (Below.refl _ _))
  obtain ⟨x0, y0, _, _⟩ := X0.out.get _ (Below.refl _ _)
  have z0 := (E2.cell (p := ⟨w.heap.size, 0, none⟩) (by rw [HZ.out.2.2]; exact Nat.lt_succ_self _)).trans HZ.out.1
  have z1 := (E2.cell (p := ⟨w.heap.size, 1, none⟩) (by rw [HZ.out.2.2]; exact Nat.lt_succ_self _)).trans HZ.out.2.1
  have HZ2 := Lib.hid (And.intro z0 z1)
  have hz2 : w.heap.size < w2.heap.size := by have := E2.size; rw [HZ.out.2.2] at this; omega
  rw [hw2] at x0 y0 z0 z1
  clear hw2 hc1 his1 hb1 k2 HF
  go_wp2_with fail
  rw [← HW2.out]
  (with_reducible refine HA.out.mono ?_)
  rintro e w3 ⟨q1, q2, q3, q4, q5, q6, cw, rfl, hc3, his3, hb3⟩
  obtain ⟨W1, hW1⟩ : ∃ W, W = w3.alloc (.cells #[.slice q1 q2 q3, .slice q4 q5 q6] 24) := ⟨_, rfl⟩
  have k3 : Below w3.heap.size w3 W1 := by rw [hW1]; exact ctx_below
  have E3 : Below w2.heap.size w2 W1 := hb3.trans (k3.mono hb3.size)
  have X1 : Hid (KB W1 w3.heap.size q1 q2 q3 q4 q5 q6 cw) := by rw [hW1]; exact KB.mk (CBox.mk' hc3 rfl)
  replace X0 := Lib.hid (X0.out.on E3)
  have HIw := Lib.hid his3
  have E1 : Below w.heap.size w W1 := E0.trans ((E2.trans (E3.mono E2.size)).mono E0.size)
  have HDd : Hid (∀ W, Below W1.heap.size W1 W → W.cell? ⟨w.heap.size, 0, none⟩ = some (.int .i64 du) ∧ W.cell? ⟨w.heap.size, 1, none⟩ = some (.int .i64 dv)) := fun W hW =>
    ⟨(hW.cell (p := ⟨w.heap.size, 0, none⟩) (Nat.lt_of_lt_of_le hz2 E3.size)).trans ((E3.cell (p := ⟨w.heap.size, 0, none⟩) hz2).trans HZ2.out.1), (hW.cell (p := ⟨w.heap.size, 1, none⟩) (Nat.lt_of_lt_of_le hz2 E3.size)).trans ((E3.cell (p := ⟨w.heap.size, 1, none⟩) hz2).trans HZ2.out.2)⟩
  have RT0 : Hid (∀ W, Below W1.heap.size W1 W → Calls Try.prog 18 #[.agg #[.slice p1 p2 p3, .slice p4 p5 p6]] W (Said true W)) := fun W hW => by
    have := right_any c _ W (X0.out.get W hW).ctx
    rwa [dm.rightB_true HIc.out.right] at this
  have RT1 : Hid (∀ W, Below W1.heap.size W1 W → Calls Try.prog 18 #[.agg #[.slice q1 q2 q3, .slice q4 q5 q6]] W (Said true W)) := fun W hW => by
    have := right_any cw _ W (X1.out.get W hW).ctx
    rwa [dm.rightB_true HIw.out.right] at this
  obtain ⟨V, hV⟩ : ∃ V, V = valid (du, dv) := ⟨_, rfl⟩
  have HVV := Lib.hid hV
  have hV2 : dm.hasF cw (du, dv) = V := by
    rw [hV, Bool.eq_iff_iff, hasF_is HIw.out]
    constructor
    · rintro (h | h)
      · exact h.1
      · exact h.2
    · exact fun h => Or.inr ⟨rfl, h⟩
  have HD1 : Hid (∀ W, Below W1.heap.size W1 W → Calls Try.prog 16 #[.agg #[.slice q1 q2 q3, .slice q4 q5 q6], .agg #[.int .i64 du, .int .i64 dv]] W (Said V W)) := fun W hW => by
    have := has_says X1.out (du, dv) W hW
    rwa [hV2] at this
  have HV1 : Hid (∀ W, Calls Try.prog 12 #[.agg #[.int .i64 du, .int .i64 dv]] W (Said V W)) := fun W => by rw [hV]; exact valid_any (du, dv) W
  have HLl : Hid ((dcells l).length = nl * 2) := by show _ = _; rw [dcells_len, HNl.out]
  have HW1 := Lib.hid hW1
  clear hW1 hc3 his3 hb3 k3 hV hV2 x0 y0 z0 z1 HA HZ2
  go_wp2_with fail
  rw [← HW1.out]
  refine wp_flow 15 (fun _ => 1000) (fun ww => RowKit.Below W1.heap.size W1 ww) (fun _ w w' => (fun (w w' : World) => RowKit.Below w.heap.size w w') w w') (fun kF vF wF => match kF with | 0 => (vF = .agg #[.slice p1 p2 p3, .slice p4 p5 p6]) | 1 => (vF = .bool true) | 2 => (vF = .bool false) | 3 => (vF = .bool false) | 4 => (vF = .agg #[.slice q1 q2 q3, .slice q4 q5 q6]) | 5 => (vF = .bool true) | 6 => (vF = .bool false) | 7 => (vF = .bool false) | 8 => (vF = .bool false) | 9 => (vF = .agg #[.slice q1 q2 q3, .slice q4 q5 q6]) | 10 => (vF = .agg #[.int .i64 du, .int .i64 dv]) | 11 => (vF = .bool V) | 12 => (vF = .agg #[.int .i64 du, .int .i64 dv]) | 13 => (vF = .bool V) | 14 => (vF = .bool false) | _ => True) (fun _ _ _ _ => True) (by kernel_rfl) (by kernel_rfl) ?_ ?_ ?_ ?_ ?_
  · exact (Below.refl _ _).drew
  · intro iF wF1 wF2 hR hT; exact hR.trans (hT.mono hR.size)
  · intro kF hkF iF hiF hne hdd hanc hdan vF wF1 wF2 h hT
    rcases (by omega : kF = 0 ∨ kF = 1 ∨ kF = 2 ∨ kF = 3 ∨ kF = 4 ∨ kF = 5 ∨ kF = 6 ∨ kF = 7 ∨ kF = 8 ∨ kF = 9 ∨ kF = 10 ∨ kF = 11 ∨ kF = 12 ∨ kF = 13 ∨ kF = 14) with rfl | rfl | rfl | rfl | rfl | rfl | rfl | rfl | rfl | rfl | rfl | rfl | rfl | rfl | rfl
    · have h : (vF = .agg #[.slice p1 p2 p3, .slice p4 p5 p6]) := h
      show (vF = .agg #[.slice p1 p2 p3, .slice p4 p5 p6])
      have hT : (fun (w w' : World) => RowKit.Below w.heap.size w w') wF1 wF2 := hT
      simp only at hT
      exact h
    · have h : (vF = .bool true) := h
      show (vF = .bool true)
      have hT : (fun (w w' : World) => RowKit.Below w.heap.size w w') wF1 wF2 := hT
      simp only at hT
      exact h
    · have h : (vF = .bool false) := h
      show (vF = .bool false)
      have hT : (fun (w w' : World) => RowKit.Below w.heap.size w w') wF1 wF2 := hT
      simp only at hT
      exact h
    · have h : (vF = .bool false) := h
      show (vF = .bool false)
      have hT : (fun (w w' : World) => RowKit.Below w.heap.size w w') wF1 wF2 := hT
      simp only at hT
      exact h
    · have h : (vF = .agg #[.slice q1 q2 q3, .slice q4 q5 q6]) := h
      show (vF = .agg #[.slice q1 q2 q3, .slice q4 q5 q6])
      have hT : (fun (w w' : World) => RowKit.Below w.heap.size w w') wF1 wF2 := hT
      simp only at hT
      exact h
    · have h : (vF = .bool true) := h
      show (vF = .bool true)
      have hT : (fun (w w' : World) => RowKit.Below w.heap.size w w') wF1 wF2 := hT
      simp only at hT
      exact h
    · have h : (vF = .bool false) := h
      show (vF = .bool false)
      have hT : (fun (w w' : World) => RowKit.Below w.heap.size w w') wF1 wF2 := hT
      simp only at hT
      exact h
    · have h : (vF = .bool false) := h
      show (vF = .bool false)
      have hT : (fun (w w' : World) => RowKit.Below w.heap.size w w') wF1 wF2 := hT
      simp only at hT
      exact h
    · have h : (vF = .bool false) := h
      show (vF = .bool false)
      have hT : (fun (w w' : World) => RowKit.Below w.heap.size w w') wF1 wF2 := hT
      simp only at hT
      exact h
    · have h : (vF = .agg #[.slice q1 q2 q3, .slice q4 q5 q6]) := h
      show (vF = .agg #[.slice q1 q2 q3, .slice q4 q5 q6])
      have hT : (fun (w w' : World) => RowKit.Below w.heap.size w w') wF1 wF2 := hT
      simp only at hT
      exact h
    · have h : (vF = .agg #[.int .i64 du, .int .i64 dv]) := h
      show (vF = .agg #[.int .i64 du, .int .i64 dv])
      have hT : (fun (w w' : World) => RowKit.Below w.heap.size w w') wF1 wF2 := hT
      simp only at hT
      exact h
    · have h : (vF = .bool V) := h
      show (vF = .bool V)
      have hT : (fun (w w' : World) => RowKit.Below w.heap.size w w') wF1 wF2 := hT
      simp only at hT
      exact h
    · have h : (vF = .agg #[.int .i64 du, .int .i64 dv]) := h
      show (vF = .agg #[.int .i64 du, .int .i64 dv])
      have hT : (fun (w w' : World) => RowKit.Below w.heap.size w w') wF1 wF2 := hT
      simp only at hT
      exact h
    · have h : (vF = .bool V) := h
      show (vF = .bool V)
      have hT : (fun (w w' : World) => RowKit.Below w.heap.size w w') wF1 wF2 := hT
      simp only at hT
      exact h
    · have h : (vF = .bool false) := h
      show (vF = .bool false)
      have hT : (fun (w w' : World) => RowKit.Below w.heap.size w w') wF1 wF2 := hT
      simp only at hT
      exact h
  · refine FlowAll.cons ?_ ?_
    · intro xF w5 hR hd K hK
      clear hd
      simp only [List.take_succ_cons, List.take_zero, fillOf, Act.put, List.setIfInBounds_toArray, List.set_cons_zero, List.set_cons_succ, Nat.reduceAdd, Nat.zero_add] at hK ⊢
      try generalize xF 0 = yy0 at *
      try generalize xF 1 = yy1 at *
      try generalize xF 2 = yy2 at *
      try generalize xF 3 = yy3 at *
      try generalize xF 4 = yy4 at *
      try generalize xF 5 = yy5 at *
      try generalize xF 6 = yy6 at *
      try generalize xF 7 = yy7 at *
      try generalize xF 8 = yy8 at *
      try generalize xF 9 = yy9 at *
      try generalize xF 10 = yy10 at *
      try generalize xF 11 = yy11 at *
      try generalize xF 12 = yy12 at *
      try generalize xF 13 = yy13 at *
      try generalize xF 14 = yy14 at *
      clear xF
      obtain hbR := id hR
      obtain ⟨x0, y0, _, _⟩ := X0.out.get _ hR
      rw [if_pos (by rfl)]
      go_simp
      refine hK.out _ _ ?_ ?_ ?_
      · exact Below.refl _ _
      · exact rfl
      · exact fun _ _ _ => ⟨trivial, trivial⟩
    refine FlowAll.cons ?_ ?_
    · intro xF w5 hR hd K hK
      have dd0 : ((xF 0) = .agg #[.slice p1 p2 p3, .slice p4 p5 p6]) := hd 0 (by kernel_rfl)
      clear hd
      simp only [List.take_succ_cons, List.take_zero, fillOf, Act.put, List.setIfInBounds_toArray, List.set_cons_zero, List.set_cons_succ, Nat.reduceAdd, Nat.zero_add] at hK ⊢
      try generalize xF 0 = yy0 at *
      try generalize xF 1 = yy1 at *
      try generalize xF 2 = yy2 at *
      try generalize xF 3 = yy3 at *
      try generalize xF 4 = yy4 at *
      try generalize xF 5 = yy5 at *
      try generalize xF 6 = yy6 at *
      try generalize xF 7 = yy7 at *
      try generalize xF 8 = yy8 at *
      try generalize xF 9 = yy9 at *
      try generalize xF 10 = yy10 at *
      try generalize xF 11 = yy11 at *
      try generalize xF 12 = yy12 at *
      try generalize xF 13 = yy13 at *
      try generalize xF 14 = yy14 at *
      clear xF
      obtain rfl := dd0
      obtain hbR := id hR
      rw [if_pos (by rfl)]
      go_simp
      (go_at_call 18; (with_reducible refine (RT0.out _ hR).mono ?_); rintro e wK ⟨rfl, hbK⟩)
      try go_wp2_with fail
      refine hK.out _ _ ?_ ?_ ?_
      · exact hbK
      · exact rfl
      · exact fun _ _ _ => ⟨trivial, trivial⟩
    refine FlowAll.cons ?_ ?_
    · intro xF w5 hR hd K hK
      have dd1 : ((xF 1) = .bool true) := hd 1 (by kernel_rfl)
      clear hd
      simp only [List.take_succ_cons, List.take_zero, fillOf, Act.put, List.setIfInBounds_toArray, List.set_cons_zero, List.set_cons_succ, Nat.reduceAdd, Nat.zero_add] at hK ⊢
      try generalize xF 0 = yy0 at *
      try generalize xF 1 = yy1 at *
      try generalize xF 2 = yy2 at *
      try generalize xF 3 = yy3 at *
      try generalize xF 4 = yy4 at *
      try generalize xF 5 = yy5 at *
      try generalize xF 6 = yy6 at *
      try generalize xF 7 = yy7 at *
      try generalize xF 8 = yy8 at *
      try generalize xF 9 = yy9 at *
      try generalize xF 10 = yy10 at *
      try generalize xF 11 = yy11 at *
      try generalize xF 12 = yy12 at *
      try generalize xF 13 = yy13 at *
      try generalize xF 14 = yy14 at *
      clear xF
      obtain rfl := dd1
      obtain hbR := id hR
      rw [if_pos (by rfl)]
      go_simp
      refine hK.out _ _ ?_ ?_ ?_
      · exact Below.refl _ _
      · exact rfl
      · exact fun _ _ _ => ⟨trivial, trivial⟩
    refine FlowAll.cons ?_ ?_
    · intro xF w5 hR hd K hK
      have dd2 : ((xF 2) = .bool false) := hd 2 (by kernel_rfl)
      clear hd
      simp only [List.take_succ_cons, List.take_zero, fillOf, Act.put, List.setIfInBounds_toArray, List.set_cons_zero, List.set_cons_succ, Nat.reduceAdd, Nat.zero_add] at hK ⊢
      try generalize xF 0 = yy0 at *
      try generalize xF 1 = yy1 at *
      try generalize xF 2 = yy2 at *
      try generalize xF 3 = yy3 at *
      try generalize xF 4 = yy4 at *
      try generalize xF 5 = yy5 at *
      try generalize xF 6 = yy6 at *
      try generalize xF 7 = yy7 at *
      try generalize xF 8 = yy8 at *
      try generalize xF 9 = yy9 at *
      try generalize xF 10 = yy10 at *
      try generalize xF 11 = yy11 at *
      try generalize xF 12 = yy12 at *
      try generalize xF 13 = yy13 at *
      try generalize xF 14 = yy14 at *
      clear xF
      obtain rfl := dd2
      obtain hbR := id hR
      rw [if_pos (by rfl)]
      go_simp
      refine hK.out _ _ ?_ ?_ ?_
      · exact Below.refl _ _
      · exact rfl
      · exact fun _ _ _ => ⟨trivial, trivial⟩
    refine FlowAll.cons ?_ ?_
    · intro xF w5 hR hd K hK
      have dd3 : ((xF 3) = .bool false) := hd 3 (by kernel_rfl)
      clear hd
      simp only [List.take_succ_cons, List.take_zero, fillOf, Act.put, List.setIfInBounds_toArray, List.set_cons_zero, List.set_cons_succ, Nat.reduceAdd, Nat.zero_add] at hK ⊢
      try generalize xF 0 = yy0 at *
      try generalize xF 1 = yy1 at *
      try generalize xF 2 = yy2 at *
      try generalize xF 3 = yy3 at *
      try generalize xF 4 = yy4 at *
      try generalize xF 5 = yy5 at *
      try generalize xF 6 = yy6 at *
      try generalize xF 7 = yy7 at *
      try generalize xF 8 = yy8 at *
      try generalize xF 9 = yy9 at *
      try generalize xF 10 = yy10 at *
      try generalize xF 11 = yy11 at *
      try generalize xF 12 = yy12 at *
      try generalize xF 13 = yy13 at *
      try generalize xF 14 = yy14 at *
      clear xF
      obtain rfl := dd3
      obtain hbR := id hR
      obtain ⟨x1, y1, _, _⟩ := X1.out.get _ hR
      rw [if_pos (by rfl)]
      go_simp
      refine hK.out _ _ ?_ ?_ ?_
      · exact Below.refl _ _
      · exact rfl
      · exact fun _ _ _ => ⟨trivial, trivial⟩
    refine FlowAll.cons ?_ ?_
    · intro xF w5 hR hd K hK
      have dd3 : ((xF 3) = .bool false) := hd 3 (by kernel_rfl)
      have dd4 : ((xF 4) = .agg #[.slice q1 q2 q3, .slice q4 q5 q6]) := hd 4 (by kernel_rfl)
      clear hd
      simp only [List.take_succ_cons, List.take_zero, fillOf, Act.put, List.setIfInBounds_toArray, List.set_cons_zero, List.set_cons_succ, Nat.reduceAdd, Nat.zero_add] at hK ⊢
      try generalize xF 0 = yy0 at *
      try generalize xF 1 = yy1 at *
      try generalize xF 2 = yy2 at *
      try generalize xF 3 = yy3 at *
      try generalize xF 4 = yy4 at *
      try generalize xF 5 = yy5 at *
      try generalize xF 6 = yy6 at *
      try generalize xF 7 = yy7 at *
      try generalize xF 8 = yy8 at *
      try generalize xF 9 = yy9 at *
      try generalize xF 10 = yy10 at *
      try generalize xF 11 = yy11 at *
      try generalize xF 12 = yy12 at *
      try generalize xF 13 = yy13 at *
      try generalize xF 14 = yy14 at *
      clear xF
      obtain rfl := dd3
      obtain rfl := dd4
      obtain hbR := id hR
      rw [if_pos (by rfl)]
      go_simp
      (go_at_call 18; (with_reducible refine (RT1.out _ hR).mono ?_); rintro e wK ⟨rfl, hbK⟩)
      try go_wp2_with fail
      refine hK.out _ _ ?_ ?_ ?_
      · exact hbK
      · exact rfl
      · exact fun _ _ _ => ⟨trivial, trivial⟩
    refine FlowAll.cons ?_ ?_
    · intro xF w5 hR hd K hK
      have dd3 : ((xF 3) = .bool false) := hd 3 (by kernel_rfl)
      have dd5 : ((xF 5) = .bool true) := hd 5 (by kernel_rfl)
      clear hd
      simp only [List.take_succ_cons, List.take_zero, fillOf, Act.put, List.setIfInBounds_toArray, List.set_cons_zero, List.set_cons_succ, Nat.reduceAdd, Nat.zero_add] at hK ⊢
      try generalize xF 0 = yy0 at *
      try generalize xF 1 = yy1 at *
      try generalize xF 2 = yy2 at *
      try generalize xF 3 = yy3 at *
      try generalize xF 4 = yy4 at *
      try generalize xF 5 = yy5 at *
      try generalize xF 6 = yy6 at *
      try generalize xF 7 = yy7 at *
      try generalize xF 8 = yy8 at *
      try generalize xF 9 = yy9 at *
      try generalize xF 10 = yy10 at *
      try generalize xF 11 = yy11 at *
      try generalize xF 12 = yy12 at *
      try generalize xF 13 = yy13 at *
      try generalize xF 14 = yy14 at *
      clear xF
      obtain rfl := dd3
      obtain rfl := dd5
      obtain hbR := id hR
      rw [if_pos (by rfl)]
      go_simp
      refine hK.out _ _ ?_ ?_ ?_
      · exact Below.refl _ _
      · exact rfl
      · exact fun _ _ _ => ⟨trivial, trivial⟩
    refine FlowAll.cons ?_ ?_
    · intro xF w5 hR hd K hK
      have dd3 : ((xF 3) = .bool false) := hd 3 (by kernel_rfl)
      have dd6 : ((xF 6) = .bool false) := hd 6 (by kernel_rfl)
      clear hd
      simp only [List.take_succ_cons, List.take_zero, fillOf, Act.put, List.setIfInBounds_toArray, List.set_cons_zero, List.set_cons_succ, Nat.reduceAdd, Nat.zero_add] at hK ⊢
      try generalize xF 0 = yy0 at *
      try generalize xF 1 = yy1 at *
      try generalize xF 2 = yy2 at *
      try generalize xF 3 = yy3 at *
      try generalize xF 4 = yy4 at *
      try generalize xF 5 = yy5 at *
      try generalize xF 6 = yy6 at *
      try generalize xF 7 = yy7 at *
      try generalize xF 8 = yy8 at *
      try generalize xF 9 = yy9 at *
      try generalize xF 10 = yy10 at *
      try generalize xF 11 = yy11 at *
      try generalize xF 12 = yy12 at *
      try generalize xF 13 = yy13 at *
      try generalize xF 14 = yy14 at *
      clear xF
      obtain rfl := dd3
      obtain rfl := dd6
      obtain hbR := id hR
      rw [if_pos (by rfl)]
      go_simp
      refine hK.out _ _ ?_ ?_ ?_
      · exact Below.refl _ _
      · exact rfl
      · exact fun _ _ _ => ⟨trivial, trivial⟩
    refine FlowAll.cons ?_ ?_
    · intro xF w5 hR hd K hK
      have dd7 : ((xF 7) = .bool false) := hd 7 (by kernel_rfl)
      clear hd
      simp only [List.take_succ_cons, List.take_zero, fillOf, Act.put, List.setIfInBounds_toArray, List.set_cons_zero, List.set_cons_succ, Nat.reduceAdd, Nat.zero_add] at hK ⊢
      try generalize xF 0 = yy0 at *
      try generalize xF 1 = yy1 at *
      try generalize xF 2 = yy2 at *
      try generalize xF 3 = yy3 at *
      try generalize xF 4 = yy4 at *
      try generalize xF 5 = yy5 at *
      try generalize xF 6 = yy6 at *
      try generalize xF 7 = yy7 at *
      try generalize xF 8 = yy8 at *
      try generalize xF 9 = yy9 at *
      try generalize xF 10 = yy10 at *
      try generalize xF 11 = yy11 at *
      try generalize xF 12 = yy12 at *
      try generalize xF 13 = yy13 at *
      try generalize xF 14 = yy14 at *
      clear xF
      obtain rfl := dd7
      obtain hbR := id hR
      rw [if_pos (by rfl)]
      go_simp
      refine hK.out _ _ ?_ ?_ ?_
      · exact Below.refl _ _
      · exact rfl
      · exact fun _ _ _ => ⟨trivial, trivial⟩
    refine FlowAll.cons ?_ ?_
    · intro xF w5 hR hd K hK
      have dd8 : ((xF 8) = .bool false) := hd 8 (by kernel_rfl)
      clear hd
      simp only [List.take_succ_cons, List.take_zero, fillOf, Act.put, List.setIfInBounds_toArray, List.set_cons_zero, List.set_cons_succ, Nat.reduceAdd, Nat.zero_add] at hK ⊢
      try generalize xF 0 = yy0 at *
      try generalize xF 1 = yy1 at *
      try generalize xF 2 = yy2 at *
      try generalize xF 3 = yy3 at *
      try generalize xF 4 = yy4 at *
      try generalize xF 5 = yy5 at *
      try generalize xF 6 = yy6 at *
      try generalize xF 7 = yy7 at *
      try generalize xF 8 = yy8 at *
      try generalize xF 9 = yy9 at *
      try generalize xF 10 = yy10 at *
      try generalize xF 11 = yy11 at *
      try generalize xF 12 = yy12 at *
      try generalize xF 13 = yy13 at *
      try generalize xF 14 = yy14 at *
      clear xF
      obtain rfl := dd8
      obtain hbR := id hR
      obtain ⟨x1, y1, _, _⟩ := X1.out.get _ hR
      rw [if_pos (by rfl)]
      go_simp
      refine hK.out _ _ ?_ ?_ ?_
      · exact Below.refl _ _
      · exact rfl
      · exact fun _ _ _ => ⟨trivial, trivial⟩
    refine FlowAll.cons ?_ ?_
    · intro xF w5 hR hd K hK
      have dd8 : ((xF 8) = .bool false) := hd 8 (by kernel_rfl)
      clear hd
      simp only [List.take_succ_cons, List.take_zero, fillOf, Act.put, List.setIfInBounds_toArray, List.set_cons_zero, List.set_cons_succ, Nat.reduceAdd, Nat.zero_add] at hK ⊢
      try generalize xF 0 = yy0 at *
      try generalize xF 1 = yy1 at *
      try generalize xF 2 = yy2 at *
      try generalize xF 3 = yy3 at *
      try generalize xF 4 = yy4 at *
      try generalize xF 5 = yy5 at *
      try generalize xF 6 = yy6 at *
      try generalize xF 7 = yy7 at *
      try generalize xF 8 = yy8 at *
      try generalize xF 9 = yy9 at *
      try generalize xF 10 = yy10 at *
      try generalize xF 11 = yy11 at *
      try generalize xF 12 = yy12 at *
      try generalize xF 13 = yy13 at *
      try generalize xF 14 = yy14 at *
      clear xF
      obtain rfl := dd8
      obtain hbR := id hR
      obtain ⟨z0, z1⟩ := HDd.out _ hR
      rw [if_pos (by rfl)]
      go_simp
      refine hK.out _ _ ?_ ?_ ?_
      · exact Below.refl _ _
      · exact rfl
      · exact fun _ _ _ => ⟨trivial, trivial⟩
    refine FlowAll.cons ?_ ?_
    · intro xF w5 hR hd K hK
      have dd8 : ((xF 8) = .bool false) := hd 8 (by kernel_rfl)
      have dd9 : ((xF 9) = .agg #[.slice q1 q2 q3, .slice q4 q5 q6]) := hd 9 (by kernel_rfl)
      have dd10 : ((xF 10) = .agg #[.int .i64 du, .int .i64 dv]) := hd 10 (by kernel_rfl)
      clear hd
      simp only [List.take_succ_cons, List.take_zero, fillOf, Act.put, List.setIfInBounds_toArray, List.set_cons_zero, List.set_cons_succ, Nat.reduceAdd, Nat.zero_add] at hK ⊢
      try generalize xF 0 = yy0 at *
      try generalize xF 1 = yy1 at *
      try generalize xF 2 = yy2 at *
      try generalize xF 3 = yy3 at *
      try generalize xF 4 = yy4 at *
      try generalize xF 5 = yy5 at *
      try generalize xF 6 = yy6 at *
      try generalize xF 7 = yy7 at *
      try generalize xF 8 = yy8 at *
      try generalize xF 9 = yy9 at *
      try generalize xF 10 = yy10 at *
      try generalize xF 11 = yy11 at *
      try generalize xF 12 = yy12 at *
      try generalize xF 13 = yy13 at *
      try generalize xF 14 = yy14 at *
      clear xF
      obtain rfl := dd8
      obtain rfl := dd9
      obtain rfl := dd10
      obtain hbR := id hR
      rw [if_pos (by rfl)]
      go_simp
      (go_at_call 16; (with_reducible refine (HD1.out _ hR).mono ?_); rintro e wK ⟨rfl, hbK⟩)
      try go_wp2_with fail
      refine hK.out _ _ ?_ ?_ ?_
      · exact hbK
      · exact rfl
      · exact fun _ _ _ => ⟨trivial, trivial⟩
    refine FlowAll.cons ?_ ?_
    · intro xF w5 hR hd K hK
      have dd8 : ((xF 8) = .bool false) := hd 8 (by kernel_rfl)
      clear hd
      simp only [List.take_succ_cons, List.take_zero, fillOf, Act.put, List.setIfInBounds_toArray, List.set_cons_zero, List.set_cons_succ, Nat.reduceAdd, Nat.zero_add] at hK ⊢
      try generalize xF 0 = yy0 at *
      try generalize xF 1 = yy1 at *
      try generalize xF 2 = yy2 at *
      try generalize xF 3 = yy3 at *
      try generalize xF 4 = yy4 at *
      try generalize xF 5 = yy5 at *
      try generalize xF 6 = yy6 at *
      try generalize xF 7 = yy7 at *
      try generalize xF 8 = yy8 at *
      try generalize xF 9 = yy9 at *
      try generalize xF 10 = yy10 at *
      try generalize xF 11 = yy11 at *
      try generalize xF 12 = yy12 at *
      try generalize xF 13 = yy13 at *
      try generalize xF 14 = yy14 at *
      clear xF
      obtain rfl := dd8
      obtain hbR := id hR
      obtain ⟨z0, z1⟩ := HDd.out _ hR
      rw [if_pos (by rfl)]
      go_simp
      refine hK.out _ _ ?_ ?_ ?_
      · exact Below.refl _ _
      · exact rfl
      · exact fun _ _ _ => ⟨trivial, trivial⟩
    refine FlowAll.cons ?_ ?_
    · intro xF w5 hR hd K hK
      have dd8 : ((xF 8) = .bool false) := hd 8 (by kernel_rfl)
      have dd12 : ((xF 12) = .agg #[.int .i64 du, .int .i64 dv]) := hd 12 (by kernel_rfl)
      clear hd
      simp only [List.take_succ_cons, List.take_zero, fillOf, Act.put, List.setIfInBounds_toArray, List.set_cons_zero, List.set_cons_succ, Nat.reduceAdd, Nat.zero_add] at hK ⊢
      try generalize xF 0 = yy0 at *
      try generalize xF 1 = yy1 at *
      try generalize xF 2 = yy2 at *
      try generalize xF 3 = yy3 at *
      try generalize xF 4 = yy4 at *
      try generalize xF 5 = yy5 at *
      try generalize xF 6 = yy6 at *
      try generalize xF 7 = yy7 at *
      try generalize xF 8 = yy8 at *
      try generalize xF 9 = yy9 at *
      try generalize xF 10 = yy10 at *
      try generalize xF 11 = yy11 at *
      try generalize xF 12 = yy12 at *
      try generalize xF 13 = yy13 at *
      try generalize xF 14 = yy14 at *
      clear xF
      obtain rfl := dd8
      obtain rfl := dd12
      obtain hbR := id hR
      rw [if_pos (by rfl)]
      go_simp
      (go_at_call 12; (with_reducible refine (HV1.out _).mono ?_); rintro e wK ⟨rfl, hbK⟩)
      try go_wp2_with fail
      refine hK.out _ _ ?_ ?_ ?_
      · exact hbK
      · exact rfl
      · exact fun _ _ _ => ⟨trivial, trivial⟩
    refine FlowAll.cons ?_ ?_
    · intro xF w5 hR hd K hK
      have dd8 : ((xF 8) = .bool false) := hd 8 (by kernel_rfl)
      have dd11 : ((xF 11) = .bool V) := hd 11 (by kernel_rfl)
      have dd13 : ((xF 13) = .bool V) := hd 13 (by kernel_rfl)
      clear hd
      simp only [List.take_succ_cons, List.take_zero, fillOf, Act.put, List.setIfInBounds_toArray, List.set_cons_zero, List.set_cons_succ, Nat.reduceAdd, Nat.zero_add] at hK ⊢
      try generalize xF 0 = yy0 at *
      try generalize xF 1 = yy1 at *
      try generalize xF 2 = yy2 at *
      try generalize xF 3 = yy3 at *
      try generalize xF 4 = yy4 at *
      try generalize xF 5 = yy5 at *
      try generalize xF 6 = yy6 at *
      try generalize xF 7 = yy7 at *
      try generalize xF 8 = yy8 at *
      try generalize xF 9 = yy9 at *
      try generalize xF 10 = yy10 at *
      try generalize xF 11 = yy11 at *
      try generalize xF 12 = yy12 at *
      try generalize xF 13 = yy13 at *
      try generalize xF 14 = yy14 at *
      clear xF
      obtain rfl := dd8
      obtain rfl := dd11
      obtain rfl := dd13
      obtain hbR := id hR
      rw [if_pos (by rfl)]
      go_simp
      refine hK.out _ _ ?_ ?_ ?_
      · exact Below.refl _ _
      · exact rfl
      · exact fun _ _ _ => ⟨trivial, trivial⟩
    exact FlowAll.nil
  intro xF w5 hR hF hP
  clear hP
  have dd0 : ((xF 0) = .agg #[.slice p1 p2 p3, .slice p4 p5 p6]) := hF 0 (by omega) (by decide)
  have dd1 : ((xF 1) = .bool true) := hF 1 (by omega) (by decide)
  have dd2 : ((xF 2) = .bool false) := hF 2 (by omega) (by decide)
  have dd3 : ((xF 3) = .bool false) := hF 3 (by omega) (by decide)
  have dd4 : ((xF 4) = .agg #[.slice q1 q2 q3, .slice q4 q5 q6]) := hF 4 (by omega) (by decide)
  have dd5 : ((xF 5) = .bool true) := hF 5 (by omega) (by decide)
  have dd6 : ((xF 6) = .bool false) := hF 6 (by omega) (by decide)
  have dd7 : ((xF 7) = .bool false) := hF 7 (by omega) (by decide)
  have dd8 : ((xF 8) = .bool false) := hF 8 (by omega) (by decide)
  have dd9 : ((xF 9) = .agg #[.slice q1 q2 q3, .slice q4 q5 q6]) := hF 9 (by omega) (by decide)
  have dd10 : ((xF 10) = .agg #[.int .i64 du, .int .i64 dv]) := hF 10 (by omega) (by decide)
  have dd11 : ((xF 11) = .bool V) := hF 11 (by omega) (by decide)
  have dd12 : ((xF 12) = .agg #[.int .i64 du, .int .i64 dv]) := hF 12 (by omega) (by decide)
  have dd13 : ((xF 13) = .bool V) := hF 13 (by omega) (by decide)
  have dd14 : ((xF 14) = .bool false) := hF 14 (by omega) (by decide)
  clear hF
  simp only [List.take_succ_cons, List.take_zero, List.drop_succ_cons, List.drop_zero, fillOf, Act.put, List.setIfInBounds_toArray, List.set_cons_zero, List.set_cons_succ, Nat.reduceAdd, Nat.zero_add]
  try generalize xF 0 = yy0 at *
  try generalize xF 1 = yy1 at *
  try generalize xF 2 = yy2 at *
  try generalize xF 3 = yy3 at *
  try generalize xF 4 = yy4 at *
  try generalize xF 5 = yy5 at *
  try generalize xF 6 = yy6 at *
  try generalize xF 7 = yy7 at *
  try generalize xF 8 = yy8 at *
  try generalize xF 9 = yy9 at *
  try generalize xF 10 = yy10 at *
  try generalize xF 11 = yy11 at *
  try generalize xF 12 = yy12 at *
  try generalize xF 13 = yy13 at *
  try generalize xF 14 = yy14 at *
  clear xF
  obtain rfl := dd0
  obtain rfl := dd1
  obtain rfl := dd2
  obtain rfl := dd3
  obtain rfl := dd4
  obtain rfl := dd5
  obtain rfl := dd6
  obtain rfl := dd7
  obtain rfl := dd8
  obtain rfl := dd9
  obtain rfl := dd10
  obtain rfl := dd11
  obtain rfl := dd12
  obtain rfl := dd13
  obtain rfl := dd14
  have hRE := Lib.hid hR
  clear hR
  have D := hRE.out
  clear hRE
  go_wp2_with fail
  refine wp_flow 8 (fun kF => match kF with | 0 => 2 | 2 => 5 | 4 => 5 | _ => 1000) (fun ww => RowKit.Below W1.heap.size W1 ww) (fun i w w' => if i = 5 then (fun (w w' : World) => RowKit.Below W1.heap.size w w') w w' else (fun (w w' : World) => RowKit.Below w.heap.size w w') w w') (fun kF vF wF => match kF with | 0 => (∃ g, vF = .slice (some ⟨g, 0, none⟩) 0 0 ∧ wF.ownsRow W1.heap.size 26 2 (.slice (some ⟨g, 0, none⟩) 0 0) 0 []) | 1 => (vF = .slice aol nl cpl) | 2 => (∃ ao cp, vF = .slice ao nl cp ∧ wF.ownsRow W1.heap.size 26 2 (.slice ao nl cp) nl (dcells l)) | 3 => (vF = .agg #[.int .i64 du, .int .i64 dv]) | 4 => (∃ g, vF = .slice (some ⟨g, 0, none⟩) 1 1 ∧ g < wF.heap.size ∧ wF.cell? ⟨g, 0, none⟩ = some (.int .i64 du) ∧ wF.cell? ⟨g, 1, none⟩ = some (.int .i64 dv)) | 5 => (∃ ao cp, vF = .slice ao (nl + 1) cp ∧ wF.ownsRow W1.heap.size 26 2 (.slice ao (nl + 1) cp) (nl + 1) (dcells l ++ dcells [(du, dv)])) | 6 => (vF = .int .i64 ((nl + 1 : Nat) : Int)) | 7 => (vF = .int .i64 0) | _ => True) (fun _ _ _ _ => True) (by kernel_rfl) (by kernel_rfl) ?_ ?_ ?_ ?_ ?_
  · exact D.drew
  · intro iF wF1 wF2 hR hT
    have hT : (fun i w w' => if i = 5 then (fun (w w' : World) => RowKit.Below W1.heap.size w w') w w' else (fun (w w' : World) => RowKit.Below w.heap.size w w') w w') iF wF1 wF2 := hT
    simp only at hT
    by_cases hi5 : iF = 5
    · rw [if_pos hi5] at hT; exact hR.trans hT
    rw [if_neg hi5] at hT
    exact hR.trans (hT.mono hR.size)
  · intro kF hkF iF hiF hne hdd hanc hdan vF wF1 wF2 h hT
    rcases (by omega : kF = 0 ∨ kF = 1 ∨ kF = 2 ∨ kF = 3 ∨ kF = 4 ∨ kF = 5 ∨ kF = 6 ∨ kF = 7) with rfl | rfl | rfl | rfl | rfl | rfl | rfl | rfl
    · have h : (∃ g, vF = .slice (some ⟨g, 0, none⟩) 0 0 ∧ wF1.ownsRow W1.heap.size 26 2 (.slice (some ⟨g, 0, none⟩) 0 0) 0 []) := h
      show (∃ g, vF = .slice (some ⟨g, 0, none⟩) 0 0 ∧ wF2.ownsRow W1.heap.size 26 2 (.slice (some ⟨g, 0, none⟩) 0 0) 0 [])
      have hT : (fun i w w' => if i = 5 then (fun (w w' : World) => RowKit.Below W1.heap.size w w') w w' else (fun (w w' : World) => RowKit.Below w.heap.size w w') w w') iF wF1 wF2 := hT
      simp only at hT
      by_cases hi5 : iF = 5
      · subst hi5; exact (anc_no hdan (by kernel_rfl)).elim
      rw [if_neg hi5] at hT
      obtain ⟨g, e, ho⟩ := h
      exact ⟨g, e, own_stay ho hT⟩
    · have h : (vF = .slice aol nl cpl) := h
      show (vF = .slice aol nl cpl)
      exact h
    · have h : (∃ ao cp, vF = .slice ao nl cp ∧ wF1.ownsRow W1.heap.size 26 2 (.slice ao nl cp) nl (dcells l)) := h
      show (∃ ao cp, vF = .slice ao nl cp ∧ wF2.ownsRow W1.heap.size 26 2 (.slice ao nl cp) nl (dcells l))
      have hT : (fun i w w' => if i = 5 then (fun (w w' : World) => RowKit.Below W1.heap.size w w') w w' else (fun (w w' : World) => RowKit.Below w.heap.size w w') w w') iF wF1 wF2 := hT
      simp only at hT
      by_cases hi5 : iF = 5
      · exact absurd hi5.symm hdd
      rw [if_neg hi5] at hT
      obtain ⟨ao, cp, e, ho⟩ := h
      exact ⟨ao, cp, e, own_stay ho hT⟩
    · have h : (vF = .agg #[.int .i64 du, .int .i64 dv]) := h
      show (vF = .agg #[.int .i64 du, .int .i64 dv])
      exact h
    · have h : (∃ g, vF = .slice (some ⟨g, 0, none⟩) 1 1 ∧ g < wF1.heap.size ∧ wF1.cell? ⟨g, 0, none⟩ = some (.int .i64 du) ∧ wF1.cell? ⟨g, 1, none⟩ = some (.int .i64 dv)) := h
      show (∃ g, vF = .slice (some ⟨g, 0, none⟩) 1 1 ∧ g < wF2.heap.size ∧ wF2.cell? ⟨g, 0, none⟩ = some (.int .i64 du) ∧ wF2.cell? ⟨g, 1, none⟩ = some (.int .i64 dv))
      have hT : (fun i w w' => if i = 5 then (fun (w w' : World) => RowKit.Below W1.heap.size w w') w w' else (fun (w w' : World) => RowKit.Below w.heap.size w w') w w') iF wF1 wF2 := hT
      simp only at hT
      by_cases hi5 : iF = 5
      · exact absurd hi5.symm hdd
      rw [if_neg hi5] at hT
      obtain ⟨g, e, h1, h2, h3⟩ := h
      exact ⟨g, e, by have := hT.size; omega, (hT.cell (p := ⟨g, 0, none⟩) h1).trans h2, (hT.cell (p := ⟨g, 1, none⟩) h1).trans h3⟩
    · have h : (∃ ao cp, vF = .slice ao (nl + 1) cp ∧ wF1.ownsRow W1.heap.size 26 2 (.slice ao (nl + 1) cp) (nl + 1) (dcells l ++ dcells [(du, dv)])) := h
      show (∃ ao cp, vF = .slice ao (nl + 1) cp ∧ wF2.ownsRow W1.heap.size 26 2 (.slice ao (nl + 1) cp) (nl + 1) (dcells l ++ dcells [(du, dv)]))
      have hT : (fun i w w' => if i = 5 then (fun (w w' : World) => RowKit.Below W1.heap.size w w') w w' else (fun (w w' : World) => RowKit.Below w.heap.size w w') w w') iF wF1 wF2 := hT
      simp only at hT
      by_cases hi5 : iF = 5
      · exact absurd hi5.symm hne
      rw [if_neg hi5] at hT
      obtain ⟨ao, cp, e, ho⟩ := h
      exact ⟨ao, cp, e, own_stay ho hT⟩
    · have h : (vF = .int .i64 ((nl + 1 : Nat) : Int)) := h
      show (vF = .int .i64 ((nl + 1 : Nat) : Int))
      exact h
    · have h : (vF = .int .i64 0) := h
      show (vF = .int .i64 0)
      exact h
  · refine FlowAll.cons ?_ ?_
    · intro xF w7 hR hd K hK
      clear hd
      simp only [List.take_succ_cons, List.take_zero, fillOf, Act.put, List.setIfInBounds_toArray, List.set_cons_zero, List.set_cons_succ, Nat.reduceAdd, Nat.zero_add] at hK ⊢
      try generalize xF 0 = yy0 at *
      try generalize xF 1 = yy1 at *
      try generalize xF 2 = yy2 at *
      try generalize xF 3 = yy3 at *
      try generalize xF 4 = yy4 at *
      try generalize xF 5 = yy5 at *
      try generalize xF 6 = yy6 at *
      try generalize xF 7 = yy7 at *
      clear xF
      obtain hbR := id hR
      rw [if_pos (by rfl)]
      go_simp
      refine hK.out _ _ ?_ ?_ ?_
      · exact ctx_below
      · exact ⟨_, rfl, own_none _ hR.size 2⟩
      · exact fun _ _ _ => ⟨trivial, trivial⟩
    refine FlowAll.cons ?_ ?_
    · intro xF w7 hR hd K hK
      clear hd
      simp only [List.take_succ_cons, List.take_zero, fillOf, Act.put, List.setIfInBounds_toArray, List.set_cons_zero, List.set_cons_succ, Nat.reduceAdd, Nat.zero_add] at hK ⊢
      try generalize xF 0 = yy0 at *
      try generalize xF 1 = yy1 at *
      try generalize xF 2 = yy2 at *
      try generalize xF 3 = yy3 at *
      try generalize xF 4 = yy4 at *
      try generalize xF 5 = yy5 at *
      try generalize xF 6 = yy6 at *
      try generalize xF 7 = yy7 at *
      clear xF
      obtain hbR := id hR
      rw [if_pos (by rfl)]
      go_simp
      refine hK.out _ _ ?_ ?_ ?_
      · exact Below.refl _ _
      · exact rfl
      · exact fun _ _ _ => ⟨trivial, trivial⟩
    refine FlowAll.cons ?_ ?_
    · intro xF w7 hR hd K hK
      have dd0 : (∃ g, (xF 0) = .slice (some ⟨g, 0, none⟩) 0 0 ∧ w7.ownsRow W1.heap.size 26 2 (.slice (some ⟨g, 0, none⟩) 0 0) 0 []) := hd 0 (by kernel_rfl)
      have dd1 : ((xF 1) = .slice aol nl cpl) := hd 1 (by kernel_rfl)
      clear hd
      simp only [List.take_succ_cons, List.take_zero, fillOf, Act.put, List.setIfInBounds_toArray, List.set_cons_zero, List.set_cons_succ, Nat.reduceAdd, Nat.zero_add] at hK ⊢
      try generalize xF 0 = yy0 at *
      try generalize xF 1 = yy1 at *
      try generalize xF 2 = yy2 at *
      try generalize xF 3 = yy3 at *
      try generalize xF 4 = yy4 at *
      try generalize xF 5 = yy5 at *
      try generalize xF 6 = yy6 at *
      try generalize xF 7 = yy7 at *
      clear xF
      obtain ⟨g0, rfl, ho0⟩ := dd0
      obtain rfl := dd1
      obtain hbR := id hR
      rw [if_pos (by rfl)]
      refine kit.wp_of_list (fun Q' hQ' => ?_)
      have hN := Cells.news' (HDl.out _ (E1.trans (hR.mono E1.size)))
      refine kit.appZ (.tmp 39) (.tmp 40) 22 rfl rfl W1.heap.size Try.underlying22 infoDot rfl (by decide) (by decide) ho0 rfl (dcells l) rfl HLl.out hN.1 hN.2 dcells_one (by omega) hR.size ?_
      intro vN wN hownN hbN
      refine hQ' _ _ ?_
      obtain ⟨aoN, cpN, rfl⟩ := own_form hownN
      simp only [Act.put, List.setIfInBounds_toArray, List.set_cons_zero, List.set_cons_succ]
      refine hK.out _ _ ?_ ?_ ?_
      · exact hbN
      · exact ⟨aoN, cpN, rfl, hownN⟩
      · exact fun _ _ _ => ⟨trivial, trivial⟩
    refine FlowAll.cons ?_ ?_
    · intro xF w7 hR hd K hK
      clear hd
      simp only [List.take_succ_cons, List.take_zero, fillOf, Act.put, List.setIfInBounds_toArray, List.set_cons_zero, List.set_cons_succ, Nat.reduceAdd, Nat.zero_add] at hK ⊢
      try generalize xF 0 = yy0 at *
      try generalize xF 1 = yy1 at *
      try generalize xF 2 = yy2 at *
      try generalize xF 3 = yy3 at *
      try generalize xF 4 = yy4 at *
      try generalize xF 5 = yy5 at *
      try generalize xF 6 = yy6 at *
      try generalize xF 7 = yy7 at *
      clear xF
      obtain hbR := id hR
      obtain ⟨z0, z1⟩ := HDd.out _ hR
      rw [if_pos (by rfl)]
      go_simp
      refine hK.out _ _ ?_ ?_ ?_
      · exact Below.refl _ _
      · exact rfl
      · exact fun _ _ _ => ⟨trivial, trivial⟩
    refine FlowAll.cons ?_ ?_
    · intro xF w7 hR hd K hK
      have dd3 : ((xF 3) = .agg #[.int .i64 du, .int .i64 dv]) := hd 3 (by kernel_rfl)
      clear hd
      simp only [List.take_succ_cons, List.take_zero, fillOf, Act.put, List.setIfInBounds_toArray, List.set_cons_zero, List.set_cons_succ, Nat.reduceAdd, Nat.zero_add] at hK ⊢
      try generalize xF 0 = yy0 at *
      try generalize xF 1 = yy1 at *
      try generalize xF 2 = yy2 at *
      try generalize xF 3 = yy3 at *
      try generalize xF 4 = yy4 at *
      try generalize xF 5 = yy5 at *
      try generalize xF 6 = yy6 at *
      try generalize xF 7 = yy7 at *
      clear xF
      obtain rfl := dd3
      obtain hbR := id hR
      rw [if_pos (by rfl)]
      go_simp
      refine hK.out _ _ ?_ ?_ ?_
      · exact ctx_below
      · exact ⟨_, rfl, by simp, World.cell?_alloc_at _ _ _ _ rfl, World.cell?_alloc_at _ _ _ _ rfl⟩
      · exact fun _ _ _ => ⟨trivial, trivial⟩
    refine FlowAll.cons ?_ ?_
    · intro xF w7 hR hd K hK
      have dd2 : (∃ ao cp, (xF 2) = .slice ao nl cp ∧ w7.ownsRow W1.heap.size 26 2 (.slice ao nl cp) nl (dcells l)) := hd 2 (by kernel_rfl)
      have dd4 : (∃ g, (xF 4) = .slice (some ⟨g, 0, none⟩) 1 1 ∧ g < w7.heap.size ∧ w7.cell? ⟨g, 0, none⟩ = some (.int .i64 du) ∧ w7.cell? ⟨g, 1, none⟩ = some (.int .i64 dv)) := hd 4 (by kernel_rfl)
      clear hd
      simp only [List.take_succ_cons, List.take_zero, fillOf, Act.put, List.setIfInBounds_toArray, List.set_cons_zero, List.set_cons_succ, Nat.reduceAdd, Nat.zero_add] at hK ⊢
      try generalize xF 0 = yy0 at *
      try generalize xF 1 = yy1 at *
      try generalize xF 2 = yy2 at *
      try generalize xF 3 = yy3 at *
      try generalize xF 4 = yy4 at *
      try generalize xF 5 = yy5 at *
      try generalize xF 6 = yy6 at *
      try generalize xF 7 = yy7 at *
      clear xF
      obtain ⟨ao2, cp2, rfl, ho2⟩ := dd2
      obtain ⟨g4, rfl, hg4, ga4, gb4⟩ := dd4
      obtain hbR := id hR
      rw [if_pos (by rfl)]
      refine kit.wp_of_list (fun Q' hQ' => ?_)
      refine kit.appN (.tmp 41) (.tmp 43) 22 rfl rfl W1.heap.size Try.underlying22 infoDot rfl (by decide) (by decide) ho2 rfl (dcells [(du, dv)]) rfl rfl (fun e => by cases e) (fun ad e j u hj => by
        cases e
        rw [Addr.add_lit, Nat.zero_add]
        match j, hj with
        | 0, hj => exact ga4.trans hj
        | 1, hj => exact gb4.trans hj) dcells_one (by omega) hR.size ?_
      intro vN wN hownN hbN
      refine hQ' _ _ ?_
      obtain ⟨aoN, cpN, rfl⟩ := own_form hownN
      simp only [Act.put, List.setIfInBounds_toArray, List.set_cons_zero, List.set_cons_succ]
      refine hK.out _ _ ?_ ?_ ?_
      · exact hbN
      · exact ⟨aoN, cpN, rfl, hownN⟩
      · exact fun _ _ _ => ⟨trivial, trivial⟩
    refine FlowAll.cons ?_ ?_
    · intro xF w7 hR hd K hK
      have dd5 : (∃ ao cp, (xF 5) = .slice ao (nl + 1) cp ∧ w7.ownsRow W1.heap.size 26 2 (.slice ao (nl + 1) cp) (nl + 1) (dcells l ++ dcells [(du, dv)])) := hd 5 (by kernel_rfl)
      clear hd
      simp only [List.take_succ_cons, List.take_zero, fillOf, Act.put, List.setIfInBounds_toArray, List.set_cons_zero, List.set_cons_succ, Nat.reduceAdd, Nat.zero_add] at hK ⊢
      try generalize xF 0 = yy0 at *
      try generalize xF 1 = yy1 at *
      try generalize xF 2 = yy2 at *
      try generalize xF 3 = yy3 at *
      try generalize xF 4 = yy4 at *
      try generalize xF 5 = yy5 at *
      try generalize xF 6 = yy6 at *
      try generalize xF 7 = yy7 at *
      clear xF
      obtain ⟨ao5, cp5, rfl, ho5⟩ := dd5
      obtain hbR := id hR
      rw [if_pos (by rfl)]
      go_simp
      refine hK.out _ _ ?_ ?_ ?_
      · exact Below.refl _ _
      · exact rfl
      · exact fun _ _ _ => ⟨trivial, trivial⟩
    refine FlowAll.cons ?_ ?_
    · intro xF w7 hR hd K hK
      clear hd
      simp only [List.take_succ_cons, List.take_zero, fillOf, Act.put, List.setIfInBounds_toArray, List.set_cons_zero, List.set_cons_succ, Nat.reduceAdd, Nat.zero_add] at hK ⊢
      try generalize xF 0 = yy0 at *
      try generalize xF 1 = yy1 at *
      try generalize xF 2 = yy2 at *
      try generalize xF 3 = yy3 at *
      try generalize xF 4 = yy4 at *
      try generalize xF 5 = yy5 at *
      try generalize xF 6 = yy6 at *
      try generalize xF 7 = yy7 at *
      clear xF
      obtain hbR := id hR
      rw [if_pos (by rfl)]
      go_simp
      refine hK.out _ _ ?_ ?_ ?_
      · exact Below.refl _ _
      · exact rfl
      · exact fun _ _ _ => ⟨trivial, trivial⟩
    exact FlowAll.nil
  intro xF w7 hR hF hP
  clear hP
  have dd1 : ((xF 1) = .slice aol nl cpl) := hF 1 (by omega) (by decide)
  have dd3 : ((xF 3) = .agg #[.int .i64 du, .int .i64 dv]) := hF 3 (by omega) (by decide)
  have dd5 : (∃ ao cp, (xF 5) = .slice ao (nl + 1) cp ∧ w7.ownsRow W1.heap.size 26 2 (.slice ao (nl + 1) cp) (nl + 1) (dcells l ++ dcells [(du, dv)])) := hF 5 (by omega) (by decide)
  have dd6 : ((xF 6) = .int .i64 ((nl + 1 : Nat) : Int)) := hF 6 (by omega) (by decide)
  have dd7 : ((xF 7) = .int .i64 0) := hF 7 (by omega) (by decide)
  clear hF
  simp only [List.take_succ_cons, List.take_zero, List.drop_succ_cons, List.drop_zero, fillOf, Act.put, List.setIfInBounds_toArray, List.set_cons_zero, List.set_cons_succ, Nat.reduceAdd, Nat.zero_add]
  try generalize xF 0 = yy0 at *
  try generalize xF 1 = yy1 at *
  try generalize xF 2 = yy2 at *
  try generalize xF 3 = yy3 at *
  try generalize xF 4 = yy4 at *
  try generalize xF 5 = yy5 at *
  try generalize xF 6 = yy6 at *
  try generalize xF 7 = yy7 at *
  clear xF
  obtain rfl := dd1
  obtain rfl := dd3
  obtain ⟨ao5, cp5, rfl, ho5⟩ := dd5
  obtain rfl := dd6
  obtain rfl := dd7
  have hRE := Lib.hid hR
  clear hR
  have D7 := hRE.out
  clear hRE D
  have HLL : Hid ((l ++ [(du, dv)]).length = nl + 1) := by show _ = _; rw [List.length_append, HNl.out]; rfl
  have HDA : Hid (Dots w7 w7.heap.size (.slice ao5 (nl + 1) cp5) (l ++ [(du, dv)])) := by
    show Cells _ _ _ (l ++ [(du, dv)]).length 2 (dcells (l ++ [(du, dv)]))
    rw [HLL.out, dcells_app]
    exact Cells.own ho5
  have HDW : Hid (∀ W, Below w7.heap.size w7 W → Dots W W.heap.size (.slice ao5 (nl + 1) cp5) (l ++ [(du, dv)])) := fun W hW => HDA.out.next hW
  obtain ⟨N, hN⟩ : ∃ N, N = nl + 1 := ⟨_, rfl⟩
  rw [← hN] at HDW HLL ⊢
  have hN8 : N ≤ 61 := by omega
  have HWL : Hid (∀ x ∈ l ++ [(du, dv)], (Lit.int .i64 x.2).wf = true) := fun x hx => by
    rcases List.mem_append.1 hx with h | h
    · exact (HWF.out x h).2
    · simp only [List.mem_cons, List.not_mem_nil, or_false] at h
      rw [h]; exact HD0.out
  clear ho5 HDA hN RT0 RT1 HD1
  have HH0 : Hid (∀ (d : Dot) W, Below W1.heap.size W1 W → Calls Try.prog 16 #[.agg #[.slice p1 p2 p3, .slice p4 p5 p6], .agg #[.int .i64 d.1, .int .i64 d.2]] W (Said (dm.hasF c d) W)) := fun d W hW => has_says X0.out d W hW
  have HH1 : Hid (∀ (d : Dot) W, Below W1.heap.size W1 W → Calls Try.prog 16 #[.agg #[.slice q1 q2 q3, .slice q4 q5 q6], .agg #[.int .i64 d.1, .int .i64 d.2]] W (Said (dm.hasF cw d) W)) := fun d W hW => has_says X1.out d W hW
  have HVA : Hid (∀ (d : Dot) W, Calls Try.prog 12 #[.agg #[.int .i64 d.1, .int .i64 d.2]] W (Said (valid d) W)) := fun d W => valid_any d W
  have HIN : Hid (∀ y : Dot, l.any (fun z => decide (z = y) && valid y) = dm.hasF c y) := fun y => by
    rw [Bool.eq_iff_iff, List.any_eq_true, hasF_is HIc.out]
    constructor
    · rintro ⟨z, hz, h⟩
      simp only [Bool.and_eq_true, decide_eq_true_eq] at h
      obtain ⟨rfl, h⟩ := h
      exact ⟨h, hz⟩
    · rintro ⟨h1, h2⟩
      exact ⟨y, h2, by simp [h1]⟩
  have HIW : Hid (∀ y : Dot, dm.hasF cw y = (dm.hasF c y || (decide (y = (du, dv)) && V))) := fun y => by
    rw [Bool.eq_iff_iff, hasF_is HIw.out, Bool.or_eq_true, hasF_is HIc.out, Bool.and_eq_true, decide_eq_true_eq, HVV.out]
  go_wp2
  go_loopw [46, 106] (fun i _ wr => ∃ k : Nat, i = .int .i64 k ∧ k ≤ N ∧ Below w7.heap.size w7 wr) (fun i _ _ => N - (intOf i).toNat)
  case atStart => exact ⟨0, rfl, Nat.zero_le _, Below.refl _ _⟩
  case round =>
    rename World => wr1
    obtain ⟨k, rfl, hk, D⟩ := hrel
    by_cases hlt : k < N
    · obtain ⟨b0, off, rfl, hB, p0, p1'⟩ := Dots.get (HDW.out _ D) HLL.out.symm hlt
      have HKL : Hid (k < (l ++ [(du, dv)]).length) := by show k < _; rw [HLL.out]; exact hlt
      obtain ⟨⟨u, v⟩, hx⟩ : ∃ x, x = (l ++ [(du, dv)]).getD k (0, 0) := ⟨_, rfl⟩
      have hvw := wf_i64 (HWL.out _ (dm.getD_mem HKL.out))
      rw [← hx] at p0 p1' hvw
      simp only at p0 p1' hvw
      have hkI : (k : Int) < (N : Int) := by omega
      clear hx
      obtain ⟨w8, hw8⟩ : ∃ W, W = wr1.alloc (.cells #[.int .i64 u, .int .i64 v] 26) := ⟨_, rfl⟩
      have D8 : Below w7.heap.size w7 w8 := by rw [hw8]; exact D.trans (ctx_below.mono D.size)
      have HC : Hid (∀ W, Below w8.heap.size w8 W → W.cell? ⟨wr1.heap.size, 0, none⟩ = some (.int .i64 u) ∧ W.cell? ⟨wr1.heap.size, 1, none⟩ = some (.int .i64 v)) := fun W hW => by
        have hs : wr1.heap.size < w8.heap.size := by rw [hw8]; simp
        exact ⟨(hW.cell (p := ⟨wr1.heap.size, 0, none⟩) hs).trans (by rw [hw8]; exact World.cell?_alloc_at _ _ _ _ rfl), (hW.cell (p := ⟨wr1.heap.size, 1, none⟩) hs).trans (by rw [hw8]; exact World.cell?_alloc_at _ _ _ _ rfl)⟩
      have HW8 := Lib.hid hw8
      obtain ⟨M, hM⟩ : ∃ M, max (-2) (min v 2199023255552) = M := ⟨_, rfl⟩
      have hM1 : -2 ≤ M := by omega
      have hM2 : M ≤ 2199023255552 := by omega
      have E8 : Below W1.heap.size W1 w8 := D7.trans (D8.mono D7.size)
      have hc8 := HC.out _ (Below.refl _ _)
      obtain ⟨a0, a1⟩ := hc8
      rw [hw8] at a0 a1
      clear hw8
      go_wp2
      rw [← HW8.out]
      clear a0 a1
      go_loopw [9, 63] (fun i _ wr => ∃ j : Int, i = .int .i64 j ∧ M - 1 ≤ j ∧ j ≤ M + 2 ∧ Below w8.heap.size w8 wr) (fun i _ _ => (M + 2 - intOf i).toNat)
      case atStart => exact ⟨M - 1, rfl, by omega, by omega, Below.refl _ _⟩
      case round =>
        rename World => wr2
        obtain ⟨j, rfl, hj1, hj2, D9⟩ := hrel
        obtain ⟨a0, a1⟩ := HC.out _ D9
        by_cases hj : j ≤ M + 1
        · obtain ⟨w9, hw9⟩ : ∃ W, W = wr2.alloc (.cells #[.int .i64 u, .int .i64 j] 26) := ⟨_, rfl⟩
          have D10 : Below w8.heap.size w8 w9 := by rw [hw9]; exact D9.trans (ctx_below.mono D9.size)
          have E9 : Below W1.heap.size W1 w9 := E8.trans (D10.mono E8.size)
          have HY : Hid (∀ W, Below w9.heap.size w9 W → W.cell? ⟨wr2.heap.size, 0, none⟩ = some (.int .i64 u) ∧ W.cell? ⟨wr2.heap.size, 1, none⟩ = some (.int .i64 j)) := fun W hW => by
            have hs : wr2.heap.size < w9.heap.size := by rw [hw9]; simp
            exact ⟨(hW.cell (p := ⟨wr2.heap.size, 0, none⟩) hs).trans (by rw [hw9]; exact World.cell?_alloc_at _ _ _ _ rfl), (hW.cell (p := ⟨wr2.heap.size, 1, none⟩) hs).trans (by rw [hw9]; exact World.cell?_alloc_at _ _ _ _ rfl)⟩
          have HW9 := Lib.hid hw9
          have HLd : Hid (∀ W, Below w9.heap.size w9 W → Dots W W.heap.size (.slice aol nl cpl) l) := fun W hW => HDl.out W (E1.trans ((E9.trans (hW.mono E9.size)).mono E1.size))
          have HIN1 := Lib.hid (HIN.out (u, j))
          have HIW1 := Lib.hid (HIW.out (u, j))
          have HC0 : Hid (∀ W, Below w9.heap.size w9 W → Calls Try.prog 16 #[.agg #[.slice p1 p2 p3, .slice p4 p5 p6], .agg #[.int .i64 u, .int .i64 j]] W (Said (dm.hasF c (u, j)) W)) := fun W hW => HH0.out (u, j) W (E9.trans (hW.mono E9.size))
          have HC1 : Hid (∀ W, Below w9.heap.size w9 W → Calls Try.prog 16 #[.agg #[.slice q1 q2 q3, .slice q4 q5 q6], .agg #[.int .i64 u, .int .i64 j]] W (Said (dm.hasF cw (u, j)) W)) := fun W hW => HH1.out (u, j) W (E9.trans (hW.mono E9.size))
          have HVy := Lib.hid (HVA.out (u, j))
          generalize dm.hasF c (u, j) = R1 at HC0 HIN1 HIW1
          generalize dm.hasF cw (u, j) = R2 at HC1 HIW1
          generalize valid (u, j) = Vy at HVy HIN1
          have hjI : decide (j ≤ M + 1) = true := decide_eq_true hj
          clear hw9
          go_wp2
          rw [← HW9.out]
          go_loopw [11, 70, 84] (fun f i _ wr => ∃ (r : Nat) (F : Bool), i = .int .i64 r ∧ r ≤ nl ∧ f = .bool F ∧ Hid (F = (l.take r).any (fun z => decide (z = (u, j)) && Vy)) ∧ Below w9.heap.size w9 wr) (fun _ i _ _ => nl - (intOf i).toNat)
          case atStart => exact ⟨0, false, rfl, Nat.zero_le _, rfl, rfl, Below.refl _ _⟩
          case round =>
            rename World => wr3
            obtain ⟨r, F, rfl, hr, rfl, HF, D11⟩ := hrel
            by_cases hlr : r < nl
            · obtain ⟨b1, off1, rfl, hB1, g0, g1⟩ := Dots.get (HLd.out _ D11) HNl.out hlr
              have HRL : Hid (r < l.length) := by show r < _; rw [← HNl.out]; exact hlr
              have HSN := Lib.hid (any_snoc HRL.out (fun z => decide (z = (u, j)) && Vy))
              obtain ⟨⟨s, t⟩, hx⟩ : ∃ x, x = l.getD r (0, 0) := ⟨_, rfl⟩
              rw [← hx] at g0 g1 HSN
              rw [← HF.out] at HSN
              simp only at g0 g1
              have hrI : (r : Int) < (nl : Int) := by omega
              have D12 : Below w9.heap.size w9 (wr3.alloc (.cells #[.int .i64 s, .int .i64 t] 26)) := D11.trans (ctx_below.mono D11.size)
              obtain ⟨y0, y1⟩ := HY.out _ D12
              obtain ⟨y0', y1'⟩ := HY.out _ D11
              clear hx
              cases F with
              | true =>
                have HF2 : Hid (true = (l.take (r + 1)).any (fun z => decide (z = (u, j)) && Vy)) := by show _ = _; rw [HSN.out]; rfl
                go_wp2
                go_roundw
                case rel => exact ⟨r + 1, true, by go_num, by omega, rfl, HF2, D12⟩
                case measure => simp [intOf]; omega
              | false =>
                by_cases hsu : s = u
                · subst hsu
                  by_cases htv : t = j
                  · subst htv
                    have HF2 : Hid (Vy = (l.take (r + 1)).any (fun z => decide (z = (s, t)) && Vy)) := by show _ = _; rw [HSN.out]; simp
                    go_wp2_with fail
                    (with_reducible refine (HVy.out _).mono ?_)
                    rintro e w13 ⟨rfl, b13⟩
                    have D13 := D12.trans (b13.mono D12.size)
                    clear b13
                    go_wp2
                    go_roundw
                    case rel => exact ⟨r + 1, Vy, by go_num, by omega, rfl, HF2, D13⟩
                    case measure => simp [intOf]; omega
                  · have HF2 : Hid (false = (l.take (r + 1)).any (fun z => decide (z = (s, j)) && Vy)) := by show _ = _; rw [HSN.out]; simp [htv]
                    have hd : (t == j) = false := by simpa using htv
                    go_wp2
                    go_roundw
                    case rel => exact ⟨r + 1, false, by go_num, by omega, rfl, HF2, D12⟩
                    case measure => simp [intOf]; omega
                · have HF2 : Hid (false = (l.take (r + 1)).any (fun z => decide (z = (u, j)) && Vy)) := by show _ = _; rw [HSN.out]; simp [hsu]
                  have hd : (s == u) = false := by simpa using hsu
                  go_wp2
                  go_roundw
                  case rel => exact ⟨r + 1, false, by go_num, by omega, rfl, HF2, D12⟩
                  case measure => simp [intOf]; omega
            · obtain rfl : r = nl := by omega
              obtain rfl : F = R1 := by rw [HF.out, List.take_of_length_le (by rw [HNl.out]; exact Nat.le_refl _), HIN1.out]
              have HDX : Hid (∀ W, Below w9.heap.size w9 W → W.cell? ⟨w.heap.size, 0, none⟩ = some (.int .i64 du) ∧ W.cell? ⟨w.heap.size, 1, none⟩ = some (.int .i64 dv)) := fun W hW => HDd.out W (E9.trans (hW.mono E9.size))
              have HX0 : Hid (∀ W, Below w9.heap.size w9 W → CBox W w1.heap.size p1 p2 p3 p4 p5 p6 c) := fun W hW => X0.out W (E9.trans (hW.mono E9.size))
              have HX1 : Hid (∀ W, Below w9.heap.size w9 W → CBox W w3.heap.size q1 q2 q3 q4 q5 q6 cw) := fun W hW => X1.out W (E9.trans (hW.mono E9.size))
              clear HF HIN1
              cases F with
              | true =>
                obtain rfl : R2 = true := HIW1.out
                clear HIW1
                obtain ⟨x0, z0, _, _⟩ := HX0.out _ D11
                obtain ⟨x1, z1, _, _⟩ := HX1.out _ D11
                obtain ⟨y0, y1⟩ := HY.out _ D11
                obtain ⟨v0, v1⟩ := HDX.out _ D11
                go_wp2_with fail
                (with_reducible refine (HC0.out _ D11).mono ?_)
                rintro e wv1 ⟨rfl, bv⟩
                replace D11 := D11.trans (bv.mono D11.size)
                clear bv x0 z0 x1 z1 y0 y1 v0 v1
                obtain ⟨x0, z0, _, _⟩ := HX0.out _ D11
                obtain ⟨x1, z1, _, _⟩ := HX1.out _ D11
                obtain ⟨y0, y1⟩ := HY.out _ D11
                obtain ⟨v0, v1⟩ := HDX.out _ D11
                go_wp2_with fail
                (with_reducible refine (HC1.out _ D11).mono ?_)
                rintro e wv2 ⟨rfl, bv⟩
                replace D11 := D11.trans (bv.mono D11.size)
                clear bv x0 z0 x1 z1 y0 y1 v0 v1
                obtain ⟨x0, z0, _, _⟩ := HX0.out _ D11
                obtain ⟨x1, z1, _, _⟩ := HX1.out _ D11
                obtain ⟨y0, y1⟩ := HY.out _ D11
                obtain ⟨v0, v1⟩ := HDX.out _ D11
                have D14 := D10.trans (D11.mono D10.size)
                go_wp2
                go_roundw
                case rel => exact ⟨j + 1, by go_num, by omega, by omega, D14⟩
                case measure => simp [intOf]; omega
              | false =>
                by_cases hu : u = du
                · subst hu
                  by_cases hjv : j = dv
                  · subst hjv
                    obtain rfl : R2 = V := by have := HIW1.out; simpa using this
                    clear HIW1
                    cases R2 with
                    | true =>
                      obtain ⟨x0, z0, _, _⟩ := HX0.out _ D11
                      obtain ⟨x1, z1, _, _⟩ := HX1.out _ D11
                      obtain ⟨y0, y1⟩ := HY.out _ D11
                      obtain ⟨v0, v1⟩ := HDX.out _ D11
                      go_wp2_with fail
                      (with_reducible refine (HC0.out _ D11).mono ?_)
                      rintro e wv1 ⟨rfl, bv⟩
                      replace D11 := D11.trans (bv.mono D11.size)
                      clear bv x0 z0 x1 z1 y0 y1 v0 v1
                      obtain ⟨x0, z0, _, _⟩ := HX0.out _ D11
                      obtain ⟨x1, z1, _, _⟩ := HX1.out _ D11
                      obtain ⟨y0, y1⟩ := HY.out _ D11
                      obtain ⟨v0, v1⟩ := HDX.out _ D11
                      go_wp2_with fail
                      (with_reducible refine (HC1.out _ D11).mono ?_)
                      rintro e wv2 ⟨rfl, bv⟩
                      replace D11 := D11.trans (bv.mono D11.size)
                      clear bv x0 z0 x1 z1 y0 y1 v0 v1
                      obtain ⟨x0, z0, _, _⟩ := HX0.out _ D11
                      obtain ⟨x1, z1, _, _⟩ := HX1.out _ D11
                      obtain ⟨y0, y1⟩ := HY.out _ D11
                      obtain ⟨v0, v1⟩ := HDX.out _ D11
                      go_wp2_with fail
                      (with_reducible refine (HV1.out _).mono ?_)
                      rintro e wv3 ⟨rfl, bv⟩
                      replace D11 := D11.trans (bv.mono D11.size)
                      clear bv x0 z0 x1 z1 y0 y1 v0 v1
                      obtain ⟨x0, z0, _, _⟩ := HX0.out _ D11
                      obtain ⟨x1, z1, _, _⟩ := HX1.out _ D11
                      obtain ⟨y0, y1⟩ := HY.out _ D11
                      obtain ⟨v0, v1⟩ := HDX.out _ D11
                      have D14 := D10.trans (D11.mono D10.size)
                      go_wp2
                      go_roundw
                      case rel => exact ⟨j + 1, by go_num, by omega, by omega, D14⟩
                      case measure => simp [intOf]; omega
                    | false =>
                      obtain ⟨x0, z0, _, _⟩ := HX0.out _ D11
                      obtain ⟨x1, z1, _, _⟩ := HX1.out _ D11
                      obtain ⟨y0, y1⟩ := HY.out _ D11
                      obtain ⟨v0, v1⟩ := HDX.out _ D11
                      go_wp2_with fail
                      (with_reducible refine (HC0.out _ D11).mono ?_)
                      rintro e wv1 ⟨rfl, bv⟩
                      replace D11 := D11.trans (bv.mono D11.size)
                      clear bv x0 z0 x1 z1 y0 y1 v0 v1
                      obtain ⟨x0, z0, _, _⟩ := HX0.out _ D11
                      obtain ⟨x1, z1, _, _⟩ := HX1.out _ D11
                      obtain ⟨y0, y1⟩ := HY.out _ D11
                      obtain ⟨v0, v1⟩ := HDX.out _ D11
                      go_wp2_with fail
                      (with_reducible refine (HC1.out _ D11).mono ?_)
                      rintro e wv2 ⟨rfl, bv⟩
                      replace D11 := D11.trans (bv.mono D11.size)
                      clear bv x0 z0 x1 z1 y0 y1 v0 v1
                      obtain ⟨x0, z0, _, _⟩ := HX0.out _ D11
                      obtain ⟨x1, z1, _, _⟩ := HX1.out _ D11
                      obtain ⟨y0, y1⟩ := HY.out _ D11
                      obtain ⟨v0, v1⟩ := HDX.out _ D11
                      go_wp2_with fail
                      (with_reducible refine (HV1.out _).mono ?_)
                      rintro e wv3 ⟨rfl, bv⟩
                      replace D11 := D11.trans (bv.mono D11.size)
                      clear bv x0 z0 x1 z1 y0 y1 v0 v1
                      obtain ⟨x0, z0, _, _⟩ := HX0.out _ D11
                      obtain ⟨x1, z1, _, _⟩ := HX1.out _ D11
                      obtain ⟨y0, y1⟩ := HY.out _ D11
                      obtain ⟨v0, v1⟩ := HDX.out _ D11
                      have D14 := D10.trans (D11.mono D10.size)
                      go_wp2
                      go_roundw
                      case rel => exact ⟨j + 1, by go_num, by omega, by omega, D14⟩
                      case measure => simp [intOf]; omega
                  · obtain rfl : R2 = false := by have := HIW1.out; simpa [hjv] using this
                    have hd : (j == dv) = false := by simpa using hjv
                    clear HIW1
                    obtain ⟨x0, z0, _, _⟩ := HX0.out _ D11
                    obtain ⟨x1, z1, _, _⟩ := HX1.out _ D11
                    obtain ⟨y0, y1⟩ := HY.out _ D11
                    obtain ⟨v0, v1⟩ := HDX.out _ D11
                    go_wp2_with fail
                    (with_reducible refine (HC0.out _ D11).mono ?_)
                    rintro e wv1 ⟨rfl, bv⟩
                    replace D11 := D11.trans (bv.mono D11.size)
                    clear bv x0 z0 x1 z1 y0 y1 v0 v1
                    obtain ⟨x0, z0, _, _⟩ := HX0.out _ D11
                    obtain ⟨x1, z1, _, _⟩ := HX1.out _ D11
                    obtain ⟨y0, y1⟩ := HY.out _ D11
                    obtain ⟨v0, v1⟩ := HDX.out _ D11
                    go_wp2_with fail
                    (with_reducible refine (HC1.out _ D11).mono ?_)
                    rintro e wv2 ⟨rfl, bv⟩
                    replace D11 := D11.trans (bv.mono D11.size)
                    clear bv x0 z0 x1 z1 y0 y1 v0 v1
                    obtain ⟨x0, z0, _, _⟩ := HX0.out _ D11
                    obtain ⟨x1, z1, _, _⟩ := HX1.out _ D11
                    obtain ⟨y0, y1⟩ := HY.out _ D11
                    obtain ⟨v0, v1⟩ := HDX.out _ D11
                    have D14 := D10.trans (D11.mono D10.size)
                    go_wp2
                    go_roundw
                    case rel => exact ⟨j + 1, by go_num, by omega, by omega, D14⟩
                    case measure => simp [intOf]; omega
                · obtain rfl : R2 = false := by have := HIW1.out; simpa [hu] using this
                  have hd : (u == du) = false := by simpa using hu
                  clear HIW1
                  obtain ⟨x0, z0, _, _⟩ := HX0.out _ D11
                  obtain ⟨x1, z1, _, _⟩ := HX1.out _ D11
                  obtain ⟨y0, y1⟩ := HY.out _ D11
                  obtain ⟨v0, v1⟩ := HDX.out _ D11
                  go_wp2_with fail
                  (with_reducible refine (HC0.out _ D11).mono ?_)
                  rintro e wv1 ⟨rfl, bv⟩
                  replace D11 := D11.trans (bv.mono D11.size)
                  clear bv x0 z0 x1 z1 y0 y1 v0 v1
                  obtain ⟨x0, z0, _, _⟩ := HX0.out _ D11
                  obtain ⟨x1, z1, _, _⟩ := HX1.out _ D11
                  obtain ⟨y0, y1⟩ := HY.out _ D11
                  obtain ⟨v0, v1⟩ := HDX.out _ D11
                  go_wp2_with fail
                  (with_reducible refine (HC1.out _ D11).mono ?_)
                  rintro e wv2 ⟨rfl, bv⟩
                  replace D11 := D11.trans (bv.mono D11.size)
                  clear bv x0 z0 x1 z1 y0 y1 v0 v1
                  obtain ⟨x0, z0, _, _⟩ := HX0.out _ D11
                  obtain ⟨x1, z1, _, _⟩ := HX1.out _ D11
                  obtain ⟨y0, y1⟩ := HY.out _ D11
                  obtain ⟨v0, v1⟩ := HDX.out _ D11
                  have D14 := D10.trans (D11.mono D10.size)
                  go_wp2
                  go_roundw
                  case rel => exact ⟨j + 1, by go_num, by omega, by omega, D14⟩
                  case measure => simp [intOf]; omega
        · have hjI : decide (j ≤ M + 1) = false := decide_eq_false hj
          have D14 := D8.trans (D9.mono D8.size)
          go_wp2
          go_roundw
          case rel => exact ⟨k + 1, by go_num, by omega, D14⟩
          case measure => simp [intOf]; omega
    · obtain rfl : k = N := by omega
      go_wp2_with fail
      (with_reducible refine (HAW.out _).mono ?_)
      rintro e w9 ⟨rfl, b9⟩
      have hb9 := E1.trans ((D7.trans ((D.trans (b9.mono D.size)).mono D7.size)).mono E1.size)
      go_wp2
      go_ret
      exact ⟨rfl, hb9⟩
end Go.Proofs.Ytdcmoeklldkccaa
