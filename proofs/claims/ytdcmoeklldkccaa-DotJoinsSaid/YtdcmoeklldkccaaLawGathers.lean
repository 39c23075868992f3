/- the document's From; law DotGathers. -/
import Derived.Test.YtdcmoeklldkccaaDotBox
import Derived.Test.YtdcmoeklldkccaaDotRAdd
namespace Go.Proofs.Ytdcmoeklldkccaa
open Go Go.RowKit Go.ChangeShapes cl Go.Sort

def RFromP (l : List Dot) (w : World) (e : Ending) (w' : World) : Prop := ∃ v c, e = .returned v ∧ OwnC w.heap.size w' v c ∧ dm.Is c (fun d => valid d = true ∧ d ∈ l) l.length ∧ Below w.heap.size w w'
theorem OwnC.nil (B : Nat) (w : World) : OwnC B w (.agg #[.slice none 0 0, .slice none 0 0]) ([], []) := ⟨none, 0, none, 0, rfl, World.ownsRow_nil _ _ _ _, World.ownsRow_nil _ _ _ _⟩
theorem is_nil (l : List Dot) : dm.Is ([], []) (fun d => valid d = true ∧ d ∈ l.take 0) 0 := ⟨dm.nil_right, fun d => by
  unfold dm.Knows
  simp only [List.take_zero, List.not_mem_nil, and_false, or_false, iff_false, not_and]
  intro hv
  have := (dm.valid_iff d).1 hv
  show ¬ d.2 ≤ 0
  omega, Nat.zero_le _, Nat.le_refl _⟩
theorem is_more {l : List Dot} {k : Nat} (hk : k < l.length) {c c' : dm.Ctx} {x : Dot} (hx : x = l.getD k (0, 0)) (h : dm.Is c (fun d => valid d = true ∧ d ∈ l.take k) k)
    (h1 : valid x = true ∧ dm.Right c → dm.Is c' (fun e => dm.Knows c e ∨ e = x) (c.2.length + 1)) (h2 : ¬ (valid x = true ∧ dm.Right c) → c' = c) : dm.Is c' (fun d => valid d = true ∧ d ∈ l.take (k + 1)) (k + 1) := by
  have hm : ∀ d, d ∈ l.take (k + 1) ↔ d ∈ l.take k ∨ d = x := fun d => by rw [dm.take_snoc hk, List.mem_append, hx]; simp
  cases hv : valid x with
  | true =>
    have hi := h1 ⟨hv, h.right⟩
    refine ⟨hi.right, fun d => ?_, hi.len1, Nat.le_trans hi.len2 (by have := h.len2; omega)⟩
    rw [hi.know, h.know, hm]
    constructor
    · rintro (⟨a, b⟩ | rfl)
      · exact ⟨a, Or.inl b⟩
      · exact ⟨hv, Or.inr rfl⟩
    · rintro ⟨a, b | b⟩
      · exact Or.inl ⟨a, b⟩
      · exact Or.inr b
  | false =>
    obtain rfl := h2 (fun e => by rw [hv] at e; cases e.1)
    refine ⟨h.right, fun d => ?_, h.len1, Nat.le_succ_of_le h.len2⟩
    rw [h.know, hm]
    constructor
    · rintro ⟨a, b⟩; exact ⟨a, Or.inl b⟩
    · rintro ⟨a, b | rfl⟩
      · exact ⟨a, b⟩
      · rw [hv] at a; cases a
set_option maxHeartbeats 8000000 in
set_option maxRecDepth 100000 in
theorem rfrom_any (l : List Dot) (vl : Value) (w : World) (hl : Dots w w.heap.size vl l) (hlen : l.length ≤ 200) : Calls Try.prog 29 #[vl] w (RFromP l w) := by
  obtain ⟨nl, hnl⟩ : ∃ q, q = l.length := ⟨_, rfl⟩
  obtain ⟨aol, cpl, rfl⟩ : ∃ ao cap, vl = .slice ao nl cap := by
    obtain ⟨ao, cap, e, _⟩ := hl.form
    exact ⟨ao, cap, by rw [hnl]; exact e⟩
  have hfl : nl ≤ 9223372036854775807 := by
    obtain ⟨_, _, e, _, h9⟩ := hl.form
    rw [hnl]; unfold maxLen at h9; exact h9
  have HNl := Lib.hid hnl
  have HDl : Hid (∀ W, Below w.heap.size w W → Dots W W.heap.size (.slice aol nl cpl) l) := fun W hW => (hl.below hW).mono hW.size
  clear hnl hl
  obtain ⟨w1, hw1⟩ : ∃ W, W = (w.alloc (.cells #[.slice none 0 0, .slice none 0 0] 24)).alloc (.cells #[.slice none 0 0, .slice none 0 0] 24) := ⟨_, rfl⟩
  have E1 : Below w.heap.size w w1 := by rw [hw1]; exact ctx_below.trans (ctx_below.mono (by simp))
  have hs1 : w1.heap.size = w.heap.size + 2 := by rw [hw1]; simp
  have x0 : w1.cell? ⟨w.heap.size, 0, none⟩ = some (.slice none 0 0) := by rw [hw1]; go_simp
  have x1 : w1.cell? ⟨w.heap.size, 1, none⟩ = some (.slice none 0 0) := by rw [hw1]; go_simp
  have x2 : w1.frozen? ⟨w.heap.size, 0, none⟩ = false := by rw [hw1]; go_simp
  have x3 : w1.frozen? ⟨w.heap.size, 1, none⟩ = false := by rw [hw1]; go_simp
  have x4 : w1.cell? ⟨w.heap.size + 1, 0, none⟩ = some (.slice none 0 0) := by rw [hw1]; go_simp
  have x5 : w1.cell? ⟨w.heap.size + 1, 1, none⟩ = some (.slice none 0 0) := by rw [hw1]; go_simp
  have x6 : w1.frozen? ⟨w.heap.size + 1, 0, none⟩ = false := by rw [hw1]; go_simp
  have x7 : w1.frozen? ⟨w.heap.size + 1, 1, none⟩ = false := by rw [hw1]; go_simp
  have HX : Hid (∀ W, Below (w.heap.size + 1) w1 W → W.cell? ⟨w.heap.size, 0, none⟩ = some (.slice none 0 0) ∧ W.cell? ⟨w.heap.size, 1, none⟩ = some (.slice none 0 0) ∧ W.frozen? ⟨w.heap.size, 0, none⟩ = false ∧ W.frozen? ⟨w.heap.size, 1, none⟩ = false) := fun W hW =>
    ⟨(hW.cell (p := ⟨w.heap.size, 0, none⟩) (Nat.lt_succ_self _)).trans x0, (hW.cell (p := ⟨w.heap.size, 1, none⟩) (Nat.lt_succ_self _)).trans x1, (hW.frozen (p := ⟨w.heap.size, 0, none⟩) (Nat.lt_succ_self _)).trans x2, (hW.frozen (p := ⟨w.heap.size, 1, none⟩) (Nat.lt_succ_self _)).trans x3⟩
  have HV0 := Lib.hid (And.intro x4 (And.intro x5 (And.intro x6 x7)))
  have HW1 := Lib.hid hw1
  have hn2 : nl ≤ 200 := by rw [HNl.out]; exact hlen
  have HLE := Lib.hid hlen
  clear hw1 x0 x1 x2 x3 x4 x5 x6 x7 hlen
  go_enter Try.func29, Try.ntmps29
  go_wp2
  rw [← HW1.out]
  go_loopw [8, 15] (fun i _ wr => ∃ (k : Nat) (a1 : Option Addr) (m1 c1 : Nat) (a2 : Option Addr) (m2 c2 : Nat) (c : dm.Ctx), i = .int .i64 k ∧ k ≤ nl ∧ Hid (wr.cell? ⟨w.heap.size + 1, 0, none⟩ = some (.slice a1 m1 c1) ∧ wr.cell? ⟨w.heap.size + 1, 1, none⟩ = some (.slice a2 m2 c2) ∧ wr.frozen? ⟨w.heap.size + 1, 0, none⟩ = false ∧ wr.frozen? ⟨w.heap.size + 1, 1, none⟩ = false) ∧
      Hid (OwnC (w.heap.size + 2) wr (.agg #[.slice a1 m1 c1, .slice a2 m2 c2]) c) ∧ Hid (dm.Is c (fun d => valid d = true ∧ d ∈ l.take k) k) ∧ Below (w.heap.size + 1) w1 wr) (fun i _ _ => nl - (intOf i).toNat)
  case atStart => exact ⟨0, none, 0, 0, none, 0, 0, ([], []), rfl, Nat.zero_le _, HV0.out, OwnC.nil _ _, is_nil l, Below.refl _ _⟩
  case round =>
    obtain ⟨k, a1, m1, c1, a2, m2, c2, c, rfl, hk, HVC, HOC, HIS, D⟩ := hrel
    have hsz := D.size
    have E2 : Below w.heap.size w wr := E1.trans (D.mono (by omega))
    obtain ⟨x4, x5, x6, x7⟩ := HVC.out
    by_cases hlt : k < nl
    · obtain ⟨b0, off, rfl, hB, p0, p1⟩ := Dots.get (HDl.out _ E2) HNl.out hlt
      have HKL : Hid (k < l.length) := by show k < _; rw [← HNl.out]; exact hlt
      obtain ⟨⟨u, v⟩, hx⟩ : ∃ x, x = l.getD k (0, 0) := ⟨_, rfl⟩
      rw [← hx] at p0 p1
      simp only at p0 p1
      have HXE := Lib.hid hx
      have hkI : (k : Int) < (nl : Int) := by omega
      have hal : Below wr.heap.size wr (wr.alloc (.cells #[.int .i64 u, .int .i64 v] 26)) := ctx_below
      have hsa : (wr.alloc (.cells #[.int .i64 u, .int .i64 v] 26)).heap.size = wr.heap.size + 1 := World.size_alloc _ _
      have HRA := Lib.hid (radd_any c (u, v) _ _ (HOC.out.at.next hal) (by have := HIS.out.len1; omega) (by have := HIS.out.len2; omega))
      have y4 : (wr.alloc (.cells #[.int .i64 u, .int .i64 v] 26)).cell? ⟨w.heap.size + 1, 0, none⟩ = some (.slice a1 m1 c1) := (hal.cell (p := ⟨w.heap.size + 1, 0, none⟩) (by show w.heap.size + 1 < _; omega)).trans x4
      have y5 : (wr.alloc (.cells #[.int .i64 u, .int .i64 v] 26)).cell? ⟨w.heap.size + 1, 1, none⟩ = some (.slice a2 m2 c2) := (hal.cell (p := ⟨w.heap.size + 1, 1, none⟩) (by show w.heap.size + 1 < _; omega)).trans x5
      have y6 : (wr.alloc (.cells #[.int .i64 u, .int .i64 v] 26)).frozen? ⟨w.heap.size + 1, 0, none⟩ = false := (hal.frozen (p := ⟨w.heap.size + 1, 0, none⟩) (by show w.heap.size + 1 < _; omega)).trans x6
      have y7 : (wr.alloc (.cells #[.int .i64 u, .int .i64 v] 26)).frozen? ⟨w.heap.size + 1, 1, none⟩ = false := (hal.frozen (p := ⟨w.heap.size + 1, 1, none⟩) (by show w.heap.size + 1 < _; omega)).trans x7
      have HY := Lib.hid (And.intro y4 (And.intro y5 (And.intro y6 y7)))
      clear hx
      go_wp2_with fail
      (with_reducible refine HRA.out.mono ?_)
      rintro e w5 ⟨v5, c', rfl, hown, hi1, hi2, b5⟩
      have HIS2 := Lib.hid (is_more HKL.out HXE.out HIS.out hi1 hi2)
      have D5 : Below (w.heap.size + 1) w1 w5 := (D.trans (hal.mono (by omega))).trans (b5.mono (by omega))
      clear x4 x5 x6 x7 y4 y5 y6 y7
      have x4 := (b5.cell (p := ⟨w.heap.size + 1, 0, none⟩) (by show w.heap.size + 1 < _; omega)).trans HY.out.1
      have x5 := (b5.cell (p := ⟨w.heap.size + 1, 1, none⟩) (by show w.heap.size + 1 < _; omega)).trans HY.out.2.1
      have x6 := (b5.frozen (p := ⟨w.heap.size + 1, 0, none⟩) (by show w.heap.size + 1 < _; omega)).trans HY.out.2.2.1
      have x7 := (b5.frozen (p := ⟨w.heap.size + 1, 1, none⟩) (by show w.heap.size + 1 < _; omega)).trans HY.out.2.2.2
      obtain ⟨o1, l1, q1, o2, l2, q2, rfl⟩ := hown.form
      have HOW := Lib.hid (((hown.mono (B' := w.heap.size + 2) (by omega)).set (a := ⟨w.heap.size + 1, 0, none⟩) (by show w.heap.size + 1 < _; omega) (.slice o1 l1 q1)).set (a := ⟨w.heap.size + 1, 1, none⟩) (by show w.heap.size + 1 < _; omega) (.slice o2 l2 q2))
      have D6 := (D5.setCell (p := ⟨w.heap.size + 1, 0, none⟩) (Nat.le_refl _) (.slice o1 l1 q1)).setCell (p := ⟨w.heap.size + 1, 1, none⟩) (Nat.le_refl _) (.slice o2 l2 q2)
      have HVC6 : Hid (((w5.setCell ⟨w.heap.size + 1, 0, none⟩ (.slice o1 l1 q1)).setCell ⟨w.heap.size + 1, 1, none⟩ (.slice o2 l2 q2)).cell? ⟨w.heap.size + 1, 0, none⟩ = some (.slice o1 l1 q1) ∧ ((w5.setCell ⟨w.heap.size + 1, 0, none⟩ (.slice o1 l1 q1)).setCell ⟨w.heap.size + 1, 1, none⟩ (.slice o2 l2 q2)).cell? ⟨w.heap.size + 1, 1, none⟩ = some (.slice o2 l2 q2) ∧
          ((w5.setCell ⟨w.heap.size + 1, 0, none⟩ (.slice o1 l1 q1)).setCell ⟨w.heap.size + 1, 1, none⟩ (.slice o2 l2 q2)).frozen? ⟨w.heap.size + 1, 0, none⟩ = false ∧ ((w5.setCell ⟨w.heap.size + 1, 0, none⟩ (.slice o1 l1 q1)).setCell ⟨w.heap.size + 1, 1, none⟩ (.slice o2 l2 q2)).frozen? ⟨w.heap.size + 1, 1, none⟩ = false) := by
        refine ⟨?_, ?_, ?_, ?_⟩ <;> go_simp
      clear hown hi1 hi2 b5 HRA
      go_wp2
      go_roundw
      case rel => exact ⟨k + 1, _, _, _, _, _, _, c', by go_num, by omega, HVC6.out, HOW.out, HIS2.out, D6⟩
      case measure => simp [intOf]; omega
    · obtain rfl : nl = k := by omega
      obtain ⟨x0, x1, x2, x3⟩ := HX.out _ D
      have HI9 : Hid (dm.Is c (fun d => valid d = true ∧ d ∈ l) l.length) := by
        have := HIS.out
        rw [List.take_of_length_le (by rw [HNl.out]; exact Nat.le_refl _), HNl.out] at this
        exact this
      have HOW := Lib.hid (((HOC.out.mono (B' := w.heap.size + 1) (by omega)).set (a := ⟨w.heap.size, 0, none⟩) (Nat.lt_succ_self _) (.slice a1 m1 c1)).set (a := ⟨w.heap.size, 1, none⟩) (Nat.lt_succ_self _) (.slice a2 m2 c2))
      have HB9 := Lib.hid ((E2.setCell (p := ⟨w.heap.size, 0, none⟩) (Nat.le_refl _) (.slice a1 m1 c1)).setCell (p := ⟨w.heap.size, 1, none⟩) (Nat.le_refl _) (.slice a2 m2 c2))
      go_wp2
      refine bodyPost_ret (v := .agg #[.slice a1 m1 c1, .slice a2 m2 c2]) (by simp [results, Try.results29, go_sem, x0, x1]) rfl ?_
      exact ⟨_, c, rfl, HOW.out.mono (by omega), HI9.out, HB9.out⟩

set_option maxHeartbeats 3200000 in
set_option maxRecDepth 100000 in
theorem gathers_law (l : List Dot) (vl : Value) (w : World) (hl : Dots w w.heap.size vl l) : Calls Try.prog 5 #[vl] w (Said true w) := by
  obtain ⟨nl, hnl⟩ : ∃ q, q = l.length := ⟨_, rfl⟩
  obtain ⟨aol, cpl, rfl⟩ : ∃ ao cap, vl = .slice ao nl cap := by
    obtain ⟨ao, cap, e, _⟩ := hl.form
    exact ⟨ao, cap, by rw [hnl]; exact e⟩
  have hfl : nl ≤ 9223372036854775807 := by
    obtain ⟨_, _, e, _, h9⟩ := hl.form
    rw [hnl]; unfold maxLen at h9; exact h9
  have HNl := Lib.hid hnl
  have HDl : Hid (∀ W, Below w.heap.size w W → Dots W W.heap.size (.slice aol nl cpl) l) := fun W hW => (hl.below hW).mono hW.size
  clear hnl hl
  have HAW : Hid (∀ W, Calls Try.prog 11 #[] W (Said true W)) := fun W => awake_any W
  by_cases cn : 80 < nl
  · have cn1 : (80 : Int) < (nl : Int) := by omega
    have cn2 : decide ((80 : Int) < (nl : Int)) = true := decide_eq_true cn1
    go_enter Try.func5, Try.ntmps5
    go_wp2_with fail
    (with_reducible refine (HAW.out _).mono ?_)
    rintro e w1 ⟨rfl, b1⟩
    go_wp2
    go_ret
    exact ⟨rfl, b1⟩
  · have cn1 : ¬ (80 : Int) < (nl : Int) := by omega
    have cn2 : decide ((80 : Int) < (nl : Int)) = false := decide_eq_false cn1
    have cn3 : (nl : Int) ≤ (80 : Int) := by omega
    have cn4 : decide ((nl : Int) ≤ (80 : Int)) = true := decide_eq_true cn3
    have HF := Lib.hid (from_any l _ w (HDl.out w (Below.refl _ _)) (by have := HNl.out; omega))
    have HRF : Hid (∀ W, Below w.heap.size w W → Calls Try.prog 29 #[.slice aol nl cpl] W (RFromP l W)) := fun W hW => rfrom_any l _ W (HDl.out W hW) (by have := HNl.out; omega)
    have HSM : Hid (∀ (v v' : Value) (c c' : dm.Ctx) (W : World), CtxAt W W.heap.size v c → CtxAt W W.heap.size v' c' → dm.Is c (fun d => valid d = true ∧ d ∈ l) l.length → dm.Is c' (fun d => valid d = true ∧ d ∈ l) l.length → Calls Try.prog 24 #[v, v'] W (Said true W)) := fun v v' c c' W h h' hs hs' => by
      have := rsame_any c c' v v' W h h'
      rwa [decide_eq_true (hs.eq hs' fun _ => Iff.rfl)] at this
    go_enter Try.func5, Try.ntmps5
    go_wp2_with fail
    (with_reducible refine HF.out.mono ?_)
    rintro e w1 ⟨v1, c1, rfl, h1, i1, b1⟩
    have HR := Lib.hid (HRF.out _ b1)
    go_wp2_with fail
    (with_reducible refine HR.out.mono ?_)
    rintro e w2 ⟨v2, c2, rfl, h2, i2, b2⟩
    have B2 := b1.trans (b2.mono b1.size)
    have HS := Lib.hid (HSM.out _ _ _ _ _ (h1.next b2) h2.at i1 i2)
    clear h1 h2 i1 i2
    go_wp2_with fail
    (with_reducible refine HS.out.mono ?_)
    rintro e w3 ⟨rfl, b3⟩
    have B3 := B2.trans (b3.mono B2.size)
    go_wp2_with fail
    (with_reducible refine (HAW.out _).mono ?_)
    rintro e w4 ⟨rfl, b4⟩
    have B4 := B3.trans (b4.mono B3.size)
    go_wp2
    go_ret
    exact ⟨rfl, B4⟩
end Go.Proofs.Ytdcmoeklldkccaa
