/- dot: Less, the document's Less; Same. -/
import Derived.Test.YtdcmoeklldkccaaDotSort
namespace Go.Proofs.Ytdcmoeklldkccaa
open Go Go.RowKit Go.ChangeShapes cl Go.Sort

theorem below_grow (W : World) (q : Nat) (os : Array Obj) : Below W.heap.size W (grow (W.drewN q) os) := by
  have h := below_drewN (Below.refl W.heap.size W) q
  refine h.trans ⟨rfl, rfl, rfl, by simp, fun i hi => ?_⟩
  have hs := h.size
  exact heap_grow_old _ _ (by omega)
theorem compare_says (x y : Dot) (W : World) : Calls Try.prog 30 #[.agg #[.int .i64 x.1, .int .i64 x.2], .agg #[.int .i64 y.1, .int .i64 y.2]] W fun e w' => e = .returned (.int .i64 (cf x y)) ∧ Below W.heap.size W w' :=
  (compare_any cc x y W).mono fun _ _ ⟨he, q, os, hw⟩ => ⟨he, by rw [hw]; exact below_grow W q os⟩

set_option maxHeartbeats 800000 in
set_option maxRecDepth 100000 in
theorem less_any (x y : Dot) (w : World) : Calls Try.prog 14 #[.agg #[.int .i64 x.1, .int .i64 x.2], .agg #[.int .i64 y.1, .int .i64 y.2]] w (Said (dless x y) w) := by
  obtain ⟨a, b⟩ := x
  obtain ⟨c, d⟩ := y
  have hA : Below w.heap.size w ((w.alloc (.cells #[.int .i64 a, .int .i64 b] 26)).alloc (.cells #[.int .i64 c, .int .i64 d] 26)) := ((Below.refl _ _).alloc (Nat.le_refl _) _).alloc (by simp) _
  obtain ⟨r, hr⟩ : ∃ r, r = cf (a, b) (c, d) := ⟨_, rfl⟩
  have HC : Hid (∀ W, Calls Try.prog 30 #[.agg #[.int .i64 a, .int .i64 b], .agg #[.int .i64 c, .int .i64 d]] W fun e w' => e = .returned (.int .i64 r) ∧ Below W.heap.size W w') := fun W => by rw [hr]; exact compare_says (a, b) (c, d) W
  have HD : Hid (dless (a, b) (c, d) = decide (r < 0)) := by
    show _ = _
    rw [hr]
    have := cf_neg (a, b) (c, d)
    by_cases h : cf (a, b) (c, d) < 0
    · rw [decide_eq_true h]; exact this.1 h
    · rw [decide_eq_false h]
      cases h2 : dless (a, b) (c, d) with
      | false => rfl
      | true => exact absurd (this.2 h2) h
  obtain ⟨R, hR⟩ : ∃ R, R = dless (a, b) (c, d) := ⟨_, rfl⟩
  rw [← hR] at HD ⊢
  clear hr hR
  by_cases h : r < 0
  · have HR : Hid (R = true) := by show _ = _; rw [HD.out]; exact decide_eq_true h
    have hd : decide (r < 0) = true := decide_eq_true h
    go_enter Try.func14, Try.ntmps14
    go_wp2_with fail
    (with_reducible refine (HC.out _).mono ?_)
    rintro e w1 ⟨rfl, b1⟩
    have hb := hA.trans (b1.mono hA.size)
    clear b1
    go_wp2
    go_ret
    rw [HR.out]; exact ⟨rfl, hb⟩
  · have HR : Hid (R = false) := by show _ = _; rw [HD.out]; exact decide_eq_false h
    have hd : decide (r < 0) = false := decide_eq_false h
    clear h
    go_enter Try.func14, Try.ntmps14
    go_wp2_with fail
    (with_reducible refine (HC.out _).mono ?_)
    rintro e w1 ⟨rfl, b1⟩
    have hb := hA.trans (b1.mono hA.size)
    clear b1
    go_wp2
    go_ret
    rw [HR.out]; exact ⟨rfl, hb⟩

set_option maxHeartbeats 800000 in
set_option maxRecDepth 100000 in
theorem rless_any (x y : Dot) (w : World) : Calls Try.prog 15 #[.agg #[.int .i64 x.1, .int .i64 x.2], .agg #[.int .i64 y.1, .int .i64 y.2]] w (Said (dless x y) w) := by
  obtain ⟨a, b⟩ := x
  obtain ⟨c, d⟩ := y
  have hA : Below w.heap.size w ((w.alloc (.cells #[.int .i64 a, .int .i64 b] 26)).alloc (.cells #[.int .i64 c, .int .i64 d] 26)) := ((Below.refl _ _).alloc (Nat.le_refl _) _).alloc (by simp) _
  have HD : Hid (∀ r, decide (a < c ∨ a = c ∧ b < d) = r → dless (a, b) (c, d) = r) := fun r h => h
  obtain ⟨R, hR⟩ : ∃ R, R = dless (a, b) (c, d) := ⟨_, rfl⟩
  rw [← hR] at HD ⊢
  clear hR
  by_cases h : a = c
  · have hb1 : (a == c) = true := by simpa using h
    have hb2 : (a != c) = false := by simpa using h
    by_cases h2 : b < d
    · have HR := Lib.hid (HD.out true (decide_eq_true (Or.inr ⟨h, h2⟩)))
      subst h
      go_enter Try.func15, Try.ntmps15
      go_wp2
      go_ret
      rw [HR.out]; exact ⟨rfl, hA⟩
    · have HR := Lib.hid (HD.out false (decide_eq_false (by omega)))
      subst h
      go_enter Try.func15, Try.ntmps15
      go_wp2
      go_ret
      rw [HR.out]; exact ⟨rfl, hA⟩
  · have hb1 : (a == c) = false := by simpa using h
    have hb2 : (a != c) = true := by simpa using h
    by_cases h2 : a < c
    · have HR := Lib.hid (HD.out true (decide_eq_true (Or.inl h2)))
      clear h
      go_enter Try.func15, Try.ntmps15
      go_wp2
      go_ret
      rw [HR.out]; exact ⟨rfl, hA⟩
    · have HR := Lib.hid (HD.out false (decide_eq_false (by omega)))
      clear h
      go_enter Try.func15, Try.ntmps15
      go_wp2
      go_ret
      rw [HR.out]; exact ⟨rfl, hA⟩

/-- a context as it lies -/
def CtxAt (w : World) (B : Nat) (v : Value) (c : dm.Ctx) : Prop := ∃ v1 v2, v = .agg #[v1, v2] ∧ Dots w B v1 c.1 ∧ Dots w B v2 c.2
theorem CtxAt.next {w w' : World} {v : Value} {c : dm.Ctx} (h : CtxAt w w.heap.size v c) (hb : Below w.heap.size w w') : CtxAt w' w'.heap.size v c := by
  obtain ⟨v1, v2, rfl, h1, h2⟩ := h
  exact ⟨v1, v2, rfl, Cells.next h1 hb, Cells.next h2 hb⟩

set_option maxHeartbeats 800000 in
set_option maxRecDepth 100000 in
theorem csame_any (a b : dm.Ctx) (va vb : Value) (w : World) (ha : CtxAt w w.heap.size va a) (hb : CtxAt w w.heap.size vb b) : Calls Try.prog 25 #[va, vb] w (Said (decide (a = b)) w) := by
  obtain ⟨a1, a2, rfl, p1, p2⟩ := ha
  obtain ⟨b1, b2, rfl, q1, q2⟩ := hb
  have hA : Below w.heap.size w ((w.alloc (.cells #[a1, a2] 24)).alloc (.cells #[b1, b2] 24)) := ((Below.refl _ _).alloc (Nat.le_refl _) _).alloc (by simp) _
  have E1 : Hid (∀ W, Below w.heap.size w W → Calls Try.prog 41 #[a1, b1] W (Said (decide (a.1 = b.1)) W)) := fun W hW => equal_any a.1 b.1 a1 b1 W (Cells.next p1 hW) (Cells.next q1 hW)
  have E2 : Hid (∀ W, Below w.heap.size w W → Calls Try.prog 41 #[a2, b2] W (Said (decide (a.2 = b.2)) W)) := fun W hW => equal_any a.2 b.2 a2 b2 W (Cells.next p2 hW) (Cells.next q2 hW)
  have HD : Hid (∀ r, decide (a.1 = b.1 ∧ a.2 = b.2) = r → decide (a = b) = r) := fun r h => by
    rw [← h]
    exact decide_eq_decide.2 ⟨fun e => by rw [e]; exact ⟨rfl, rfl⟩, fun e => Prod.ext e.1 e.2⟩
  obtain ⟨R, hR⟩ : ∃ R, R = decide (a = b) := ⟨_, rfl⟩
  rw [← hR] at HD ⊢
  obtain ⟨x1, x2⟩ := a
  obtain ⟨y1, y2⟩ := b
  simp only at E1 E2 HD
  clear hR p1 p2 q1 q2
  have hA0 : w.heap.size < ((w.alloc (.cells #[a1, a2] 24)).alloc (.cells #[b1, b2] 24)).heap.size := by simp; omega
  by_cases h1 : x1 = y1
  · rw [decide_eq_true h1] at E1
    obtain ⟨r2, hr2⟩ : ∃ r2, r2 = decide (x2 = y2) := ⟨_, rfl⟩
    rw [← hr2] at E2
    have HR : Hid (R = r2) := HD.out r2 (by rw [hr2]; exact decide_eq_decide.2 ⟨fun e => e.2, fun e => ⟨h1, e⟩⟩)
    clear hr2 h1
    go_enter Try.func25, Try.ntmps25
    go_wp2_with fail
    (with_reducible refine (E1.out _ hA).mono ?_)
    rintro e w1 ⟨rfl, g1⟩
    have hb1 := hA.trans (g1.mono hA.size)
    have hA1 : w.heap.size + 1 < ((w.alloc (.cells #[a1, a2] 24)).alloc (.cells #[b1, b2] 24)).heap.size := by simp
    have c0 : w1.cell? ⟨w.heap.size, 1, none⟩ = some a2 := (g1.cell (p := ⟨w.heap.size, 1, none⟩) hA0).trans (box1 w a1 a2 _ _ () 1 _ rfl)
    have c1 : w1.cell? ⟨w.heap.size + 1, 1, none⟩ = some b2 := (g1.cell (p := ⟨w.heap.size + 1, 1, none⟩) hA1).trans (box1b w _ b1 b2 _ 1 _ rfl)
    have HE2 := Lib.hid (E2.out _ hb1)
    clear g1 hA0 hA1
    go_wp2_with fail
    (with_reducible refine HE2.out.mono ?_)
    rintro e w2 ⟨rfl, g2⟩
    have hb2 := hb1.trans (g2.mono hb1.size)
    clear g2
    go_wp2
    go_ret
    rw [HR.out]; exact ⟨rfl, hb2⟩
  · rw [decide_eq_false h1] at E1
    have HR : Hid (R = false) := HD.out false (decide_eq_false (fun e => h1 e.1))
    clear h1
    go_enter Try.func25, Try.ntmps25
    go_wp2_with fail
    (with_reducible refine (E1.out _ hA).mono ?_)
    rintro e w1 ⟨rfl, g1⟩
    have hb1 := hA.trans (g1.mono hA.size)
    clear g1
    go_wp2
    go_ret
    rw [HR.out]; exact ⟨rfl, hb1⟩
end Go.Proofs.Ytdcmoeklldkccaa
