/- PlaceNodes: the walk of the law. -/
import Derived.Test.YthhkocbfeiccdaaAwk
namespace Go.Proofs.Ythhkocbfeiccdaa
open Go.RowKit Go.ChangeShapes at_

/-- what Check answers -/
def codeC (n g c l : Int) : Int := if okC n g c l then 0 else 1
theorem check_any (n g c l : Int) (w : World) : Calls Try.prog 17 #[.agg #[.int .i64 n, .int .i64 g, .int .i64 c, .int .i64 l]] w (Code (codeC n g c l) w) := by
  unfold codeC
  by_cases h : okC n g c l
  · rw [if_pos h]; exact check_ok n g c l w h
  · rw [if_neg h]; exact check_bad n g c l w h
theorem rcheck_any (n g c l : Int) (w : World) : Calls Try.prog 18 #[.agg #[.int .i64 n, .int .i64 g, .int .i64 c, .int .i64 l]] w (Code (codeC n g c l) w) := by
  unfold codeC
  by_cases h : okC n g c l
  · rw [if_pos h]; exact rcheck_ok n g c l w h
  · rw [if_neg h]; exact rcheck_bad n g c l w h
theorem ints_same (a : List Int) (va vb : Value) (w : World) (ha : At w w.heap.size va a) (hb : At w w.heap.size vb a) :
    Calls Try.prog 12 #[va, vb] w (Said true w) := by
  have := ints_any a a va vb w ha hb
  rw [decide_eq_true (show a = a from rfl)] at this
  exact this

/-- the config lies in its box, and nothing older has turned -/
abbrev Box (n g c l : Int) (w w' : World) : Prop := w'.cell? ⟨w.heap.size, 0, none⟩ = some (.int .i64 n) ∧ w'.cell? ⟨w.heap.size, 1, none⟩ = some (.int .i64 g) ∧ w'.cell? ⟨w.heap.size, 2, none⟩ = some (.int .i64 c) ∧ w'.cell? ⟨w.heap.size, 3, none⟩ = some (.int .i64 l) ∧
  Below w.heap.size w w' ∧ w.heap.size + 1 ≤ w'.heap.size
theorem Box.drew {n g c l : Int} {w w' : World} (h : Box n g c l w w') : Box n g c l w w'.drew := by
  obtain ⟨h0, h1, h2, h3, h4, h5⟩ := h
  exact ⟨h0, h1, h2, h3, h4.drew, h5⟩
theorem Box.step {n g c l : Int} {w w4 w5 : World} (h : Box n g c l w w4) (hb : Below w4.heap.size w4 w5) : Box n g c l w w5 := by
  obtain ⟨h0, h1, h2, h3, h4, h5⟩ := h
  have hs := hb.size
  exact ⟨(hb.cell (p := ⟨_, _, none⟩) (by simp; omega)).trans h0, (hb.cell (p := ⟨_, _, none⟩) (by simp; omega)).trans h1, (hb.cell (p := ⟨_, _, none⟩) (by simp; omega)).trans h2, (hb.cell (p := ⟨_, _, none⟩) (by simp; omega)).trans h3,
    h4.trans (hb.mono (by omega)), by omega⟩
theorem Box.first (n g c l : Int) (w : World) (t : TypeId) : Box n g c l w (w.alloc (.cells #[.int .i64 n, .int .i64 g, .int .i64 c, .int .i64 l] t)) :=
  ⟨by rw [World.cell?_alloc_at _ _ _ _ rfl]; rfl, by rw [World.cell?_alloc_at _ _ _ _ rfl]; rfl, by rw [World.cell?_alloc_at _ _ _ _ rfl]; rfl, by rw [World.cell?_alloc_at _ _ _ _ rfl]; rfl, (Below.refl _ _).alloc (Nat.le_refl _) _, by simp⟩

set_option maxHeartbeats 3200000 in
set_option maxRecDepth 100000 in
theorem nodes_any (n g c l gr x : Int) (w : World) :
    Calls Try.prog 4 #[.agg #[.int .i64 n, .int .i64 g, .int .i64 c, .int .i64 l], .int .i64 gr, .int .i64 x] w (Said true w) := by
  obtain ⟨zs, hz⟩ : ∃ zs, zs = repsOf n g c l gr := ⟨_, rfl⟩
  obtain ⟨nn, hnn⟩ : ∃ nn, nn = nextN zs x := ⟨_, rfl⟩
  obtain ⟨nb, hnb⟩ : ∃ nb, nb = nextB zs x := ⟨_, rfl⟩
  obtain ⟨kk, hkk⟩ : ∃ kk, kk = hasB zs x := ⟨_, rfl⟩
  obtain ⟨cc, hcc⟩ : ∃ cc, cc = codeC n g c l := ⟨_, rfl⟩
  have H1 : Hid (∀ W, Calls Try.prog 15 #[.agg #[.int .i64 n, .int .i64 g, .int .i64 c, .int .i64 l], .int .i64 gr, .int .i64 x] W (Two nn nb W)) := fun W => by rw [hnn, hnb, hz]; exact next_any n g c l gr x W
  have H2 : Hid (∀ W, Calls Try.prog 16 #[.agg #[.int .i64 n, .int .i64 g, .int .i64 c, .int .i64 l], .int .i64 gr, .int .i64 x] W (Two nn nb W)) := fun W => by rw [hnn, hnb, hz]; exact rnext_any n g c l gr x W
  have H3 : Hid (∀ W, Calls Try.prog 17 #[.agg #[.int .i64 n, .int .i64 g, .int .i64 c, .int .i64 l]] W (Code cc W)) := fun W => by rw [hcc]; exact check_any n g c l W
  have H4 : Hid (∀ W, Calls Try.prog 18 #[.agg #[.int .i64 n, .int .i64 g, .int .i64 c, .int .i64 l]] W (Code cc W)) := fun W => by rw [hcc]; exact rcheck_any n g c l W
  have H5 : Hid (∀ W, Calls Try.prog 19 #[.agg #[.int .i64 n, .int .i64 g, .int .i64 c, .int .i64 l], .int .i64 gr] W (Owned zs W)) := fun W => by rw [hz]; exact rep_any n g c l gr W
  have H6 : Hid (∀ W, Calls Try.prog 20 #[.agg #[.int .i64 n, .int .i64 g, .int .i64 c, .int .i64 l], .int .i64 gr] W (Owned zs W)) := fun W => by rw [hz]; exact rrep_any n g c l gr W
  have H7 : Hid (∀ W, Calls Try.prog 21 #[.agg #[.int .i64 n, .int .i64 g, .int .i64 c, .int .i64 l], .int .i64 gr, .int .i64 x] W (Said kk W)) := fun W => by rw [hkk, hz]; exact keeps_any n g c l gr x W
  have H8 : Hid (∀ W, Calls Try.prog 22 #[.agg #[.int .i64 n, .int .i64 g, .int .i64 c, .int .i64 l], .int .i64 gr, .int .i64 x] W (Said kk W)) := fun W => by rw [hkk, hz]; exact rkeeps_any n g c l gr x W
  clear hz hnn hnb hkk hcc
  have HB0 := Lib.hid (Box.first n g c l w 31)
  go_enter Try.func4, Try.ntmps4
  go_wp2_with fail
  refine (H1.out _).mono ?_
  rintro e w1 ⟨rfl, hb1⟩
  have HB1 := Lib.hid (HB0.out.step hb1)
  obtain ⟨p0, p1, p2, p3, _⟩ := HB1.out
  clear hb1 HB0
  go_wp2_with fail
  refine (H2.out _).mono ?_
  rintro e w2 ⟨rfl, hb2⟩
  have HB2 := Lib.hid (HB1.out.step hb2)
  clear p0 p1 p2 p3
  obtain ⟨p0, p1, p2, p3, _⟩ := HB2.out
  clear hb2 HB1
  go_wp2_with fail
  go_region_held3 (fun w' => w'.cell? ⟨w.heap.size, 0, none⟩ = some (.int .i64 n) ∧ w'.cell? ⟨w.heap.size, 1, none⟩ = some (.int .i64 g) ∧ w'.cell? ⟨w.heap.size, 2, none⟩ = some (.int .i64 c) ∧ w'.cell? ⟨w.heap.size, 3, none⟩ = some (.int .i64 l) ∧
      Below w.heap.size w w' ∧ w.heap.size + 1 ≤ w'.heap.size)
    (first
      | exact Box.drew HB2.out
      | exact Box.step (by assumption) hbK
      | assumption)
    (first
      | (go_at_call 17; refine (H3.out _).mono ?_; rintro e wK ⟨rfl, hbK⟩)
      | (go_at_call 18; refine (H4.out _).mono ?_; rintro e wK ⟨rfl, hbK⟩)
      | (go_at_call 19; refine (H5.out _).mono ?_; rintro e wK ⟨v1, rfl, hown1, hbK⟩; have hat1 := own hown1)
      | (go_at_call 20; refine (H6.out _).mono ?_; rintro e wK ⟨v2, rfl, hown2, hbK⟩; have hat2 := own hown2; have hat3 := (hat1.below hbK).mono hbK.size)
      | (go_at_call 12; refine (ints_same zs _ _ _ hat3 hat2).mono ?_; rintro e wK ⟨rfl, hbK⟩)
      | (go_at_call 21; refine (H7.out _).mono ?_; rintro e wK ⟨rfl, hbK⟩)
      | (go_at_call 22; refine (H8.out _).mono ?_; rintro e wK ⟨rfl, hbK⟩)
      | (go_at_call 9; refine (awake_any _).mono ?_; rintro e wK ⟨rfl, hbK⟩))
  go_wp2
  go_ret
  exact ⟨rfl, (by assumption : Box n g c l w _).2.2.2.2.1⟩
end Go.Proofs.Ythhkocbfeiccdaa
