/- The law's own example, awake. -/
import Derived.Test.YthhkocbfeiccdaaNext
import Derived.Test.YthhkocbfeiccdaaGroup
import Derived.Deep.RegionHeld3
namespace Go.Proofs.Ythhkocbfeiccdaa
open Go.RowKit Go.ChangeShapes at_

theorem r34 : repsOf 3 4 2 10 2 = [2, 0] := by decide
theorem rep_34 (w : World) : Calls Try.prog 19 #[.agg #[.int .i64 3, .int .i64 4, .int .i64 2, .int .i64 10], .int .i64 2] w fun e w' => (∃ b cap, e = .returned (.slice (some ⟨b, 0, none⟩) 2 cap) ∧ w.heap.size ≤ b ∧ b < w'.heap.size ∧ w'.cell? ⟨b, 0, none⟩ = some (.int .i64 2) ∧ w'.cell? ⟨b, 1, none⟩ = some (.int .i64 0)) ∧ Below w.heap.size w w' := by
  have h := rep_any 3 4 2 10 2 w
  rw [r34] at h
  refine h.mono fun e w' ⟨v, h1, hown, hb⟩ => ⟨?_, hb⟩
  rcases hown.2 with ⟨_, hx⟩ | ⟨g, cap, cur, rfl, hbg, hg, hnc, hcm, hcs, htake⟩
  · simp at hx
  · have hlt := hown.lt g rfl
    refine ⟨g, cap, h1, hbg, hlt.2, ?_, ?_⟩
    · have := hown.cells (g := g) rfl 0 (.int .i64 2) rfl
      rwa [Addr.add_lit] at this
    · have := hown.cells (g := g) rfl 1 (.int .i64 0) rfl
      rwa [Addr.add_lit] at this
theorem next_34 (w : World) : Calls Try.prog 15 #[.agg #[.int .i64 3, .int .i64 4, .int .i64 2, .int .i64 10], .int .i64 2, .int .i64 0] w fun e w' => e = .returned (.tuple #[.int .i64 2, .bool true]) ∧ Below w.heap.size w w' := by
  have h := next_any 3 4 2 10 2 0 w
  rw [r34] at h
  exact h
theorem keeps_34 (w : World) : Calls Try.prog 21 #[.agg #[.int .i64 3, .int .i64 4, .int .i64 2, .int .i64 10], .int .i64 2, .int .i64 0] w fun e w' => e = .returned (.bool true) ∧ Below w.heap.size w w' := by
  have h := keeps_any 3 4 2 10 2 0 w
  rw [r34] at h
  exact h
theorem keeps_34n (w : World) : Calls Try.prog 21 #[.agg #[.int .i64 3, .int .i64 4, .int .i64 2, .int .i64 10], .int .i64 2, .int .i64 1] w fun e w' => e = .returned (.bool false) ∧ Below w.heap.size w w' := by
  have h := keeps_any 3 4 2 10 2 1 w
  rw [r34] at h
  exact h
theorem check_34 (w : World) : Calls Try.prog 17 #[.agg #[.int .i64 3, .int .i64 4, .int .i64 2, .int .i64 10]] w fun e w' => e = .returned (.int .i64 0) ∧ Below w.heap.size w w' := check_ok 3 4 2 10 w (by decide)
theorem group_a (w : World) : Calls Try.prog 10 #[.string ⟨#[97]⟩, .int .i64 4] w fun e w' => e = .returned (.int .i64 1) ∧ w = w' := by
  have h := group_any ⟨#[97]⟩ 4 w (by decide)
  rw [show grp (kit.bytes ⟨#[97]⟩) 4 = 1 by decide] at h
  exact h
theorem group_0 (w : World) : Calls Try.prog 10 #[.string ⟨#[]⟩, .int .i64 4] w fun e w' => e = .returned (.int .i64 0) ∧ w = w' := by
  have h := group_any ⟨#[]⟩ 4 w (by decide)
  rw [show grp (kit.bytes ⟨#[]⟩) 4 = 0 by decide] at h
  exact h

abbrev St (w : World) (b : Nat) (w' : World) : Prop := w'.cell? ⟨w.heap.size, 0, none⟩ = some (.int .i64 3) ∧ w'.cell? ⟨w.heap.size, 1, none⟩ = some (.int .i64 4) ∧ w'.cell? ⟨w.heap.size, 2, none⟩ = some (.int .i64 2) ∧ w'.cell? ⟨w.heap.size, 3, none⟩ = some (.int .i64 10) ∧
  w'.cell? ⟨b, 0, none⟩ = some (.int .i64 2) ∧ w'.cell? ⟨b, 1, none⟩ = some (.int .i64 0) ∧ Below w.heap.size w w' ∧ w.heap.size + 1 ≤ w'.heap.size ∧ b < w'.heap.size
theorem St.drew {w : World} {b : Nat} {w' : World} (h : St w b w') : St w b w'.drew := by
  obtain ⟨h0, h1, h2, h3, h4, h5, h6, h7, h8⟩ := h
  exact ⟨h0, h1, h2, h3, h4, h5, h6.drew, h7, h8⟩
theorem St.step {w : World} {b : Nat} {w4 w5 : World} (h : St w b w4) (hb : Below w4.heap.size w4 w5) : St w b w5 := by
  obtain ⟨h0, h1, h2, h3, h4, h5, h6, h7, h8⟩ := h
  have hs := hb.size
  exact ⟨(hb.cell (p := ⟨_, _, none⟩) (by simp; omega)).trans h0, (hb.cell (p := ⟨_, _, none⟩) (by simp; omega)).trans h1, (hb.cell (p := ⟨_, _, none⟩) (by simp; omega)).trans h2, (hb.cell (p := ⟨_, _, none⟩) (by simp; omega)).trans h3,
    (hb.cell (p := ⟨_, _, none⟩) (by simp; omega)).trans h4, (hb.cell (p := ⟨_, _, none⟩) (by simp; omega)).trans h5, h6.trans (hb.mono (by omega)), by omega, by omega⟩

set_option maxHeartbeats 1600000 in
set_option maxRecDepth 100000 in
theorem awake_any (w : World) :
    Calls Try.prog 9 #[] w (Said true w) := by
  go_enter Try.func9, Try.ntmps9
  go_wp2_with fail
  refine (rep_34 _).mono ?_
  rintro e w1 ⟨⟨b, cap, rfl, hb0, hb1, cb0, cb1⟩, hbl1⟩
  have hsz1 := hbl1.size
  have hw1 : w.heap.size + 1 ≤ w1.heap.size := by simpa using hsz1
  have hst1 : St w b w1 := by
    have k0 := hbl1.cell (p := ⟨w.heap.size, 0, none⟩) (by simp)
    have k1 := hbl1.cell (p := ⟨w.heap.size, 1, none⟩) (by simp)
    have k2 := hbl1.cell (p := ⟨w.heap.size, 2, none⟩) (by simp)
    have k3 := hbl1.cell (p := ⟨w.heap.size, 3, none⟩) (by simp)
    exact ⟨by simpa using k0, by simpa using k1, by simpa using k2, by simpa using k3, cb0, cb1, ((Below.refl _ _).alloc (Nat.le_refl _) _).trans (hbl1.mono (by simp)), hw1, hb1⟩
  obtain ⟨q0, q1, q2, q3, _⟩ := id hst1
  go_wp2_with fail
  refine (next_34 _).mono ?_
  rintro e w2 ⟨rfl, hbl2⟩
  have hst2 := hst1.step hbl2
  have HST := Lib.hid hst2
  obtain ⟨r0, r1, r2, r3, r4, r5, _⟩ := id hst2
  clear hst1 q0 q1 q2 q3 hbl1 hbl2 hsz1 hw1 cb0 cb1 hb0 hb1
  go_wp2_with fail
  refine (check_34 _).mono ?_
  rintro e w3 ⟨rfl, hbl3⟩
  have HS3 := Lib.hid (HST.out.step hbl3)
  obtain ⟨s0, s1, s2, s3, s4, s5, _⟩ := HS3.out
  clear hst2 r0 r1 r2 r3 r4 r5 hbl3 HST
  go_wp2_with (first
      | (go_at_call 10; ((with_reducible refine (group_a _).mono ?_); rintro e w' ⟨rfl, rfl⟩))
      | (go_at_call 10; ((with_reducible refine (group_0 _).mono ?_); rintro e w' ⟨rfl, rfl⟩))
      | (go_at_call 21; ((with_reducible refine (keeps_34 _).mono ?_); rintro e w4 ⟨rfl, hbl4⟩; have HS4 := Lib.hid (HS3.out.step hbl4); obtain ⟨t0, t1, t2, t3, _⟩ := HS4.out))
      | (go_at_call 21; ((with_reducible refine (keeps_34n _).mono ?_); rintro e w5 ⟨rfl, hbl5⟩; have HS5 := Lib.hid (HS4.out.step hbl5))))
  go_ret
  exact ⟨rfl, HS5.out.2.2.2.2.2.2.1⟩
end Go.Proofs.Ythhkocbfeiccdaa
