/- The document's own Replicas by its contract. -/
import Derived.Test.YthhkocbfeiccdaaPlaceRef
import Derived.Test.YthhkocbfeiccdaaInts
namespace Go.Proofs.Ythhkocbfeiccdaa
open Go.RowKit Go.ChangeShapes at_

/-- the replicas of a group -/
def reps (n c gr : Int) : List Int := List.map (fun i : Nat => (gr + (i : Int)) % n) (List.range c.toNat)
def repsOf (n g c l gr : Int) : List Int := if okC n g c l ∧ 0 ≤ gr ∧ gr < g then reps n c gr else []
theorem reps_len (n c gr : Int) : (reps n c gr).length = c.toNat := by simp [reps]
theorem reps_step (n c gr : Int) (k : Nat) (h : (k : Int) < c) : Hid ((reps n c gr).take (k + 1) = (reps n c gr).take k ++ [(gr + (k : Int)) % n]) := by
  show _ = _
  have hk : k < (reps n c gr).length := by rw [reps_len]; omega
  rw [List.take_succ_eq_append_getElem hk]
  simp [reps]
/-- a slice of the call's own with these numbers -/
def Owned (zs : List Int) (w : World) (e : Ending) (w' : World) : Prop := ∃ v, e = .returned v ∧ w'.ownsRow w.heap.size 3 1 v zs.length (i64s zs) ∧ Below w.heap.size w w'

set_option maxHeartbeats 1600000 in
set_option maxRecDepth 100000 in
theorem rrep_in (n g c l gr : Int) (w : World) (h : okC n g c l) (h1 : 0 ≤ gr) (h2 : gr < g) :
    Calls Try.prog 20 #[.agg #[.int .i64 n, .int .i64 g, .int .i64 c, .int .i64 l], .int .i64 gr] w (Owned (reps n c gr) w) := by
  have HC : Hid (okC n g c l) := h
  obtain ⟨b1, b2, b3, b4, b5, b6, _, _⟩ := h
  go_enter Try.func20, Try.ntmps20
  go_wp2_with (go_at_call 18; refine (rcheck_ok n g c l _ HC.out).mono ?_; rintro e w1 ⟨rfl, hb1⟩; have hz1 := hb1.size; have k0 := hb1.cell (p := ⟨w.heap.size, 0, none⟩) (by simp); have k1 := hb1.cell (p := ⟨w.heap.size, 1, none⟩) (by simp); have k2 := hb1.cell (p := ⟨w.heap.size, 2, none⟩) (by simp))
  have q0 : w1.cell? ⟨w.heap.size, 0, none⟩ = some (.int .i64 n) := by simpa using k0
  have q2 : w1.cell? ⟨w.heap.size, 2, none⟩ = some (.int .i64 c) := by simpa using k2
  have hsz : w.heap.size + 1 ≤ w1.heap.size := by simpa using hz1
  have hB1 : Below (w.heap.size + 1) (w.alloc (.cells #[.int .i64 n, .int .i64 g, .int .i64 c, .int .i64 l] 31)) w1 := by simpa using hb1
  clear k0 k1 k2 hz1 hb1
  go_loopw [5, 6, 22] (fun v _ i wr => ∃ k : Nat, i = .int .i64 k ∧ (k : Int) ≤ c ∧ wr.ownsRow (w.heap.size + 1) 3 1 v ((reps n c gr).take k).length (i64s ((reps n c gr).take k)) ∧ Below (w.heap.size + 1) w1 wr) (fun _ _ i _ => (c - intOf i).toNat)
  case atStart => exact ⟨0, rfl, by omega, World.ownsRow_nil _ _ _ _, Below.refl _ _⟩
  case round =>
    obtain ⟨k, rfl, hk, hown, hbl⟩ := hrel
    have p0 : wr.cell? ⟨w.heap.size, 0, none⟩ = some (.int .i64 n) := (hbl.cell (p := ⟨w.heap.size, 0, none⟩) (Nat.lt_succ_self _)).trans q0
    have p2 : wr.cell? ⟨w.heap.size, 2, none⟩ = some (.int .i64 c) := (hbl.cell (p := ⟨w.heap.size, 2, none⟩) (Nat.lt_succ_self _)).trans q2
    have hszr := Nat.le_trans hsz hbl.size
    have hlen := reps_len n c gr
    have htl : ((reps n c gr).take k).length ≤ 16 := by rw [List.length_take]; omega
    by_cases hlt : (k : Int) < c
    · have HS := reps_step n c gr k hlt
      go_wp2_with (at_builtin; refine kit.app1 (.tmp 25) (.tmp 32) 27 rfl rfl (w.heap.size + 1) Try.underlying27 infoInt rfl (by decide) (by decide) hown rfl rfl rfl (by intro u hu; simp at hu; subst hu; rfl) (by omega) hszr ?_)
      intro v' w2 hown' hb'
      have HO : w2.ownsRow (w.heap.size + 1) 3 1 v' ((reps n c gr).take (k + 1)).length (i64s ((reps n c gr).take (k + 1))) := by rw [HS.out, List.length_append, i64s_app, List.length_take, reps_len]; exact hown'
      clear hown' hown
      go_wp2
      go_roundw
      case rel => exact ⟨k + 1, by go_num, by omega, HO, hbl.trans hb'⟩
      case measure => simp [intOf]; omega
    · have HT : Hid ((reps n c gr).take k = reps n c gr) := List.take_of_length_le (by omega)
      rw [HT.out] at hown
      go_wp2
      go_ret
      exact ⟨_, rfl, base_le hown (Nat.le_succ _), ((Below.refl _ _).alloc (Nat.le_refl _) _).trans ((hB1.trans hbl).mono (Nat.le_succ _))⟩

set_option maxHeartbeats 1600000 in
set_option maxRecDepth 100000 in
theorem rrep_out (n g c l gr : Int) (w : World) (h : ¬ (okC n g c l ∧ 0 ≤ gr ∧ gr < g)) :
    Calls Try.prog 20 #[.agg #[.int .i64 n, .int .i64 g, .int .i64 c, .int .i64 l], .int .i64 gr] w (Owned [] w) := by
  by_cases hC : okC n g c l
  · have HC : Hid (okC n g c l) := hC
    have h2 : gr < 0 ∨ (0 ≤ gr ∧ g ≤ gr) := by
      by_cases h0 : gr < 0
      · exact Or.inl h0
      · exact Or.inr ⟨by omega, by have : ¬ gr < g := fun hh => h ⟨hC, by omega, hh⟩
                                   omega⟩
    clear h hC
    rcases h2 with h2 | ⟨h2, h3⟩
    all_goals
      go_enter Try.func20, Try.ntmps20
      go_wp2_with (go_at_call 18; refine (rcheck_ok n g c l _ HC.out).mono ?_; rintro e w1 ⟨rfl, hb1⟩; have k1 := hb1.cell (p := ⟨w.heap.size, 1, none⟩) (by simp))
      go_ret
      exact ⟨_, rfl, World.ownsRow_nil _ _ _ _, ((Below.refl _ _).alloc (Nat.le_refl _) _).trans (hb1.mono (by simp))⟩
  · clear h
    go_enter Try.func20, Try.ntmps20
    go_wp2_with (go_at_call 18; refine (rcheck_bad n g c l _ hC).mono ?_; rintro e w1 ⟨rfl, hb1⟩)
    go_ret
    exact ⟨_, rfl, World.ownsRow_nil _ _ _ _, ((Below.refl _ _).alloc (Nat.le_refl _) _).trans (hb1.mono (by simp))⟩
theorem rrep_any (n g c l gr : Int) (w : World) :
    Calls Try.prog 20 #[.agg #[.int .i64 n, .int .i64 g, .int .i64 c, .int .i64 l], .int .i64 gr] w (Owned (repsOf n g c l gr) w) := by
  unfold repsOf
  by_cases h : okC n g c l ∧ 0 ≤ gr ∧ gr < g
  · rw [if_pos h]; exact rrep_in n g c l gr w h.1 h.2.1 h.2.2
  · rw [if_neg h]; exact rrep_out n g c l gr w h
end Go.Proofs.Ythhkocbfeiccdaa
