/- What a config may be; the document's own Check. -/
import Derived.Test.YthhkocbfeiccdaaRows
import Derived.Test.YthhkocbfeiccdaaKit
namespace Go.Proofs.Ythhkocbfeiccdaa
open Go.RowKit Go.ChangeShapes

abbrev CFG : TypeId := 31
theorem infoInt : (Try.prog.info? 3).map (fun i => (i.zero, i.size, i.bytes)) = some (some (.int .i64 0), 1, 8) := by kernel_rfl

/-- a config that may be -/
def okC (n g c l : Int) : Prop := 1 ≤ n ∧ n ≤ 16 ∧ 1 ≤ g ∧ g ≤ 8 ∧ 1 ≤ c ∧ c ≤ n ∧ 1 ≤ l ∧ l ≤ 10000
instance (n g c l : Int) : Decidable (okC n g c l) := by unfold okC; infer_instance
def Code (x : Int) (w : World) (e : Ending) (w' : World) : Prop := e = .returned (.int .i64 x) ∧ Below w.heap.size w w'

/-- why a config may not be: the first of what is wrong -/
theorem badC {n g c l : Int} (h : ¬ okC n g c l) : (n < 1) ∨ (16 < n ∧ 1 ≤ n) ∨ ((1 ≤ n ∧ n ≤ 16) ∧ g < 1) ∨ ((1 ≤ n ∧ n ≤ 16) ∧ 1 ≤ g ∧ 8 < g) ∨ ((1 ≤ n ∧ n ≤ 16) ∧ (1 ≤ g ∧ g ≤ 8) ∧ c < 1) ∨ ((1 ≤ n ∧ n ≤ 16) ∧ (1 ≤ g ∧ g ≤ 8) ∧ 1 ≤ c ∧ n < c) ∨
    ((1 ≤ n ∧ n ≤ 16) ∧ (1 ≤ g ∧ g ≤ 8) ∧ (1 ≤ c ∧ c ≤ n) ∧ l < 1) ∨ ((1 ≤ n ∧ n ≤ 16) ∧ (1 ≤ g ∧ g ≤ 8) ∧ (1 ≤ c ∧ c ≤ n) ∧ 1 ≤ l ∧ 10000 < l) := by
  unfold okC at h; omega

set_option maxHeartbeats 800000 in
set_option maxRecDepth 100000 in
theorem rcheck_ok (n g c l : Int) (w : World) (h : okC n g c l) :
    Calls Try.prog 18 #[.agg #[.int .i64 n, .int .i64 g, .int .i64 c, .int .i64 l]] w (Code 0 w) := by
  obtain ⟨h1, h2, h3, h4, h5, h6, h7, h8⟩ := h
  go_enter Try.func18, Try.ntmps18
  go_wp2
  go_ret
  exact ⟨rfl, (Below.refl _ _).alloc (Nat.le_refl _) _⟩

set_option maxHeartbeats 3200000 in
set_option maxRecDepth 100000 in
theorem rcheck_bad (n g c l : Int) (w : World) (h : ¬ okC n g c l) :
    Calls Try.prog 18 #[.agg #[.int .i64 n, .int .i64 g, .int .i64 c, .int .i64 l]] w (Code 1 w) := by
  rcases badC h with h1 | ⟨h1, h2⟩ | ⟨⟨h1, h2⟩, h3⟩ | ⟨⟨h1, h2⟩, h3, h4⟩ | ⟨⟨h1, h2⟩, ⟨h3, h4⟩, h5⟩ | ⟨⟨h1, h2⟩, ⟨h3, h4⟩, h5, h6⟩ | ⟨⟨h1, h2⟩, ⟨h3, h4⟩, ⟨h5, h6⟩, h7⟩ | ⟨⟨h1, h2⟩, ⟨h3, h4⟩, ⟨h5, h6⟩, h7, h8⟩
  all_goals
    clear h
    go_enter Try.func18, Try.ntmps18
    go_wp2
    go_ret
    exact ⟨rfl, (Below.refl _ _).alloc (Nat.le_refl _) _⟩
end Go.Proofs.Ythhkocbfeiccdaa
