/- The law's own right: lists of lists. -/
import Derived.Test.YtojngbobecdpeaaHas
namespace Go.Proofs.Ytojngbobecdpeaa
open Go.RowKit Go.ChangeShapes at_ pm

def rowsOk (ls : List (List Int)) : Bool := (ls.all fun l => decide (l.length ≤ 2000) && rightOf l) && decide (ls.length ≤ 30)
/-- v is a slice of slices that hold ls -/
def LRows (w : World) (B : Nat) (v : Value) (ls : List (List Int)) : Prop :=
  ∃ (ao : Option Addr) (cap : Nat), v = .slice ao ls.length cap ∧ ((ao = none → cap = 0) ∧ ls.length ≤ cap) ∧ ls.length ≤ maxLen ∧
    (0 < ls.length → ∃ b off, ao = some ⟨b, off, none⟩ ∧ b < B ∧ ∀ j, j < ls.length → ∃ x, w.cell? ⟨b, off + j, none⟩ = some x ∧ At w B x (ls.getD j []))
theorem LRows.below {w w' : World} {B : Nat} {v : Value} {ls : List (List Int)} (h : LRows w B v ls) (hb : Below B w w') : LRows w' B v ls := by
  obtain ⟨ao, cap, rfl, h1, h3, h2⟩ := h
  refine ⟨ao, cap, rfl, h1, h3, fun hp => ?_⟩
  obtain ⟨b, off, e, hB, hc⟩ := h2 hp
  refine ⟨b, off, e, hB, fun j hj => ?_⟩
  obtain ⟨x, h4, h5⟩ := hc j hj
  exact ⟨x, by rw [hb.cell (p := ⟨b, off + j, none⟩) hB]; exact h4, h5.below hb⟩
theorem LRows.mono {w : World} {B B' : Nat} {v : Value} {ls : List (List Int)} (h : LRows w B v ls) (hb : B ≤ B') : LRows w B' v ls := by
  obtain ⟨ao, cap, rfl, h1, h3, h2⟩ := h
  refine ⟨ao, cap, rfl, h1, h3, fun hp => ?_⟩
  obtain ⟨b, off, e, hB, hc⟩ := h2 hp
  refine ⟨b, off, e, by omega, fun j hj => ?_⟩
  obtain ⟨x, h4, h5⟩ := hc j hj
  exact ⟨x, h4, h5.mono hb⟩
end Go.Proofs.Ytojngbobecdpeaa
