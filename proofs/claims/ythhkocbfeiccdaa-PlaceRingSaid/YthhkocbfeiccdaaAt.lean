/- A slice of whole numbers as it lies in memory, and what keeps it. Nothing of the program. -/
import Derived.Test.YthhkocbfeiccdaaKit
namespace Go.Proofs.Ythhkocbfeiccdaa.at_
open Go.RowKit

/-- v is a slice whose elements are zs, below block B -/
def At (w : World) (B : Nat) (v : Value) (zs : List Int) : Prop :=
  ∃ (ao : Option Addr) (cap : Nat), v = .slice ao zs.length cap ∧ ((ao = none → cap = 0) ∧ zs.length ≤ cap) ∧ zs.length ≤ maxLen ∧
    (0 < zs.length → ∃ b off, ao = some ⟨b, off, none⟩ ∧ b < B ∧ ∀ j, j < zs.length → w.cell? ⟨b, off + j, none⟩ = some (.int .i64 (zs.getD j 0)))

theorem At.below {w w' : World} {B : Nat} {v : Value} {zs : List Int} (h : At w B v zs) (hb : Below B w w') : At w' B v zs := by
  obtain ⟨ao, cap, rfl, h1, h3, h2⟩ := h
  refine ⟨ao, cap, rfl, h1, h3, fun hp => ?_⟩
  obtain ⟨b, off, e, hB, hc⟩ := h2 hp
  exact ⟨b, off, e, hB, fun j hj => by rw [hb.cell (p := ⟨b, off + j, none⟩) hB]; exact hc j hj⟩
theorem At.mono {w : World} {B B' : Nat} {v : Value} {zs : List Int} (h : At w B v zs) (hb : B ≤ B') : At w B' v zs := by
  obtain ⟨ao, cap, rfl, h1, h3, h2⟩ := h
  refine ⟨ao, cap, rfl, h1, h3, fun hp => ?_⟩
  obtain ⟨b, off, e, hB, hc⟩ := h2 hp
  exact ⟨b, off, e, by omega, hc⟩
theorem At.later {w w' : World} {B B' : Nat} {v : Value} {zs : List Int} (h : At w B v zs) (hb : Below B' w w') (hB : B ≤ B') : At w' B v zs :=
  h.below (hb.mono hB)
def i64s (zs : List Int) : List Value := zs.map (Value.int .i64)
theorem i64s_len (zs : List Int) : (i64s zs).length = zs.length := by simp [i64s]
theorem i64s_app (a b : List Int) : i64s (a ++ b) = i64s a ++ i64s b := by simp [i64s]

theorem nil (w : World) (B : Nat) : At w B (.slice none 0 0) [] := ⟨none, 0, rfl, ⟨fun _ => rfl, Nat.le_refl _⟩, by simp, fun h => absurd h (by simp)⟩
theorem own {w : World} {base : Nat} {e : TypeId} {v : Value} {zs : List Int} (h : w.ownsRow base e 1 v zs.length (i64s zs)) : At w w.heap.size v zs := by
  have hlt := h.lt
  rcases h.2 with ⟨rfl, hx⟩ | ⟨g, cap, cur, rfl, hbg, hg, hnc, hcm, hcs, htake⟩
  · obtain rfl : zs = [] := List.eq_nil_of_length_eq_zero hx
    exact nil w _
  · refine ⟨_, _, rfl, ⟨(fun e => by cases e), hnc⟩, Nat.le_trans hnc hcm, fun _ => ⟨g, 0, rfl, (hlt g rfl).2, fun j hj => ?_⟩⟩
    have := h.cells (g := g) rfl j (.int .i64 (zs.getD j 0)) (by
      simp only [i64s, List.getElem?_map]
      rw [List.getElem?_eq_getElem hj]
      simp [List.getD, hj])
    rw [Addr.add_lit] at this
    exact this
theorem base_le {w : World} {base base' size : Nat} {e : TypeId} {v : Value} {n : Nat} {xs : List Value} (h : w.ownsRow base e size v n xs) (hb : base' ≤ base) : w.ownsRow base' e size v n xs := by
  refine ⟨h.1, ?_⟩
  rcases h.2 with h2 | ⟨g, cap, cur, h3, hbg, h4⟩
  · exact Or.inl h2
  · exact Or.inr ⟨g, cap, cur, h3, Nat.le_trans hb hbg, h4⟩
end Go.Proofs.Ythhkocbfeiccdaa.at_
