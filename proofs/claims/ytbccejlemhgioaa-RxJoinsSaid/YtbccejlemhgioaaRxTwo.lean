/- a slice made of two patterns, as an operation of any region. -/
import Derived.Test.YtbccejlemhgioaaRxBase
namespace Go.Proofs.Ytbccejlemhgioaa
open Go Go.RowKit Go.ChangeShapes cl rx
set_option maxHeartbeats 8000000 in
set_option maxRecDepth 100000 in
theorem rtwo_run {ρ : Operand → Value} {d : Option Nat} {ty : TypeId} {ps : String} {af : Array Edge} {g : Option (Nat × Bool)} {i j : Nat} {a0 a1 a2 a3 a4 a5 a6 a7 b0 b1 b2 b3 b4 b5 b6 b7 : Value} {w : World} (hi : ρ (.tmp i) = .agg #[a0, a1, a2, a3, a4, a5, a6, a7]) (hj : ρ (.tmp j) = .agg #[b0, b1, b2, b3, b4, b5, b6, b7]) :
    (execOp ρ { dst := d, op := .buildSlice 26 2 #[(0, .tmp i), (1, .tmp j)], type := ty, pos := ps, after := af, guard := g }).run Try.prog w = .ok (.value (.slice (some ⟨w.heap.size, 0, none⟩) 2 2)) (w.alloc (.cells #[a0, a1, a2, a3, a4, a5, a6, a7, b0, b1, b2, b3, b4, b5, b6, b7] 28)) := by
  have hi2 := hi
  have hj2 := hj
  go_simp
theorem rtwo_wp {a : Act} {K : Act → World → Prop} {Q : Exit → Act → World → Prop} {d : Option Nat} {ty : TypeId} {ps : String} {af : Array Edge} {g : Option (Nat × Bool)} {i j : Nat} {a0 a1 a2 a3 a4 a5 a6 a7 b0 b1 b2 b3 b4 b5 b6 b7 : Value} {w : World} (hi : a.eval (.tmp i) = .agg #[a0, a1, a2, a3, a4, a5, a6, a7]) (hj : a.eval (.tmp j) = .agg #[b0, b1, b2, b3, b4, b5, b6, b7]) (h : K (a.put d (.slice (some ⟨w.heap.size, 0, none⟩) 2 2)) (w.alloc (.cells #[a0, a1, a2, a3, a4, a5, a6, a7, b0, b1, b2, b3, b4, b5, b6, b7] 28))) :
    Oper.wp Try.prog { dst := d, op := .buildSlice 26 2 #[(0, .tmp i), (1, .tmp j)], type := ty, pos := ps, after := af, guard := g } a w K Q := by
  unfold Oper.wp
  rw [rtwo_run hi hj]
  exact h
/-- two patterns in one block -/
theorem rows_two {d g : Nat} {W : World} {a0 a1 a2 a3 a4 a5 a6 a7 b0 b1 b2 b3 b4 b5 b6 b7 : Value} {x y : Pat} (hg : W.heap[g]? = some (.cells #[a0, a1, a2, a3, a4, a5, a6, a7, b0, b1, b2, b3, b4, b5, b6, b7] 28)) (hx : rxR d W W.heap.size [a0, a1, a2, a3, a4, a5, a6, a7] x) (hy : rxR d W W.heap.size [b0, b1, b2, b3, b4, b5, b6, b7] y) : RowsAt 8 (rxR d) W W.heap.size (.slice (some ⟨g, 0, none⟩) 2 2) [x, y] := by
  refine ⟨[[a0, a1, a2, a3, a4, a5, a6, a7], [b0, b1, b2, b3, b4, b5, b6, b7]], rfl, fun j c z hc hz => ?_, rfl, _, _, rfl, ⟨(fun e => by cases e), Nat.le_refl 2⟩, show 2 ≤ maxLen by unfold maxLen; decide, fun _ => ⟨g, 0, rfl, lt_of_block hg, fun j u hj => ?_⟩⟩
  · match j with
    | 0 =>
      simp only [List.getElem?_cons_zero, Option.some.injEq] at hc hz
      subst hc; subst hz
      exact ⟨rfl, hx⟩
    | 1 =>
      simp only [List.getElem?_cons_succ, List.getElem?_cons_zero, Option.some.injEq] at hc hz
      subst hc; subst hz
      exact ⟨rfl, hy⟩
    | j + 2 => simp at hc
  · rw [Nat.zero_add]
    exact boxc hg j u (by simpa using hj)
end Go.Proofs.Ytbccejlemhgioaa
