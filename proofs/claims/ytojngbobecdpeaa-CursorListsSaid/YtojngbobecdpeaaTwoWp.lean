/- a slice made of two structs of four cells, as an operation of any region. -/
import Derived.Test.YtojngbobecdpeaaCurZero
namespace Go.Proofs.Ytojngbobecdpeaa
open Go Go.RowKit Go.ChangeShapes at_ pm cl
set_option maxHeartbeats 4000000 in
set_option maxRecDepth 100000 in
theorem two_run {ρ : Operand → Value} {d : Option Nat} {ty : TypeId} {ps : String} {af : Array Edge} {g : Option (Nat × Bool)} {i j : Nat} {a1 a2 a3 a4 b1 b2 b3 b4 : Value} {w : World} (hi : ρ (.tmp i) = .agg #[a1, a2, a3, a4]) (hj : ρ (.tmp j) = .agg #[b1, b2, b3, b4]) :
    (execOp ρ { dst := d, op := .buildSlice 23 2 #[(0, .tmp i), (1, .tmp j)], type := ty, pos := ps, after := af, guard := g }).run Try.prog w = .ok (.value (.slice (some ⟨w.heap.size, 0, none⟩) 2 2)) (w.alloc (.cells #[a1, a2, a3, a4, b1, b2, b3, b4] 25)) := by
  have hi2 := hi
  have hj2 := hj
  go_simp
theorem two_wp {a : Act} {K : Act → World → Prop} {Q : Exit → Act → World → Prop} {d : Option Nat} {ty : TypeId} {ps : String} {af : Array Edge} {g : Option (Nat × Bool)} {i j : Nat} {a1 a2 a3 a4 b1 b2 b3 b4 : Value} {w : World} (hi : a.eval (.tmp i) = .agg #[a1, a2, a3, a4]) (hj : a.eval (.tmp j) = .agg #[b1, b2, b3, b4]) (h : K (a.put d (.slice (some ⟨w.heap.size, 0, none⟩) 2 2)) (w.alloc (.cells #[a1, a2, a3, a4, b1, b2, b3, b4] 25))) :
    Oper.wp Try.prog { dst := d, op := .buildSlice 23 2 #[(0, .tmp i), (1, .tmp j)], type := ty, pos := ps, after := af, guard := g } a w K Q := by
  unfold Oper.wp
  rw [two_run hi hj]
  exact h
end Go.Proofs.Ytojngbobecdpeaa
