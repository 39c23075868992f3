/- a class as an argument. -/
import Derived.Test.YtbccejlemhgioaaRxCls
import Derived.Test.YtbccejlemhgioaaClose
import Derived.Laws.IdiomArrays
namespace Go.Proofs.Ytbccejlemhgioaa
open Go Go.RowKit Go.WideShapes Go.ChangeShapes cl rx
section
variable {H : Type} {enc : TypeId × Value → H} {W : World}
theorem wf_u64 {n : Int} (h : (Lit.int .u64 n).wf = true) : 0 ≤ n ∧ n < 18446744073709551616 := by
  have : 0 ≤ n ∧ n ≤ 18446744073709551615 := by simpa [Lit.wf, IntKind.min, IntKind.max, IntKind.signed, IntKind.bits] using h
  omega
theorem list4' {α : Type} (l : List α) (h : l.length = 4) : ∃ a b c d, l = [a, b, c, d] := by
  match l, h with
  | [a, b, c, d], _ => exact ⟨a, b, c, d, rfl⟩
theorem cls_cells : (Try.prog).cellsOf 25 = 4 := by kernel_rfl
theorem wrd_cells : (Try.prog).cellsOf 23 = 1 := by kernel_rfl
theorem open_cls {r : Reach} {b0 : Nat} {v : Value} {d : DataW H} {ps : List MemPlace} (hval : Value.okWide Try.prog W r b0 25 v) (hd : DataW.Trod enc Try.prog W 0 (fun _ => true) true 25 v d ps) :
    ∃ x : Cls, v = .agg #[.int .u64 x.a, .int .u64 x.b, .int .u64 x.c, .int .u64 x.d] ∧ x.ok := by
  obtain ⟨cs, rfl, hsz, _⟩ : ∃ cs, v = .agg cs ∧ cs.size = (Try.prog).cellsOf 25 ∧ Row.okWide Try.prog W r b0 25 cs := by
    simpa [Value.okWide, Try.underlying25] using hval
  rw [cls_cells] at hsz
  obtain ⟨l⟩ := cs
  obtain ⟨c0, c1, c2, c3, rfl⟩ := list4' l hsz
  obtain ⟨fuel, hf⟩ := hd
  obtain ⟨y0, y1, y2, y3, m, hx, hy0, hy1, hy2, hy3⟩ := trod_array4 Try.underlying25 wrd_cells hf
  obtain ⟨x0, e0, rfl, w0⟩ := DataW.trod_int Try.underlying23 hy0
  obtain ⟨x1, e1, rfl, w1⟩ := DataW.trod_int Try.underlying23 hy1
  obtain ⟨x2, e2, rfl, w2⟩ := DataW.trod_int Try.underlying23 hy2
  obtain ⟨x3, e3, rfl, w3⟩ := DataW.trod_int Try.underlying23 hy3
  simp at e0 e1 e2 e3
  subst e0 e1 e2 e3
  have v0 := wf_u64 w0
  have v1 := wf_u64 w1
  have v2 := wf_u64 w2
  have v3 := wf_u64 w3
  refine ⟨⟨x0.toNat, x1.toNat, x2.toNat, x3.toNat⟩, ?_, by unfold Cls.ok; refine ⟨?_, ?_, ?_, ?_⟩ <;> simp only <;> omega⟩
  simp only [Int.toNat_of_nonneg v0.1, Int.toNat_of_nonneg v1.1, Int.toNat_of_nonneg v2.1, Int.toNat_of_nonneg v3.1]
end
end Go.Proofs.Ytbccejlemhgioaa
