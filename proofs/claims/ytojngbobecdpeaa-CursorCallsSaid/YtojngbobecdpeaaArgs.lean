/- An argument of type []int, opened. Nothing of the program. -/
import Derived.Test.YtojngbobecdpeaaAt
import Derived.Test.YtojngbobecdpeaaClose
namespace Go.Proofs.Ytojngbobecdpeaa.at_
open Go.RowKit Go.WideShapes Go.ChangeShapes

theorem cell_lt {w : World} {a : Addr} {v : Value} (h : w.cell? a = some v) : a.block < w.heap.size := by
  unfold World.cell? at h
  by_cases hb : a.block < w.heap.size
  · exact hb
  · rw [Array.getElem?_eq_none (by omega)] at h
    cases h
theorem open_at {H : Type} {enc : TypeId × Value → H} {P : Program} {W : World} {r : Reach} {b0 : Nat} {t e : TypeId} {v : Value} {d : DataW H} {ps : List MemPlace} (ht : P.underlying t = some (.slice e)) (he : P.underlying e = some (.int .i64)) (hc : P.cellsOf e = 1)
    (hval : Value.okWide P W r b0 t v) (hd : DataW.Trod enc P W 0 (fun _ => true) true t v d ps) : ∃ zs : List Int, At W W.heap.size v zs ∧ ∀ n ∈ zs, (Lit.int .i64 n).wf = true := by
  obtain ⟨a0, len, cap, rfl⟩ := okWide_slice ht hval
  obtain ⟨fuel, hf⟩ := hd
  rcases open_ints ht he hc hf with ⟨hcs, _⟩ | ⟨a, len', cap', zs, hcs, _, hle, hmax, hall, _, hcell, hwf⟩
  · simp [Value.cells] at hcs
    obtain ⟨rfl, rfl, rfl⟩ := hcs
    exact ⟨[], nil _ _, by simp⟩
  · simp [Value.cells] at hcs
    obtain ⟨rfl, rfl, rfl⟩ := hcs
    simp only [if_true] at hall
    have hlen : (zs.take len).length = len := by rw [List.length_take]; omega
    refine ⟨zs.take len, ⟨some a, cap, by rw [hlen], ⟨(fun e => by cases e), by omega⟩, by omega, fun hp => ?_⟩, fun n hn => hwf n (List.mem_of_mem_take hn)⟩
    obtain ⟨b, off, rfl, hat⟩ := Go.ints_at hcell (by omega)
    refine ⟨b, off, rfl, by simpa using cell_lt (hat 0 (by omega)), fun j hj => ?_⟩
    have := hat j (by omega)
    rw [this]
    simp [List.getD, show j < len by omega]
end Go.Proofs.Ytojngbobecdpeaa.at_
