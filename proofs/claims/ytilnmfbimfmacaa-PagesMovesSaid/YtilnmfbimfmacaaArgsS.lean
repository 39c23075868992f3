/- Arguments of type []string and api.Page, opened. -/
import Derived.Test.YtilnmfbimfmacaaCells
import Derived.SliceStrings
import Derived.Lib.SmallJoins
import Derived.WideShapes
import Derived.ChangeArms
namespace Go.Proofs.Ytilnmfbimfmacaa
open Go.RowKit Go.WideShapes Go.ChangeShapes cl

theorem strs_cells {H : Type} {enc : TypeId × Value → H} {P : Program} {W : World} {t e : TypeId} {fuel : Nat} {v : Value} {x : DataW H × List MemPlace} (ht : P.underlying t = some (.slice e)) (he : P.underlying e = some .string) (ce : P.cellsOf e = 1)
    (hd : DataW.trod enc P W 0 (fun _ => true) true fuel t [v] = some x) : ∃ l : List ByteArray, Strs W W.heap.size v l := by
  rcases open_strings ht he ce hd with ⟨hcs, _⟩ | ⟨a, len, cap, ss, hcs, _, hle, hmax, hlen, _, hcell, _⟩
  · obtain rfl := (List.cons.inj hcs).1
    exact ⟨[], Cells.nil _ _ _⟩
  · obtain rfl := (List.cons.inj hcs).1
    simp only [if_true] at hlen
    have hl : (ss.take len).length = len := by rw [List.length_take]; omega
    refine ⟨ss.take len, by rw [strs_len, Nat.mul_one], some a, cap, by rw [hl], ⟨(fun e => by cases e), by omega⟩, by omega, fun hp => ?_⟩
    rw [hl] at hp
    obtain ⟨b, off, spot⟩ := a
    have h0 := hcell 0 (by omega)
    have hspot : spot = none := by simpa [Addr.add] using World.cell?_spot h0
    subst hspot
    refine ⟨b, off, rfl, World.block_lt_of_cell? _ _ h0, fun j u hj => ?_⟩
    have hjl : j < len := by have := (List.getElem?_eq_some_iff.1 hj).1; rw [strs_len, hl] at this; exact this
    rw [strs_get (by omega)] at hj
    obtain rfl := Option.some.inj hj
    have := hcell j (by omega)
    rw [Addr.add_lit] at this
    rw [this]
    simp [List.getD, hjl]
theorem open_strs_arg {H : Type} {enc : TypeId × Value → H} {P : Program} {W : World} {r : Reach} {b0 : Nat} {t e : TypeId} {v : Value} {d : DataW H} {ps : List MemPlace} (ht : P.underlying t = some (.slice e)) (he : P.underlying e = some .string) (ce : P.cellsOf e = 1)
    (hval : Value.okWide P W r b0 t v) (hd : DataW.Trod enc P W 0 (fun _ => true) true t v d ps) : ∃ l : List ByteArray, Strs W W.heap.size v l := by
  obtain ⟨a0, len, cap, rfl⟩ := okWide_slice ht hval
  obtain ⟨fuel, hf⟩ := hd
  exact strs_cells ht he ce hf
end Go.Proofs.Ytilnmfbimfmacaa
