/- An argument of type [][]int, opened. -/
import Derived.Test.YtojngbobecdpeaaArgs
import Derived.Test.YtojngbobecdpeaaRows6
import Derived.Deep.Matrix
namespace Go.Proofs.Ytojngbobecdpeaa
open Go.RowKit Go.WideShapes Go.ChangeShapes at_

theorem open_lrows {H : Type} {enc : TypeId × Value → H} {P : Program} {W : World} {r : Reach} {b0 : Nat} {t e q : TypeId} {v : Value} {d : DataW H} {ps : List MemPlace} (ht : P.underlying t = some (.slice e)) (he : P.underlying e = some (.slice q)) (hq : P.underlying q = some (.int .i64)) (ce : P.cellsOf e = 1) (cq : P.cellsOf q = 1)
    (hval : Value.okWide P W r b0 t v) (hd : DataW.Trod enc P W 0 (fun _ => true) true t v d ps) : ∃ ls : List (List Int), LRows W W.heap.size v ls := by
  obtain ⟨a0, len, cap, rfl⟩ := okWide_slice ht hval
  obtain ⟨fuel, hf⟩ := hd
  rcases Go.Deep.open_int_rows ht he hq ce cq hf with ⟨hcs, _⟩ | ⟨a, len', cap', A, L, C, Z, hcs, _, hle, hmax, _, hcell⟩
  · simp [Value.cells] at hcs
    obtain ⟨rfl, rfl, rfl⟩ := hcs
    exact ⟨[], none, 0, rfl, ⟨fun _ => rfl, Nat.le_refl _⟩, by simp, fun h => absurd h (by simp)⟩
  · simp [Value.cells] at hcs
    obtain ⟨rfl, rfl, rfl⟩ := hcs
    have hlen : ((List.range len).map fun j => (Z j).take (L j)).length = len := by simp
    refine ⟨(List.range len).map fun j => (Z j).take (L j), some a, cap, by rw [hlen], ⟨(fun e => by cases e), by omega⟩, by omega, fun hp => ?_⟩
    rw [hlen] at hp
    obtain ⟨b, off, spot⟩ := a
    have h0 := (hcell 0 (by omega)).1
    have hspot : spot = none := by simpa [Addr.add] using World.cell?_spot h0
    subst hspot
    refine ⟨b, off, rfl, by simpa [Addr.add] using cell_lt h0, fun j hj => ?_⟩
    rw [hlen] at hj
    obtain ⟨h1, h2, h3, h4, _, h6, h7⟩ := hcell j (by omega)
    refine ⟨_, by rw [← add_plain]; exact h1, ?_⟩
    have e1 : ((List.range len).map fun j => (Z j).take (L j)).getD j [] = (Z j).take (L j) := by simp [List.getD, hj]
    have e2 : ((Z j).take (L j)).length = L j := by rw [List.length_take]; omega
    rw [e1]
    refine ⟨A j, C j, by rw [e2], ⟨h6, by omega⟩, by omega, fun hp2 => ?_⟩
    rw [e2] at hp2
    cases hA : A j with
    | none => have := h6 hA; omega
    | some a' =>
      obtain ⟨_, h8⟩ := h7 a' hA
      obtain ⟨b2, o2, rfl, hat⟩ := Go.ints_at (k := .i64) (zs := Z j) (fun c hc => h8 c (by omega)) (by omega)
      refine ⟨b2, o2, rfl, by simpa using cell_lt (hat 0 (by omega)), fun c hc => ?_⟩
      have := hat c (by omega)
      rw [this]
      simp [List.getD, show c < L j by omega]
end Go.Proofs.Ytojngbobecdpeaa
