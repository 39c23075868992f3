/- A slice of dots within an argument. -/
import Derived.Test.YtdcmoeklldkccaaDotLk
import Derived.Deep.SlicePairs
import Derived.Lib.SmallJoins
namespace Go.Proofs.Ytdcmoeklldkccaa
open Go Go.RowKit Go.WideShapes Go.ChangeShapes cl

theorem dots_cells {H : Type} {enc : TypeId × Value → H} {P : Program} {W : World} {t e : TypeId} {f0 f1 : Field} {fuel : Nat} {v : Value} {x : DataW H × List MemPlace} (ht : P.underlying t = some (.slice e)) (he : P.underlying e = some (.struct #[f0, f1]))
    (ce : P.cellsOf e = 2) (o0 : f0.offset = 0) (o1 : f1.offset = 1) (c0 : P.cellsOf f0.type = 1) (c1 : P.cellsOf f1.type = 1) (s0 : P.underlying f0.type = some (.int .i64)) (s1 : P.underlying f1.type = some (.int .i64))
    (hf : DataW.trod enc P W 0 (fun _ => true) true fuel t [v] = some x) : ∃ l : List (Int × Int), Dots W W.heap.size v l ∧ ∀ x ∈ l, (Lit.int .i64 x.1).wf = true ∧ (Lit.int .i64 x.2).wf = true := by
  rcases Deep.open_slice_pairs ht he ce o0 o1 c0 c1 hf with ⟨hcs, _⟩ | ⟨a, len, cap, m, n, V0, V1, D0, D1, P0, P1, hcs, _, hle, hmax, hm, _, hcell⟩
  · obtain rfl := (List.cons.inj hcs).1
    exact ⟨[], Cells.nil _ _ _, by simp⟩
  · obtain rfl := (List.cons.inj hcs).1
    have hml : len ≤ m := by rw [hm]; split <;> omega
    have each : ∀ i, i < len → ∃ x : Int × Int, W.cell? (a.add (i * 2)) = some (.int .i64 x.1) ∧ W.cell? (a.add (i * 2 + 1)) = some (.int .i64 x.2) ∧ (Lit.int .i64 x.1).wf = true ∧ (Lit.int .i64 x.2).wf = true := fun i hi => by
      obtain ⟨h0, h1, t0, t1⟩ := hcell i (by omega)
      obtain ⟨x, ex, _, sx⟩ := DataW.trod_int s0 t0
      obtain ⟨y, ey, _, sy⟩ := DataW.trod_int s1 t1
      simp only [List.cons.injEq, and_true] at ex ey
      rw [ex] at h0
      rw [ey] at h1
      exact ⟨(x, y), h0, h1, sx, sy⟩
    have hf : ∃ f : Nat → Int × Int, ∀ i, i < len → W.cell? (a.add (i * 2)) = some (.int .i64 (f i).1) ∧ W.cell? (a.add (i * 2 + 1)) = some (.int .i64 (f i).2) ∧ (Lit.int .i64 (f i).1).wf = true ∧ (Lit.int .i64 (f i).2).wf = true := by
      refine ⟨fun i => if h : i < len then (each i h).choose else (0, 0), fun i hi => ?_⟩
      simp only [dif_pos hi]
      exact (each i hi).choose_spec
    obtain ⟨f, hf⟩ := hf
    have hl : ((List.range len).map f).length = len := by simp
    refine ⟨(List.range len).map f, ⟨by rw [dcells_len], some a, cap, by rw [hl], ⟨(fun e => by cases e), by omega⟩, by omega, fun hp => ?_⟩, fun x hx => ?_⟩
    · rw [hl] at hp
      obtain ⟨b, off, spot⟩ := a
      have h0 := (hf 0 (by omega)).1
      have hspot : spot = none := by simpa [Addr.add] using World.cell?_spot h0
      subst hspot
      refine ⟨b, off, rfl, World.block_lt_of_cell? _ _ h0, fun j u hj => ?_⟩
      have hjl : j < len * 2 := by have := (List.getElem?_eq_some_iff.1 hj).1; rw [dcells_len, hl] at this; exact this
      obtain ⟨g0, g1⟩ := dcells_get ((List.range len).map f) (j / 2) (by rw [hl]; omega)
      have hfj : ((List.range len).map f)[j / 2]'(by rw [hl]; omega) = f (j / 2) := by simp
      rw [hfj] at g0 g1
      obtain ⟨k0, k1, _, _⟩ := hf (j / 2) (by omega)
      rw [Addr.add_lit] at k0 k1
      by_cases hev : j % 2 = 0
      · have ej : j / 2 * 2 = j := by omega
        rw [ej] at g0 k0
        rw [hj] at g0
        rw [k0]; exact g0.symm
      · have ej : j / 2 * 2 + 1 = j := by omega
        rw [ej] at g1 k1
        rw [hj] at g1
        rw [k1]; exact g1.symm
    · obtain ⟨i, hi, rfl⟩ := List.mem_map.1 hx
      exact (hf i (List.mem_range.1 hi)).2.2
end Go.Proofs.Ytdcmoeklldkccaa
