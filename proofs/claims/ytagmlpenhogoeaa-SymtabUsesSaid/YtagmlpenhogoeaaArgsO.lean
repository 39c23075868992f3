/- Slices of calls (two whole numbers and a text), as they lie and as arguments. -/
import Derived.Test.YtagmlpenhogoeaaCells
import Derived.Deep.SlicePairs
import Derived.WideShapes
import Derived.ChangeArms
import Derived.Lib.SmallJoins
namespace Go.Proofs.Ytagmlpenhogoeaa
open Go.RowKit Go.WideShapes Go.ChangeShapes cl

abbrev Op3 := Int × Int × ByteArray
def ocells (l : List Op3) : List Value := l.flatMap fun x => [.int .i64 x.1, .int .i64 x.2.1, .string x.2.2]
theorem ocells_cons (x : Op3) (l : List Op3) : ocells (x :: l) = .int .i64 x.1 :: .int .i64 x.2.1 :: .string x.2.2 :: ocells l := rfl
theorem ocells_len : ∀ l : List Op3, (ocells l).length = l.length * 3 := by
  intro l
  induction l with
  | nil => rfl
  | cons x l ih => rw [ocells_cons, List.length_cons, List.length_cons, List.length_cons, ih, List.length_cons]; omega
theorem ocells_get : ∀ (l : List Op3) (j : Nat), j < l.length → (ocells l)[j * 3]? = some (.int .i64 (l.getD j (0, 0, .empty)).1) ∧ (ocells l)[j * 3 + 1]? = some (.int .i64 (l.getD j (0, 0, .empty)).2.1) ∧ (ocells l)[j * 3 + 2]? = some (.string (l.getD j (0, 0, .empty)).2.2) := by
  intro l
  induction l with
  | nil => intro j h; simp at h
  | cons x l ih =>
    intro j h
    rw [ocells_cons]
    cases j with
    | zero => exact ⟨rfl, rfl, rfl⟩
    | succ j =>
      have := ih j (by simpa using h)
      rw [Nat.succ_mul]
      simpa using this
abbrev Ops (w : World) (B : Nat) (v : Value) (l : List Op3) : Prop := Cells w B v l.length 3 (ocells l)
theorem Ops.get {w : World} {B n c : Nat} {ao : Option Addr} {l : List Op3} (h : Ops w B (.slice ao n c) l) (hn : n = l.length) {j : Nat} (hj : j < n) : ∃ b off, ao = some ⟨b, off, none⟩ ∧ b < B ∧
    w.cell? ⟨b, off + j * 3, none⟩ = some (.int .i64 (l.getD j (0, 0, .empty)).1) ∧ w.cell? ⟨b, off + j * 3 + 1, none⟩ = some (.int .i64 (l.getD j (0, 0, .empty)).2.1) ∧ w.cell? ⟨b, off + j * 3 + 2, none⟩ = some (.string (l.getD j (0, 0, .empty)).2.2) := by
  subst hn
  obtain ⟨_, ao', c', e, _, _, h4⟩ := h
  simp only [Value.slice.injEq] at e
  obtain ⟨rfl, _, rfl⟩ := e
  obtain ⟨b, off, rfl, hB, hc⟩ := h4 (by omega)
  obtain ⟨g0, g1, g2⟩ := ocells_get l j hj
  exact ⟨b, off, rfl, hB, hc _ _ g0, hc _ _ g1, hc _ _ g2⟩
theorem open_ops {H : Type} {enc : TypeId × Value → H} {P : Program} {W : World} {r : Reach} {b0 : Nat} {t e : TypeId} {f0 f1 f2 : Field} {v : Value} {d : DataW H} {ps : List MemPlace} (ht : P.underlying t = some (.slice e)) (he : P.underlying e = some (.struct #[f0, f1, f2]))
    (ce : P.cellsOf e = 3) (o0 : f0.offset = 0) (o1 : f1.offset = 1) (o2 : f2.offset = 2) (c0 : P.cellsOf f0.type = 1) (c1 : P.cellsOf f1.type = 1) (c2 : P.cellsOf f2.type = 1) (s0 : P.underlying f0.type = some (.int .i64)) (s1 : P.underlying f1.type = some (.int .i64)) (s2 : P.underlying f2.type = some .string)
    (hval : Value.okWide P W r b0 t v) (hd : DataW.Trod enc P W 0 (fun _ => true) true t v d ps) : ∃ l : List Op3, Ops W W.heap.size v l ∧ ∀ x ∈ l, (Lit.int .i64 x.1).wf = true ∧ (Lit.int .i64 x.2.1).wf = true ∧ x.2.2.size ≤ maxLen := by
  obtain ⟨a0, len, cap, rfl⟩ := okWide_slice ht hval
  obtain ⟨fuel, hf⟩ := hd
  rcases Deep.open_slice ht hf with ⟨hcs, _⟩ | ⟨a, len', cap', m, n, D, Pl, hcs, _, hle, hmax, hm, _, hx⟩
  · simp [Value.cells] at hcs
    obtain ⟨rfl, rfl, rfl⟩ := hcs
    exact ⟨[], Cells.nil _ _ _, by simp⟩
  · simp [Value.cells] at hcs
    obtain ⟨rfl, rfl, rfl⟩ := hcs
    have hml : len ≤ m := by rw [hm]; split <;> omega
    have each : ∀ i, i < len → ∃ x : Op3, W.cell? (a.add (i * 3)) = some (.int .i64 x.1) ∧ W.cell? (a.add (i * 3 + 1)) = some (.int .i64 x.2.1) ∧ W.cell? (a.add (i * 3 + 2)) = some (.string x.2.2) ∧ (Lit.int .i64 x.1).wf = true ∧ (Lit.int .i64 x.2.1).wf = true ∧ x.2.2.size ≤ maxLen := fun i hi => by
      obtain ⟨cs', h1, h2⟩ := hx i (by omega)
      rw [ce] at h1
      obtain ⟨_, hlen, hcell⟩ := World.cells?_some h1
      obtain ⟨xs, k, hk, hxy, _, hxl, hf⟩ := DataW.trod_struct he h2
      match xs, hxl, cs', hlen with
      | [y0, y1, y2], _, [v0, v1, v2], _ =>
        have g0 := hf 0 f0 rfl
        have g1 := hf 1 f1 rfl
        have g2 := hf 2 f2 rfl
        simp [o0, o1, o2, c0, c1, c2] at g0 g1 g2
        have e0 := hcell 0 (by omega)
        have e1 := hcell 1 (by omega)
        have e2 := hcell 2 (by omega)
        rw [Deep.add_add] at e0 e1 e2
        obtain ⟨x, ex, _, sx⟩ := DataW.trod_int s0 g0
        obtain ⟨y, ey, _, sy⟩ := DataW.trod_int s1 g1
        obtain ⟨z, ez, _, sz⟩ := DataW.trod_string s2 g2
        simp only [List.cons.injEq, and_true] at ex ey ez
        subst ex
        subst ey
        subst ez
        exact ⟨(x, y, z), by simpa using e0, by simpa using e1, by simpa using e2, sx, sy, sz⟩
    have hf : ∃ f : Nat → Op3, ∀ i, i < len → W.cell? (a.add (i * 3)) = some (.int .i64 (f i).1) ∧ W.cell? (a.add (i * 3 + 1)) = some (.int .i64 (f i).2.1) ∧ W.cell? (a.add (i * 3 + 2)) = some (.string (f i).2.2) ∧ (Lit.int .i64 (f i).1).wf = true ∧ (Lit.int .i64 (f i).2.1).wf = true ∧ (f i).2.2.size ≤ maxLen := by
      refine ⟨fun i => if h : i < len then (each i h).choose else (0, 0, .empty), fun i hi => ?_⟩
      simp only [dif_pos hi]
      exact (each i hi).choose_spec
    obtain ⟨f, hf⟩ := hf
    have hl : ((List.range len).map f).length = len := by simp
    refine ⟨(List.range len).map f, ⟨by rw [ocells_len], some a, cap, by rw [hl], ⟨(fun e => by cases e), by omega⟩, by omega, fun hp => ?_⟩, fun x hx => ?_⟩
    · rw [hl] at hp
      obtain ⟨b, off, spot⟩ := a
      have h0 := (hf 0 (by omega)).1
      have hspot : spot = none := by simpa [Addr.add] using World.cell?_spot h0
      subst hspot
      refine ⟨b, off, rfl, World.block_lt_of_cell? _ _ h0, fun j u hj => ?_⟩
      have hjl : j < len * 3 := by have := (List.getElem?_eq_some_iff.1 hj).1; rw [ocells_len, hl] at this; exact this
      obtain ⟨g0, g1, g2⟩ := ocells_get ((List.range len).map f) (j / 3) (by rw [hl]; omega)
      have hfj : ((List.range len).map f).getD (j / 3) (0, 0, .empty) = f (j / 3) := by simp [List.getD, show j / 3 < len by omega]
      rw [hfj] at g0 g1 g2
      obtain ⟨k0, k1, k2, _⟩ := hf (j / 3) (by omega)
      rw [Addr.add_lit] at k0 k1 k2
      rcases (by omega : j % 3 = 0 ∨ j % 3 = 1 ∨ j % 3 = 2) with hev | hev | hev
      · have ej : j / 3 * 3 = j := by omega
        rw [ej] at g0 k0
        rw [hj] at g0
        rw [k0]; exact g0.symm
      · have ej : j / 3 * 3 + 1 = j := by omega
        rw [ej] at g1 k1
        rw [hj] at g1
        rw [k1]; exact g1.symm
      · have ej : j / 3 * 3 + 2 = j := by omega
        rw [ej] at g2 k2
        rw [hj] at g2
        rw [k2]; exact g2.symm
    · obtain ⟨i, hi, rfl⟩ := List.mem_map.1 hx
      exact (hf i (List.mem_range.1 hi)).2.2.2
end Go.Proofs.Ytagmlpenhogoeaa
