/- Slices of labels, as they lie and as arguments. -/
import Derived.Test.YtpfjmomdnegcpaaCells
import Derived.Deep.SlicePairs
import Derived.WideShapes
import Derived.ChangeArms
namespace Go.Proofs.Ytpfjmomdnegcpaa
open Go.RowKit Go.WideShapes Go.ChangeShapes cl

abbrev Lab := ByteArray × ByteArray
def lcells (l : List Lab) : List Value := l.flatMap fun x => [.string x.1, .string x.2]
theorem lcells_len : ∀ l : List Lab, (lcells l).length = l.length * 2 := by
  intro l
  induction l with
  | nil => rfl
  | cons x l ih =>
    have e : lcells (x :: l) = .string x.1 :: .string x.2 :: lcells l := rfl
    rw [e, List.length_cons, List.length_cons, ih, List.length_cons]; omega
theorem lcells_get : ∀ (l : List Lab) (j : Nat) (h : j < l.length), (lcells l)[j * 2]? = some (.string l[j].1) ∧ (lcells l)[j * 2 + 1]? = some (.string l[j].2) := by
  intro l
  induction l with
  | nil => intro j h; simp at h
  | cons x l ih =>
    intro j h
    have e : lcells (x :: l) = .string x.1 :: .string x.2 :: lcells l := rfl
    rw [e]
    cases j with
    | zero => exact ⟨rfl, rfl⟩
    | succ j =>
      have := ih j (by simpa using h)
      rw [Nat.succ_mul]
      simpa using this
abbrev Labs (w : World) (B : Nat) (v : Value) (l : List Lab) : Prop := Cells w B v l.length 2 (lcells l)
theorem Labs.get {w : World} {B n c : Nat} {ao : Option Addr} {l : List Lab} (h : Labs w B (.slice ao n c) l) (hn : n = l.length) {j : Nat} (hj : j < n) : ∃ b off, ao = some ⟨b, off, none⟩ ∧ b < B ∧
    w.cell? ⟨b, off + j * 2, none⟩ = some (.string (l.getD j (.empty, .empty)).1) ∧ w.cell? ⟨b, off + j * 2 + 1, none⟩ = some (.string (l.getD j (.empty, .empty)).2) := by
  subst hn
  obtain ⟨_, ao', c', e, _, _, h4⟩ := h
  simp only [Value.slice.injEq] at e
  obtain ⟨rfl, _, rfl⟩ := e
  obtain ⟨b, off, rfl, hB, hc⟩ := h4 (by omega)
  obtain ⟨g0, g1⟩ := lcells_get l j hj
  have e : l.getD j (.empty, .empty) = l[j] := by simp [List.getD, hj]
  rw [e]
  exact ⟨b, off, rfl, hB, hc _ _ g0, hc _ _ g1⟩
theorem open_labs {H : Type} {enc : TypeId × Value → H} {P : Program} {W : World} {r : Reach} {b0 : Nat} {t e : TypeId} {f0 f1 : Field} {v : Value} {d : DataW H} {ps : List MemPlace} (ht : P.underlying t = some (.slice e)) (he : P.underlying e = some (.struct #[f0, f1]))
    (ce : P.cellsOf e = 2) (o0 : f0.offset = 0) (o1 : f1.offset = 1) (c0 : P.cellsOf f0.type = 1) (c1 : P.cellsOf f1.type = 1) (s0 : P.underlying f0.type = some .string) (s1 : P.underlying f1.type = some .string)
    (hval : Value.okWide P W r b0 t v) (hd : DataW.Trod enc P W 0 (fun _ => true) true t v d ps) : ∃ l : List Lab, Labs W W.heap.size v l ∧ ∀ x ∈ l, x.1.size ≤ maxLen ∧ x.2.size ≤ maxLen := by
  obtain ⟨a0, len, cap, rfl⟩ := okWide_slice ht hval
  obtain ⟨fuel, hf⟩ := hd
  rcases Deep.open_slice_pairs ht he ce o0 o1 c0 c1 hf with ⟨hcs, _⟩ | ⟨a, len', cap', m, n, V0, V1, D0, D1, P0, P1, hcs, _, hle, hmax, hm, _, hcell⟩
  · simp [Value.cells] at hcs
    obtain ⟨rfl, rfl, rfl⟩ := hcs
    exact ⟨[], Cells.nil _ _ _, by simp⟩
  · simp [Value.cells] at hcs
    obtain ⟨rfl, rfl, rfl⟩ := hcs
    have hml : len ≤ m := by rw [hm]; split <;> omega
    have each : ∀ i, i < len → ∃ x : Lab, W.cell? (a.add (i * 2)) = some (.string x.1) ∧ W.cell? (a.add (i * 2 + 1)) = some (.string x.2) ∧ x.1.size ≤ maxLen ∧ x.2.size ≤ maxLen := fun i hi => by
      obtain ⟨h0, h1, t0, t1⟩ := hcell i (by omega)
      obtain ⟨x, ex, _, sx⟩ := DataW.trod_string s0 t0
      obtain ⟨y, ey, _, sy⟩ := DataW.trod_string s1 t1
      simp only [List.cons.injEq, and_true] at ex ey
      rw [ex] at h0
      rw [ey] at h1
      exact ⟨(x, y), h0, h1, sx, sy⟩
    have hf : ∃ f : Nat → Lab, ∀ i, i < len → W.cell? (a.add (i * 2)) = some (.string (f i).1) ∧ W.cell? (a.add (i * 2 + 1)) = some (.string (f i).2) ∧ (f i).1.size ≤ maxLen ∧ (f i).2.size ≤ maxLen := by
      refine ⟨fun i => if h : i < len then (each i h).choose else (.empty, .empty), fun i hi => ?_⟩
      simp only [dif_pos hi]
      exact (each i hi).choose_spec
    obtain ⟨f, hf⟩ := hf
    have hl : ((List.range len).map f).length = len := by simp
    refine ⟨(List.range len).map f, ⟨by rw [lcells_len], some a, cap, by rw [hl], ⟨(fun e => by cases e), by omega⟩, by omega, fun hp => ?_⟩, fun x hx => ?_⟩
    · rw [hl] at hp
      obtain ⟨b, off, spot⟩ := a
      have h0 := (hf 0 (by omega)).1
      have hspot : spot = none := by simpa [Addr.add] using World.cell?_spot h0
      subst hspot
      refine ⟨b, off, rfl, World.block_lt_of_cell? _ _ h0, fun j u hj => ?_⟩
      have hjl : j < len * 2 := by have := (List.getElem?_eq_some_iff.1 hj).1; rw [lcells_len, hl] at this; exact this
      obtain ⟨g0, g1⟩ := lcells_get ((List.range len).map f) (j / 2) (by rw [hl]; omega)
      have hfj : ((List.range len).map f)[j / 2]'(by rw [hl]; omega) = f (j / 2) := by simp
      rw [hfj] at g0 g1
      obtain ⟨k0, k1, _, _⟩ := hf (j / 2) (by omega)
      rw [Addr.add_lit] at k0 k1
      by_cases hev : j % 2 = 0
      · have ej : j / 2 * 2 = j := by omega
        rw [ej] at g0 k0
        rw [hj] at g0
        rw [k0]; exact g0.symm
      · have ej : j / 2 * 2 + 1 = j := by omega
        rw [ej] at g1 k1
        rw [hj] at g1
        rw [k1]; exact g1.symm
    · obtain ⟨i, hi, rfl⟩ := List.mem_map.1 hx
      exact (hf i (List.mem_range.1 hi)).2.2
end Go.Proofs.Ytpfjmomdnegcpaa
