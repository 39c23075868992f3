/- Slices whose elements are rows of k cells that stand for something. Nothing of the program. -/
import Derived.Test.YtbccejlemhgioaaCells
import Derived.Deep.SlicePairs
import Derived.WideShapes
import Derived.ChangeArms
import Derived.Lib.SmallJoins
namespace Go.Proofs.Ytbccejlemhgioaa.cl
open Go.RowKit Go.WideShapes Go.ChangeShapes

abbrev Rel (α : Type) := World → Nat → List Value → α → Prop
def Steady {α : Type} (R : Rel α) : Prop := ∀ (w w' : World) (B B' : Nat) (c : List Value) (x : α), R w B c x → Below B w w' → B ≤ B' → R w' B' c x
/-- v is a slice of elements of k cells, each of which stands for one of l -/
def RowsAt {α : Type} (k : Nat) (R : Rel α) (w : World) (B : Nat) (v : Value) (l : List α) : Prop :=
  ∃ cs : List (List Value), cs.length = l.length ∧ (∀ (j : Nat) (c : List Value) (x : α), cs[j]? = some c → l[j]? = some x → c.length = k ∧ R w B c x) ∧ Cells w B v l.length k cs.flatten

theorem flat_len {k : Nat} : ∀ cs : List (List Value), (∀ c ∈ cs, c.length = k) → cs.flatten.length = cs.length * k := by
  intro cs
  induction cs with
  | nil => intro _; simp
  | cons c cs ih =>
    intro h
    rw [List.flatten_cons, List.length_append, ih (fun x hx => h x (List.mem_cons_of_mem _ hx)), h c List.mem_cons_self, List.length_cons, Nat.succ_mul]; omega
theorem flat_get {k : Nat} : ∀ (cs : List (List Value)), (∀ c ∈ cs, c.length = k) → ∀ (j : Nat) (c : List Value) (i : Nat), cs[j]? = some c → i < k → cs.flatten[j * k + i]? = c[i]? := by
  intro cs
  induction cs with
  | nil => intro _ j c i h; simp at h
  | cons a cs ih =>
    intro h j c i hj hi
    have ha : a.length = k := h a List.mem_cons_self
    rw [List.flatten_cons]
    cases j with
    | zero =>
      simp only [List.getElem?_cons_zero, Option.some.injEq] at hj
      subst hj
      rw [Nat.zero_mul, Nat.zero_add, List.getElem?_append_left (by omega)]
    | succ j =>
      simp only [List.getElem?_cons_succ] at hj
      rw [Nat.succ_mul, List.getElem?_append_right (by omega), show j * k + k + i - a.length = j * k + i by omega]
      exact ih (fun x hx => h x (List.mem_cons_of_mem _ hx)) j c i hj hi
section
variable {α : Type} {k : Nat} {R : Rel α} {w w' : World} {B B' : Nat} {v : Value} {l : List α}
theorem RowsAt.len {cs : List (List Value)} (h0 : cs.length = l.length) (h : ∀ (j : Nat) (c : List Value) (x : α), cs[j]? = some c → l[j]? = some x → c.length = k ∧ R w B c x) : ∀ c ∈ cs, c.length = k := by
  intro c hc
  obtain ⟨j, hj, rfl⟩ := List.mem_iff_getElem.1 hc
  exact (h j _ l[j] (List.getElem?_eq_getElem hj) (List.getElem?_eq_getElem (by omega))).1
theorem RowsAt.below (hR : Steady R) (h : RowsAt k R w B v l) (hb : Below B w w') (hB : B ≤ B') : RowsAt k R w' B' v l := by
  obtain ⟨cs, h0, h1, h2⟩ := h
  exact ⟨cs, h0, fun j c x hc hx => ⟨(h1 j c x hc hx).1, hR _ _ _ _ _ _ (h1 j c x hc hx).2 hb hB⟩, (h2.below hb).mono hB⟩
theorem RowsAt.next (hR : Steady R) (h : RowsAt k R w w.heap.size v l) (hb : Below w.heap.size w w') : RowsAt k R w' w'.heap.size v l := h.below hR hb hb.size
theorem RowsAt.mono (hR : Steady R) (h : RowsAt k R w B v l) (hB : B ≤ B') : RowsAt k R w B' v l := h.below hR (Below.refl _ _) hB
theorem RowsAt.form (h : RowsAt k R w B v l) : ∃ ao cap, v = .slice ao l.length cap ∧ l.length ≤ cap ∧ l.length ≤ maxLen := h.choose_spec.2.2.form
theorem RowsAt.form' (h : RowsAt k R w B v l) {n : Nat} (hn : n = l.length) : ∃ ao cap, v = .slice ao n cap ∧ n ≤ cap ∧ n ≤ maxLen := by subst hn; exact h.form
theorem RowsAt.nil (w : World) (B : Nat) : RowsAt k R w B (.slice none 0 0) [] := ⟨[], rfl, fun j c x hc => by simp at hc, Cells.nil _ _ _⟩
theorem RowsAt.get {ao : Option Addr} {n cap : Nat} (h : RowsAt k R w B (.slice ao n cap) l) (hn : n = l.length) {j : Nat} (hj : j < n) (d : α) :
    ∃ b off c, ao = some ⟨b, off, none⟩ ∧ b < B ∧ c.length = k ∧ R w B c (l.getD j d) ∧ ∀ (i : Nat) u, c[i]? = some u → w.cell? ⟨b, off + j * k + i, none⟩ = some u := by
  subst hn
  obtain ⟨cs, h0, h1, h2⟩ := h
  have hk := RowsAt.len h0 h1
  obtain ⟨_, ao', c', e, _, _, h4⟩ := h2
  simp only [Value.slice.injEq] at e
  obtain ⟨rfl, _, rfl⟩ := e
  obtain ⟨b, off, rfl, hB, hc⟩ := h4 (by omega)
  have hcj : cs[j]? = some cs[j] := List.getElem?_eq_getElem (by omega)
  have hlj : l[j]? = some l[j] := List.getElem?_eq_getElem hj
  have e : l.getD j d = l[j] := by simp [List.getD, hlj]
  obtain ⟨g1, g2⟩ := h1 j _ _ hcj hlj
  refine ⟨b, off, cs[j], rfl, hB, g1, by rw [e]; exact g2, fun i u hu => ?_⟩
  have hi : i < k := by have := (List.getElem?_eq_some_iff.1 hu).1; omega
  rw [Nat.add_assoc]
  exact hc _ u (by rw [flat_get cs hk j _ i hcj hi]; exact hu)
/-- what the call owns -/
theorem RowsAt.own {base : Nat} {e : TypeId} {n : Nat} {cs : List (List Value)} (hn : n = l.length) (h0 : cs.length = l.length) (h1 : ∀ (j : Nat) (c : List Value) (x : α), cs[j]? = some c → l[j]? = some x → c.length = k ∧ R w w.heap.size c x) (h : w.ownsRow base e k v n cs.flatten) : RowsAt k R w w.heap.size v l := by
  subst hn; exact ⟨cs, h0, h1, Cells.own h⟩
end
/-- a slice within an argument -/
theorem open_rows {α H : Type} {enc : TypeId × Value → H} {P : Program} {W : World} {t e : TypeId} {fuel k : Nat} {v : Value} {x : DataW H × List MemPlace} {R : Rel α} {wf : α → Prop} [Inhabited α] (ht : P.underlying t = some (.slice e)) (ce : P.cellsOf e = k) (hk : 0 < k)
    (hel : ∀ (f : Nat) (cs : List Value) (y : DataW H × List MemPlace), cs.length = k → DataW.trod enc P W 0 (fun _ => true) true f e cs = some y → ∃ a : α, R W W.heap.size cs a ∧ wf a)
    (hf : DataW.trod enc P W 0 (fun _ => true) true fuel t [v] = some x) : ∃ l : List α, RowsAt k R W W.heap.size v l ∧ ∀ a ∈ l, wf a := by
  rcases Deep.open_slice ht hf with ⟨hcs, _⟩ | ⟨a, len, cap, m, n, D0, P0, hcs, _, hle, hmax, hm, _, hcell⟩
  · obtain rfl := (List.cons.inj hcs).1
    exact ⟨[], RowsAt.nil _ _, by simp⟩
  · obtain rfl := (List.cons.inj hcs).1
    subst ce
    have hml : len ≤ m := by rw [hm]; split <;> omega
    have each : ∀ i, i < len → ∃ z : List Value × α, z.1.length = P.cellsOf e ∧ (∀ j, j < P.cellsOf e → W.cell? (a.add (i * P.cellsOf e + j)) = z.1[j]?) ∧ R W W.heap.size z.1 z.2 ∧ wf z.2 := fun i hi => by
      obtain ⟨cs', h1, h2⟩ := hcell i (by omega)
      obtain ⟨_, hlen, hc⟩ := World.cells?_some h1
      obtain ⟨y, hy, hw⟩ := hel _ cs' _ hlen h2
      refine ⟨(cs', y), hlen, fun j hj => ?_, hy, hw⟩
      have := hc j (by omega)
      rwa [Deep.add_add] at this
    obtain ⟨f, hf⟩ := Deep.choose_lt each
    have hl : ((List.range len).map fun i => (f i).2).length = len := by simp
    have hl1 : ((List.range len).map fun i => (f i).1).length = len := by simp
    have hall : ∀ c ∈ (List.range len).map (fun i => (f i).1), c.length = P.cellsOf e := by
      intro c hc
      obtain ⟨i, hi, rfl⟩ := List.mem_map.1 hc
      exact (hf i (List.mem_range.1 hi)).1
    have hfl := flat_len _ hall
    refine ⟨(List.range len).map fun i => (f i).2, ⟨(List.range len).map fun i => (f i).1, by rw [hl, hl1], fun j c y hc hy => ?_, by rw [hfl, hl1, hl], some a, cap, by rw [hl], ⟨(fun e => by cases e), by omega⟩, by omega, fun hp => ?_⟩, fun y hy => ?_⟩
    · have hj : j < len := by have := (List.getElem?_eq_some_iff.1 hc).1; omega
      simp only [List.getElem?_map, List.getElem?_range hj, Option.map_some, Option.some.injEq] at hc hy
      subst hc
      subst hy
      exact ⟨(hf j hj).1, (hf j hj).2.2.1⟩
    · rw [hl] at hp
      obtain ⟨b, off, spot⟩ := a
      have h00 := (hf 0 (by omega)).2.1 0 hk
      have hx0 : (f 0).1[0]? = some ((f 0).1[0]'(by rw [(hf 0 (by omega)).1]; exact hk)) := List.getElem?_eq_getElem _
      rw [hx0] at h00
      have hspot : spot = none := by simpa [Addr.add] using World.cell?_spot h00
      subst hspot
      rw [Addr.add_lit] at h00
      refine ⟨b, off, rfl, World.block_lt_of_cell? _ _ h00, fun j u hj => ?_⟩
      have hjl : j < len * P.cellsOf e := by have := (List.getElem?_eq_some_iff.1 hj).1; rw [hfl, hl1] at this; exact this
      have hq : j / P.cellsOf e < len := Nat.div_lt_of_lt_mul (by rw [Nat.mul_comm]; exact hjl)
      have hr : j % P.cellsOf e < P.cellsOf e := Nat.mod_lt _ hk
      have hje : j / P.cellsOf e * P.cellsOf e + j % P.cellsOf e = j := Nat.div_add_mod' _ _
      have hg := flat_get _ hall (j / P.cellsOf e) (f (j / P.cellsOf e)).1 (j % P.cellsOf e) (by simp only [List.getElem?_map, List.getElem?_range hq, Option.map_some]) hr
      rw [hje] at hg
      rw [hg] at hj
      have := (hf (j / P.cellsOf e) hq).2.1 _ hr
      rw [hje, Addr.add_lit] at this
      rw [this]; exact hj
    · obtain ⟨i, hi, rfl⟩ := List.mem_map.1 hy
      exact (hf i (List.mem_range.1 hi)).2.2.2
end Go.Proofs.Ytbccejlemhgioaa.cl
