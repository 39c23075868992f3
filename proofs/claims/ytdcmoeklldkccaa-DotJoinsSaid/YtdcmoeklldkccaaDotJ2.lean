/- words for law DotJoins: what both Adds, both Joins answer; a context stored whole into a new variable. -/
import Derived.Test.YtdcmoeklldkccaaDotRUnder
import Derived.Deep.MidRow
namespace Go.Proofs.Ytdcmoeklldkccaa
open Go Go.RowKit Go.ChangeShapes cl Go.Sort

def PA (a : dm.Ctx) (d : Dot) (c : dm.Ctx) : Prop := (valid d = true ∧ dm.Right a → dm.Is c (fun e => dm.Knows a e ∨ e = d) (a.2.length + 1)) ∧ (¬ (valid d = true ∧ dm.Right a) → c = a)
def PJ (a b c : dm.Ctx) : Prop := (dm.Right a ∧ dm.Right b → dm.Is c (fun e => dm.Knows a e ∨ dm.Knows b e) (a.2.length + b.2.length)) ∧ (¬ (dm.Right a ∧ dm.Right b) → c = a)
theorem PA.eq {a c c' : dm.Ctx} {d : Dot} (h : PA a d c) (h' : PA a d c') : c = c' := by
  by_cases hh : valid d = true ∧ dm.Right a
  · exact (h.1 hh).eq (h'.1 hh) fun _ => Iff.rfl
  · rw [h.2 hh, h'.2 hh]
theorem PJ.eq {a b c c' : dm.Ctx} (h : PJ a b c) (h' : PJ a b c') : c = c' := by
  by_cases hh : dm.Right a ∧ dm.Right b
  · exact (h.1 hh).eq (h'.1 hh) fun _ => Iff.rfl
  · rw [h.2 hh, h'.2 hh]
theorem PJ.len {a b c : dm.Ctx} (h : PJ a b c) : c.2.length ≤ a.2.length + b.2.length := by
  by_cases hh : dm.Right a ∧ dm.Right b
  · exact (h.1 hh).len2
  · rw [h.2 hh]; omega
/-- an answer that is a context of a kind -/
def CSay (S : dm.Ctx → Prop) (w : World) (e : Ending) (w' : World) : Prop := ∃ x1 x2 x3 x4 x5 x6 c, e = .returned (.agg #[.slice x1 x2 x3, .slice x4 x5 x6]) ∧ CtxAt w' w'.heap.size (.agg #[.slice x1 x2 x3, .slice x4 x5 x6]) c ∧ S c ∧ Below w.heap.size w w'
theorem csay {S : dm.Ctx → Prop} {w w' : World} {v : Value} {c : dm.Ctx} (h : CtxAt w' w'.heap.size v c) (hs : S c) (hb : Below w.heap.size w w') : CSay S w (.returned v) w' := by
  obtain ⟨x1, x2, x3, x4, x5, x6, rfl, _, _⟩ := h.form
  exact ⟨_, _, _, _, _, _, c, rfl, h, hs, hb⟩
theorem add_says (a : dm.Ctx) (d : Dot) (v : Value) (w : World) (h : CtxAt w w.heap.size v a) (hl : a.2.length ≤ 1000) : Calls Try.prog 20 #[v, .agg #[.int .i64 d.1, .int .i64 d.2]] w (CSay (PA a d) w) := by
  by_cases hh : valid d = true ∧ dm.Right a
  · refine (add_yes a d v w h hh.1 hh.2 (by omega)).mono ?_
    rintro e w' ⟨v', c, rfl, h1, h2, h3⟩
    exact csay h1 ⟨fun _ => h2, fun hn => absurd hh hn⟩ h3
  · refine (add_no a d v w h hh).mono ?_
    rintro e w' ⟨rfl, hb⟩
    exact csay (h.next hb) ⟨fun h2 => absurd h2 hh, fun _ => rfl⟩ hb
theorem radd_says (a : dm.Ctx) (d : Dot) (v : Value) (w : World) (h : CtxAt w w.heap.size v a) (hl1 : a.1.length ≤ 1000) (hl : a.2.length ≤ 1000) : Calls Try.prog 21 #[v, .agg #[.int .i64 d.1, .int .i64 d.2]] w (CSay (PA a d) w) := by
  refine (radd_any a d v w h hl1 (by omega)).mono ?_
  rintro e w' ⟨v', c, rfl, ho, h1, h2, hb⟩
  exact csay ho.at ⟨h1, h2⟩ hb
theorem join_says (a b : dm.Ctx) (va vb : Value) (w : World) (ha : CtxAt w w.heap.size va a) (hb : CtxAt w w.heap.size vb b) (hla : a.2.length ≤ 1000) (hlb : b.2.length ≤ 1000) : Calls Try.prog 22 #[va, vb] w (CSay (PJ a b) w) := by
  by_cases hh : dm.Right a ∧ dm.Right b
  · refine (join_yes a b va vb w ha hb hh.1 hh.2 (by omega) (by omega)).mono ?_
    rintro e w' ⟨v', c, rfl, h1, h2, h3⟩
    exact csay h1 ⟨fun _ => h2, fun hn => absurd hh hn⟩ h3
  · refine (join_no a b va vb w ha hb hh).mono ?_
    rintro e w' ⟨rfl, hb'⟩
    exact csay (ha.next hb') ⟨fun h2 => absurd h2 hh, fun _ => rfl⟩ hb'
theorem rjoin_says (a b : dm.Ctx) (va vb : Value) (w : World) (ha : CtxAt w w.heap.size va a) (hb : CtxAt w w.heap.size vb b) (hla1 : a.1.length ≤ 1000) (hla : a.2.length ≤ 1000) (hlb : b.2.length ≤ 1000) : Calls Try.prog 23 #[va, vb] w (CSay (PJ a b) w) := by
  refine (rjoin_any a b va vb w ha hb (by omega) (by omega) (by omega)).mono ?_
  rintro e w' ⟨v', c, rfl, ho, h1, h2, hb'⟩
  exact csay ho.at ⟨h1, h2⟩ hb'
/-- a new, empty variable of a context's kind -/
structure NB (B : Nat) (w : World) (g : Nat) : Prop where
  lo : B ≤ g
  lt : g < w.heap.size
  r0 : w.cell? ⟨g, 0, none⟩ = some (.slice none 0 0)
  r1 : w.cell? ⟨g, 1, none⟩ = some (.slice none 0 0)
  f0 : w.frozen? ⟨g, 0, none⟩ = false
  f1 : w.frozen? ⟨g, 1, none⟩ = false
  no : ∀ k x, w.cell? ⟨g, k, none⟩ ≠ some (.int .i64 x)
theorem NB.new {B : Nat} {w : World} (h : B ≤ w.heap.size) : NB B (w.alloc (.cells #[.slice none 0 0, .slice none 0 0] 24)) w.heap.size := by
  refine ⟨h, by simp, World.cell?_alloc_at _ _ _ _ rfl, World.cell?_alloc_at _ _ _ _ rfl, World.frozen?_alloc_at _ _ _ _ rfl, World.frozen?_alloc_at _ _ _ _ rfl, fun k x e => ?_⟩
  rw [World.cell?_alloc_at _ _ _ _ rfl] at e
  match k, e with
  | 0, e => simp at e
  | 1, e => simp at e
  | k + 2, e => simp at e
theorem NB.next {B g : Nat} {w w' : World} (h : NB B w g) (hT : Below w.heap.size w w') : NB B w' g :=
  ⟨h.lo, Nat.lt_of_lt_of_le h.lt hT.size, (hT.cell (p := ⟨g, 0, none⟩) h.lt).trans h.r0, (hT.cell (p := ⟨g, 1, none⟩) h.lt).trans h.r1, (hT.frozen (p := ⟨g, 0, none⟩) h.lt).trans h.f0, (hT.frozen (p := ⟨g, 1, none⟩) h.lt).trans h.f1,
    fun k x e => h.no k x ((hT.cell (p := ⟨g, k, none⟩) h.lt).symm.trans e)⟩
/-- nothing of a number's kind was changed -/
def Keeps (w w' : World) : Prop := (∀ b k x, w.cell? ⟨b, k, none⟩ = some (.int .i64 x) → w'.cell? ⟨b, k, none⟩ = some (.int .i64 x)) ∧ w.heap.size ≤ w'.heap.size
theorem Dots.keep {w w' : World} {v : Value} {l : List Dot} (h : Dots w w.heap.size v l) (hk : Keeps w w') : Dots w' w'.heap.size v l := by
  obtain ⟨h0, ao, cap, rfl, h1, h3, h2⟩ := h
  refine ⟨h0, ao, cap, rfl, h1, h3, fun hp => ?_⟩
  obtain ⟨b, off, e, hB, hc⟩ := h2 hp
  refine ⟨b, off, e, Nat.lt_of_lt_of_le hB hk.2, fun j u hj => ?_⟩
  have hm := List.mem_of_getElem? hj
  simp only [dcells, List.mem_flatMap, List.mem_cons, List.not_mem_nil, or_false] at hm
  obtain ⟨x, _, rfl | rfl⟩ := hm
  · exact hk.1 _ _ _ (hc j _ hj)
  · exact hk.1 _ _ _ (hc j _ hj)
theorem CtxAt.keep {w w' : World} {v : Value} {c : dm.Ctx} (h : CtxAt w w.heap.size v c) (hk : Keeps w w') : CtxAt w' w'.heap.size v c := by
  obtain ⟨v1, v2, rfl, h1, h2⟩ := h
  exact ⟨v1, v2, rfl, Dots.keep h1 hk, Dots.keep h2 hk⟩
theorem infoCtx : (Try.prog.info? 24).map (·.size) = some 2 := by kernel_rfl
/-- what a context's store leaves -/
structure Stored (w w' : World) (g : Nat) (x1 : Option Addr) (x2 x3 : Nat) (x4 : Option Addr) (x5 x6 : Nat) : Prop where
  r0 : w'.cell? ⟨g, 0, none⟩ = some (.slice x1 x2 x3)
  r1 : w'.cell? ⟨g, 1, none⟩ = some (.slice x4 x5 x6)
  out : ∀ p : Addr, p.block ≠ g → w'.cell? p = w.cell? p
  froz : ∀ p, w'.frozen? p = w.frozen? p
  size : w'.heap.size = w.heap.size
  below : ∀ B, B ≤ g → Below B w w'
  keeps : Keeps w w'
theorem store_ctx {ops : Array Oper} {rest : List Oper} {op : Oper} {a : Act} {w : World} {Q : Exit → Act → World → Prop} (hgd : op.guard = none) (x y : Operand) (ho : op.op = .store 24 x y)
    (g : Nat) (hx : a.eval x = .pointer (some ⟨g, 0, none⟩)) {x1 : Option Addr} {x2 x3 : Nat} {x4 : Option Addr} {x5 x6 : Nat} (hy : a.eval y = .agg #[.slice x1 x2 x3, .slice x4 x5 x6]) {B : Nat} (hk : NB B w g)
    (h : ∀ w', Stored w w' g x1 x2 x3 x4 x5 x6 → wpList Try.prog ops Q rest (a.put op.dst undef) w') : wpList Try.prog ops Q (op :: rest) a w := by
  have ht : ∀ j, j < 2 → (w.cell? ⟨g, 0 + j, none⟩).isSome = true ∧ w.frozen? ⟨g, 0 + j, none⟩ = false := fun j hj => by
    match j, hj with
    | 0, _ => exact ⟨by rw [show (0 : Nat) + 0 = 0 from rfl, hk.r0]; rfl, hk.f0⟩
    | 1, _ => exact ⟨by rw [show (0 : Nat) + 1 = 1 from rfl, hk.r1]; rfl, hk.f1⟩
  refine wpList_store_mid hgd _ x y ho g 0 #[.slice x1 x2 x3, .slice x4 x5 x6] hx hy ht (by rw [infoCtx]; rfl) (all_oneCell_toArray (cs := [.slice x1 x2 x3, .slice x4 x5 x6]) fun v hv => by
    simp only [List.mem_cons, List.not_mem_nil, or_false] at hv
    rcases hv with rfl | rfl <;> rfl) ?_
  have hin := World.cell?_setCells_in g [.slice x1 x2 x3, .slice x4 x5 x6] 0 w (fun j hj => (ht j hj).1)
  have hout : ∀ p : Addr, p.block ≠ g → (w.setCells g 0 [.slice x1 x2 x3, .slice x4 x5 x6]).cell? p = w.cell? p := fun p hp => World.cell?_setCells_out g _ 0 w p (fun e _ => absurd e hp)
  refine h _ ⟨hin 0 (by simp), hin 1 (by simp), hout, fun p => frozen_setCells _ _ _ _ _, size_setCells _ _ _ _, fun B hB => below_setCells hB _ _ _ (Below.refl _ _), fun b k z e => ?_, Nat.le_of_eq (size_setCells _ _ _ _).symm⟩
  by_cases hb : b = g
  · subst hb; exact absurd e (hk.no k z)
  · exact (hout ⟨b, k, none⟩ hb).trans e
theorem NB.far {B g g' : Nat} {w w' : World} {x1 : Option Addr} {x2 x3 : Nat} {x4 : Option Addr} {x5 x6 : Nat} (h : NB B w g) (hne : g ≠ g') (hs : Stored w w' g' x1 x2 x3 x4 x5 x6) : NB B w' g :=
  ⟨h.lo, by rw [hs.size]; exact h.lt, (hs.out _ hne).trans h.r0, (hs.out _ hne).trans h.r1, (hs.froz _).trans h.f0, (hs.froz _).trans h.f1, fun k x e => h.no k x ((hs.out _ hne).symm.trans e)⟩
end Go.Proofs.Ytdcmoeklldkccaa
