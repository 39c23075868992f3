/- A region that draws its order, walked once in an order of ours: each operation either yields in every world that meets S, or is skipped, or comes up alone. Nothing of the program. -/
import Derived.Deep.RegionHeld3
namespace Go
section
variable {P : Program} {ops : Array Oper} {Q : Exit → Act → World → Prop} {S : World → Prop}

def nthO : List Oper → Nat → Option Oper
  | [], _ => none
  | o :: _, 0 => some o
  | _ :: r, i + 1 => nthO r i
theorem nthO_eq : ∀ (l : List Oper) (i : Nat), nthO l i = l[i]? := by
  intro l
  induction l with
  | nil => intro i; rfl
  | cons o r ih => intro i; cases i with
    | zero => rfl
    | succ i => exact ih i
/-- what is to be shown of the operations from here on; true: it comes up alone -/
def HP (P : Program) (ops : Array Oper) (Q : Exit → Act → World → Prop) (S : World → Prop) : List (Nat × Bool) → Act → World → Prop
  | [], a, w => Q .normal a w
  | (i, f) :: l, a, w => ∃ o, nthO ops.toList i = some o ∧
    ((Region.wanted o (yielded ops a.tmps) = false ∧ HP P ops Q S l (a.put o.dst undef) w) ∨
    (Region.wanted o (yielded ops a.tmps) = true ∧
      if f = true then o.wp P a w (fun a' w' => S w' ∧ HP P ops Q S l a' w') Q
      else ∃ v, (∀ w, S w → (execOp a.eval o).run P w = .ok (.value v) w) ∧ HP P ops Q S l (a.put o.dst v) w))

theorem HP.skip {i : Nat} {o : Oper} {l : List (Nat × Bool)} {f : Bool} {a : Act} {w : World} (ho : nthO ops.toList i = some o) (hw : Region.wanted o (yielded ops a.tmps) = false)
    (h : HP P ops Q S l (a.put o.dst undef) w) : HP P ops Q S ((i, f) :: l) a w := ⟨o, ho, Or.inl ⟨hw, h⟩⟩
theorem HP.take {i : Nat} {o : Oper} {l : List (Nat × Bool)} {a : Act} {w : World} (v : Value) (ho : nthO ops.toList i = some o) (hw : Region.wanted o (yielded ops a.tmps) = true)
    (hy : ∀ w, S w → (execOp a.eval o).run P w = .ok (.value v) w) (h : HP P ops Q S l (a.put o.dst v) w) : HP P ops Q S ((i, false) :: l) a w :=
  ⟨o, ho, Or.inr ⟨hw, by rw [if_neg Bool.false_ne_true]; exact ⟨v, hy, h⟩⟩⟩
theorem HP.run {i : Nat} {o : Oper} {l : List (Nat × Bool)} {a : Act} {w : World} (ho : nthO ops.toList i = some o) (hw : Region.wanted o (yielded ops a.tmps) = true)
    (h : ∀ K : Act → World → Prop, Shut (∀ a w, S w → (S w → HP P ops Q S l a w) → K a w) → o.wp P a w K Q) : HP P ops Q S ((i, true) :: l) a w :=
  ⟨o, ho, Or.inr ⟨hw, by rw [if_pos rfl]; exact h _ (fun a w hS hW => ⟨hS, hW hS⟩)⟩⟩

/-- the plan fits the region's edges -/
def planP (md : Region.Mode) (ops : Array Oper) : List (Nat × Bool) → Array Bool → Bool
  | [], listed => (Region.ready md ops listed).isEmpty
  | (k, f) :: fs, listed => (if f then decide (Region.ready md ops listed = [k]) else (Region.ready md ops listed).contains k && Region.free md ops listed k) && planP md ops fs (listed.setIfInBounds k true)

theorem HP.sound {md : Region.Mode} (hsel : Region.noSelect ops = true) (hQ : ∀ c d v a w, Q (.panic c) (Act.put a d v) w → Q (.panic c) a w) :
    ∀ (l : List (Nat × Bool)) (listed : Array Bool) (a : Act) (w : World), planP md ops l listed = true → S w → HP P ops Q S l a w → wpAnyH P md ops Q S l.length listed a w := by
  intro l
  induction l with
  | nil => intro listed a w hB _ h; exact ⟨by simpa [planP] using hB, h⟩
  | cons x l ih =>
    intro listed a w hB hS h
    obtain ⟨k, f⟩ := x
    obtain ⟨o, h0, h⟩ := h
    rw [nthO_eq, Array.getElem?_toList] at h0
    simp only [planP, Bool.and_eq_true] at hB
    obtain ⟨hf, hB'⟩ := hB
    cases f with
    | false =>
      simp only [Bool.false_eq_true, if_false, Bool.and_eq_true] at hf
      rcases h with ⟨hw, h⟩ | ⟨hw, h⟩
      · exact wpAnyH_take h0 hsel hf.2 hf.1 (fun c a w => hQ c _ _ a w) (Or.inr ⟨hw, rfl⟩) hS (ih _ _ _ hB' hS h)
      · rw [if_neg Bool.false_ne_true] at h
        obtain ⟨v, hy, h⟩ := h
        exact wpAnyH_take h0 hsel hf.2 hf.1 (fun c a w => hQ c _ _ a w) (Or.inl ⟨hw, hy⟩) hS (ih _ _ _ hB' hS h)
    | true =>
      simp only [if_true, decide_eq_true_eq] at hf
      refine wpAnyH_all hf (by simp) fun i hi => ?_
      obtain rfl : i = k := by simpa using hi
      unfold wpOp
      simp only [h0]
      rcases h with ⟨hw, h⟩ | ⟨hw, h⟩
      · rw [if_neg (by rw [hw]; exact Bool.false_ne_true)]
        exact ⟨hS, ih _ _ _ hB' hS h⟩
      · rw [if_pos hw]
        rw [if_pos rfl] at h
        exact Or.inl (Oper.wp_mono (fun a' w' h' => ⟨h'.1, ih _ _ _ hB' h'.1 h'.2⟩) h)

theorem wp_region_order {id : Nat} {a : Act} {w : World} {l : List Oper} (fs : List (Nat × Bool)) (S : World → Prop) (hm : P.follows .mixedOrders = true)
    (hB : (Region.noSelect l.toArray && decide (fs.length = l.length) && planP .any l.toArray fs (Array.replicate l.toArray.size false)) = true)
    (hS : S w.drew) (h : S w.drew → HP P l.toArray (NoPanic Q) S fs a w.drew) : (Code.region id l.toArray true).wp P Q a w := by
  simp only [Bool.and_eq_true, decide_eq_true_eq] at hB
  obtain ⟨⟨hsel, hlen⟩, hB⟩ := hB
  refine wp_region_noPanic (wp_region_held (S := S) hm ?_)
  have := HP.sound (md := .any) hsel (fun _ _ _ _ _ h => h) fs (Array.replicate l.toArray.size false) a w.drew hB hS (h hS)
  rw [hlen] at this
  simpa using this
theorem HP.done {a : Act} {w : World} (h : Q .normal a w) : HP P ops (NoPanic Q) S [] a w := h
end
end Go
