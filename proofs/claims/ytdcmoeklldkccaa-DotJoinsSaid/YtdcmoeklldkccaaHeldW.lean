/- A region that draws its order, walked once in the order of the text: each operation either yields in every world that meets S, or is skipped, or comes up alone. Nothing of the program. -/
import Derived.Deep.RegionHeld3
namespace Go
section
variable {P : Program} {ops : Array Oper} {Q : Exit → Act → World → Prop} {S : World → Prop}

/-- what is to be shown of the operations from here on; true: it comes up alone -/
def HW (P : Program) (ops : Array Oper) (Q : Exit → Act → World → Prop) (S : World → Prop) : List Oper → List Bool → Act → World → Prop
  | [], _, a, w => Q .normal a w
  | _ :: _, [], _, _ => False
  | o :: l, f :: fs, a, w =>
    (Region.wanted o (yielded ops a.tmps) = false ∧ HW P ops Q S l fs (a.put o.dst undef) w) ∨
    (Region.wanted o (yielded ops a.tmps) = true ∧
      if f = true then o.wp P a w (fun a' w' => S w' ∧ HW P ops Q S l fs a' w') Q
      else ∃ v, (∀ w, S w → (execOp a.eval o).run P w = .ok (.value v) w) ∧ HW P ops Q S l fs (a.put o.dst v) w)

theorem HW.skip {o : Oper} {l : List Oper} {f : Bool} {fs : List Bool} {a : Act} {w : World} (hw : Region.wanted o (yielded ops a.tmps) = false)
    (h : HW P ops Q S l fs (a.put o.dst undef) w) : HW P ops Q S (o :: l) (f :: fs) a w := Or.inl ⟨hw, h⟩
theorem HW.take {o : Oper} {l : List Oper} {fs : List Bool} {a : Act} {w : World} (v : Value) (hw : Region.wanted o (yielded ops a.tmps) = true)
    (hy : ∀ w, S w → (execOp a.eval o).run P w = .ok (.value v) w) (h : HW P ops Q S l fs (a.put o.dst v) w) : HW P ops Q S (o :: l) (false :: fs) a w :=
  Or.inr ⟨hw, by rw [if_neg Bool.false_ne_true]; exact ⟨v, hy, h⟩⟩
theorem HW.run {o : Oper} {l : List Oper} {fs : List Bool} {a : Act} {w : World} (hw : Region.wanted o (yielded ops a.tmps) = true)
    (h : ∀ K : Act → World → Prop, Shut (∀ a w, S w → (S w → HW P ops Q S l fs a w) → K a w) → o.wp P a w K Q) : HW P ops Q S (o :: l) (true :: fs) a w :=
  Or.inr ⟨hw, by rw [if_pos rfl]; exact h _ (fun a w hS hW => ⟨hS, hW hS⟩)⟩

/-- the plan fits the region's edges -/
def planB (md : Region.Mode) (ops : Array Oper) : List Bool → Nat → Array Bool → Bool
  | [], _, listed => (Region.ready md ops listed).isEmpty
  | f :: fs, k, listed => (if f then decide (Region.ready md ops listed = [k]) else (Region.ready md ops listed).contains k && Region.free md ops listed k) && planB md ops fs (k + 1) (listed.setIfInBounds k true)

theorem HW.sound {md : Region.Mode} (hsel : Region.noSelect ops = true) (hQ : ∀ c d v a w, Q (.panic c) (Act.put a d v) w → Q (.panic c) a w) :
    ∀ (l : List Oper) (fs : List Bool) (k : Nat) (listed : Array Bool) (a : Act) (w : World), (∀ j, l[j]? = ops[k + j]?) → fs.length = l.length → planB md ops fs k listed = true →
      S w → HW P ops Q S l fs a w → wpAnyH P md ops Q S l.length listed a w := by
  intro l
  induction l with
  | nil =>
    intro fs k listed a w _ hlen hB _ h
    obtain rfl : fs = [] := List.eq_nil_of_length_eq_zero (by simpa using hlen)
    exact ⟨by simpa [planB] using hB, h⟩
  | cons o l ih =>
    intro fs k listed a w hl hlen hB hS h
    cases fs with
    | nil => simp at hlen
    | cons f fs =>
      have h0 : ops[k]? = some o := by simpa using (hl 0).symm
      have hl' : ∀ j, l[j]? = ops[k + 1 + j]? := fun j => by
        have := hl (j + 1)
        rw [show k + 1 + j = k + (j + 1) by omega, ← this]
        simp
      have hlen' : fs.length = l.length := by simpa using hlen
      simp only [planB, Bool.and_eq_true] at hB
      obtain ⟨hf, hB'⟩ := hB
      cases f with
      | false =>
        simp only [Bool.false_eq_true, if_false, Bool.and_eq_true] at hf
        rcases h with ⟨hw, h⟩ | ⟨hw, h⟩
        · exact wpAnyH_take h0 hsel hf.2 hf.1 (fun c a w => hQ c _ _ a w) (Or.inr ⟨hw, rfl⟩) hS (ih fs (k + 1) _ _ _ hl' hlen' hB' hS h)
        · rw [if_neg Bool.false_ne_true] at h
          obtain ⟨v, hy, h⟩ := h
          exact wpAnyH_take h0 hsel hf.2 hf.1 (fun c a w => hQ c _ _ a w) (Or.inl ⟨hw, hy⟩) hS (ih fs (k + 1) _ _ _ hl' hlen' hB' hS h)
      | true =>
        simp only [if_true, decide_eq_true_eq] at hf
        refine wpAnyH_all hf (by simp) fun i hi => ?_
        obtain rfl : i = k := by simpa using hi
        unfold wpOp
        simp only [h0]
        rcases h with ⟨hw, h⟩ | ⟨hw, h⟩
        · rw [if_neg (by rw [hw]; exact Bool.false_ne_true)]
          exact ⟨hS, ih fs (i + 1) _ _ _ hl' hlen' hB' hS h⟩
        · rw [if_pos hw]
          rw [if_pos rfl] at h
          exact Or.inl (Oper.wp_mono (fun a' w' h' => ⟨h'.1, ih fs (i + 1) _ _ _ hl' hlen' hB' h'.1 h'.2⟩) h)

theorem wp_region_plan {id : Nat} {a : Act} {w : World} {l : List Oper} (fs : List Bool) (S : World → Prop) (hm : P.follows .mixedOrders = true)
    (hB : (Region.noSelect l.toArray && decide (fs.length = l.length) && planB .any l.toArray fs 0 (Array.replicate l.toArray.size false)) = true)
    (hS : S w.drew) (h : S w.drew → HW P l.toArray (NoPanic Q) S l fs a w.drew) : (Code.region id l.toArray true).wp P Q a w := by
  simp only [Bool.and_eq_true, decide_eq_true_eq] at hB
  obtain ⟨⟨hsel, hlen⟩, hB⟩ := hB
  refine wp_region_noPanic (wp_region_held (S := S) hm ?_)
  have := HW.sound (md := .any) hsel (fun _ _ _ _ _ h => h) l fs 0 (Array.replicate l.toArray.size false) a w.drew (fun j => by simp) hlen hB hS (h hS)
  simpa using this
theorem HW.done {a : Act} {w : World} (h : Q .normal a w) : HW P ops (NoPanic Q) S [] [] a w := h
end
end Go
