/- cells stored one behind the other. Nothing of the program. -/
import Derived.Test.YtpgccfgldjeomaaNtRows
namespace Go.Proofs.Ytpgccfgldjeomaa
open Go.RowKit Go.ChangeShapes cl
def wset : World → Nat → Nat → List Value → World
  | w, _, _, [] => w
  | w, q, i, u :: us => wset (w.setCell ⟨q, i, none⟩ u) q (i + 1) us
def cset : Array Value → Nat → List Value → Array Value
  | cs, _, [] => cs
  | cs, i, u :: us => cset (cs.setIfInBounds i u) (i + 1) us
theorem cset_list : ∀ (us : List Value) (cs : Array Value) (i : Nat), i + us.length = cs.size → (cset cs i us).toList = cs.toList.take i ++ us := by
  intro us
  induction us with
  | nil =>
    intro cs i h
    show cs.toList = _
    rw [List.append_nil, List.take_of_length_le (by simp at h ⊢; omega)]
  | cons u us ih =>
    intro cs i h
    have hi : i < cs.toList.length := by simp only [List.length_cons] at h; rw [Array.length_toList]; omega
    show (cset (cs.setIfInBounds i u) (i + 1) us).toList = _
    rw [ih _ _ (by rw [Array.size_setIfInBounds]; simp only [List.length_cons] at h; omega), Array.toList_setIfInBounds]
    rw [List.take_succ_eq_append_getElem (by rw [List.length_set]; exact hi), List.take_set_of_le (Nat.le_refl _), List.getElem_set_self, List.append_assoc]
    rfl
theorem wset_heap : ∀ (us : List Value) (w : World) (q i : Nat) (cs : Array Value) (T : TypeId), w.heap[q]? = some (.cells cs T (0, 0)) → (wset w q i us).heap[q]? = some (.cells (cset cs i us) T (0, 0)) := by
  intro us
  induction us with
  | nil => intro w q i cs T h; exact h
  | cons u us ih => intro w q i cs T h; exact ih _ q (i + 1) _ T (heap_setCell_same w q i _ _ _ h)
theorem wset_other : ∀ (us : List Value) (w : World) (q i k : Nat), k ≠ q → (wset w q i us).heap[k]? = w.heap[k]? := by
  intro us
  induction us with
  | nil => intro w q i k _; rfl
  | cons u us ih => intro w q i k hk; exact (ih _ q (i + 1) k hk).trans (Below.heap_setCell _ _ _ _ hk)
theorem wset_below : ∀ (us : List Value) (w w0 : World) (q i B : Nat), B ≤ q → Below B w0 w → Below B w0 (wset w q i us) := by
  intro us
  induction us with
  | nil => intro w w0 q i B _ h; exact h
  | cons u us ih => intro w w0 q i B hB h; exact ih _ w0 q (i + 1) B hB (h.setCell hB u)
theorem wset_row {w : World} {q : Nat} {cs : Array Value} {T : TypeId} (us : List Value) (h : w.heap[q]? = some (.cells cs T (0, 0))) (hl : us.length = cs.size) : (wset w q 0 us).heap[q]? = some (.cells us.toArray T (0, 0)) := by
  rw [wset_heap us w q 0 cs T h]
  have := cset_list us cs 0 (by omega)
  have e : cset cs 0 us = us.toArray := by
    apply Array.ext'
    simpa using this
  rw [e]

theorem wset_kt : ∀ (us : List Value) (w : World) (q i : Nat) (cs : Array Value) (T : TypeId), w.heap[q]? = some (.cells cs T (0, 0)) → Kt T w (wset w q i us) := by
  intro us
  induction us with
  | nil => intro w q i cs T _; exact ⟨Nat.le_refl _, fun _ _ _ => rfl⟩
  | cons u us ih => intro w q i cs T h; exact (Kt.set h i u).trans (ih _ q (i + 1) _ T (heap_setCell_same w q i _ _ _ h))
end Go.Proofs.Ytpgccfgldjeomaa
