/- what holds whatever becomes of two blocks; all blocks but one as before. Nothing of the program. -/
import Derived.Test.YtbccejlemhgioaaFre
import Derived.Test.YtbccejlemhgioaaRowsAt
import Derived.Laws.Tables
import Derived.Laws.Rows
import Derived.Laws.CopyOwn
namespace Go.Proofs.Ytbccejlemhgioaa
open Go Go.RowKit Go.ChangeShapes cl
theorem own_slice {w : World} {B n k : Nat} {e : TypeId} {v : Value} {xs : List Value} (h : w.ownsRow B e k v n xs) : ∃ ao cap, v = .slice ao n cap := by
  rcases h.2 with ⟨rfl, rfl⟩ | ⟨g, cap, cur, rfl, _⟩ <;> exact ⟨_, _, rfl⟩
theorem app_below {X w3 : World} {B k n : Nat} {T : TypeId} {v : Value} {xs : List Value} {o : Obj} (ho : X.ownsRow B T k v n xs) (hB : B ≤ X.heap.size) (hg : (X.alloc o).grownBy w3 v.ownBlock) : Below B X w3 :=
  ((below1 (w := X) (o := o)).mono hB).trans (grown_below (ho.alloc o) (Nat.le_trans hB (by rw [World.size_alloc]; omega)) hg)
theorem own_lt {w : World} {B n k : Nat} {e : TypeId} {v : Value} {xs : List Value} (h : w.ownsRow B e k v n xs) : ∀ b, v.ownBlock = some b → B ≤ b ∧ b < w.heap.size := by
  intro b hb
  rcases h.2 with ⟨rfl, _⟩ | ⟨g, cap, cur, rfl, hB, hg, _⟩
  · simp [Value.ownBlock] at hb
  · simp only [Value.ownBlock, Option.some.injEq] at hb
    subst hb
    exact ⟨hB, lt_of_block hg⟩
/-- what holds whatever becomes of two blocks -/
def FrX (q : Nat) (av : Option Nat) (W : World) (P : World → Prop) : Prop :=
  ∀ W', (W'.os = W.os ∧ W'.tape = W.tape ∧ W'.output = W.output) → W.heap.size ≤ W'.heap.size → (∀ j, j < W.heap.size → j ≠ q → some j ≠ av → W'.heap[j]? = W.heap[j]?) → P W'
/-- all blocks but one are as before -/
def KX (q : Nat) (W W' : World) : Prop := (W'.os = W.os ∧ W'.tape = W.tape ∧ W'.output = W.output) ∧ W.heap.size ≤ W'.heap.size ∧ ∀ j, j < W.heap.size → j ≠ q → W'.heap[j]? = W.heap[j]?
section
variable {q : Nat} {av av' : Option Nat} {W W' W2 : World} {P P' : World → Prop}
theorem FrX.at (h : FrX q av W P) : P W := h W ⟨rfl, rfl, rfl⟩ (Nat.le_refl _) (fun _ _ _ _ => rfl)
theorem FrX.imp (h : FrX q av W P) (hp : ∀ w, P w → P' w) : FrX q av W P' := fun W' h0 h1 h2 => hp _ (h W' h0 h1 h2)
theorem FrX.next (h : FrX q av W P) (hb : Below W.heap.size W W') : FrX q av W' P :=
  fun W2 h0 h1 h2 => h W2 ⟨h0.1.trans hb.os, h0.2.1.trans hb.tape, h0.2.2.trans hb.output⟩ (Nat.le_trans hb.size h1) (fun j hj hq hn => (h2 j (Nat.lt_of_lt_of_le hj hb.size) hq hn).trans (hb.block j hj))
theorem FrX.grown (h : FrX q av W P) (hg : W.grownBy W' av) (hav : av' = av ∨ ∀ b, av' = some b → W.heap.size ≤ b) : FrX q av' W' P := by
  intro W2 h0 h1 h2
  refine h W2 ⟨h0.1.trans hg.os, h0.2.1.trans hg.tape, h0.2.2.trans hg.output⟩ (Nat.le_trans hg.size h1) (fun j hj hq hn => (h2 j (Nat.lt_of_lt_of_le hj hg.size) hq ?_).trans (hg.block j hj hn))
  rcases hav with rfl | hav
  · exact hn
  · intro e
    have := hav j e.symm
    omega
theorem FrX.of {B : Nat} (h : Fre B W P) (hq : q < B) (hav : ∀ b, av = some b → b < B) : FrX q av W P := by
  intro W2 _ h1 h2
  refine h W2 h1 (fun j hB hj _ => h2 j hj (by omega) ?_)
  intro e
  have := hav j e.symm
  omega
/-- .. whatever becomes of a block that is new, or lies elsewhere -/
theorem FrX.off (h : FrX q none W P) (hk : KX q W W') (hav : ∀ b, av = some b → W.heap.size ≤ b) : FrX q av W' P := by
  intro W2 h0 h1 h2
  refine h W2 ⟨h0.1.trans hk.1.1, h0.2.1.trans hk.1.2.1, h0.2.2.trans hk.1.2.2⟩ (Nat.le_trans hk.2.1 h1) (fun j hj hq _ => (h2 j (Nat.lt_of_lt_of_le hj hk.2.1) hq ?_).trans (hk.2.2 j hj hq))
  intro e
  have := hav j e.symm
  omega
theorem KX.refl : KX q W W := ⟨⟨rfl, rfl, rfl⟩, Nat.le_refl _, fun _ _ _ => rfl⟩
theorem KX.of (hb : Below W.heap.size W W') : KX q W W' := ⟨⟨hb.os, hb.tape, hb.output⟩, hb.size, fun j hj _ => hb.block j hj⟩
theorem KX.trans (h : KX q W W') (k : KX q W' W2) : KX q W W2 :=
  ⟨⟨k.1.1.trans h.1.1, k.1.2.1.trans h.1.2.1, k.1.2.2.trans h.1.2.2⟩, Nat.le_trans h.2.1 k.2.1, fun j hj hq => (k.2.2 j (Nat.lt_of_lt_of_le hj h.2.1) hq).trans (h.2.2 j hj hq)⟩
theorem KX.next (h : KX q W W') (hb : Below W'.heap.size W' W2) : KX q W W2 := h.trans (KX.of hb)
/-- a block that was new is another one now -/
theorem KX.trans' {p : Nat} (h : KX q W W') (k : KX p W' W2) (hp : W.heap.size ≤ p) : KX q W W2 :=
  ⟨⟨k.1.1.trans h.1.1, k.1.2.1.trans h.1.2.1, k.1.2.2.trans h.1.2.2⟩, Nat.le_trans h.2.1 k.2.1, fun j hj hq => (k.2.2 j (Nat.lt_of_lt_of_le hj h.2.1) (by omega)).trans (h.2.2 j hj hq)⟩
theorem KX.row {cs : Array Value} : KX q W (W.setRow q cs) := ⟨⟨rfl, rfl, rfl⟩, by rw [setRow_size]; exact Nat.le_refl _, fun j _ hq => setRow_other _ _ _ _ hq⟩
theorem KX.cell {i : Nat} {u : Value} : KX q W (W.setCell ⟨q, i, none⟩ u) := ⟨⟨rfl, rfl, rfl⟩, by rw [World.size_setCell]; exact Nat.le_refl _, fun j _ hq => heap_setCell_other _ _ _ _ hq⟩
theorem FrX.kept (h : FrX q none W P) (hk : KX q W W') : FrX q none W' P := h.off hk (fun b hb => by cases hb)
theorem FrX.both (h : FrX q av W P) (hk : KX q W W') : FrX q av W' P :=
  fun W2 h0 h1 h2 => h W2 ⟨h0.1.trans hk.1.1, h0.2.1.trans hk.1.2.1, h0.2.2.trans hk.1.2.2⟩ (Nat.le_trans hk.2.1 h1) (fun j hj hq hn => (h2 j (Nat.lt_of_lt_of_le hj hk.2.1) hq hn).trans (hk.2.2 j hj hq))
/-- behind a store into a block that is not among what it speaks of: a newer one, or one of another use -/
theorem FrX.elsewhere {p : Nat} (h : FrX q av W P) (hk : KX p W W') (hp : W.heap.size ≤ p) : FrX q av W' P :=
  fun W2 h0 h1 h2 => h W2 ⟨h0.1.trans hk.1.1, h0.2.1.trans hk.1.2.1, h0.2.2.trans hk.1.2.2⟩ (Nat.le_trans hk.2.1 h1) (fun j hj hq hn => (h2 j (Nat.lt_of_lt_of_le hj hk.2.1) hq hn).trans (hk.2.2 j hj (by omega)))
end
theorem own_kx {w w' : World} {B q k n : Nat} {T : TypeId} {v : Value} {xs : List Value} (h : w.ownsRow B T k v n xs) (hk : KX q w w') (hq : q < B) : w'.ownsRow B T k v n xs := by
  refine ⟨h.1, ?_⟩
  rcases h.2 with h | ⟨g, cap, cur, hv, hb, hg, r⟩
  · exact Or.inl h
  · exact Or.inr ⟨g, cap, cur, hv, hb, (hk.2.2 g (lt_of_block hg) (by omega)).trans hg, r⟩
theorem own_lit {W : World} {k : Nat} {arr : Array Value} {T : TypeId} (hk : arr.size = k) : (W.alloc (.cells arr T)).ownsRow W.heap.size T k (.slice (some ⟨W.heap.size, 0, none⟩) 1 1) 1 arr.toList := by
  refine ⟨by simp [hk], Or.inr ⟨W.heap.size, 1, arr, rfl, Nat.le_refl _, heap_alloc_new _ _, Nat.le_refl _, by unfold maxLen; omega, by simp [hk], ?_⟩⟩
  rw [Nat.one_mul, ← hk, ← Array.length_toList]; exact List.take_length
theorem Fre.kx {B q : Nat} {W W' : World} {P : World → Prop} (h : Fre B W P) (hk : KX q W W') (hq : q < B) : Fre B W' P :=
  FreA.step h hk.2.1 (fun j hB hj _ => hk.2.2 j hj (by omega)) (Or.inl rfl)
/-- a slice of one element that was made just now -/
theorem rows_one {α : Type} {R : Rel α} {B k : Nat} {W : World} {c : List Value} {x : α} {T : TypeId} (hx : Fre B W (fun V => R V V.heap.size c x)) (hc : c.length = k) (hB : B ≤ W.heap.size) :
    Fre B (W.alloc (.cells c.toArray T)) (fun V => RowsAt k R V V.heap.size (.slice (some ⟨W.heap.size, 0, none⟩) 1 1) [x]) := by
  have h1 := own_lit (W := W) (k := k) (arr := c.toArray) (T := T) (by simp [hc])
  have hx2 := FreA.next hx (below1 (o := .cells c.toArray T))
  intro V hs h2
  have h3 : V.ownsRow W.heap.size T k (.slice (some ⟨W.heap.size, 0, none⟩) 1 1) 1 c := own_fre (by simpa using h1) (fun j hj hl => h2 j (by omega) hl (by simp))
  refine RowsAt.own (n := 1) (cs := [c]) rfl rfl (fun j c' x' hc' hx' => ?_) (by simpa using h3)
  cases j with
  | zero =>
    simp only [List.getElem?_cons_zero, Option.some.injEq] at hc' hx'
    subst hc'; subst hx'
    exact ⟨hc, hx2 V hs h2⟩
  | succ j => simp at hc'
end Go.Proofs.Ytbccejlemhgioaa
