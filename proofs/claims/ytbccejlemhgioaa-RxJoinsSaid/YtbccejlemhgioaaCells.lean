/- A slice whose elements are k cells each, as it lies in memory, and what keeps it. Nothing of the program. -/
import Derived.Test.YtbccejlemhgioaaKit
namespace Go.Proofs.Ytbccejlemhgioaa.cl
open Go.RowKit

/-- v is a slice of n elements of k cells, the cells are vs, below block B -/
def Cells (w : World) (B : Nat) (v : Value) (n k : Nat) (vs : List Value) : Prop :=
  vs.length = n * k ∧ ∃ (ao : Option Addr) (cap : Nat), v = .slice ao n cap ∧ ((ao = none → cap = 0) ∧ n ≤ cap) ∧ n ≤ maxLen ∧
    (0 < n → ∃ b off, ao = some ⟨b, off, none⟩ ∧ b < B ∧ ∀ j u, vs[j]? = some u → w.cell? ⟨b, off + j, none⟩ = some u)

theorem Cells.below {w w' : World} {B : Nat} {v : Value} {n k : Nat} {vs : List Value} (h : Cells w B v n k vs) (hb : Below B w w') : Cells w' B v n k vs := by
  obtain ⟨h0, ao, cap, rfl, h1, h3, h2⟩ := h
  refine ⟨h0, ao, cap, rfl, h1, h3, fun hp => ?_⟩
  obtain ⟨b, off, e, hB, hc⟩ := h2 hp
  exact ⟨b, off, e, hB, fun j u hj => by rw [hb.cell (p := ⟨b, off + j, none⟩) hB]; exact hc j u hj⟩
theorem Cells.mono {w : World} {B B' : Nat} {v : Value} {n k : Nat} {vs : List Value} (h : Cells w B v n k vs) (hb : B ≤ B') : Cells w B' v n k vs := by
  obtain ⟨h0, ao, cap, rfl, h1, h3, h2⟩ := h
  refine ⟨h0, ao, cap, rfl, h1, h3, fun hp => ?_⟩
  obtain ⟨b, off, e, hB, hc⟩ := h2 hp
  exact ⟨b, off, e, by omega, hc⟩
/-- below the heap of now, one world later -/
theorem Cells.next {W W' : World} {v : Value} {n k : Nat} {vs : List Value} (h : Cells W W.heap.size v n k vs) (hb : Below W.heap.size W W') : Cells W' W'.heap.size v n k vs := (h.below hb).mono hb.size
theorem Cells.form {w : World} {B : Nat} {v : Value} {n k : Nat} {vs : List Value} (h : Cells w B v n k vs) : ∃ ao cap, v = .slice ao n cap ∧ n ≤ cap ∧ n ≤ maxLen := by
  obtain ⟨_, ao, cap, rfl, h1, h3, _⟩ := h
  exact ⟨ao, cap, rfl, h1.2, h3⟩
theorem Cells.nil (w : World) (B k : Nat) : Cells w B (.slice none 0 0) 0 k [] := ⟨by simp, none, 0, rfl, ⟨fun _ => rfl, Nat.le_refl _⟩, by simp, fun h => absurd h (by simp)⟩
theorem Cells.zero {w : World} {B k cap : Nat} {ao : Option Addr} (h : ao = none → cap = 0) : Cells w B (.slice ao 0 cap) 0 k [] := ⟨by simp, ao, cap, rfl, ⟨h, Nat.zero_le _⟩, by simp, fun h => absurd h (by simp)⟩
/-- what the call owns is a slice -/
theorem Cells.own {w : World} {base : Nat} {e : TypeId} {v : Value} {n k : Nat} {vs : List Value} (h : w.ownsRow base e k v n vs) : Cells w w.heap.size v n k vs := by
  have hlt := h.lt
  have hl := h.1
  rcases h.2 with ⟨rfl, rfl⟩ | ⟨g, cap, cur, rfl, hbg, hg, hnc, hcm, hcs, htake⟩
  · obtain rfl : vs = [] := List.eq_nil_of_length_eq_zero (by simpa using hl)
    exact Cells.nil w _ _
  · refine ⟨hl, _, _, rfl, ⟨(fun e => by cases e), hnc⟩, Nat.le_trans hnc hcm, fun _ => ⟨g, 0, rfl, (hlt g rfl).2, fun j u hj => ?_⟩⟩
    have := h.cells (g := g) rfl j u hj
    rwa [Addr.add_lit] at this
/-- its cells, for an append of all of them -/
theorem Cells.news {w : World} {B : Nat} {ao : Option Addr} {n cap k : Nat} {vs : List Value} (h : Cells w B (.slice ao n cap) n k vs) : (ao = none → n = 0 ∧ cap = 0) ∧ (∀ ad, ao = some ad → ∀ j u, vs[j]? = some u → w.cell? (ad.add j) = some u) := by
  obtain ⟨h0, ao', c, e, ⟨h1, h2⟩, h3, h4⟩ := h
  simp only [Value.slice.injEq] at e
  obtain ⟨rfl, _, rfl⟩ := e
  refine ⟨fun e => ⟨by have := h1 e; omega, h1 e⟩, fun ad e j u hj => ?_⟩
  have hjl : j < vs.length := (List.getElem?_eq_some_iff.1 hj).1
  have hn : 0 < n := by
    rcases Nat.eq_zero_or_pos n with h | h
    · rw [h, Nat.zero_mul] at h0; omega
    · exact h
  obtain ⟨b, o, e2, _, hc⟩ := h4 hn
  rw [e] at e2
  obtain rfl := Option.some.inj e2
  rw [Addr.add_lit]
  exact hc j u hj
theorem Cells.news' {w : World} {B : Nat} {ao : Option Addr} {n n' cap k : Nat} {vs : List Value} (h : Cells w B (.slice ao n cap) n' k vs) : (ao = none → n = 0 ∧ cap = 0) ∧ (∀ ad, ao = some ad → ∀ j u, vs[j]? = some u → w.cell? (ad.add j) = some u) := by
  obtain rfl : n = n' := by
    obtain ⟨_, _, e, _⟩ := h.form
    simp only [Value.slice.injEq] at e
    exact e.2.1
  exact h.news
theorem Cells.at {w : World} {B b off n cap k : Nat} {vs : List Value} (h : Cells w B (.slice (some ⟨b, off, none⟩) n cap) n k vs) (hn : 0 < n) : b < B ∧ ∀ j u, vs[j]? = some u → w.cell? ⟨b, off + j, none⟩ = some u := by
  obtain ⟨h0, ao', c, e, ⟨h1, h2⟩, h3, h4⟩ := h
  simp only [Value.slice.injEq] at e
  obtain ⟨rfl, _, rfl⟩ := e
  obtain ⟨b', o', e2, h5, hc⟩ := h4 hn
  simp only [Option.some.injEq, Addr.mk.injEq] at e2
  obtain ⟨rfl, rfl, _⟩ := e2
  exact ⟨h5, hc⟩
/-- l[i:j], where the cut is taken -/
theorem Cells.cut {w : World} {B b off n cap k i m : Nat} {vs : List Value} (h : Cells w B (.slice (some ⟨b, off, none⟩) n cap) n k vs) (hm : i + m ≤ n) :
    Cells w B (.slice (some ⟨b, off + i * k, none⟩) m (cap - i)) m k ((vs.drop (i * k)).take (m * k)) := by
  have hf := h.form
  obtain ⟨_, _, e, hc, hx⟩ := hf
  simp only [Value.slice.injEq] at e
  obtain ⟨_, _, rfl⟩ := e
  have h0 := h.1
  have hmul : i * k + m * k ≤ n * k := by rw [← Nat.add_mul]; exact Nat.mul_le_mul_right _ hm
  refine ⟨by rw [List.length_take, List.length_drop]; omega, _, _, rfl, ⟨(fun e => by cases e), by omega⟩, by omega, fun hp => ?_⟩
  obtain ⟨hB, hcell⟩ := h.at (by omega)
  refine ⟨_, _, rfl, hB, fun j u hj => ?_⟩
  rw [Nat.add_assoc]
  refine hcell _ u ?_
  rw [List.getElem?_take] at hj
  split at hj
  · rwa [List.getElem?_drop] at hj
  · cases hj
/-- .. of no element, wherever it is laid -/
theorem Cells.cut0 {w : World} {B cap k : Nat} {a : Addr} : Cells w B (.slice (some a) 0 cap) 0 k [] := Cells.zero (fun e => by cases e)
theorem cells_lit (W : World) (n k : Nat) (vs : List Value) (arr : Array Value) (t : TypeId) (harr : arr.toList = vs) (hl : vs.length = n * k) (hn : n ≤ maxLen) :
    Cells (W.alloc (.cells arr t)) (W.alloc (.cells arr t)).heap.size (.slice (some ⟨W.heap.size, 0, none⟩) n n) n k vs := by
  refine ⟨hl, _, _, rfl, ⟨(fun e => by cases e), Nat.le_refl _⟩, hn, fun _ => ⟨_, _, rfl, by simp, fun j u hj => ?_⟩⟩
  rw [Nat.zero_add, World.cell?_alloc_at _ _ _ _ rfl, ← Array.getElem?_toList, harr]
  exact hj

/-- an empty literal is the call's own -/
theorem own_none {w W : World} (t : TypeId) (h : w.heap.size ≤ W.heap.size) (k : Nat) : (W.alloc (.cells #[] t)).ownsRow w.heap.size t k (.slice (some ⟨W.heap.size, 0, none⟩) 0 0) 0 [] := by
  refine ⟨by simp, Or.inr ⟨W.heap.size, 0, #[], rfl, h, ?_, Nat.le_refl _, Nat.zero_le _, by simp, by simp⟩⟩
  show (W.heap.push _)[W.heap.size]? = _
  simp
/-- texts -/
def strs (l : List ByteArray) : List Value := l.map Value.string
theorem strs_len (l : List ByteArray) : (strs l).length = l.length := by simp [strs]
theorem strs_app (a b : List ByteArray) : strs (a ++ b) = strs a ++ strs b := by simp [strs]
theorem strs_take (a : List ByteArray) (n : Nat) : (strs a).take n = strs (a.take n) := by simp [strs]
theorem strs_drop (a : List ByteArray) (n : Nat) : (strs a).drop n = strs (a.drop n) := by simp [strs]
theorem strs_get {l : List ByteArray} {j : Nat} (hj : j < l.length) : (strs l)[j]? = some (.string (l.getD j .empty)) := by simp [strs, List.getD, hj]
theorem strs_one {l : List ByteArray} : ∀ u ∈ strs l, u.oneCell' = true := by
  intro u hu
  obtain ⟨x, _, rfl⟩ := List.mem_map.1 hu
  rfl
abbrev Strs (w : World) (B : Nat) (v : Value) (l : List ByteArray) : Prop := Cells w B v l.length 1 (strs l)
theorem Strs.cell {w : World} {B b off n cap : Nat} {l : List ByteArray} (h : Strs w B (.slice (some ⟨b, off, none⟩) n cap) l) (hn : n = l.length) {j : Nat} (hj : j < n) : b < B ∧ w.cell? ⟨b, off + j, none⟩ = some (.string (l.getD j .empty)) := by
  subst hn
  obtain ⟨hB, hc⟩ := h.at (by omega)
  exact ⟨hB, hc j _ (strs_get hj)⟩
theorem Strs.addr {w : World} {B : Nat} {v : Value} {l : List ByteArray} (h : Strs w B v l) (hn : 0 < l.length) : ∃ b off cap, v = .slice (some ⟨b, off, none⟩) l.length cap ∧ l.length ≤ cap ∧ b < B := by
  obtain ⟨_, ao, cap, rfl, h1, _, h4⟩ := h
  obtain ⟨b, off, rfl, hB, _⟩ := h4 hn
  exact ⟨b, off, cap, rfl, h1.2, hB⟩
/-- l[k:], where k is not the capacity -/
theorem Cells.drop {w : World} {B n cap k i : Nat} {ao : Option Addr} {vs : List Value} (h : Cells w B (.slice ao n cap) n k vs) (hi : i ≤ n) :
    Cells w B (.slice (Option.map (fun x => x.add (i * k)) ao) (n - i) (cap - i)) (n - i) k (vs.drop (i * k)) := by
  obtain ⟨h0, ao', c, e, ⟨h1, h2⟩, h3, h4⟩ := h
  simp only [Value.slice.injEq] at e
  obtain ⟨rfl, _, rfl⟩ := e
  refine ⟨by rw [List.length_drop, h0, Nat.sub_mul], _, _, rfl, ⟨fun e => ?_, by omega⟩, by omega, fun hp => ?_⟩
  · cases ao with
    | none => have := h1 rfl; omega
    | some a => cases e
  · obtain ⟨b, off, rfl, hB, hc⟩ := h4 (by omega)
    refine ⟨b, off + i * k, ?_, hB, fun j u hj => ?_⟩
    · simp only [Option.map_some, Addr.add_lit]
    · rw [List.getElem?_drop] at hj
      rw [Nat.add_assoc]; exact hc _ u hj
theorem Strs.drop {w : World} {B n cap i : Nat} {ao : Option Addr} {l : List ByteArray} (h : Strs w B (.slice ao n cap) l) (hn : n = l.length) (hi : i ≤ n) :
    Strs w B (.slice (Option.map (fun x => x.add i) ao) (n - i) (cap - i)) (l.drop i) := by
  subst hn
  have := Cells.drop h hi
  rw [Nat.mul_one, strs_drop] at this
  unfold Strs
  rw [List.length_drop]
  exact this
theorem Strs.addr' {w : World} {B n : Nat} {v : Value} {l : List ByteArray} (h : Strs w B v l) (hn : n = l.length) (h0 : 0 < n) : ∃ b off cap, v = .slice (some ⟨b, off, none⟩) n cap ∧ n ≤ cap ∧ b < B ∧ ∀ j, j < n → w.cell? ⟨b, off + j, none⟩ = some (.string (l.getD j .empty)) := by
  subst hn
  obtain ⟨b, off, cap, rfl, h1, h2⟩ := h.addr h0
  exact ⟨b, off, cap, rfl, h1, h2, fun j hj => (h.cell rfl hj).2⟩
theorem Strs.form' {w : World} {B n : Nat} {v : Value} {l : List ByteArray} (h : Strs w B v l) (hn : n = l.length) : ∃ ao cap, v = .slice ao n cap ∧ n ≤ cap := by
  subst hn
  obtain ⟨ao, cap, rfl, h1, _⟩ := h.form
  exact ⟨ao, cap, rfl, h1⟩
/-- a new block of three cells, later -/
theorem three {w w2 : World} {x y z : Value} {t : TypeId} (hb : Below (w.alloc (.cells #[x, y, z] t)).heap.size (w.alloc (.cells #[x, y, z] t)) w2) :
    w2.cell? ⟨w.heap.size, 0, none⟩ = some x ∧ w2.cell? ⟨w.heap.size, 1, none⟩ = some y ∧ w2.cell? ⟨w.heap.size, 2, none⟩ = some z ∧ w2.frozen? ⟨w.heap.size, 0, none⟩ = false ∧ w2.frozen? ⟨w.heap.size, 1, none⟩ = false ∧ w2.frozen? ⟨w.heap.size, 2, none⟩ = false ∧ w.heap.size < w2.heap.size := by
  have hs : w.heap.size < (w.alloc (.cells #[x, y, z] t)).heap.size := by simp
  have c : ∀ (k : Nat) (u : Value), (#[x, y, z] : Array Value)[k]? = some u → w2.cell? ⟨w.heap.size, k, none⟩ = some u := fun k u hu =>
    (hb.cell (p := ⟨w.heap.size, k, none⟩) hs).trans (by rw [World.cell?_alloc_at _ _ _ _ rfl]; exact hu)
  have f : ∀ k : Nat, w2.frozen? ⟨w.heap.size, k, none⟩ = false := fun k => (hb.frozen (p := ⟨w.heap.size, k, none⟩) hs).trans (World.frozen?_alloc_at _ _ _ _ rfl)
  exact ⟨c 0 x rfl, c 1 y rfl, c 2 z rfl, f 0, f 1, f 2, by have := hb.size; simp at this; omega⟩
/-- l[:m] -/
theorem Strs.take {w : World} {B n cap m : Nat} {ao : Option Addr} {l : List ByteArray} (h : Strs w B (.slice ao n cap) l) (hn : n = l.length) (hm : m ≤ n) :
    Strs w B (.slice ao m cap) (l.take m) := by
  subst hn
  obtain ⟨h0, ao', c, e, ⟨h1, h2⟩, h3, h4⟩ := h
  simp only [Value.slice.injEq] at e
  obtain ⟨rfl, _, rfl⟩ := e
  have hl : (l.take m).length = m := by rw [List.length_take]; omega
  refine ⟨by rw [strs_len, Nat.mul_one], _, _, by rw [hl], ⟨h1, by omega⟩, by omega, fun hp => ?_⟩
  obtain ⟨b, off, rfl, hB, hc⟩ := h4 (by omega)
  refine ⟨b, off, rfl, hB, fun j u hj => hc j u ?_⟩
  rw [← strs_take, List.getElem?_take] at hj
  split at hj
  · exact hj
  · cases hj
end Go.Proofs.Ytbccejlemhgioaa.cl
