/- A slice of the call's own ahead of, and behind, a sort: the two vocabularies meet (elements of k cells). Nothing of the program. -/
import Derived.Test.YtdcmoeklldkccaaKit
import Derived.Shelf.GgSortFunc.InsertionK
import Derived.Sort.OwnSorted
namespace Go.Proofs.Ytdcmoeklldkccaa.kit
open Go.RowKit Go.Sort
variable {α : Type} [Inhabited α]

theorem flat_len {α : Type} (enc : α → List Value) (k : Nat) (hk : ∀ x, (enc x).length = k) : ∀ l : List α, (l.flatMap enc).length = l.length * k := by
  intro l
  induction l with
  | nil => simp
  | cons x r ih => rw [List.flatMap_cons, List.length_append, hk, ih, List.length_cons, Nat.add_mul, Nat.one_mul, Nat.add_comm]
theorem flat_get (enc : α → List Value) (k : Nat) (hk : ∀ x, (enc x).length = k) (k0 : 0 < k) : ∀ (l : List α) (t : Nat), t < l.length * k → (l.flatMap enc)[t]! = (enc l[t / k]!)[t % k]! := by
  intro l
  induction l with
  | nil => intro t h; simp at h
  | cons x r ih =>
    intro t h
    rw [List.flatMap_cons]
    have hx := hk x
    by_cases ht : t < k
    · have e1 : t / k = 0 := Nat.div_eq_of_lt ht
      have e2 : t % k = t := Nat.mod_eq_of_lt ht
      rw [e1, e2]
      have h1 : t < (enc x ++ r.flatMap enc).length := by rw [List.length_append]; omega
      rw [getElem!_pos _ t h1, List.getElem_append_left (by omega)]
      have : (x :: r)[0]! = x := rfl
      rw [this, getElem!_pos _ t (by omega)]
    · obtain ⟨u, rfl⟩ : ∃ u, t = u + k := ⟨t - k, by omega⟩
      have hu : u < r.length * k := by rw [List.length_cons, Nat.add_mul, Nat.one_mul] at h; omega
      have hlen := flat_len enc k hk r
      have h1 : u + k < (enc x ++ r.flatMap enc).length := by rw [List.length_append]; omega
      have e1 : (u + k) / k = u / k + 1 := Nat.add_div_right u k0
      have e2 : (u + k) % k = u % k := Nat.add_mod_right u k
      have e3 : u + k - (enc x).length = u := by omega
      rw [getElem!_pos _ (u + k) h1, List.getElem_append_right (by omega), e1, e2]
      have h2 := ih u hu
      rw [getElem!_pos _ u (by omega)] at h2
      have e4 : (x :: r)[u / k + 1]! = r[u / k]! := by simp
      rw [e4, ← h2]
      simp only [e3]
theorem flatK_list (enc : α → List Value) (k : Nat) (hk : ∀ x, (enc x).length = k) (k0 : 0 < k) (d : Array α) : (flatK enc k d).toList = d.toList.flatMap enc := by
  have hlen := flat_len enc k hk d.toList
  refine List.ext_getElem (by rw [hlen, Array.length_toList, size_flatK, Array.length_toList]) fun t h1 h2 => ?_
  have ht : t < d.size * k := by rw [Array.length_toList, size_flatK] at h1; exact h1
  have a := get_flatK enc k d t ht
  have b := flat_get enc k hk k0 d.toList t (by rw [Array.length_toList]; exact ht)
  rw [getElem!_pos _ t (by rw [size_flatK]; exact ht)] at a
  rw [getElem!_pos _ t h2] at b
  rw [Array.getElem_toList, a, b]
  have : d.toList[t / k]! = d[t / k]! := by simp [Array.getElem!_eq_getD, Array.getD, List.getElem!_eq_getElem?_getD]
                                            by_cases h : t / k < d.size <;> simp [h]
  rw [this]

/-- ahead of a sort, and behind it -/
theorem sort_own {w : World} {base : Nat} {e : TypeId} {enc : α → List Value} {k n g cap : Nat} {l : List α} (hk : ∀ x, (enc x).length = k) (k0 : 0 < k) (hown : w.ownsRow base e k (.slice (some ⟨g, 0, none⟩) n cap) n (l.flatMap enc)) (hl : l.length = n) (hB : base ≤ w.heap.size) :
    HoldsK enc k w g 0 l.toArray ∧ g < w.heap.size ∧ base ≤ g ∧ ∀ (d : Array α) (m : Nat) (os : Array Obj), d.size = n →
      (sortWorldK enc k w g 0 m d os).ownsRow base e k (.slice (some ⟨g, 0, none⟩) n cap) n (d.toList.flatMap enc) ∧ Below base w (sortWorldK enc k w g 0 m d os) := by
  have hlt := hown.lt g rfl
  rcases hown.2 with ⟨hv, _⟩ | ⟨g', cap', cur, hv, hbg, hg, hnc, hcm, hcs, htake⟩
  · cases hv
  simp only [Value.slice.injEq, Option.some.injEq, Addr.mk.injEq] at hv
  obtain ⟨⟨rfl, _, _⟩, _, rfl⟩ := hv
  have hfl := flatK_list enc k hk k0 l.toArray
  have hnk : n * k ≤ cap * k := Nat.mul_le_mul_right _ hnc
  refine ⟨?_, hlt.2, hbg, fun d m os hd => ⟨?_, ?_⟩⟩
  · intro j hj
    have hj2 : j < n * k := by rw [size_flatK, List.size_toArray, hl] at hj; exact hj
    refine ⟨?_, by simp [World.frozen?, hg]⟩
    have hc : (l.flatMap enc)[j]? = some ((flatK enc k l.toArray)[j]!) := by
      have h1 : j < (flatK enc k l.toArray).toList.length := by rw [Array.length_toList]; exact hj
      have h2 : (flatK enc k l.toArray).toList[j]? = (l.flatMap enc)[j]? := by rw [hfl]
      rw [← h2, List.getElem?_eq_getElem h1, Array.getElem_toList, getElem!_pos _ j hj]
    have := hown.cells (g := g) rfl j _ hc
    rw [Addr.add_lit] at this
    exact this
  · have hs : (flatK enc k d).size = n * k := by rw [size_flatK, hd]
    refine ⟨by rw [flat_len enc k hk, Array.length_toList, hd], Or.inr ⟨g, cap, putCells id 0 (flatK enc k d) cur, rfl, hbg, ?_, hnc, hcm, by simp [putCells, hcs], ?_⟩⟩
    · unfold sortWorldK putRowK
      rw [heap_grow_old _ _ (by simpa using hlt.2)]
      simp [putRow, mapBlock, Sort.ahead, Array.getElem?_modify, hg, onCells]
    · rw [← flatK_list enc k hk k0 d]
      apply List.ext_getElem?
      intro j
      by_cases hj : j < n * k
      · have hjf : j < (flatK enc k d).size := by omega
        rw [List.getElem?_take_of_lt hj, Array.getElem?_toList, Array.getElem?_toList]
        have hjc : j < cur.size := by omega
        rw [getElem?_pos (flatK enc k d) j hjf]
        simp only [putCells, Array.getElem?_mapIdx, getElem?_pos cur j hjc, Option.map_some, Nat.sub_zero, id]
        rw [if_pos (show 0 ≤ j ∧ j < 0 + (flatK enc k d).size from ⟨Nat.zero_le _, by omega⟩), getElem!_pos (flatK enc k d) j hjf]
      · rw [List.getElem?_eq_none (by rw [List.length_take]; omega), List.getElem?_eq_none (by rw [Array.length_toList]; omega)]
  · unfold sortWorldK putRowK
    refine ⟨rfl, rfl, rfl, by simp, fun i hi => ?_⟩
    have hne : g ≠ i := by omega
    rw [heap_grow_old _ _ (by simp; omega)]
    simp [putRow, mapBlock, Sort.ahead, Array.getElem?_modify, hne]
end Go.Proofs.Ytdcmoeklldkccaa.kit
