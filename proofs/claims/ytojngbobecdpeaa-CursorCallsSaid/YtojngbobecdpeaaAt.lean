/- A slice of whole numbers as it lies in memory, and what keeps it. Nothing of the program. -/
import Derived.Test.YtojngbobecdpeaaKit
namespace Go.Proofs.Ytojngbobecdpeaa.at_
open Go.RowKit

/-- v is a slice whose elements are zs, below block B -/
def At (w : World) (B : Nat) (v : Value) (zs : List Int) : Prop :=
  ∃ (ao : Option Addr) (cap : Nat), v = .slice ao zs.length cap ∧ ((ao = none → cap = 0) ∧ zs.length ≤ cap) ∧ zs.length ≤ maxLen ∧
    (0 < zs.length → ∃ b off, ao = some ⟨b, off, none⟩ ∧ b < B ∧ ∀ j, j < zs.length → w.cell? ⟨b, off + j, none⟩ = some (.int .i64 (zs.getD j 0)))

theorem At.below {w w' : World} {B : Nat} {v : Value} {zs : List Int} (h : At w B v zs) (hb : Below B w w') : At w' B v zs := by
  obtain ⟨ao, cap, rfl, h1, h3, h2⟩ := h
  refine ⟨ao, cap, rfl, h1, h3, fun hp => ?_⟩
  obtain ⟨b, off, e, hB, hc⟩ := h2 hp
  exact ⟨b, off, e, hB, fun j hj => by rw [hb.cell (p := ⟨b, off + j, none⟩) hB]; exact hc j hj⟩
theorem At.mono {w : World} {B B' : Nat} {v : Value} {zs : List Int} (h : At w B v zs) (hb : B ≤ B') : At w B' v zs := by
  obtain ⟨ao, cap, rfl, h1, h3, h2⟩ := h
  refine ⟨ao, cap, rfl, h1, h3, fun hp => ?_⟩
  obtain ⟨b, off, e, hB, hc⟩ := h2 hp
  exact ⟨b, off, e, by omega, hc⟩
theorem At.later {w w' : World} {B B' : Nat} {v : Value} {zs : List Int} (h : At w B v zs) (hb : Below B' w w') (hB : B ≤ B') : At w' B v zs :=
  h.below (hb.mono hB)
def i64s (zs : List Int) : List Value := zs.map (Value.int .i64)
theorem i64s_len (zs : List Int) : (i64s zs).length = zs.length := by simp [i64s]
theorem i64s_app (a b : List Int) : i64s (a ++ b) = i64s a ++ i64s b := by simp [i64s]

theorem i64s_at {l : List Int} {j : Nat} {u : Value} (h : (i64s l)[j]? = some u) : j < l.length ∧ u = .int .i64 (l.getD j 0) := by
  simp only [i64s, List.getElem?_map, Option.map_eq_some_iff] at h
  obtain ⟨x, hx, rfl⟩ := h
  obtain ⟨hj, e⟩ := List.getElem?_eq_some_iff.1 hx
  exact ⟨hj, by simp [List.getD, hj, e]⟩
theorem i64s_one {l : List Int} : ∀ u ∈ i64s l, u.oneCell' = true := by
  intro u hu
  obtain ⟨x, _, rfl⟩ := List.mem_map.1 hu
  rfl
theorem getD_drop (l : List Int) (k j : Nat) : (l.drop k).getD j 0 = l.getD (k + j) 0 := by simp [List.getD]
theorem At.tail1 {w : World} {B b o cap : Nat} {x : Int} {l : List Int} (h : At w B (.slice (some ⟨b, o, none⟩) (l.length + 1) cap) (x :: l)) : At w B (.slice (some ⟨b, o + 1, none⟩) l.length (cap - 1)) l := by
  obtain ⟨ao, c, e, ⟨h1, h2⟩, h3, h4⟩ := h
  simp only [Value.slice.injEq] at e
  obtain ⟨rfl, _, rfl⟩ := e
  simp only [List.length_cons] at h2 h3 h4
  refine ⟨_, _, rfl, ⟨(fun e => by cases e), by omega⟩, by omega, fun hp => ?_⟩
  obtain ⟨b', o', e, hB, hc⟩ := h4 (by omega)
  simp only [Option.some.injEq, Addr.mk.injEq] at e
  obtain ⟨rfl, rfl, _⟩ := e
  refine ⟨_, _, rfl, hB, fun j hj => ?_⟩
  have := hc (j + 1) (by omega)
  rw [Nat.add_assoc, Nat.add_comm 1 j]
  simpa using this
theorem At.empty {w : World} {B cap : Nat} {a : Addr} : At w B (.slice (some a) 0 cap) [] :=
  ⟨some a, cap, rfl, ⟨(fun e => by cases e), Nat.zero_le _⟩, by simp, fun h => absurd h (by simp)⟩
theorem At.tailIf {w : World} {B b o cap : Nat} {x : Int} {l : List Int} (h : At w B (.slice (some ⟨b, o, none⟩) (l.length + 1) cap) (x :: l)) : At w B (.slice (if cap = 1 then some ⟨b, o, none⟩ else some ⟨b, o + 1, none⟩) l.length (cap - 1)) l := by
  by_cases h1 : cap = 1
  · have hl : l = [] := by
      obtain ⟨ao, c, e, ⟨_, h2⟩, _⟩ := h
      simp only [Value.slice.injEq] at e
      obtain ⟨_, _, rfl⟩ := e
      simp only [List.length_cons] at h2
      exact List.eq_nil_of_length_eq_zero (by omega)
    subst hl
    rw [if_pos h1]
    exact At.empty
  · rw [if_neg h1]; exact h.tail1
theorem At.cells {w : World} {B : Nat} {ao : Option Addr} {n cap : Nat} {l : List Int} (h : At w B (.slice ao n cap) l) : n = l.length ∧ (ao = none → n = 0 ∧ cap = 0) ∧ (∀ ad, ao = some ad → ∀ j u, (i64s l)[j]? = some u → w.cell? (ad.add j) = some u) := by
  obtain ⟨ao', c, e, ⟨h1, h2⟩, h3, h4⟩ := h
  simp only [Value.slice.injEq] at e
  obtain ⟨rfl, rfl, rfl⟩ := e
  refine ⟨rfl, fun e => ⟨by have := h1 e; omega, h1 e⟩, fun ad e j u hj => ?_⟩
  obtain ⟨hjl, rfl⟩ := i64s_at hj
  obtain ⟨b, o, e2, _, hc⟩ := h4 (by omega)
  rw [e] at e2
  obtain rfl := Option.some.inj e2
  rw [Addr.add_lit]
  exact hc j hjl
theorem nil (w : World) (B : Nat) : At w B (.slice none 0 0) [] := ⟨none, 0, rfl, ⟨fun _ => rfl, Nat.le_refl _⟩, by simp, fun h => absurd h (by simp)⟩
theorem own {w : World} {base : Nat} {e : TypeId} {v : Value} {zs : List Int} (h : w.ownsRow base e 1 v zs.length (i64s zs)) : At w w.heap.size v zs := by
  have hlt := h.lt
  rcases h.2 with ⟨rfl, hx⟩ | ⟨g, cap, cur, rfl, hbg, hg, hnc, hcm, hcs, htake⟩
  · obtain rfl : zs = [] := List.eq_nil_of_length_eq_zero hx
    exact nil w _
  · refine ⟨_, _, rfl, ⟨(fun e => by cases e), hnc⟩, Nat.le_trans hnc hcm, fun _ => ⟨g, 0, rfl, (hlt g rfl).2, fun j hj => ?_⟩⟩
    have := h.cells (g := g) rfl j (.int .i64 (zs.getD j 0)) (by
      simp only [i64s, List.getElem?_map]
      rw [List.getElem?_eq_getElem hj]
      simp [List.getD, hj])
    rw [Addr.add_lit] at this
    exact this
theorem base_le {w : World} {base base' size : Nat} {e : TypeId} {v : Value} {n : Nat} {xs : List Value} (h : w.ownsRow base e size v n xs) (hb : base' ≤ base) : w.ownsRow base' e size v n xs := by
  refine ⟨h.1, ?_⟩
  rcases h.2 with h2 | ⟨g, cap, cur, h3, hbg, h4⟩
  · exact Or.inl h2
  · exact Or.inr ⟨g, cap, cur, h3, Nat.le_trans hb hbg, h4⟩
end Go.Proofs.Ytojngbobecdpeaa.at_
