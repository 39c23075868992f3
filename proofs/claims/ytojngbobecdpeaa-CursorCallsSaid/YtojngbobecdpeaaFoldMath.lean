/- Lists put together in whatever order: plainly. -/
import Derived.Test.YtojngbobecdpeaaMerge
namespace Go.Proofs.Ytojngbobecdpeaa
open Go.RowKit Go.ChangeShapes at_ pm

theorem foldb_mem {y : Int} : ∀ (ls : List (List Int)) (z : List Int), y ∈ ls.foldl both z ↔ y ∈ z ∧ ∀ l ∈ ls, y ∈ l := by
  intro ls
  induction ls with
  | nil => intro z; simp
  | cons l ls ih =>
    intro z
    rw [List.foldl_cons, ih, mem_both]
    simp only [List.mem_cons, forall_eq_or_imp, and_assoc]
theorem foldb_inc : ∀ (ls : List (List Int)) (z : List Int), Inc z → Inc (ls.foldl both z) := by
  intro ls
  induction ls with
  | nil => intro z h; exact h
  | cons l ls ih => intro z h; exact ih _ (inc_both h)
theorem foldb_le : ∀ (ls : List (List Int)) (z : List Int), (ls.foldl both z).length ≤ z.length := by
  intro ls
  induction ls with
  | nil => intro z; exact Nat.le_refl _
  | cons l ls ih => intro z; exact Nat.le_trans (ih _) (both_le _ _)
theorem allOf_inc {ls : List (List Int)} (h : ∀ l ∈ ls, Inc l) : Inc (allOf ls) := by
  cases ls with
  | nil => exact inc_nil
  | cons l ls => exact foldb_inc _ _ (h l (List.mem_cons_self ..))
theorem allOf_mem {ls : List (List Int)} (hn : ls ≠ []) {y : Int} : y ∈ allOf ls ↔ ∀ l ∈ ls, y ∈ l := by
  cases ls with
  | nil => exact absurd rfl hn
  | cons l ls =>
    show y ∈ ls.foldl both l ↔ _
    rw [foldb_mem]; simp only [List.mem_cons, forall_eq_or_imp]
theorem allOf_good {ls : List (List Int)} (h : ∀ l ∈ ls, Good 2000 l) : Good 2000 (allOf ls) := by
  refine ⟨allOf_inc fun l hl => (h l hl).1, ?_⟩
  cases ls with
  | nil => simp [allOf]
  | cons l ls => exact Nat.le_trans (foldb_le _ _) (h l (List.mem_cons_self ..)).2
theorem allOf_perm {ls ms : List (List Int)} (hp : ls.Perm ms) (h : ∀ l ∈ ls, Inc l) : allOf ls = allOf ms := by
  by_cases hn : ls = []
  · subst hn; rw [List.nil_perm.1 hp]
  · have hm : ms ≠ [] := fun e => hn (by subst e; exact List.perm_nil.1 hp)
    refine ext (allOf_inc h) (allOf_inc fun l hl => h l (hp.mem_iff.2 hl)) fun x => ?_
    rw [allOf_mem hn, allOf_mem hm]
    exact ⟨fun g l hl => g l (hp.mem_iff.2 hl), fun g l hl => g l (hp.mem_iff.1 hl)⟩
theorem mergeOf_mem {ls : List (List Int)} {y : Int} : y ∈ mergeOf ls ↔ ∃ l ∈ ls, y ∈ l := by
  unfold mergeOf; rw [fold_mem]; simp
theorem mergeOf_perm {ls ms : List (List Int)} (hp : ls.Perm ms) (h : ∀ l ∈ ls, Inc l) : mergeOf ls = mergeOf ms := by
  refine ext (show Inc (mergeOf ls) from fold_inc _ _ inc_nil h) (show Inc (mergeOf ms) from fold_inc _ _ inc_nil fun l hl => h l (hp.mem_iff.2 hl)) fun x => ?_
  rw [mergeOf_mem, mergeOf_mem]
  exact ⟨fun ⟨l, a, b⟩ => ⟨l, hp.mem_iff.1 a, b⟩, fun ⟨l, a, b⟩ => ⟨l, hp.mem_iff.2 a, b⟩⟩
/-- of a number of some list: it is in all just if it is in each -/
theorem every_all {ls : List (List Int)} {n : Int} (hn : n ∈ mergeOf ls) : has (allOf ls) n = ls.all fun x => has x n := by
  have hne : ls ≠ [] := fun e => by subst e; simp [mergeOf] at hn
  rw [Bool.eq_iff_iff, has_iff, allOf_mem hne, List.all_eq_true]
  exact ⟨fun h x hx => has_iff.2 (h x hx), fun h x hx => has_iff.1 (h x hx)⟩

/-- cells and the lists that they hold, in some order -/
def Rows (W : World) (ps : List (Value × List Int)) : Prop := ∀ p ∈ ps, At W W.heap.size p.1 p.2
theorem Rows.next {W W' : World} {ps : List (Value × List Int)} (h : Rows W ps) (hb : Below W.heap.size W W') : Rows W' ps := fun p hp => ((h p hp).below hb).mono hb.size
/-- a slice of slices of the call's own, by its cells -/
theorem lrows_own {W : World} {base : Nat} {e : TypeId} {v : Value} {ps : List (Value × List Int)} (ho : W.ownsRow base e 1 v ps.length (ps.map (·.1))) (hr : Rows W ps) : LRows W W.heap.size v (ps.map (·.2)) := by
  have hlt := ho.lt
  rcases ho.2 with ⟨rfl, hx⟩ | ⟨g, cap, cur, rfl, hbg, hg, hnc, hcm, hcs, htake⟩
  · obtain rfl : ps = [] := List.eq_nil_of_length_eq_zero hx
    exact ⟨none, 0, rfl, ⟨fun _ => rfl, Nat.le_refl _⟩, by simp, fun h => absurd h (by simp)⟩
  · have hl : (ps.map (·.2)).length = ps.length := by simp
    refine ⟨some ⟨g, 0, none⟩, cap, by rw [hl], ⟨(fun e => by cases e), by omega⟩, by omega, fun _ => ⟨g, 0, rfl, (hlt g rfl).2, fun j hj => ?_⟩⟩
    rw [hl] at hj
    have h1 := ho.cells (g := g) rfl j (ps[j]).1 (by simp [hj])
    rw [Addr.add_lit] at h1
    refine ⟨_, h1, ?_⟩
    have h2 := hr ps[j] (List.getElem_mem hj)
    have e2 : (ps.map (·.2)).getD j [] = (ps[j]).2 := by simp [List.getD, hj]
    rw [e2]; exact h2
/-- the cells of a slice of slices -/
theorem lrows_pairs {W : World} {ao : Option Addr} {n cap : Nat} {ls : List (List Int)} (h : LRows W W.heap.size (.slice ao n cap) ls) :
    ∃ ps : List (Value × List Int), ps.map (·.2) = ls ∧ Rows W ps ∧ n = ps.length ∧ (ao = none → n = 0 ∧ cap = 0) ∧ (∀ ad, ao = some ad → ∀ j u, (ps.map (·.1))[j]? = some u → W.cell? (ad.add j) = some u) := by
  obtain ⟨ao', cap', e, ⟨h1, h2⟩, h3, h4⟩ := h
  simp only [Value.slice.injEq] at e
  obtain ⟨rfl, rfl, rfl⟩ := e
  by_cases h0 : ls.length = 0
  · obtain rfl : ls = [] := List.eq_nil_of_length_eq_zero h0
    exact ⟨[], rfl, fun p hp => (by cases hp), rfl, fun e => ⟨rfl, h1 e⟩, fun ad _ j u hj => by simp at hj⟩
  · obtain ⟨b, o, rfl, hB, hc⟩ := h4 (by omega)
    obtain ⟨f, hf⟩ : ∃ f : Nat → Value, ∀ j, j < ls.length → W.cell? ⟨b, o + j, none⟩ = some (f j) ∧ At W W.heap.size (f j) (ls.getD j []) := by
      refine ⟨fun j => (W.cell? ⟨b, o + j, none⟩).getD (.slice none 0 0), fun j hj => ?_⟩
      obtain ⟨x, h5, h6⟩ := hc j hj
      show _ = some ((W.cell? ⟨b, o + j, none⟩).getD (.slice none 0 0)) ∧ At W W.heap.size ((W.cell? ⟨b, o + j, none⟩).getD (.slice none 0 0)) _
      rw [h5]; exact ⟨rfl, h6⟩
    refine ⟨(List.range ls.length).map fun j => (f j, ls.getD j []), ?_, ?_, by simp, (fun e => by cases e), fun ad e j u hj => ?_⟩
    · rw [List.map_map]
      apply List.ext_getElem (by simp)
      intro i h5 h6
      simp [List.getD, h6]
    · intro p hp
      obtain ⟨j, hj, rfl⟩ := List.mem_map.1 hp
      exact (hf j (List.mem_range.1 hj)).2
    · obtain rfl := Option.some.inj e
      have hjl : j < ls.length := by have := (List.getElem?_eq_some_iff.1 hj).1; simpa using this
      rw [Addr.add_lit, (hf j hjl).1]
      simp [hjl] at hj
      rw [hj]
/-- an exchange of two -/
def exch (ps : List (Value × List Int)) (a b : Nat) : List (Value × List Int) := (ps.set a (ps.getD b (.slice none 0 0, []))).set b (ps.getD a (.slice none 0 0, []))
theorem exch_perm {ps : List (Value × List Int)} {a b : Nat} (ha : a < ps.length) (hb : b < ps.length) : (exch ps a b).Perm ps := by
  unfold exch
  have h1 : ps.getD a (.slice none 0 0, []) = ps[a] := by simp [List.getD, ha]
  have h2 : ps.getD b (.slice none 0 0, []) = ps[b] := by simp [List.getD, hb]
  rw [h1, h2]
  exact List.set_set_perm ha hb
theorem exch_len {ps : List (Value × List Int)} {a b : Nat} : (exch ps a b).length = ps.length := by simp [exch]
theorem exch_cells {ps : List (Value × List Int)} {a b : Nat} : (exch ps a b).map (·.1) = ((ps.map (·.1)).set a (ps.getD b (.slice none 0 0, [])).1).set b (ps.getD a (.slice none 0 0, [])).1 := by
  simp [exch, List.map_set]
end Go.Proofs.Ytojngbobecdpeaa
