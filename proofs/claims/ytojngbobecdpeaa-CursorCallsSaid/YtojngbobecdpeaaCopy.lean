/- copy into a slice of the call's own, and a store into one, at elements of k cells. Nothing of the program. -/
import Derived.Test.YtojngbobecdpeaaKit
import Derived.Laws.CopyRow
namespace Go.Proofs.Ytojngbobecdpeaa.kit
open Go.RowKit

theorem run_copy_k {P : Program} (w : World) (dT sT ty elem : TypeId) (g o dLen dCap : Nat) (a : Addr) (sLen sCap k : Nat) (cur : Array Value) (t : TypeId) (cs : List Value)
    (hu : P.underlying dT = some (.slice elem)) (hs : (P.info? elem).map (·.size) = some k)
    (hg : w.heap[g]? = some (.cells cur t (0, 0))) (hn : cs.length = Nat.min sLen dLen * k)
    (hsrc : ∀ j v, cs[j]? = some v → w.cell? (a.add j) = some v) (hfit : o + cs.length ≤ cur.size) (h1 : ∀ v ∈ cs, v.oneCell' = true) :
    (Builtin.copy_ #[dT, sT] ty #[.slice (some ⟨g, o, none⟩) dLen dCap, .slice (some a) sLen sCap]).run P w =
      .ok (goInt (Nat.min sLen dLen)) (w.setRow g (cur.toList.take o ++ cs ++ cur.toList.drop (o + cs.length)).toArray) := by
  have hl := run_loadCells_list (P := P) w a cs hsrc
  have hst := run_storeCells_at P g o t cs 0 cur w hg (by simpa using hfit) h1
  cases hq : P.info? elem with
  | none => simp [hq] at hs
  | some i =>
    have hi : i.size = k := by simpa [hq] using hs
    simp [Builtin.copy_, run_underlying hu, Builtin.lenOf, Builtin.firstCells, sizeOf, typeInfo, hq, hi, ← hn, hl, hst]
theorem run_copy_0 {P : Program} (w : World) (dT sT ty elem : TypeId) (d : Option Addr) (dLen dCap : Nat) (s : Option Addr) (sCap k : Nat)
    (hu : P.underlying dT = some (.slice elem)) (hs : (P.info? elem).map (·.size) = some k) :
    (Builtin.copy_ #[dT, sT] ty #[.slice d dLen dCap, .slice s 0 sCap]).run P w = .ok (goInt 0) w := by
  cases hq : P.info? elem with
  | none => simp [hq] at hs
  | some i =>
    have h0 : Nat.min 0 dLen = 0 := Nat.zero_min _
    cases d with
    | none => cases s <;> simp [Builtin.copy_, run_underlying hu, Builtin.lenOf, Builtin.firstCells, sizeOf, typeInfo, hq, loadCells, loadCellsFrom]
    | some a => cases s <;> simp [Builtin.copy_, run_underlying hu, Builtin.lenOf, Builtin.firstCells, sizeOf, typeInfo, hq, loadCells, loadCellsFrom, storeCells]

/-- a store of one cell into a row of the call's own -/
theorem own_set {w : World} {base : Nat} {e : TypeId} {k n g cap j : Nat} {xs : List Value} {u : Value} (h : w.ownsRow base e k (.slice (some ⟨g, 0, none⟩) n cap) n xs) :
    (w.setCell ⟨g, j, none⟩ u).ownsRow base e k (.slice (some ⟨g, 0, none⟩) n cap) n (xs.set j u) ∧ Below base w (w.setCell ⟨g, j, none⟩ u) := by
  have hl := h.1
  rcases h.2 with ⟨hv, _⟩ | ⟨g', cap', cur, hv, hbg, hg, hnc, hcm, hcs, htake⟩
  · cases hv
  · simp only [Value.slice.injEq, Option.some.injEq, Addr.mk.injEq] at hv
    obtain ⟨⟨rfl, _, _⟩, _, rfl⟩ := hv
    have hset : w.setCell ⟨g, j, none⟩ u = w.setRow g (cur.setIfInBounds j u) := setCell_eq_setRow w g j cur e (0, 0) u hg
    have hmul : n * k ≤ cap * k := Nat.mul_le_mul_right _ hnc
    refine ⟨⟨by rw [List.length_set]; exact hl, Or.inr ⟨g, cap, cur.setIfInBounds j u, rfl, hbg, ?_, hnc, hcm, by rw [Array.size_setIfInBounds]; exact hcs, ?_⟩⟩, ?_⟩
    · rw [hset]; exact setRow_heap w g cur _ e (0, 0) hg
    · rw [Array.toList_setIfInBounds, ← htake, List.take_set]
    · exact (Below.refl base w).setCell hbg u

/-- copy(dst, src) from the head, dst of the call's own, src not longer than dst -/
theorem copy_own_k {P : Program} {w : World} {ops : Array Oper} {rest : List Oper} {o : Oper} {a : Act} {Q : Exit → Act → World → Prop}
    (d s : Operand) (dT sT : TypeId) (hgd : o.guard = none) (ho : o.op = .call { callee := .builtin .copy, args := #[d, s], argTypes := #[dT, sT] })
    (base : Nat) {e : TypeId} {k : Nat} (hu : P.underlying dT = some (.slice e)) (hs : (P.info? e).map (·.size) = some k)
    {g cap n m c : Nat} {sp : Option Addr} {xs ys : List Value} (hown : w.ownsRow base e k (.slice (some ⟨g, 0, none⟩) n cap) n xs) (hd : a.eval d = .slice (some ⟨g, 0, none⟩) n cap) (hsv : a.eval s = .slice sp m c)
    (hl : ys.length = m * k) (hmn : m ≤ n) (hnone : sp = none → m = 0) (hsrc : ∀ ad, sp = some ad → ∀ j u, ys[j]? = some u → w.cell? (ad.add j) = some u) (h1 : ∀ u ∈ ys, u.oneCell' = true)
    (h : ∀ w', w'.ownsRow base e k (.slice (some ⟨g, 0, none⟩) n cap) n (ys ++ xs.drop (m * k)) → Below base w w' → w.heap.size ≤ w'.heap.size → wpList P ops Q rest (a.put o.dst (goInt m)) w') :
    wpList P ops Q (o :: rest) a w := by
  by_cases h0 : m = 0
  · subst h0
    obtain rfl : ys = [] := List.eq_nil_of_length_eq_zero (by simpa using hl)
    refine wpList_plain hgd fun K hK => ?_
    have hrun := run_copy_0 (P := P) w dT sT o.type e (some ⟨g, 0, none⟩) n cap sp c k hu hs
    unfold Oper.wp
    simp [execOp, ho, resolve, invoke, builtin, hd, hsv, hrun, Result.andThen]
    exact hK _ _ (h w (by simpa using hown) (Below.refl _ _) (Nat.le_refl _))
  · have hlx := hown.1
    rcases hown.2 with ⟨hv, hx0⟩ | ⟨g', cap', cur, hv, hbg, hg, hnc, hcm, hcs, htake⟩
    · cases hv
    · simp only [Value.slice.injEq, Option.some.injEq, Addr.mk.injEq] at hv
      obtain ⟨⟨rfl, _, _⟩, _, rfl⟩ := hv
      cases sp with
      | none => exact absurd (hnone rfl) h0
      | some ad =>
        refine wpList_plain hgd fun K hK => ?_
        have hmul : m * k ≤ n * k := Nat.mul_le_mul_right _ hmn
        have hmul2 : n * k ≤ cap * k := Nat.mul_le_mul_right _ hnc
        have hmin : Nat.min m n = m := Nat.min_eq_left hmn
        have hrun := run_copy_k (P := P) w dT sT o.type e g 0 n cap ad m c k cur e ys hu hs hg (by rw [hmin]; exact hl) (hsrc ad rfl) (by omega) h1
        rw [hmin] at hrun
        unfold Oper.wp
        simp [execOp, ho, resolve, invoke, builtin, hd, hsv, hrun, Result.andThen]
        refine hK _ _ ?_
        have hcl : cur.toList.length = cap * k := by rw [Array.length_toList]; exact hcs
        refine h _ ⟨by rw [List.length_append, List.length_drop]; omega, Or.inr ⟨g, cap, _, rfl, hbg, setRow_heap w g cur _ e (0, 0) hg, hnc, hcm, ?_, ?_⟩⟩ ?_ ?_
        · simp; omega
        · simp
          rw [← htake, List.take_append, hl]
          rw [List.take_of_length_le (by omega), List.drop_take]
        · exact (Below.refl base w).trans ⟨rfl, rfl, rfl, by simp [World.setRow], fun i hi => setRow_other w g i _ (by omega)⟩
        · simp [World.setRow]
end Go.Proofs.Ytojngbobecdpeaa.kit
