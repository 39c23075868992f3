/- copy into a part of a slice of the call's own, from anywhere. Nothing of the program. -/
import Derived.Test.YtpgccfgldjeomaaCopy
namespace Go.Proofs.Ytpgccfgldjeomaa.kit
open Go.RowKit
/-- copy(dst[o1..], src): the row of the call's own holds ys there -/
theorem copy_at {P : Program} {w : World} {ops : Array Oper} {rest : List Oper} {o : Oper} {a : Act} {Q : Exit → Act → World → Prop}
    (d s : Operand) (dT sT : TypeId) (hgd : o.guard = none) (ho : o.op = .call { callee := .builtin .copy, args := #[d, s], argTypes := #[dT, sT] })
    (base : Nat) {e : TypeId} {k : Nat} (hu : P.underlying dT = some (.slice e)) (hs : (P.info? e).map (·.size) = some k)
    {g cap n m c dLen dCap : Nat} {dp sp : Option Addr} {xs ys : List Value} (o1 : Nat) (hown : w.ownsRow base e k (.slice (some ⟨g, 0, none⟩) n cap) n xs) (hd : a.eval d = .slice dp dLen dCap) (hsv : a.eval s = .slice sp m c)
    (hl : ys.length = m * k) (hmn : m ≤ dLen) (hdp : 0 < m → dp = some ⟨g, o1, none⟩) (hfit : o1 + m * k ≤ n * k) (hnone : sp = none → m = 0) (hsrc : ∀ ad, sp = some ad → ∀ j u, ys[j]? = some u → w.cell? (ad.add j) = some u) (h1 : ∀ u ∈ ys, u.oneCell' = true)
    (h : ∀ w', w'.ownsRow base e k (.slice (some ⟨g, 0, none⟩) n cap) n (xs.take o1 ++ ys ++ xs.drop (o1 + m * k)) → Below base w w' → w.heap.size ≤ w'.heap.size → wpList P ops Q rest (a.put o.dst (goInt m)) w') :
    wpList P ops Q (o :: rest) a w := by
  by_cases h0 : m = 0
  · subst h0
    obtain rfl : ys = [] := List.eq_nil_of_length_eq_zero (by simpa using hl)
    refine wpList_plain hgd fun K hK => ?_
    have hrun := run_copy_0 (P := P) w dT sT o.type e dp dLen dCap sp c k hu hs
    unfold Oper.wp
    simp [execOp, ho, resolve, invoke, builtin, hd, hsv, hrun, Result.andThen]
    exact hK _ _ (h w (by simpa using hown) (Below.refl _ _) (Nat.le_refl _))
  · have hlx := hown.1
    obtain rfl := hdp (by omega)
    rcases hown.2 with ⟨hv, hx0⟩ | ⟨g', cap', cur, hv, hbg, hg, hnc, hcm, hcs, htake⟩
    · cases hv
    · simp only [Value.slice.injEq, Option.some.injEq, Addr.mk.injEq] at hv
      obtain ⟨⟨rfl, _, _⟩, _, rfl⟩ := hv
      cases sp with
      | none => exact absurd (hnone rfl) h0
      | some ad =>
        refine wpList_plain hgd fun K hK => ?_
        have hmul2 : n * k ≤ cap * k := Nat.mul_le_mul_right _ hnc
        have hmin : Nat.min m dLen = m := Nat.min_eq_left hmn
        have hrun := run_copy_k (P := P) w dT sT o.type e g o1 dLen dCap ad m c k cur e ys hu hs hg (by rw [hmin]; exact hl) (hsrc ad rfl) (by omega) h1
        rw [hmin] at hrun
        unfold Oper.wp
        simp [execOp, ho, resolve, invoke, builtin, hd, hsv, hrun, Result.andThen]
        refine hK _ _ ?_
        have hcl : cur.toList.length = cap * k := by rw [Array.length_toList]; exact hcs
        refine h _ ⟨by simp; omega, Or.inr ⟨g, cap, _, rfl, hbg, setRow_heap w g cur _ e (0, 0) hg, hnc, hcm, ?_, ?_⟩⟩ ?_ ?_
        · simp; omega
        · have e0 : (cur.toList.take o1 ++ (ys ++ cur.toList.drop (o1 + ys.length))).toArray.toList = cur.toList.take o1 ++ ys ++ cur.toList.drop (o1 + ys.length) := by rw [List.append_assoc]
          have hx1 : xs.take o1 = cur.toList.take o1 := by rw [← htake, List.take_take, Nat.min_eq_left (by omega)]
          have hx2 : xs.drop (o1 + m * k) = (cur.toList.drop (o1 + m * k)).take (n * k - (o1 + m * k)) := by rw [← htake, List.drop_take]
          have hl1 : (cur.toList.take o1 ++ ys).length = o1 + m * k := by rw [List.length_append, List.length_take, hl, hcl, Nat.min_eq_left (by omega)]
          refine Eq.trans (congrArg (List.take (n * k)) e0) ?_
          rw [hx1, hx2, hl, List.take_append, hl1, List.take_of_length_le (by omega)]
        · exact (Below.refl base w).trans ⟨rfl, rfl, rfl, by simp [World.setRow], fun i hi => setRow_other w g i _ (by omega)⟩
        · simp [World.setRow]
end Go.Proofs.Ytpgccfgldjeomaa.kit
