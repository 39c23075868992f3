/- a new box of no cursor lies in none that is right. -/
import Derived.Test.YtojngbobecdpeaaCurT
namespace Go.Proofs.Ytojngbobecdpeaa
open Go Go.RowKit Go.ChangeShapes at_ pm cl
theorem right_kind {e : Nat} {x : Cur} (h : x.right e = true) : x.k ≠ 0 := by
  cases e with
  | zero => cases x; simp [Cur.right] at h
  | succ e =>
    cases x with
    | mk k l a ks =>
      by_cases h1 : k = 1
      · subst h1; show (1 : Int) ≠ 0; decide
      · have := (Cur.right_kids h1 h).1
        show k ≠ 0
        omega
theorem curT_zero {W : World} {g : Nat} (hg : W.heap[g]? = some (.cells #[.int .i64 0, .slice none 0 0, .int .i64 0, .slice none 0 0] 25 (0, 0))) (cs : Array Value) : ∀ (d e : Nat) (B : Nat) (c : List Value) (x : Cur), curT d W B c x → x.right e = true → curT d (W.setRow g cs) B c x
  | 0, _, _, _, _, h, _ => h.elim
  | d + 1, 0, _, _, x, _, hr => by cases x; simp [Cur.right] at hr
  | d + 1, e + 1, B, c, .mk k l a ks, h, hr => by
    obtain ⟨lo, ln, lc, ko, kn, kc, rfl, hA, hT, hK⟩ := h
    simp only [Cur.l, Cur.ks] at hA hK
    have hkids : ∀ y ∈ ks, y.right e = true := by
      by_cases h1 : k = 1
      · subst h1
        obtain ⟨rfl, _⟩ := Cur.right_list hr
        intro y hy; simp at hy
      · exact (Cur.right_kids h1 hr).2.2.2.2.2
    refine ⟨lo, ln, lc, ko, kn, kc, rfl, ?_, ?_, ?_⟩
    · obtain ⟨ao, cap, e1, h1, h2, h3⟩ := hA
      refine ⟨ao, cap, e1, h1, h2, fun h0 => ?_⟩
      obtain ⟨b, off, e2, hB, hc⟩ := h3 h0
      simp only [Value.slice.injEq] at e1
      obtain ⟨cs2, fr, hb⟩ := hT (by rw [e1.2.1]; exact h0) ⟨b, off, none⟩ (by rw [e1.1, e2])
      have hne : b ≠ g := by
        intro e; subst e
        rw [hg] at hb
        simp only [Option.some.injEq, Obj.cells.injEq] at hb
        exact absurd hb.2.1 (by decide)
      refine ⟨b, off, e2, hB, fun j hj => ?_⟩
      rw [World.cell?_of_block (w := W) (setRow_other _ _ _ _ hne)]
      exact hc j hj
    · intro h0 ad ha
      obtain ⟨cs2, fr, hb⟩ := hT h0 ad ha
      have hne : ad.block ≠ g := by
        intro e; rw [e, hg] at hb
        simp only [Option.some.injEq, Obj.cells.injEq] at hb
        exact absurd hb.2.1 (by decide)
      exact ⟨cs2, fr, (setRow_other _ _ _ _ hne).trans hb⟩
    · obtain ⟨ms, m0, m1, ⟨q0, ao, cap, e1, q1, q2, q3⟩⟩ := hK
      refine ⟨ms, m0, fun j c x hc hx => ⟨(m1 j c x hc hx).1, curT_zero hg cs d e B c x (m1 j c x hc hx).2 (hkids x (List.mem_of_getElem? hx))⟩, ⟨q0, ao, cap, e1, q1, q2, fun h0 => ?_⟩⟩
      obtain ⟨b, off, e2, hB, hc⟩ := q3 h0
      have hne : b ≠ g := by
        intro e; subst e
        cases ks with
        | nil => exact absurd h0 (Nat.lt_irrefl 0)
        | cons y r =>
          cases ms with
          | nil => simp at m0
          | cons c0 mr =>
            obtain ⟨hl0, hy⟩ := m1 0 c0 y rfl rfl
            obtain ⟨lo', ln', lc', ko', kn', kc', rfl⟩ := cur_form hy.un
            have hz : W.cell? ⟨b, off + 0, none⟩ = some (.int .i64 y.k) := hc 0 _ rfl
            have hk0 := right_kind (hkids y (by simp))
            have hz2 : (W.cell? ⟨b, off, none⟩) = some (.int .i64 y.k) := hz
            have hcell : ∀ u, W.cell? ⟨b, off, none⟩ = some u → u = .int .i64 0 ∨ ∃ p q r, u = .slice p q r := by
              intro u hu
              simp only [World.cell?, hg] at hu
              rcases off with _ | _ | _ | _ | off
              · left; simpa using hu.symm
              · right; exact ⟨_, _, _, by simpa using hu.symm⟩
              · left; simpa using hu.symm
              · right; exact ⟨_, _, _, by simpa using hu.symm⟩
              · simp at hu
            rcases hcell _ hz2 with h | ⟨p, q, r, h⟩
            · simp only [Value.int.injEq, true_and] at h
              exact hk0 h
            · cases h
      refine ⟨b, off, e2, hB, fun j u hj => ?_⟩
      rw [World.cell?_of_block (w := W) (setRow_other _ _ _ _ hne)]
      exact hc j u hj
end Go.Proofs.Ytojngbobecdpeaa
