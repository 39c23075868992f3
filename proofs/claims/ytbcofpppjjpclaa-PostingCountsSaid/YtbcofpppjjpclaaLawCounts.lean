/- PostingCounts, walked. -/
import Derived.Test.YtbcofpppjjpclaaAwk6
namespace Go.Proofs.Ytbcofpppjjpclaa
open Go.RowKit Go.ChangeShapes at_ pm

theorem any_count : ∀ (n : Nat) (a b : List Int), a.length + b.length ≤ n → Inc a → Inc b → (any a b).length + (both a b).length = a.length + b.length := by
  intro n
  induction n with
  | zero =>
    intro a b h _ _
    obtain rfl : a = [] := List.eq_nil_of_length_eq_zero (by omega)
    rw [any_nil_left, both_nil_left]; simp
  | succ n ih =>
    intro a b h ha hb
    cases a with
    | nil => rw [any_nil_left, both_nil_left]; simp
    | cons x a =>
      cases b with
      | nil => rw [any_nil_right, both_nil_right]
      | cons y b =>
        simp only [List.length_cons] at h
        rcases Int.lt_trichotomy x y with hl | hl | hl
        · rw [any_lt hl, both_lt hb hl]
          have := ih a (y :: b) (by simp only [List.length_cons]; omega) (inc_tail ha) hb
          simp only [List.length_cons] at this ⊢; omega
        · subst hl
          rw [any_eq, both_eq ha]
          have := ih a b (by omega) (inc_tail ha) (inc_tail hb)
          simp only [List.length_cons] at this ⊢; omega
        · rw [any_gt hl, both_gt ha hl]
          have := ih (x :: a) b (by simp only [List.length_cons]; omega) ha (inc_tail hb)
          simp only [List.length_cons] at this ⊢; omega
theorem minus_count (b : List Int) : ∀ a : List Int, (both a b).length + (minus a b).length = a.length := by
  intro a
  induction a with
  | nil => rfl
  | cons x a ih =>
    cases h : has b x with
    | true =>
      have e1 : both (x :: a) b = x :: both a b := List.filter_cons_of_pos h
      have e2 : minus (x :: a) b = minus a b := List.filter_cons_of_neg (by rw [h]; decide)
      rw [e1, e2]
      simp only [List.length_cons]; omega
    | false =>
      have e1 : both (x :: a) b = both a b := List.filter_cons_of_neg (by rw [h]; decide)
      have e2 : minus (x :: a) b = x :: minus a b := List.filter_cons_of_pos (by rw [h]; decide)
      rw [e1, e2]
      simp only [List.length_cons]; omega

set_option maxHeartbeats 6400000 in
set_option maxRecDepth 100000 in
theorem counts_any (a b : List Int) (va vb : Value) (w : World) (ha : At w w.heap.size va a) (hb : At w w.heap.size vb b) :
    Calls Try.prog 7 #[va, vb] w (Said true w) := by
  have E0 : Env w w [(va, a), (vb, b), (.slice none 0 0, [])] := ⟨Below.refl _ _, by
    intro p hp
    simp only [List.mem_cons, List.not_mem_nil, or_false] at hp
    rcases hp with rfl | rfl | rfl
    · exact ha
    · exact hb
    · exact at_.nil _ _⟩
  obtain ⟨ao, na, ca, rfl, hna⟩ := E0.form (.head _)
  have HNa := Lib.hid hna
  clear hna
  obtain ⟨bo, nb, cb, rfl, hnb⟩ := E0.form (.tail _ (.head _))
  have HNb := Lib.hid hnb
  clear hnb
  have hR := lrows_lit E0 [.slice ao na ca, .slice bo nb cb] [a, b] #[.slice ao na ca, .slice bo nb cb] 22 rfl rfl (by simp [maxLen]) (fun j h => match j, h with | 0, _ => .head _ | 1, _ => .tail _ (.head _) | (j + 2), h => absurd h (by simp))
  have H := cright (E0.alloc #[.slice ao na ca, .slice bo nb cb] 22) hR
  clear hR ha hb
  cases hr : rowsOk [a, b] with
  | false =>
    rw [hr] at H
    clear hr
    go_enter Try.func7, Try.ntmps7
    go_wp2_with fail
    refine H.mono ?_
    rintro e W1 ⟨rfl, E1⟩
    go_wp2_with fail
    refine (awake_any _).mono ?_
    rintro e W2 ⟨rfl, hb2⟩
    go_wp2
    go_ret
    exact ⟨rfl, (E1.step hb2).1⟩
  | true =>
    rw [hr] at H
    have ga : Good 2000 a := ⟨right_inc (rowsOk_get hr (by simp)).2, (rowsOk_get hr (by simp)).1⟩
    have gb : Good 2000 b := ⟨right_inc (rowsOk_get hr (by simp)).2, (rowsOk_get hr (by simp)).1⟩
    clear hr
    have hla := ga.2
    have hlb := gb.2
    rw [← HNa.out] at hla
    rw [← HNb.out] at hlb
    go_enter Try.func7, Try.ntmps7
    go_wp2_with fail
    refine H.mono ?_
    rintro e W0 ⟨rfl, E0⟩
    go_wp2_with fail
    refine (cboth E0 (.head _) (.tail _ (.head _)) ga gb).mono ?_
    rintro e W1 ⟨v1, rfl, E1⟩
    clear E0
    obtain ⟨o1, n1, c1, rfl, hn1⟩ := E1.form (.head _)
    have hl1 := (ga.both gb).2
    rw [← hn1] at hl1
    have HN1 := Lib.hid hn1; clear hn1
    go_wp2_with fail
    refine (cany E1 (.tail _ (.head _)) (.tail _ (.tail _ (.head _))) ga gb).mono ?_
    rintro e W2 ⟨v2, rfl, E2⟩
    clear E1
    obtain ⟨o2, n2, c2, rfl, hn2⟩ := E2.form (.head _)
    have hl2 := (ga.any gb).2
    rw [← hn2] at hl2
    have hc1 : ((na : Int) + (nb : Int) == (n2 : Int) + (n1 : Int)) = true := by
      have := any_count _ a b (Nat.le_refl _) ga.1 gb.1
      have := HN1.out
      have := HNa.out
      have := HNb.out
      exact beq_iff_eq.2 (by omega)
    have HN2 := Lib.hid hn2; clear hn2
    go_wp2_with fail
    refine (cminus E2 (.tail _ (.tail _ (.head _))) (.tail _ (.tail _ (.tail _ (.head _)))) ga gb).mono ?_
    rintro e W3 ⟨v3, rfl, E3⟩
    clear E2
    obtain ⟨o3, n3, c3, rfl, hn3⟩ := E3.form (.head _)
    have hl3 := (ga.minus gb).2
    rw [← hn3] at hl3
    have hc2 : ((na : Int) == (n1 : Int) + (n3 : Int)) = true := by
      have := minus_count b a
      have := HN1.out
      have := HNa.out
      have := HNb.out
      exact beq_iff_eq.2 (by omega)
    have HN3 := Lib.hid hn3; clear hn3
    go_wp2_with fail
    refine (cminus E3 (.tail _ (.tail _ (.tail _ (.head _)))) (.tail _ (.tail _ (.tail _ (.tail _ (.head _))))) ga gb).mono ?_
    rintro e W4 ⟨v4, rfl, E4⟩
    clear E3
    go_wp2_with fail
    refine (cany E4 (.tail _ (.tail _ (.tail _ (.head _)))) (.head _) (ga.both gb) (ga.minus gb)).mono ?_
    rintro e W5 ⟨v5, rfl, E5⟩
    clear E4
    go_wp2_with fail
    refine (cints E5 (.head _) (.tail _ (.tail _ (.tail _ (.tail _ (.tail _ (.head _)))))) (ext ((ga.both gb).any (ga.minus gb)).1 ga.1 (fun x => by simp only [mem_both, mem_any', mem_minus]; by_cases h1 : x ∈ a <;> by_cases h2 : x ∈ b <;> simp [h1, h2]))).mono ?_
    rintro e W6 ⟨rfl, E6⟩
    clear E5
    go_wp2_with fail
    refine (awake_any _).mono ?_
    rintro e Wz ⟨rfl, hbz⟩
    have hfin := (E6.step hbz).1
    clear E6 hbz
    go_wp2
    go_ret
    exact ⟨rfl, hfin⟩
end Go.Proofs.Ytbcofpppjjpclaa
