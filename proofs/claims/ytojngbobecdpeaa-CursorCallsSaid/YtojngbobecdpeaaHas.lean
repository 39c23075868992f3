/- Has, in: by contract. -/
import Derived.Test.YtojngbobecdpeaaAny
import Derived.Test.YtojngbobecdpeaaMinus
import Derived.Test.YtojngbobecdpeaaRight
import Derived.Test.YtojngbobecdpeaaShelf
namespace Go.Proofs.Ytojngbobecdpeaa
open Go.RowKit Go.ChangeShapes at_ pm

theorem bs_any (l : List Int) (n : Int) (va : Value) (w : World) (ha : At w w.heap.size va l) (hi : Inc l) (hl : l.length ≤ 100000) :
    Calls Try.prog 45 #[va, .int .i64 n] w (fun e w' => (∃ p : Int, e = .returned (.tuple #[.int .i64 p, .bool (has l n)])) ∧ Below w.heap.size w w') := by
  obtain ⟨ao, ca, rfl, ⟨_, hca⟩, _, ka⟩ := ha
  by_cases h0 : l.length = 0
  · have hn : l = [] := List.eq_nil_of_length_eq_zero h0
    subst hn
    refine (Try.slices_BinarySearch_int_empty ao ca n w).mono ?_
    rintro e w' ⟨rfl, rfl⟩
    exact ⟨⟨0, rfl⟩, Below.refl _ _⟩
  · obtain ⟨ba, oa, rfl, hBa, hcell⟩ := ka (by omega)
    refine (Try.slices_BinarySearch_int ba oa l.length ca l n w (Nat.le_refl _) (by omega) hcell (by rw [List.take_of_length_le (Nat.le_refl _)]; exact List.Pairwise.imp (fun h => Int.le_of_lt h) hi)).mono ?_
    rintro e w' ⟨rfl, q, rfl⟩
    rw [List.take_of_length_le (Nat.le_refl _)]
    exact ⟨⟨_, rfl⟩, below_drewN (Below.refl _ _) _⟩

set_option maxHeartbeats 3200000 in
set_option maxRecDepth 100000 in
theorem phas_any (l : List Int) (n : Int) (va : Value) (w : World) (ha : At w w.heap.size va l) (hi : Inc l) (hl : l.length ≤ 100000) :
    Calls Try.prog 54 #[va, .int .i64 n] w (Said (has l n) w) := by
  have H := bs_any l n va w ha hi hl
  obtain ⟨b, hb⟩ : ∃ b, b = has l n := ⟨_, rfl⟩
  rw [← hb] at H ⊢
  clear hb
  go_enter Try.func54, Try.ntmps54
  go_wp2_with fail
  refine H.mono ?_
  rintro e w1 ⟨⟨p, rfl⟩, hb⟩
  go_wp2
  go_ret
  exact ⟨rfl, hb⟩
set_option maxHeartbeats 3200000 in
set_option maxRecDepth 100000 in
theorem rhas_any (l : List Int) (n : Int) (va : Value) (w : World) (ha : At w w.heap.size va l) (hi : Inc l) (hl : l.length ≤ 100000) :
    Calls Try.prog 58 #[va, .int .i64 n] w (Said (has l n) w) := by
  obtain ⟨ao, ca, rfl, ⟨_, hca⟩, _, ka⟩ := ha
  have KA := Lib.hid ka; clear ka
  have GA := Lib.hid hi; clear hi
  go_enter Try.func58, Try.ntmps58
  go_wp2
  go_loopw [5, 6] (fun f t wr => ∃ p q : Nat, f = .int .i64 p ∧ t = .int .i64 q ∧ p ≤ q ∧ q ≤ l.length ∧ Hid (∀ j, j < p → l.getD j 0 < n) ∧ Hid (∀ j, q ≤ j → j < l.length → n < l.getD j 0) ∧ Below w.heap.size w wr) (fun f t _ => (intOf t).toNat - (intOf f).toNat)
  case atStart => exact ⟨0, l.length, rfl, rfl, by omega, by omega, (fun j hj => absurd hj (Nat.not_lt_zero _)), (fun j h1 h2 => by omega), Below.refl _ _⟩
  case round =>
    obtain ⟨p, q, rfl, rfl, hpq, hq, HL, HR, hbl⟩ := hrel
    by_cases hlt : p < q
    · obtain ⟨s, hs⟩ : ∃ s : Nat, (q : Int) - (p : Int) = (s : Int) := ⟨q - p, by omega⟩
      obtain ⟨d, hd⟩ : ∃ d : Nat, d = s / 2 := ⟨_, rfl⟩
      have hdI : (s : Int).tdiv 2 = (d : Int) := by rw [hd]; rfl
      obtain ⟨m, hm⟩ : ∃ m : Nat, m = p + d := ⟨_, rfl⟩
      have hmI : (p : Int) + (d : Int) = (m : Int) := by omega
      have hmq : m < q := by omega
      have hpm : p ≤ m := by omega
      obtain ⟨ba, oa, hao, hBa, hcell⟩ := KA.out (by omega)
      subst hao
      have c1 : wr.cell? ⟨ba, oa + m, none⟩ = some (.int .i64 (l.getD m 0)) := (hbl.cell (p := ⟨ba, _, none⟩) hBa).trans (hcell m (by omega))
      have hmL : (m : Int) < (l.length : Int) := by omega
      obtain ⟨x, hx⟩ : ∃ x, x = l.getD m 0 := ⟨_, rfl⟩
      rw [← hx] at c1
      have HX := Lib.hid hx
      clear hx hcell hd hm
      rcases Int.lt_trichotomy x n with h3 | h3 | h3
      · have HL' : Hid (∀ j, j < m + 1 → l.getD j 0 < n) := fun j hj => by
          by_cases e : j = m
          · rw [e, ← HX.out]; exact h3
          · have := inc_get GA.out (show j < m by omega) (by omega)
            rw [← HX.out] at this
            omega
        have hne : (x == n) = false := beq_eq_false_iff_ne.2 (by omega)
        go_wp2
        go_roundw
        case rel => exact ⟨m + 1, q, by go_num, rfl, by omega, hq, HL', HR, hbl⟩
        case measure => simp [intOf]; omega
      · have HE : Hid (has l n = true) := has_iff.2 (by rw [← h3, HX.out]; exact mem_get (by omega))
        have heq : (x == n) = true := beq_iff_eq.2 h3
        go_wp2
        go_ret
        rw [HE.out]; exact ⟨rfl, hbl⟩
      · have HR' : Hid (∀ j, m ≤ j → j < l.length → n < l.getD j 0) := fun j h1 h2 => by
          by_cases e : j = m
          · rw [e, ← HX.out]; exact h3
          · have := inc_get GA.out (show m < j by omega) h2
            rw [← HX.out] at this
            omega
        have hne : (x == n) = false := beq_eq_false_iff_ne.2 (by omega)
        go_wp2
        go_roundw
        case rel => exact ⟨p, m, rfl, by go_num, by omega, by omega, HL, HR', hbl⟩
        case measure => simp [intOf]; omega
    · obtain rfl : p = q := by omega
      have HE : Hid (has l n = false) := has_not.2 (not_in (q := p) GA.out HL.out (fun h => HR.out p (Nat.le_refl _) h))
      go_wp2
      go_ret
      rw [HE.out]; exact ⟨rfl, hbl⟩
end Go.Proofs.Ytojngbobecdpeaa
