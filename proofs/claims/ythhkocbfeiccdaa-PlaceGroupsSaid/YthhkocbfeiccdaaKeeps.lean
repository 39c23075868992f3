/- place.Keeps, Next, Group (and the document's own) by their contracts. -/
import Derived.Test.YthhkocbfeiccdaaReps
import Derived.Test.YthhkocbfeiccdaaShelf
namespace Go.Proofs.Ythhkocbfeiccdaa
open Go.RowKit Go.ChangeShapes at_

def hasB (zs : List Int) (x : Int) : Bool := zs.contains x
theorem has_any (zs : List Int) (x : Int) (v : Value) (w : World) (h : At w w.heap.size v zs) :
    Calls Try.prog 27 #[v, .int .i64 x] w fun e w' => e = .returned (.bool (hasB zs x)) ∧ w = w' := by
  obtain ⟨ao, cap, rfl, _, hm, hc⟩ := h
  unfold maxLen at hm
  by_cases h0 : zs.length = 0
  · obtain rfl : zs = [] := List.eq_nil_of_length_eq_zero h0
    exact (Try.slices_Contains_int_empty ao cap x w).mono fun e w' ⟨h1, h2⟩ => ⟨h1, h2.symm⟩
  · obtain ⟨b, off, rfl, _, hcell⟩ := hc (by omega)
    have := Try.slices_Contains_int b off zs.length cap zs x w (Nat.le_refl _) (by omega) hcell
    rw [List.take_length] at this
    exact this.mono fun e w' ⟨h1, h2⟩ => ⟨h1, h2.symm⟩
theorem idx_any (zs : List Int) (x : Int) (v : Value) (w : World) (h : At w w.heap.size v zs) :
    Calls Try.prog 25 #[v, .int .i64 x] w fun e w' => e = .returned (.int .i64 (Lib.idxOf zs x)) ∧ w = w' := by
  obtain ⟨ao, cap, rfl, _, hm, hc⟩ := h
  unfold maxLen at hm
  by_cases h0 : zs.length = 0
  · obtain rfl : zs = [] := List.eq_nil_of_length_eq_zero h0
    exact (Try.slices_Index_int_empty ao cap x w).mono fun e w' ⟨h1, h2⟩ => ⟨h1, h2.symm⟩
  · obtain ⟨b, off, rfl, _, hcell⟩ := hc (by omega)
    have := Try.slices_Index_int b off zs.length cap zs x w (Nat.le_refl _) (by omega) hcell
    rw [List.take_length] at this
    exact this.mono fun e w' ⟨h1, h2⟩ => ⟨h1, h2.symm⟩

theorem hasB_hit {zs : List Int} {x : Int} {k : Nat} (h : k < zs.length) (he : zs.getD k 0 = x) : hasB zs x = true := by
  unfold hasB
  rw [List.contains_iff_mem]
  simp only [List.getD, List.getElem?_eq_getElem h, Option.getD_some] at he
  exact he ▸ List.getElem_mem h
theorem hasB_miss {zs : List Int} {x : Int} {k : Nat} (h : k < zs.length) (he : zs.getD k 0 ≠ x) (ht : hasB (zs.take k) x = false) : hasB (zs.take (k + 1)) x = false := by
  unfold hasB at ht ⊢
  simp only [List.getD, List.getElem?_eq_getElem h, Option.getD_some] at he
  rw [List.take_succ_eq_append_getElem h, List.contains_append, ht]
  simp; exact fun e => he e.symm
set_option maxRecDepth 100000 in
theorem keeps_any (n g c l gr x : Int) (w : World) :
    Calls Try.prog 21 #[.agg #[.int .i64 n, .int .i64 g, .int .i64 c, .int .i64 l], .int .i64 gr, .int .i64 x] w (Said (hasB (repsOf n g c l gr) x) w) := by
  go_enter Try.func21, Try.ntmps21
  go_wp2_with (first | (go_at_call 19; refine (rep_any n g c l gr _).mono ?_; rintro e w1 ⟨v, rfl, hown, hb⟩; have hat := own hown) | (go_at_call 27; refine (has_any (repsOf n g c l gr) x _ _ hat).mono ?_; rintro e w' ⟨rfl, rfl⟩))
  go_ret
  exact ⟨rfl, ((Below.refl _ _).alloc (Nat.le_refl _) _).trans (hb.mono (by simp))⟩

set_option maxRecDepth 100000 in
theorem rkeeps_any (n g c l gr x : Int) (w : World) :
    Calls Try.prog 22 #[.agg #[.int .i64 n, .int .i64 g, .int .i64 c, .int .i64 l], .int .i64 gr, .int .i64 x] w (Said (hasB (repsOf n g c l gr) x) w) := by
  obtain ⟨zs, hz⟩ : ∃ zs, zs = repsOf n g c l gr := ⟨_, rfl⟩
  have HR : Hid (∀ W, Calls Try.prog 20 #[.agg #[.int .i64 n, .int .i64 g, .int .i64 c, .int .i64 l], .int .i64 gr] W (Owned zs W)) := fun W => by rw [hz]; exact rrep_any n g c l gr W
  rw [← hz]
  clear hz
  go_enter Try.func22, Try.ntmps22
  go_wp2_with fail
  refine (HR.out _).mono ?_
  rintro e w1 ⟨v, rfl, hown, hb⟩
  have hB : Below w.heap.size w w1 := ((Below.refl _ _).alloc (Nat.le_refl _) _).trans (hb.mono (by simp))
  obtain ⟨ao, cap, rfl, _, hm, hc⟩ := own hown
  unfold maxLen at hm
  clear hown hb
  by_cases h0 : zs.length = 0
  · have HE : Hid (hasB zs x = false) := by rw [List.eq_nil_of_length_eq_zero h0]; rfl
    rw [h0]
    clear hc h0
    go_wp2
    go_loop [8, 13] (fun _ i => i = .int .i64 0) (fun _ _ => 0)
    case atStart => rfl
    case round =>
      subst hrel
      go_wp2
      go_ret
      rw [HE.out]; exact ⟨rfl, hB⟩
  · obtain ⟨b, off, rfl, _, hcell⟩ := hc (by omega)
    have HC := Lib.hid hcell
    clear hcell hc
    go_wp2
    go_loop [8, 13] (fun _ i => ∃ k : Nat, i = .int .i64 k ∧ k ≤ zs.length ∧ Hid (hasB (zs.take k) x = false)) (fun _ i => zs.length - (intOf i).toNat)
    case atStart => exact ⟨0, rfl, by omega, rfl⟩
    case round =>
      obtain ⟨k, rfl, hk, HT⟩ := hrel
      by_cases hlt : k < zs.length
      · have c1 := HC.out k hlt
        by_cases he : zs.getD k 0 = x
        · have HE : Hid (hasB zs x = true) := hasB_hit hlt he
          rw [he] at c1
          clear he
          go_wp2
          go_ret
          rw [HE.out]; exact ⟨rfl, hB⟩
        · have HT' : Hid (hasB (zs.take (k + 1)) x = false) := hasB_miss hlt he HT.out
          obtain ⟨y, hy⟩ : ∃ y, y = zs.getD k 0 := ⟨_, rfl⟩
          rw [← hy] at c1 he
          have hne : (y == x) = false := by simpa using he
          clear hy he
          go_wp2
          go_round
          case rel => exact ⟨k + 1, by go_num, by omega, HT'⟩
          case measure => simp [intOf]; omega
      · have HE : Hid (hasB zs x = false) := by
          have := HT.out
          rw [List.take_of_length_le (by omega)] at this
          exact this
        go_wp2
        go_ret
        rw [HE.out]; exact ⟨rfl, hB⟩

end Go.Proofs.Ythhkocbfeiccdaa
