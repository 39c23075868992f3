/- place.Next (and the document's own) by its contract. -/
import Derived.Test.YthhkocbfeiccdaaKeeps
namespace Go.Proofs.Ythhkocbfeiccdaa
open Go.RowKit Go.ChangeShapes at_

/-- the replica behind a node, and whether it is another one -/
def nextN (zs : List Int) (x : Int) : Int := if Lib.idxOf zs x < 0 then 0 else zs.getD (((Lib.idxOf zs x).toNat + 1) % zs.length) 0
def nextB (zs : List Int) (x : Int) : Bool := if Lib.idxOf zs x < 0 then false else decide (1 < zs.length)
def Two (a : Int) (b : Bool) (w : World) (e : Ending) (w' : World) : Prop := e = .returned (.tuple #[.int .i64 a, .bool b]) ∧ Below w.heap.size w w'
theorem two_mk {a a' : Int} {b b' : Bool} (h1 : a = a') (h2 : b = b') : Ending.returned (.tuple #[.int .i64 a, .bool b]) = .returned (.tuple #[.int .i64 a', .bool b']) := by rw [h1, h2]

theorem idx_cases (zs : List Int) (x : Int) : (Lib.idxOf zs x = -1 ∧ ∀ j, j < zs.length → zs.getD j 0 ≠ x) ∨ ∃ k : Nat, k < zs.length ∧ Lib.idxOf zs x = (k : Int) ∧ zs.getD k 0 = x ∧ ∀ j, j < k → zs.getD j 0 ≠ x := by
  by_cases h : ∃ k, k < zs.length ∧ zs.getD k 0 = x
  · right
    obtain ⟨k, ⟨hk, hx⟩, hmin⟩ : ∃ k, (k < zs.length ∧ zs.getD k 0 = x) ∧ ∀ j, j < k → ¬ (j < zs.length ∧ zs.getD j 0 = x) := by
      obtain ⟨k, hk⟩ := h
      induction k using Nat.strongRecOn with
      | ind k ih =>
        by_cases hm : ∃ j, j < k ∧ (j < zs.length ∧ zs.getD j 0 = x)
        · obtain ⟨j, hj, hj2⟩ := hm
          exact ih j hj hj2
        · exact ⟨k, hk, fun j hj hj2 => hm ⟨j, hj, hj2⟩⟩
    have hne : ∀ j, j < k → zs.getD j 0 ≠ x := fun j hj e => hmin j hj ⟨by omega, e⟩
    have := Lib.idxOf_hit zs zs.length k x hk (Nat.le_refl _) hx hne
    rw [List.take_length] at this
    exact ⟨k, hk, this, hx, hne⟩
  · left
    have hne : ∀ j, j < zs.length → zs.getD j 0 ≠ x := fun j hj e => h ⟨j, hj, e⟩
    have := Lib.idxOf_miss zs zs.length x hne
    rw [List.take_length] at this
    exact ⟨this, hne⟩

set_option maxHeartbeats 800000 in
set_option maxRecDepth 100000 in
theorem next_any (n g c l gr x : Int) (w : World) :
    Calls Try.prog 15 #[.agg #[.int .i64 n, .int .i64 g, .int .i64 c, .int .i64 l], .int .i64 gr, .int .i64 x] w (Two (nextN (repsOf n g c l gr) x) (nextB (repsOf n g c l gr) x) w) := by
  obtain ⟨zs, hz⟩ : ∃ zs, zs = repsOf n g c l gr := ⟨_, rfl⟩
  have HR : Hid (∀ W, Calls Try.prog 19 #[.agg #[.int .i64 n, .int .i64 g, .int .i64 c, .int .i64 l], .int .i64 gr] W (Owned zs W)) := fun W => by rw [hz]; exact rep_any n g c l gr W
  rw [← hz]
  clear hz
  rcases idx_cases zs x with ⟨hi, _⟩ | ⟨k, hk, hi, hx, _⟩
  · have HN : Hid (nextN zs x = 0 ∧ nextB zs x = false) := by unfold nextN nextB; rw [hi]; exact ⟨rfl, rfl⟩
    have HI : Hid (∀ (v : Value) (W : World), At W W.heap.size v zs → Calls Try.prog 25 #[v, .int .i64 x] W fun e w' => e = .returned (.int .i64 (-1)) ∧ W = w') := fun v W h => by have := idx_any zs x v W h; rw [hi] at this; exact this
    clear hi
    go_enter Try.func15, Try.ntmps15
    go_wp2_with (first | (go_at_call 19; refine (HR.out _).mono ?_; rintro e w1 ⟨v, rfl, hown, hb⟩; have hat := own hown) | (go_at_call 25; refine (HI.out _ _ hat).mono ?_; rintro e w' ⟨rfl, rfl⟩))
    go_ret2
    rw [HN.out.1, HN.out.2]; exact ⟨rfl, ((Below.refl _ _).alloc (Nat.le_refl _) _).trans (hb.mono (by simp))⟩
  · obtain ⟨y, hy⟩ : ∃ y, y = zs.getD ((k + 1) % zs.length) 0 := ⟨_, rfl⟩
    have HN : Hid (nextN zs x = y ∧ nextB zs x = decide (1 < zs.length)) := by
      unfold nextN nextB; rw [hi, hy, if_neg (by omega), if_neg (by omega)]; exact ⟨by simp, rfl⟩
    have HI : Hid (∀ (v : Value) (W : World), At W W.heap.size v zs → Calls Try.prog 25 #[v, .int .i64 x] W fun e w' => e = .returned (.int .i64 (k : Int)) ∧ W = w') := fun v W h => by have := idx_any zs x v W h; rw [hi] at this; exact this
    have hmod : (k + 1) % zs.length < zs.length := Nat.mod_lt _ (by omega)
    have hmI0 : 0 ≤ ((k : Int) + 1) % (zs.length : Int) := Int.emod_nonneg _ (by omega)
    have hmI1 : ((k : Int) + 1) % (zs.length : Int) < (zs.length : Int) := Int.emod_lt_of_pos _ (by omega)
    clear hi hx
    go_enter Try.func15, Try.ntmps15
    go_wp2_with fail
    refine (HR.out _).mono ?_
    rintro e w1 ⟨v, rfl, hown, hb⟩
    have hB : Below w.heap.size w w1 := ((Below.refl _ _).alloc (Nat.le_refl _) _).trans (hb.mono (by simp))
    have hat := own hown
    have HAT := Lib.hid hat
    obtain ⟨ao, cap, rfl, _, hm, hc⟩ := hat
    obtain ⟨b, off, rfl, _, hcell⟩ := hc (by omega)
    have c1 := hcell _ hmod
    rw [← hy] at c1
    unfold maxLen at hm
    clear hcell hc hown hb hy
    go_wp2_with (go_at_call 25; refine (HI.out _ _ HAT.out).mono ?_; rintro e w' ⟨rfl, rfl⟩)
    go_ret2
    rw [HN.out.1, HN.out.2]; exact ⟨two_mk rfl (by simp; omega), hB⟩

set_option maxHeartbeats 1600000 in
set_option maxRecDepth 100000 in
theorem rnext_core (n g c l gr x : Int) (w : World) (zs : List Int) (HR : Hid (∀ W, Calls Try.prog 20 #[.agg #[.int .i64 n, .int .i64 g, .int .i64 c, .int .i64 l], .int .i64 gr] W (Owned zs W))) :
    Calls Try.prog 16 #[.agg #[.int .i64 n, .int .i64 g, .int .i64 c, .int .i64 l], .int .i64 gr, .int .i64 x] w (Two (nextN zs x) (nextB zs x) w) := by
  go_enter Try.func16, Try.ntmps16
  go_wp2_with fail
  refine (HR.out _).mono ?_
  rintro e w1 ⟨v, rfl, hown, hb⟩
  have hB : Below w.heap.size w w1 := ((Below.refl _ _).alloc (Nat.le_refl _) _).trans (hb.mono (by simp))
  obtain ⟨ao, cap, rfl, _, hm, hc⟩ := own hown
  unfold maxLen at hm
  clear hown hb
  by_cases h0 : zs.length = 0
  · have HN : Hid (nextN zs x = 0 ∧ nextB zs x = false) := by rw [List.eq_nil_of_length_eq_zero h0]; exact ⟨rfl, rfl⟩
    rw [h0]
    clear hc h0
    go_wp2
    go_loop [9, 10, 16] (fun _ _ i => i = .int .i64 0) (fun _ _ _ => 0)
    case atStart => rfl
    case round =>
      subst hrel
      go_wp2
      go_ret2
      rw [HN.out.1, HN.out.2]; exact ⟨rfl, hB⟩
  · obtain ⟨b, off, rfl, _, hcell⟩ := hc (by omega)
    have HC := Lib.hid hcell
    clear hcell hc
    go_wp2
    go_loop [9, 10, 16] (fun _ _ i => ∃ k : Nat, i = .int .i64 k ∧ k ≤ zs.length ∧ Hid (∀ j, j < k → zs.getD j 0 ≠ x)) (fun _ _ i => zs.length - (intOf i).toNat)
    case atStart => exact ⟨0, rfl, by omega, fun j hj => absurd hj (Nat.not_lt_zero _)⟩
    case round =>
      obtain ⟨k, rfl, hk, HT⟩ := hrel
      by_cases hlt : k < zs.length
      · have c1 := HC.out k hlt
        by_cases he : zs.getD k 0 = x
        · have hi : Lib.idxOf zs x = (k : Int) := by
            have := Lib.idxOf_hit zs zs.length k x hlt (Nat.le_refl _) he HT.out
            rw [List.take_length] at this; exact this
          obtain ⟨y, hy⟩ : ∃ y, y = zs.getD ((k + 1) % zs.length) 0 := ⟨_, rfl⟩
          have HN : Hid (nextN zs x = y ∧ nextB zs x = decide (1 < zs.length)) := by
            unfold nextN nextB; rw [hi, hy, if_neg (by omega), if_neg (by omega)]; exact ⟨by simp, rfl⟩
          have hmod : (k + 1) % zs.length < zs.length := Nat.mod_lt _ (by omega)
          have hmI0 : 0 ≤ ((k : Int) + 1) % (zs.length : Int) := Int.emod_nonneg _ (by omega)
          have hmI1 : ((k : Int) + 1) % (zs.length : Int) < (zs.length : Int) := Int.emod_lt_of_pos _ (by omega)
          have c2 := HC.out _ hmod
          rw [← hy] at c2
          rw [he] at c1
          clear he hi hy
          go_wp2
          go_ret2
          rw [HN.out.1, HN.out.2]; exact ⟨two_mk rfl (by simp; omega), hB⟩
        · have HT' : Hid (∀ j, j < k + 1 → zs.getD j 0 ≠ x) := fun j hj => by
            by_cases e : j = k
            · rw [e]; exact he
            · exact HT.out j (by omega)
          obtain ⟨y, hy⟩ : ∃ y, y = zs.getD k 0 := ⟨_, rfl⟩
          rw [← hy] at c1 he
          have hne : (y == x) = false := by simpa using he
          clear hy he
          go_wp2
          go_round
          case rel => exact ⟨k + 1, by go_num, by omega, HT'⟩
          case measure => simp [intOf]; omega
      · have HN : Hid (nextN zs x = 0 ∧ nextB zs x = false) := by
          have hi := Lib.idxOf_miss zs zs.length x (fun j hj => HT.out j (by omega))
          rw [List.take_length] at hi
          unfold nextN nextB; rw [hi]; exact ⟨rfl, rfl⟩
        go_wp2
        go_ret2
        rw [HN.out.1, HN.out.2]; exact ⟨rfl, hB⟩
theorem rnext_any (n g c l gr x : Int) (w : World) :
    Calls Try.prog 16 #[.agg #[.int .i64 n, .int .i64 g, .int .i64 c, .int .i64 l], .int .i64 gr, .int .i64 x] w (Two (nextN (repsOf n g c l gr) x) (nextB (repsOf n g c l gr) x) w) :=
  rnext_core n g c l gr x w _ (fun W => rrep_any n g c l gr W)
end Go.Proofs.Ythhkocbfeiccdaa
