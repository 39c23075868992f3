/- block.read on anything. -/
import Derived.Test.YtniphmfkccaccaaBlkRead
namespace Go.Proofs.Ytniphmfkccaccaa
open Go.RowKit Go.ChangeShapes at_

theorem getL_le : ∀ (l : List Nat) (i n : Nat), (vm.getL l i n).1 ≤ 1099511627776 := by
  intro l
  induction l with
  | nil =>
    intro i n
    unfold vm.getL
    split <;> exact Nat.zero_le _
  | cons b r ih =>
    intro i n
    by_cases h6 : 6 ≤ i
    · rw [vm.getL_six _ _ _ h6]; exact Nat.zero_le _
    · by_cases hb : b < 128
      · unfold vm.getL
        rw [if_neg h6]
        simp only
        rw [if_pos hb]
        split
        · exact Nat.zero_le _
        · split
          · exact Nat.zero_le _
          · rename_i h; exact Nat.le_of_not_lt h
      · rw [vm.getL_more _ _ _ _ (by omega) hb]; exact ih _ _
theorem get_le (l : List Nat) (a : Int) : (vm.get l a).1 ≤ 1099511627776 := by
  unfold vm.get
  split
  · exact Nat.zero_le _
  · unfold vm.place
    split
    · exact getL_le _ _ _
    · exact Nat.zero_le _
def ReadQ (m : Nat) (w : World) (e : Ending) (w' : World) : Prop :=
  (e = .returned (.tuple #[.slice none 0 0, .bool false]) ∧ Below w.heap.size w w') ∨
  (∃ (v : Value) (K : List Int), e = .returned (.tuple #[v, .bool true]) ∧ K.length = m ∧ w'.ownsRow w.heap.size 3 1 v m (i64s K) ∧ Below w.heap.size w w')

set_option maxHeartbeats 6400000 in
set_option maxRecDepth 100000 in
theorem read_any (D : ByteArray) (x a0 : Int) (m1 : Nat) (w : World) (hD : D.size ≤ 100000) (hm : m1 < 16) :
    Calls Try.prog 24 #[.string D, .agg #[.int .i64 x, .int .i64 a0], .int .i64 ((m1 : Int) + 1)] w (ReadQ (m1 + 1) w) := by
  have HGET : Hid (∀ (a : Int) (W : World), Calls Try.prog 28 #[.string D, .int .i64 a] W (Trip (vm.get (kit.bytes D) a) W)) := fun a W => get_any D a W hD
  have HF : Hid (∀ W', Below w.heap.size w W' → ReadQ (m1 + 1) w (.returned (.tuple #[.slice none 0 0, .bool false])) W') := fun W' h => Or.inl ⟨rfl, h⟩
  have HT : Hid (∀ W' v (K : List Int), K.length = m1 + 1 → W'.ownsRow w.heap.size 3 1 v (m1 + 1) (i64s K) → Below w.heap.size w W' → ReadQ (m1 + 1) w (.returned (.tuple #[v, .bool true])) W') := fun W' v K h0 h1 h2 => Or.inr ⟨v, K, rfl, h0, h1, h2⟩
  have hb0 : Below w.heap.size w (w.alloc (.cells #[.int .i64 x, .int .i64 a0] 46)) := (Below.refl _ _).alloc (Nat.le_refl _) _
  by_cases hx0 : x < 0
  · go_enter Try.func24, Try.ntmps24
    go_wp2
    go_quiet (fail)
    go_wp2
    go_ret2
    exact HF.out _ (below_drewN hb0 _)
  · by_cases hx1 : 1099511627776 < x
    · go_enter Try.func24, Try.ntmps24
      go_wp2
      go_quiet (fail)
      go_wp2
      go_ret2
      exact HF.out _ (below_drewN hb0 _)
    · have hx00 : 0 ≤ x := by omega
      have hx11 : x ≤ 1099511627776 := by omega
      clear hx0 hx1
      go_enter Try.func24, Try.ntmps24
      go_wp2
      go_quiet (fail)
      go_wp2
      go_loopw [8, 9, 10, 11, 12, 13, 28] (fun u8 u9 v _ _ _ i wr => ∃ (j : Nat) (y p : Int) (K : List Int), i = .int .i64 j ∧ j ≤ m1 ∧ u8 = .int .i64 y ∧ 0 ≤ y ∧ y ≤ ((j : Int) + 1) * 2199023255552 ∧ u9 = .int .i64 p ∧ Hid (K.length = j + 1) ∧ Hid (wr.ownsRow w.heap.size 3 1 v (j + 1) (i64s K)) ∧ Below w.heap.size w wr) (fun _ _ _ _ _ _ i _ => m1 - (intOf i).toNat)
      case atStart =>
        refine ⟨0, x, a0, [x], rfl, by omega, rfl, hx00, by omega, rfl, rfl, (lit_drew _ _ _ _ _).1, (lit_drew _ _ _ _ _).2⟩
      case round =>
        obtain ⟨j, y, p, K, rfl, hj, rfl, hy0, hy1, rfl, HKL, HO, hbl⟩ := hrel
        by_cases hlt : j < m1
        · have hjI : (j : Int) < (m1 : Int) := by omega
          have hy2 : y ≤ 36000000000000 := by omega
          have hgl := get_le (kit.bytes D) p
          have HG := Lib.hid (HGET.out p)
          unfold Trip at HG
          obtain ⟨g, hg⟩ : ∃ g, g = vm.get (kit.bytes D) p := ⟨_, rfl⟩
          rw [← hg] at HG hgl
          clear hg
          obtain ⟨gp, ga, gc⟩ := g
          simp only at HG hgl
          have hz := hbl.size
          by_cases hc : gc = 0
          · subst hc
            obtain ⟨z, hz0⟩ : ∃ z, y + ((gp : Int) + 1) = z := ⟨_, rfl⟩
            have hz1 : 0 ≤ z := by omega
            have hz2 : z ≤ ((j : Int) + 1 + 1) * 2199023255552 := by omega
            have hz3 : z ≤ 40000000000000 := by omega
            go_wp2_with (first
              | (go_at_call 28; (with_reducible refine (HG.out _).mono ?_); rintro e w9 ⟨rfl, rfl⟩)
              | (at_builtin; refine kit.app1 (.tmp 44) (.tmp 46) 22 rfl rfl w.heap.size Try.underlying22 infoInt rfl (by decide) (by decide) HO.out rfl rfl rfl (by intro u hu; simp at hu; subst hu; rfl) (by omega) hz ?_))
            intro v' w5 hown' hb5
            have hbl5 := hbl.trans hb5
            have HO5 : Hid (w5.ownsRow w.heap.size 3 1 v' (j + 1 + 1) (i64s (K ++ [z]))) := by
              show World.ownsRow _ _ _ _ _ _ _
              rw [i64s_app]; exact hown'
            clear hown'
            have HKL5 : Hid ((K ++ [z]).length = j + 1 + 1) := by show _ = _; rw [List.length_append, HKL.out]; rfl
            go_wp2
            go_roundw
            case rel => exact ⟨j + 1, z, ga, K ++ [z], by go_num, by omega, rfl, hz1, by omega, rfl, HKL5, HO5, hbl5⟩
            case measure => simp [intOf]; omega
          · have hcne : ((gc : Int) != 0) = true := by simp; omega
            have hcne2 : ((gc : Int) == 0) = false := by simp; omega
            go_wp2_with fail
            (with_reducible refine (HG.out _).mono ?_)
            rintro e w9 ⟨rfl, rfl⟩
            go_wp2
            go_ret2
            exact HF.out _ hbl
        · obtain rfl : j = m1 := by omega
          go_wp2
          go_ret2
          exact HT.out _ _ _ HKL.out HO.out hbl
end Go.Proofs.Ytniphmfkccaccaa
