/- The document's Both and Any, by contract. -/
import Derived.Test.YtbcofpppjjpclaaMinus
import Derived.Test.YtbcofpppjjpclaaAny
import Derived.Test.YtbcofpppjjpclaaRight
namespace Go.Proofs.Ytbcofpppjjpclaa
open Go.RowKit Go.ChangeShapes at_ pm

theorem drop_cons {a : List Int} {i : Nat} (h : i < a.length) : a.drop i = a.getD i 0 :: a.drop (i + 1) := by
  rw [List.drop_eq_getElem_cons h]; simp [List.getD, h]
theorem drop_none {a : List Int} {i : Nat} (h : a.length ≤ i) : a.drop i = [] := List.drop_eq_nil_of_le h
theorem inc_drop {a : List Int} {i : Nat} (h : Inc a) : Inc (a.drop i) := List.Pairwise.sublist (List.drop_sublist i a) h
theorem both_nil_left (b : List Int) : both [] b = [] := rfl
theorem both_nil_right (a : List Int) : both a [] = [] := by
  unfold both
  exact List.filter_eq_nil_iff.2 fun x _ => by simp [has]
theorem both_lt {x y : Int} {a b : List Int} (hb : Inc (y :: b)) (h : x < y) : both (x :: a) (y :: b) = both a (y :: b) := by
  have hx : has (y :: b) x = false := has_not.2 fun h2 => by
    rcases List.mem_cons.1 h2 with e | e
    · omega
    · have := inc_head hb x e; omega
  exact List.filter_cons_of_neg (by rw [hx]; decide)
theorem both_gt {x y : Int} {a b : List Int} (ha : Inc (x :: a)) (h : y < x) : both (x :: a) (y :: b) = both (x :: a) b := by
  refine List.filter_congr fun z hz => ?_
  have hzy : z ≠ y := by
    rcases List.mem_cons.1 hz with e | e
    · omega
    · have := inc_head ha z e; omega
  cases h1 : has b z with
  | true => exact has_iff.2 (List.mem_cons_of_mem _ (has_iff.1 h1))
  | false => exact has_not.2 fun h2 => (List.mem_cons.1 h2).elim hzy (has_not.1 h1)
theorem both_eq {x : Int} {a b : List Int} (ha : Inc (x :: a)) : both (x :: a) (x :: b) = x :: both a b := by
  have hx : has (x :: b) x = true := has_iff.2 (List.mem_cons_self ..)
  have e : both (x :: a) (x :: b) = x :: both a (x :: b) := List.filter_cons_of_pos hx
  rw [e]
  congr 1
  refine List.filter_congr fun z hz => ?_
  have hzx : z ≠ x := by have := inc_head ha z hz; omega
  cases h1 : has b z with
  | true => exact has_iff.2 (List.mem_cons_of_mem _ (has_iff.1 h1))
  | false => exact has_not.2 fun h2 => (List.mem_cons.1 h2).elim hzx (has_not.1 h1)
set_option maxHeartbeats 3200000 in
set_option maxRecDepth 100000 in
theorem rboth_any (a b : List Int) (va vb : Value) (w : World) (ha : At w w.heap.size va a) (hb : At w w.heap.size vb b) (hia : Inc a) (hib : Inc b) (hla : a.length ≤ 100000) (hlb : b.length ≤ 100000) :
    Calls Try.prog 15 #[va, vb] w (Owned (both a b) w) := by
  obtain ⟨ao, ca, rfl, ⟨_, hca⟩, _, ka⟩ := ha
  obtain ⟨bo, cb, rfl, ⟨_, hcb⟩, _, kb⟩ := hb
  have KA := Lib.hid ka; clear ka
  have KB := Lib.hid kb; clear kb
  have GA := Lib.hid hia; clear hia
  have GB := Lib.hid hib; clear hib
  go_enter Try.func15, Try.ntmps15
  go_wp2
  go_loopw [5, 6, 7] (fun v i k wr => ∃ (ni nk : Nat) (pre : List Int), i = .int .i64 ni ∧ ni ≤ a.length ∧ k = .int .i64 nk ∧ nk ≤ b.length ∧ pre.length ≤ ni ∧ Hid (pre ++ both (a.drop ni) (b.drop nk) = both a b) ∧ wr.ownsRow w.heap.size 3 1 v pre.length (i64s pre) ∧ Below w.heap.size w wr) (fun _ i k _ => (a.length - (intOf i).toNat) + (b.length - (intOf k).toNat))
  case atStart => exact ⟨0, 0, [], rfl, by omega, rfl, by omega, by simp, rfl, World.ownsRow_nil _ _ _ _, Below.refl _ _⟩
  case round =>
    obtain ⟨i, k, pre, rfl, hi, rfl, hk, hpl, HP, hown, hbl⟩ := hrel
    have hszr := hbl.size
    have HO := Lib.hid hown
    clear hown
    by_cases hi2 : i < a.length
    · by_cases hk2 : k < b.length
      · obtain ⟨ba, oa, hao, hBa, hcella⟩ := KA.out (by omega)
        subst hao
        have c1 : wr.cell? ⟨ba, oa + i, none⟩ = some (.int .i64 (a.getD i 0)) := (hbl.cell (p := ⟨ba, _, none⟩) hBa).trans (hcella i hi2)
        have HDA := Lib.hid (drop_cons hi2)
        have GAi := Lib.hid (inc_drop (i := i) GA.out)
        clear hcella
        obtain ⟨x, hx⟩ : ∃ x, x = a.getD i 0 := ⟨_, rfl⟩
        rw [← hx] at c1 HDA
        clear hx
        have hiI : (i : Int) < (a.length : Int) := by omega
        have hiE : ((i : Int) == (a.length : Int)) = false := beq_eq_false_iff_ne.2 (by omega)
        obtain ⟨bb, ob, hbo, hBb, hcellb⟩ := KB.out (by omega)
        subst hbo
        have c2 : wr.cell? ⟨bb, ob + k, none⟩ = some (.int .i64 (b.getD k 0)) := (hbl.cell (p := ⟨bb, _, none⟩) hBb).trans (hcellb k hk2)
        have HDB := Lib.hid (drop_cons hk2)
        have GBk := Lib.hid (inc_drop (i := k) GB.out)
        clear hcellb
        obtain ⟨y, hy⟩ : ∃ y, y = b.getD k 0 := ⟨_, rfl⟩
        rw [← hy] at c2 HDB
        clear hy
        have hkI : (k : Int) < (b.length : Int) := by omega
        have hkE : ((k : Int) == (b.length : Int)) = false := beq_eq_false_iff_ne.2 (by omega)
        rcases Int.lt_trichotomy x y with h3 | h3 | h3
        · have HS : Hid (pre ++ both (a.drop (i + 1)) (b.drop k) = both a b) := by
            have := HP.out
            have g := GBk.out
            rw [HDB.out] at g
            rw [HDA.out, HDB.out, both_lt g h3, ← HDB.out] at this
            exact this
          go_wp2
          go_quiet (fail)
          go_wp2
          go_roundw
          case rel => exact ⟨i + 1, k, pre, by go_num, by omega, by go_num, by omega, by first | omega | (simp only [List.length_append, List.length_cons, List.length_nil]; omega), HS, HO.out, below_drewN hbl _⟩
          case measure => simp [intOf]; omega
        · subst h3
          have HS : Hid ((pre ++ [x]) ++ both (a.drop (i + 1)) (b.drop (k + 1)) = both a b) := by
            have := HP.out
            have g := GAi.out
            rw [HDA.out] at g
            rw [HDA.out, HDB.out, both_eq g] at this
            show _ = _
            rw [← this, List.append_assoc]; rfl
          go_wp2
          go_quiet (fail)
          go_wp2
          go_quiet (fail)
          go_wp2_with (at_builtin; refine kit.app1 (.tmp 18) (.tmp 23) 22 rfl rfl w.heap.size Try.underlying22 infoInt rfl (by decide) (by decide) HO.out rfl rfl rfl (by intro u hu; simp at hu; subst hu; rfl) (by omega) hszr ?_)
          intro v' w5 hown' hb5
          have hbl5 : Below w.heap.size w w5 := (below_drewN hbl _).trans hb5
          have HO5 : Hid (w5.ownsRow w.heap.size 3 1 v' (pre ++ [x]).length (i64s (pre ++ [x]))) := by
            show World.ownsRow _ _ _ _ _ _ _
            rw [List.length_append, i64s_app]; exact hown'
          clear hown'
          go_wp2
          go_roundw
          case rel => exact ⟨i + 1, k + 1, pre ++ [x], by go_num, by omega, by go_num, by omega, by first | omega | (simp only [List.length_append, List.length_cons, List.length_nil]; omega), HS, HO5.out, hbl5⟩
          case measure => simp [intOf]; omega
        · have HS : Hid (pre ++ both (a.drop i) (b.drop (k + 1)) = both a b) := by
            have := HP.out
            have g := GAi.out
            rw [HDA.out] at g
            rw [HDA.out, HDB.out, both_gt g h3, ← HDA.out] at this
            exact this
          go_wp2
          go_quiet (fail)
          go_wp2
          go_quiet (fail)
          go_wp2
          go_roundw
          case rel => exact ⟨i, k + 1, pre, by go_num, by omega, by go_num, by omega, by first | omega | (simp only [List.length_append, List.length_cons, List.length_nil]; omega), HS, HO.out, below_drewN hbl _⟩
          case measure => simp [intOf]; omega
      · obtain rfl : k = b.length := by omega
        have HE : Hid (pre = both a b) := by
          have := HP.out
          rw [drop_none (Nat.le_refl _), both_nil_right, List.append_nil] at this
          exact this
        have hiI : (i : Int) < (a.length : Int) := by omega
        go_wp2
        go_ret
        rw [← HE.out]; exact ⟨_, rfl, HO.out, hbl⟩
    · obtain rfl : i = a.length := by omega
      have HE : Hid (pre = both a b) := by
        have := HP.out
        rw [drop_none (Nat.le_refl a.length), both_nil_left, List.append_nil] at this
        exact this
      go_wp2
      go_ret
      rw [← HE.out]; exact ⟨_, rfl, HO.out, hbl⟩
set_option maxHeartbeats 3200000 in
set_option maxRecDepth 100000 in
theorem rany_any (a b : List Int) (va vb : Value) (w : World) (ha : At w w.heap.size va a) (hb : At w w.heap.size vb b) (hia : Inc a) (hib : Inc b) (hla : a.length ≤ 100000) (hlb : b.length ≤ 100000) :
    Calls Try.prog 17 #[va, vb] w (Owned (any a b) w) := by
  obtain ⟨ao, ca, rfl, ⟨_, hca⟩, _, ka⟩ := ha
  obtain ⟨bo, cb, rfl, ⟨_, hcb⟩, _, kb⟩ := hb
  have KA := Lib.hid ka; clear ka
  have KB := Lib.hid kb; clear kb
  have GA := Lib.hid hia; clear hia
  have GB := Lib.hid hib; clear hib
  go_enter Try.func17, Try.ntmps17
  go_wp2
  go_loopw [5, 6, 7] (fun v i k wr => ∃ (ni nk : Nat) (pre : List Int), i = .int .i64 ni ∧ ni ≤ a.length ∧ k = .int .i64 nk ∧ nk ≤ b.length ∧ pre.length ≤ ni + nk ∧ Hid (pre ++ any (a.drop ni) (b.drop nk) = any a b) ∧ wr.ownsRow w.heap.size 3 1 v pre.length (i64s pre) ∧ Below w.heap.size w wr) (fun _ i k _ => (a.length - (intOf i).toNat) + (b.length - (intOf k).toNat))
  case atStart => exact ⟨0, 0, [], rfl, by omega, rfl, by omega, by simp, rfl, World.ownsRow_nil _ _ _ _, Below.refl _ _⟩
  case round =>
    obtain ⟨i, k, pre, rfl, hi, rfl, hk, hpl, HP, hown, hbl⟩ := hrel
    have hszr := hbl.size
    have HO := Lib.hid hown
    clear hown
    by_cases hi2 : i < a.length
    · by_cases hk2 : k < b.length
      · obtain ⟨ba, oa, hao, hBa, hcella⟩ := KA.out (by omega)
        subst hao
        have c1 : wr.cell? ⟨ba, oa + i, none⟩ = some (.int .i64 (a.getD i 0)) := (hbl.cell (p := ⟨ba, _, none⟩) hBa).trans (hcella i hi2)
        have HDA := Lib.hid (drop_cons hi2)
        have GAi := Lib.hid (inc_drop (i := i) GA.out)
        clear hcella
        obtain ⟨x, hx⟩ : ∃ x, x = a.getD i 0 := ⟨_, rfl⟩
        rw [← hx] at c1 HDA
        clear hx
        have hiI : (i : Int) < (a.length : Int) := by omega
        have hiE : ((i : Int) == (a.length : Int)) = false := beq_eq_false_iff_ne.2 (by omega)
        obtain ⟨bb, ob, hbo, hBb, hcellb⟩ := KB.out (by omega)
        subst hbo
        have c2 : wr.cell? ⟨bb, ob + k, none⟩ = some (.int .i64 (b.getD k 0)) := (hbl.cell (p := ⟨bb, _, none⟩) hBb).trans (hcellb k hk2)
        have HDB := Lib.hid (drop_cons hk2)
        have GBk := Lib.hid (inc_drop (i := k) GB.out)
        clear hcellb
        obtain ⟨y, hy⟩ : ∃ y, y = b.getD k 0 := ⟨_, rfl⟩
        rw [← hy] at c2 HDB
        clear hy
        have hkI : (k : Int) < (b.length : Int) := by omega
        have hkE : ((k : Int) == (b.length : Int)) = false := beq_eq_false_iff_ne.2 (by omega)
        rcases Int.lt_trichotomy x y with h3 | h3 | h3
        · have HS : Hid ((pre ++ [x]) ++ any (a.drop (i + 1)) (b.drop k) = any a b) := by
            have := HP.out
            rw [HDA.out, HDB.out, any_lt h3, ← HDB.out] at this
            show _ = _
            rw [← this, List.append_assoc]; rfl
          go_wp2
          go_quiet (fail)
          go_wp2_with (at_builtin; refine kit.app1 (.tmp 51) (.tmp 56) 22 rfl rfl w.heap.size Try.underlying22 infoInt rfl (by decide) (by decide) HO.out rfl rfl rfl (by intro u hu; simp at hu; subst hu; rfl) (by omega) hszr ?_)
          intro v' w5 hown' hb5
          have hbl5 : Below w.heap.size w w5 := (below_drewN hbl _).trans hb5
          have HO5 : Hid (w5.ownsRow w.heap.size 3 1 v' (pre ++ [x]).length (i64s (pre ++ [x]))) := by
            show World.ownsRow _ _ _ _ _ _ _
            rw [List.length_append, i64s_app]; exact hown'
          clear hown'
          go_wp2
          go_roundw
          case rel => exact ⟨i + 1, k, pre ++ [x], by go_num, by omega, by go_num, by omega, by first | omega | (simp only [List.length_append, List.length_cons, List.length_nil]; omega), HS, HO5.out, hbl5⟩
          case measure => simp [intOf]; omega
        · subst h3
          have HS : Hid ((pre ++ [x]) ++ any (a.drop (i + 1)) (b.drop (k + 1)) = any a b) := by
            have := HP.out
            rw [HDA.out, HDB.out, any_eq] at this
            show _ = _
            rw [← this, List.append_assoc]; rfl
          go_wp2
          go_quiet (fail)
          go_wp2
          go_quiet (fail)
          go_wp2_with (at_builtin; refine kit.app1 (.tmp 18) (.tmp 23) 22 rfl rfl w.heap.size Try.underlying22 infoInt rfl (by decide) (by decide) HO.out rfl rfl rfl (by intro u hu; simp at hu; subst hu; rfl) (by omega) hszr ?_)
          intro v' w5 hown' hb5
          have hbl5 : Below w.heap.size w w5 := (below_drewN hbl _).trans hb5
          have HO5 : Hid (w5.ownsRow w.heap.size 3 1 v' (pre ++ [x]).length (i64s (pre ++ [x]))) := by
            show World.ownsRow _ _ _ _ _ _ _
            rw [List.length_append, i64s_app]; exact hown'
          clear hown'
          go_wp2
          go_roundw
          case rel => exact ⟨i + 1, k + 1, pre ++ [x], by go_num, by omega, by go_num, by omega, by first | omega | (simp only [List.length_append, List.length_cons, List.length_nil]; omega), HS, HO5.out, hbl5⟩
          case measure => simp [intOf]; omega
        · have HS : Hid ((pre ++ [y]) ++ any (a.drop i) (b.drop (k + 1)) = any a b) := by
            have := HP.out
            rw [HDA.out, HDB.out, any_gt h3, ← HDA.out] at this
            show _ = _
            rw [← this, List.append_assoc]; rfl
          go_wp2
          go_quiet (fail)
          go_wp2
          go_quiet (fail)
          go_wp2_with (at_builtin; refine kit.app1 (.tmp 76) (.tmp 81) 22 rfl rfl w.heap.size Try.underlying22 infoInt rfl (by decide) (by decide) HO.out rfl rfl rfl (by intro u hu; simp at hu; subst hu; rfl) (by omega) hszr ?_)
          intro v' w5 hown' hb5
          have hbl5 : Below w.heap.size w w5 := (below_drewN hbl _).trans hb5
          have HO5 : Hid (w5.ownsRow w.heap.size 3 1 v' (pre ++ [y]).length (i64s (pre ++ [y]))) := by
            show World.ownsRow _ _ _ _ _ _ _
            rw [List.length_append, i64s_app]; exact hown'
          clear hown'
          go_wp2
          go_roundw
          case rel => exact ⟨i, k + 1, pre ++ [y], by go_num, by omega, by go_num, by omega, by first | omega | (simp only [List.length_append, List.length_cons, List.length_nil]; omega), HS, HO5.out, hbl5⟩
          case measure => simp [intOf]; omega
      · obtain rfl : k = b.length := by omega
        obtain ⟨ba, oa, hao, hBa, hcella⟩ := KA.out (by omega)
        subst hao
        have c1 : wr.cell? ⟨ba, oa + i, none⟩ = some (.int .i64 (a.getD i 0)) := (hbl.cell (p := ⟨ba, _, none⟩) hBa).trans (hcella i hi2)
        have HDA := Lib.hid (drop_cons hi2)
        have GAi := Lib.hid (inc_drop (i := i) GA.out)
        clear hcella
        obtain ⟨x, hx⟩ : ∃ x, x = a.getD i 0 := ⟨_, rfl⟩
        rw [← hx] at c1 HDA
        clear hx
        have hiI : (i : Int) < (a.length : Int) := by omega
        have hiE : ((i : Int) == (a.length : Int)) = false := beq_eq_false_iff_ne.2 (by omega)
        have HS : Hid ((pre ++ [x]) ++ any (a.drop (i + 1)) (b.drop b.length) = any a b) := by
          have := HP.out
          rw [HDA.out, drop_none (Nat.le_refl _), any_nil_right] at this
          show _ = _
          rw [drop_none (Nat.le_refl b.length), any_nil_right, ← this, List.append_assoc]; rfl
        go_wp2
        go_quiet (fail)
        go_wp2_with (at_builtin; refine kit.app1 (.tmp 51) (.tmp 56) 22 rfl rfl w.heap.size Try.underlying22 infoInt rfl (by decide) (by decide) HO.out rfl rfl rfl (by intro u hu; simp at hu; subst hu; rfl) (by omega) hszr ?_)
        intro v' w5 hown' hb5
        have hbl5 : Below w.heap.size w w5 := (below_drewN hbl _).trans hb5
        have HO5 : Hid (w5.ownsRow w.heap.size 3 1 v' (pre ++ [x]).length (i64s (pre ++ [x]))) := by
          show World.ownsRow _ _ _ _ _ _ _
          rw [List.length_append, i64s_app]; exact hown'
        clear hown'
        go_wp2
        go_roundw
        case rel => exact ⟨i + 1, b.length, pre ++ [x], by go_num, by omega, by go_num, by omega, by first | omega | (simp only [List.length_append, List.length_cons, List.length_nil]; omega), HS, HO5.out, hbl5⟩
        case measure => simp [intOf]; omega
    · obtain rfl : i = a.length := by omega
      by_cases hk2 : k < b.length
      · obtain ⟨bb, ob, hbo, hBb, hcellb⟩ := KB.out (by omega)
        subst hbo
        have c2 : wr.cell? ⟨bb, ob + k, none⟩ = some (.int .i64 (b.getD k 0)) := (hbl.cell (p := ⟨bb, _, none⟩) hBb).trans (hcellb k hk2)
        have HDB := Lib.hid (drop_cons hk2)
        have GBk := Lib.hid (inc_drop (i := k) GB.out)
        clear hcellb
        obtain ⟨y, hy⟩ : ∃ y, y = b.getD k 0 := ⟨_, rfl⟩
        rw [← hy] at c2 HDB
        clear hy
        have hkI : (k : Int) < (b.length : Int) := by omega
        have hkE : ((k : Int) == (b.length : Int)) = false := beq_eq_false_iff_ne.2 (by omega)
        have HS : Hid ((pre ++ [y]) ++ any (a.drop a.length) (b.drop (k + 1)) = any a b) := by
          have := HP.out
          rw [HDB.out, drop_none (Nat.le_refl _), any_nil_left] at this
          show _ = _
          rw [drop_none (Nat.le_refl a.length), any_nil_left, ← this, List.append_assoc]; rfl
        go_wp2
        go_quiet (fail)
        go_wp2
        go_quiet (fail)
        go_wp2_with (at_builtin; refine kit.app1 (.tmp 76) (.tmp 81) 22 rfl rfl w.heap.size Try.underlying22 infoInt rfl (by decide) (by decide) HO.out rfl rfl rfl (by intro u hu; simp at hu; subst hu; rfl) (by omega) hszr ?_)
        intro v' w5 hown' hb5
        have hbl5 : Below w.heap.size w w5 := (below_drewN hbl _).trans hb5
        have HO5 : Hid (w5.ownsRow w.heap.size 3 1 v' (pre ++ [y]).length (i64s (pre ++ [y]))) := by
          show World.ownsRow _ _ _ _ _ _ _
          rw [List.length_append, i64s_app]; exact hown'
        clear hown'
        go_wp2
        go_roundw
        case rel => exact ⟨a.length, k + 1, pre ++ [y], by go_num, by omega, by go_num, by omega, by first | omega | (simp only [List.length_append, List.length_cons, List.length_nil]; omega), HS, HO5.out, hbl5⟩
        case measure => simp [intOf]; omega
      · obtain rfl : k = b.length := by omega
        have HE : Hid (pre = any a b) := by
          have := HP.out
          rw [drop_none (Nat.le_refl a.length), any_nil_left, drop_none (Nat.le_refl b.length), List.append_nil] at this
          exact this
        go_wp2
        go_ret
        rw [← HE.out]; exact ⟨_, rfl, HO.out, hbl⟩
end Go.Proofs.Ytbcofpppjjpclaa
