/- PlaceRing: the walk of the law. -/
import Derived.Test.YthhkocbfeiccdaaLawUnlike
namespace Go.Proofs.Ythhkocbfeiccdaa
open Go.RowKit Go.ChangeShapes at_

theorem next_at {zs : List Int} (hd : ∀ i j, i < j → j < zs.length → zs.getD i 0 ≠ zs.getD j 0) {i : Nat} (hi : i < zs.length) :
    nextN zs (zs.getD i 0) = zs.getD ((i + 1) % zs.length) 0 ∧ nextB zs (zs.getD i 0) = decide (1 < zs.length) := by
  rcases idx_cases zs (zs.getD i 0) with ⟨_, h⟩ | ⟨k, hk, h, hx, hm⟩
  · exact absurd rfl (h i hi)
  · have : k = i := by
      rcases Nat.lt_trichotomy k i with h1 | h1 | h1
      · exact absurd hx (hd k i h1 hi)
      · exact h1
      · exact absurd hx.symm (hd i k h1 hk)
    subst this
    unfold nextN nextB
    rw [h, if_neg (by omega), if_neg (by omega)]
    exact ⟨by simp, rfl⟩

/-- what is owned stays owned behind a call that only makes memory -/
theorem owns_later {w w' : World} {base size : Nat} {e : TypeId} {v : Value} {n : Nat} {xs : List Value} (h : w.ownsRow base e size v n xs) (hb : Below w.heap.size w w') : w'.ownsRow base e size v n xs := by
  have hlt := h.lt
  refine ⟨h.1, ?_⟩
  rcases h.2 with h2 | ⟨g, cap, cur, rfl, hbg, hg, h4⟩
  · exact Or.inl h2
  · exact Or.inr ⟨g, cap, cur, rfl, hbg, by rw [hb.block g (hlt g rfl).2]; exact hg, h4⟩
/-- the t-th replica from the f-th on -/
def turn (zs : List Int) (f t : Nat) : Int := zs.getD ((f + t) % zs.length) 0
def turned (zs : List Int) (f t : Nat) : List Int := (List.range t).map (turn zs f)
theorem turned_len (zs : List Int) (f t : Nat) : (turned zs f t).length = t := by simp [turned]
theorem turned_succ (zs : List Int) (f t : Nat) : turned zs f (t + 1) = turned zs f t ++ [turn zs f t] := by simp [turned, List.range_succ]
theorem turned_get (zs : List Int) (f t j : Nat) (h : j < t) : (turned zs f t).getD j 0 = turn zs f j := by
  simp [turned, List.getD, h]
theorem turn_ne {zs : List Int} (hd : ∀ i j, i < j → j < zs.length → zs.getD i 0 ≠ zs.getD j 0) (f : Nat) {s t : Nat} (hs : s < t) (ht : t < zs.length) : turn zs f s ≠ turn zs f t := by
  have hp : 0 < zs.length := by omega
  have h1 : (f + s) % zs.length < zs.length := Nat.mod_lt _ hp
  have h2 : (f + t) % zs.length < zs.length := Nat.mod_lt _ hp
  have hne : (f + s) % zs.length ≠ (f + t) % zs.length := by
    intro e
    have e1 := Nat.div_add_mod (f + s) zs.length
    have e2 := Nat.div_add_mod (f + t) zs.length
    have e3 : zs.length * ((f + t) / zs.length) = zs.length * ((f + s) / zs.length) + (t - s) := by omega
    have e4 : (f + s) / zs.length ≤ (f + t) / zs.length := Nat.div_le_div_right (by omega)
    have e5 : zs.length * ((f + t) / zs.length - (f + s) / zs.length) = t - s := by rw [Nat.mul_sub]; omega
    rcases Nat.eq_zero_or_pos ((f + t) / zs.length - (f + s) / zs.length) with h | h
    · rw [h] at e5; omega
    · have := Nat.le_mul_of_pos_right zs.length h
      omega
  unfold turn
  rcases Nat.lt_or_gt_of_ne hne with h | h
  · exact hd _ _ h h2
  · exact fun e => hd _ _ h h1 e.symm
theorem turn_next {zs : List Int} (hd : ∀ i j, i < j → j < zs.length → zs.getD i 0 ≠ zs.getD j 0) (f t : Nat) (hp : 0 < zs.length) : nextN zs (turn zs f t) = turn zs f (t + 1) ∧ nextB zs (turn zs f t) = decide (1 < zs.length) := by
  have h := next_at hd (i := (f + t) % zs.length) (Nat.mod_lt _ hp)
  unfold turn
  refine ⟨h.1.trans ?_, h.2⟩
  congr 1
  rw [← Nat.add_assoc, Nat.add_mod ((f + t) % zs.length) 1, Nat.mod_mod, ← Nat.add_mod]
theorem turn_back (zs : List Int) (f : Nat) : turn zs f zs.length = turn zs f 0 := by unfold turn; rw [Nat.add_mod_right, Nat.add_zero]
theorem turn_has {zs : List Int} (f t : Nat) (hp : 0 < zs.length) : hasB zs (turn zs f t) = true := hasB_hit (Nat.mod_lt _ hp) rfl

set_option maxHeartbeats 1600000 in
set_option maxRecDepth 100000 in
theorem ring_none (n g c l gr x : Int) (w : World) (h : ¬ (okC n g c l ∧ 0 ≤ gr ∧ gr < g)) :
    Calls Try.prog 6 #[.agg #[.int .i64 n, .int .i64 g, .int .i64 c, .int .i64 l], .int .i64 gr, .int .i64 x] w (Said true w) := by
  have HB0 := Lib.hid (Box.first n g c l w 31)
  have H5 : Hid (∀ W, Calls Try.prog 19 #[.agg #[.int .i64 n, .int .i64 g, .int .i64 c, .int .i64 l], .int .i64 gr] W (Owned [] W)) := fun W => rep_out n g c l gr W h
  clear h
  go_enter Try.func6, Try.ntmps6
  go_wp2_with fail
  refine (H5.out _).mono ?_
  rintro e w1 ⟨v, rfl, hown, hb1⟩
  have HB1 := Lib.hid (HB0.out.step hb1)
  obtain ⟨ao, cap, rfl⟩ := len0 (own hown)
  clear hown hb1 HB0
  go_wp2_with (go_at_call 9; refine (awake_any _).mono ?_; rintro e w3 ⟨rfl, hb3⟩; have HB3 := Lib.hid (HB1.out.step hb3))
  go_ret
  exact ⟨rfl, HB3.out.2.2.2.2.1⟩

set_option maxHeartbeats 6400000 in
set_option maxRecDepth 100000 in
theorem ring_some (n g c l gr x : Int) (w : World) (h : okC n g c l) (h1 : 0 ≤ gr) (h2 : gr < g) (bm : Bool) (zs : List Int) (hz : zs = reps n c gr) (hq : (bm = true ∧ (1 : Int) < zs.length) ∨ (bm = false ∧ (zs.length : Int) ≤ 1)) :
    Calls Try.prog 6 #[.agg #[.int .i64 n, .int .i64 g, .int .i64 c, .int .i64 l], .int .i64 gr, .int .i64 x] w (Said true w) := by
  have HB0 := Lib.hid (Box.first n g c l w 31)
  obtain ⟨F1, _, F3, _, _⟩ := unlike_facts h h1 h2 zs hz
  have hzo : repsOf n g c l gr = zs := by unfold repsOf; rw [if_pos ⟨h, h1, h2⟩, hz]
  have hlen : 1 ≤ zs.length := by have := h.2.2.2.2.1; omega
  have hlen2 : zs.length ≤ 16 := by have := h.2.1; have := h.2.2.2.2.2.1; omega
  have hbm : decide (1 < zs.length) = bm := by
    rcases hq with ⟨rfl, hq⟩ | ⟨rfl, hq⟩
    · exact decide_eq_true (by omega)
    · exact decide_eq_false (by omega)
  have H5 : Hid (∀ W, Calls Try.prog 19 #[.agg #[.int .i64 n, .int .i64 g, .int .i64 c, .int .i64 l], .int .i64 gr] W (Owned zs W)) := fun W => by rw [hz]; exact rep_in n g c l gr W h h1 h2
  have HN : Hid (∀ f t W, Calls Try.prog 15 #[.agg #[.int .i64 n, .int .i64 g, .int .i64 c, .int .i64 l], .int .i64 gr, .int .i64 (turn zs f t)] W (Two (turn zs f (t + 1)) bm W)) := fun f t W => by
    have := next_any n g c l gr (turn zs f t) W
    rw [hzo, (turn_next F3 f t (by omega)).1, (turn_next F3 f t (by omega)).2, hbm] at this
    exact this
  have HK : Hid (∀ f t W, Calls Try.prog 21 #[.agg #[.int .i64 n, .int .i64 g, .int .i64 c, .int .i64 l], .int .i64 gr, .int .i64 (turn zs f t)] W (Said true W)) := fun f t W => by
    have := keeps_any n g c l gr (turn zs f t) W
    rw [hzo, turn_has f t (by omega)] at this
    exact this
  have G3 := Lib.hid F3
  obtain ⟨f, hf, hfx⟩ := kit.umod x (m := zs.length) (by omega)
  have HT0 : Hid (zs.getD f 0 = turn zs f 0) := by show _ = _; unfold turn; rw [Nat.add_zero, Nat.mod_eq_of_lt hf]
  have HTL := Lib.hid (turn_back zs f)
  have hz0 : ((zs.length : Int) == 0) = false := beq_eq_false_iff_ne.2 (by omega)
  clear hz hzo F1 F3 h h1 h2 hbm
  rcases hq with ⟨rfl, hq⟩ | ⟨rfl, hq⟩
  all_goals
    go_enter Try.func6, Try.ntmps6
    go_wp2_with fail
    refine (H5.out _).mono ?_
    rintro e w1 ⟨v, rfl, hown, hb1⟩
    have HB1 := Lib.hid (HB0.out.step hb1)
    obtain ⟨ao, cap, rfl, ⟨_, hcap⟩, hmax, hc⟩ := own hown
    obtain ⟨b, off, rfl, hbB, hcell⟩ := hc (by omega)
    unfold maxLen at hmax
    have c0 := hcell f hf
    rw [HT0.out] at c0
    clear hown hb1 HB0 hc hcell
    go_wp2_with fail
    go_loopw [8, 10, 12, 13, 14, 34] (fun av sv _ _ _ i wr => ∃ t : Nat, i = .int .i64 t ∧ t ≤ zs.length ∧ av = .int .i64 (turn zs f t) ∧ wr.ownsRow w1.heap.size 3 1 sv t (i64s (turned zs f t)) ∧ Below w1.heap.size w1 wr) (fun _ _ _ _ _ i _ => zs.length - (intOf i).toNat)
    case atStart => exact ⟨0, rfl, by omega, rfl, World.ownsRow_nil _ _ _ _, Below.refl _ _⟩
    case round =>
      obtain ⟨t, rfl, ht, rfl, hown, hbl⟩ := hrel
      have HBr := Lib.hid (HB1.out.step hbl)
      have hszr := hbl.size
      by_cases hlt : t < zs.length
      · have hAt := own (e := 3) (base := w1.heap.size) (by rw [turned_len]; exact hown)
        obtain ⟨ao2, cap2, hv, ⟨_, hcap2⟩, hm2, hc2⟩ := hAt
        rw [turned_len] at hv hc2 hcap2 hm2
        subst hv
        have HC2 := Lib.hid hc2
        have HO := Lib.hid hown
        clear hc2 hm2
        obtain ⟨wo, rfl⟩ : ∃ wo : World, wo = wr := ⟨_, rfl⟩
        go_wp2_with fail
        go_loop [12, 38] (fun _ m => ∃ j : Nat, m = .int .i64 j ∧ j ≤ t) (fun _ m => t - (intOf m).toNat)
        case atStart => exact ⟨0, rfl, by omega⟩
        case round =>
          obtain ⟨j, rfl, hj⟩ := hrel
          by_cases hjt : j < t
          · obtain ⟨b2, o2, hao, hB2, hcell2⟩ := HC2.out (by omega)
            subst hao
            have c2 := hcell2 j hjt
            rw [turned_get zs f t j hjt] at c2
            have hne : (turn zs f j == turn zs f t) = false := by
              have := turn_ne G3.out f hjt hlt
              simpa using this
            clear hcell2
            go_wp2
            go_round
            case rel => exact ⟨j + 1, by go_num, by omega⟩
            case measure => simp [intOf]; omega
          · go_wp2_with (at_builtin; refine kit.app1 (.tmp 46) (.tmp 48) 27 rfl rfl w1.heap.size Try.underlying27 infoInt rfl (by decide) (by decide) HO.out rfl rfl rfl (by intro u hu; simp at hu; subst hu; rfl) (by omega) hszr ?_)
            intro v' w5 hown' hb5
            have HO5 : Hid (w5.ownsRow w1.heap.size 3 1 v' (t + 1) (i64s (turned zs f (t + 1)))) := by
              show World.ownsRow _ _ _ _ _ _ _
              rw [turned_succ, i64s_app]; exact hown'
            have hbl5 : Below w1.heap.size w1 w5 := hbl.trans hb5
            obtain ⟨r0, r1, r2, r3, _⟩ := HB1.out.step hbl5
            clear hown' hown hb5
            go_wp2_with fail
            refine (HN.out f t _).mono ?_
            rintro e w6 ⟨rfl, hb6⟩
            have hbl6 : Below w1.heap.size w1 w6 := hbl5.trans (hb6.mono hbl5.size)
            have HO6 : Hid (w6.ownsRow w1.heap.size 3 1 v' (t + 1) (i64s (turned zs f (t + 1)))) := owns_later HO5.out hb6
            clear r0 r1 r2 r3 hb6 HO5
            obtain ⟨r0, r1, r2, r3, _⟩ := HB1.out.step hbl6
            go_wp2_with (go_at_call 21; refine (HK.out f (t + 1) _).mono ?_; rintro e w7 ⟨rfl, hb7⟩)
            have hbl7 : Below w1.heap.size w1 w7 := hbl6.trans (hb7.mono hbl6.size)
            have HO7 := owns_later HO6.out hb7
            go_roundw
            case rel => exact ⟨t + 1, by go_num, by omega, rfl, HO7, hbl7⟩
            case measure => simp [intOf]; omega
      · have htl : t = zs.length := by omega
        subst htl
        rw [HTL.out]
        clear hown
        go_wp2_with (go_at_call 9; refine (awake_any _).mono ?_; rintro e w9 ⟨rfl, hb9⟩)
        go_ret
        exact ⟨rfl, (HBr.out.step hb9).2.2.2.2.1⟩

theorem ring_any (n g c l gr x : Int) (w : World) :
    Calls Try.prog 6 #[.agg #[.int .i64 n, .int .i64 g, .int .i64 c, .int .i64 l], .int .i64 gr, .int .i64 x] w (Said true w) := by
  by_cases h : okC n g c l ∧ 0 ≤ gr ∧ gr < g
  · by_cases hl : (1 : Int) < (reps n c gr).length
    · exact ring_some n g c l gr x w h.1 h.2.1 h.2.2 true _ rfl (Or.inl ⟨rfl, hl⟩)
    · exact ring_some n g c l gr x w h.1 h.2.1 h.2.2 false _ rfl (Or.inr ⟨rfl, by omega⟩)
  · exact ring_none n g c l gr x w h
end Go.Proofs.Ythhkocbfeiccdaa
