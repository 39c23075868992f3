/- the cursors' law CursorSteps: step by step a cursor tells all its numbers, rising, and then nothing. -/
import Derived.Test.YtojngbobecdpeaaCurZero
import Derived.Test.YtojngbobecdpeaaCurSize
namespace Go.Proofs.Ytojngbobecdpeaa
open Go Go.RowKit Go.ChangeShapes at_ pm cl
/-- what holds whatever becomes of two blocks -/
def FrX (q : Nat) (av : Option Nat) (W : World) (P : World → Prop) : Prop :=
  ∀ W', (W'.os = W.os ∧ W'.tape = W.tape ∧ W'.output = W.output) → W.heap.size ≤ W'.heap.size → (∀ j, j < W.heap.size → j ≠ q → some j ≠ av → W'.heap[j]? = W.heap[j]?) → P W'
section
variable {q : Nat} {av av' : Option Nat} {W W' : World} {P P' : World → Prop}
theorem FrX.at (h : FrX q av W P) : P W := h W ⟨rfl, rfl, rfl⟩ (Nat.le_refl _) (fun _ _ _ _ => rfl)
theorem FrX.next (h : FrX q av W P) (hb : Below W.heap.size W W') : FrX q av W' P :=
  fun W2 h0 h1 h2 => h W2 ⟨h0.1.trans hb.os, h0.2.1.trans hb.tape, h0.2.2.trans hb.output⟩ (Nat.le_trans hb.size h1) (fun j hj hq hn => (h2 j (Nat.lt_of_lt_of_le hj hb.size) hq hn).trans (hb.block j hj))
theorem FrX.grown (h : FrX q av W P) (hg : W.grownBy W' av) (hav : av' = av ∨ ∀ b, av' = some b → W.heap.size ≤ b) : FrX q av' W' P := by
  intro W2 h0 h1 h2
  refine h W2 ⟨h0.1.trans hg.os, h0.2.1.trans hg.tape, h0.2.2.trans hg.output⟩ (Nat.le_trans hg.size h1) (fun j hj hq hn => (h2 j (Nat.lt_of_lt_of_le hj hg.size) hq ?_).trans (hg.block j hj hn))
  rcases hav with rfl | hav
  · exact hn
  · intro e
    have := hav j e.symm
    omega
theorem FrX.store (h : FrX q av W P) (cs : Array Value) : FrX q av (W.setRow q cs) P := by
  intro W2 h0 h1 h2
  rw [setRow_size] at h1 h2
  exact h W2 h0 h1 (fun j hj hq hn => (h2 j hj hq hn).trans (setRow_other _ _ _ _ hq))
theorem FrX.of {B : Nat} (h : Fre B W P) (hq : q < B) (hav : ∀ b, av = some b → b < B) : FrX q av W P := by
  intro W2 _ h1 h2
  refine h W2 h1 (fun j hB hj _ => h2 j hj (by omega) ?_)
  intro e
  have := hav j e.symm
  omega
end
theorem FrX.arg {e q : Nat} {x : Cur} {c : List Value} {w W : World} (h : curR e w w.heap.size c x) (hb : Below w.heap.size w W) (hq : w.heap.size ≤ q) : FrX q none W (fun W => curR e W W.heap.size c x) := by
  intro W2 h0 h1 h2
  have hb2 : Below w.heap.size w W2 := ⟨h0.1.trans hb.os, h0.2.1.trans hb.tape, h0.2.2.trans hb.output, Nat.le_trans hb.size h1, fun j hj => (h2 j (Nat.lt_of_lt_of_le hj hb.size) (by omega) (by simp)).trans (hb.block j hj)⟩
  exact curR_steady e _ _ _ _ _ _ h hb2 hb2.size
/-- where the loop stands: the box Q holds the cursor gone on with k times, v the numbers so far -/
def DK (x : Cur) (Q e k : Nat) (v : Value) (W : World) : Prop :=
  ∃ (lo : Option Addr) (ln lc : Nat) (ko : Option Addr) (kn kc : Nat), W.heap[Q]? = some (.cells #[.int .i64 (Cur.stepN k x).k, .slice lo ln lc, .int .i64 (Cur.stepN k x).a, .slice ko kn kc] 25) ∧
    FrX Q v.ownBlock W (fun W => curR e W W.heap.size [.int .i64 (Cur.stepN k x).k, .slice lo ln lc, .int .i64 (Cur.stepN k x).a, .slice ko kn kc] (Cur.stepN k x)) ∧
    W.ownsRow (Q + 1) 3 1 v k (i64s (x.nums.take k))
theorem own_lt {w : World} {B n k : Nat} {e : TypeId} {v : Value} {xs : List Value} (h : w.ownsRow B e k v n xs) : ∀ b, v.ownBlock = some b → b < w.heap.size := by
  intro b hb
  rcases h.2 with ⟨rfl, _⟩ | ⟨g, cap, cur, rfl, _, hg, _⟩
  · simp [Value.ownBlock] at hb
  · simp only [Value.ownBlock, Option.some.injEq] at hb
    subst hb
    exact lt_of_block hg
theorem HRT (x : Cur) (h : x.right 8 = true) : rightOf x.nums = true := by
  have h2 := Cur.right_gd 8 x h
  exact inc_right h2.1 h2.2
set_option maxHeartbeats 25600000 in
set_option maxRecDepth 100000 in
theorem steps_any (e : Nat) (x : Cur) (c : List Value) (w : World) (h : curR e w w.heap.size c x) : Calls Try.prog 4 #[.agg c.toArray] w (Said true w) := by
  have HAW : Hid (∀ W, Calls Try.prog 9 #[] W (Said true W)) := awake_any
  have HS : Hid (∀ W, Below w.heap.size w W → Calls Try.prog 8 #[.agg c.toArray, .int .i64 12] W (SzA x W)) := fun W hW => size_cu 12 e 12 x c W rfl (by omega) (curR_steady e _ _ _ _ _ _ h hW hW.size)
  have HR : Hid (∀ W, Below w.heap.size w W → Calls Try.prog 12 #[.agg c.toArray] W (Said (x.right 8) W)) := fun W hW => cright_any e x c W (curR_steady e _ _ _ _ _ _ h hW hW.size)
  have HX := Lib.hid h
  obtain ⟨lo, ln, lc, ko, kn, kc, rfl⟩ := cur_form h
  obtain ⟨r, hr⟩ : ∃ r, r = x.right 8 := ⟨_, rfl⟩
  rw [← hr] at HR
  have HRR := Lib.hid hr
  obtain ⟨W2, hW2⟩ : ∃ W, W = w.alloc (.cells #[.int .i64 x.k, .slice lo ln lc, .int .i64 x.a, .slice ko kn kc] 25) := ⟨_, rfl⟩
  obtain ⟨q0, hq0⟩ : ∃ q, q = w.heap.size := ⟨_, rfl⟩
  have b2 : Below w.heap.size w W2 := by rw [hW2]; exact below1
  have x2 : W2.heap[q0]? = some (.cells #[.int .i64 x.k, .slice lo ln lc, .int .i64 x.a, .slice ko kn kc] 25) := by rw [hW2, hq0]; exact heap_alloc_new _ _
  have HC := Lib.hid (HS.out _ b2)
  have HW2 := Lib.hid hW2
  have HQ0 := Lib.hid hq0
  have B2 := Lib.hid b2
  have X2 := Lib.hid x2
  clear h hr b2 hW2 hq0 x2 HS
  go_enter Try.func4, Try.ntmps4
  go_wp2_with fail
  rw [← HW2.out, ← HQ0.out]
  (with_reducible refine HC.out.mono ?_)
  rintro e3 w3 ⟨z, b, rfl, hz0, hz1, hzs, b3⟩
  have B3 := Lib.hid (B2.out.trans (b3.mono B2.out.size))
  have X3 := Lib.hid ((b3.block _ (lt_of_block X2.out)).trans X2.out)
  have HZ := Lib.hid hzs
  have c0 := boxc X3.out 0 _ rfl
  have c1 := boxc X3.out 1 _ rfl
  have c2 := boxc X3.out 2 _ rfl
  have c3 := boxc X3.out 3 _ rfl
  have HC3 := Lib.hid (HR.out _ B3.out)
  clear b3 hzs HC X2 HW2 HQ0 B2
  cases b with
  | false =>
    go_wp2_with fail
    (with_reducible refine (HAW.out _).mono ?_)
    rintro e4 w4 ⟨rfl, b4⟩
    go_wp2
    go_ret
    exact ⟨rfl, B3.out.trans (b4.mono B3.out.size)⟩
  | true =>
    by_cases g1 : 200 < z
    · go_wp2_with fail
      (with_reducible refine (HAW.out _).mono ?_)
      rintro e4 w4 ⟨rfl, b4⟩
      go_wp2
      go_ret
      exact ⟨rfl, B3.out.trans (b4.mono B3.out.size)⟩
    · go_wp2_with fail
      (with_reducible refine HC3.out.mono ?_)
      rintro e4 w4 ⟨rfl, b4⟩
      have B4 := Lib.hid (B3.out.trans (b4.mono B3.out.size))
      have X4 := Lib.hid ((b4.block _ (lt_of_block X3.out)).trans X3.out)
      clear b4 c0 c1 c2 c3
      cases r with
      | false =>
        go_wp2_with fail
        (with_reducible refine (HAW.out _).mono ?_)
        rintro e5 w5 ⟨rfl, b5⟩
        go_wp2
        go_ret
        exact ⟨rfl, B4.out.trans (b5.mono B4.out.size)⟩
      | true =>
        have c0 := boxc X4.out 0 _ rfl
        have c1 := boxc X4.out 1 _ rfl
        have c2 := boxc X4.out 2 _ rfl
        have c3 := boxc X4.out 3 _ rfl
        obtain ⟨W5, hW5⟩ : ∃ W, W = w4.alloc (.cells #[.int .i64 x.k, .slice lo ln lc, .int .i64 x.a, .slice ko kn kc] 25) := ⟨_, rfl⟩
        obtain ⟨Q, hQ⟩ : ∃ q, q = w4.heap.size := ⟨_, rfl⟩
        have b5 : Below w4.heap.size w4 W5 := by rw [hW5]; exact below1
        have B5 : Hid (Below w.heap.size w W5) := B4.out.trans (b5.mono B4.out.size)
        have X5 : Hid (W5.heap[q0]? = some (.cells #[.int .i64 x.k, .slice lo ln lc, .int .i64 x.a, .slice ko kn kc] 25)) := (b5.block _ (lt_of_block X4.out)).trans X4.out
        have HqQ : Hid (q0 < Q) := by show _ < _; rw [hQ]; exact lt_of_block X4.out
        have HwQ : Hid (w.heap.size ≤ Q) := by show _ ≤ _; rw [hQ]; exact B4.out.size
        have Y5 : Hid (W5.heap[Q]? = some (.cells #[.int .i64 x.k, .slice lo ln lc, .int .i64 x.a, .slice ko kn kc] 25)) := by show _ = _; rw [hW5, hQ]; exact heap_alloc_new _ _
        have HQ5 : Hid (Q + 1 ≤ W5.heap.size) := lt_of_block Y5.out
        have HR8 : Hid (x.right 8 = true) := HRR.out.symm
        obtain ⟨m, hm⟩ : ∃ m, m = x.nums.length := ⟨_, rfl⟩
        have hm2 : m ≤ 200 := by
          have h1 := Cur.nums_le 8 x HR8.out
          have h2 := HZ.out (by first | rfl | trivial)
          omega
        have HM := Lib.hid hm
        have F5 : Hid (DK x Q e 0 (.slice none 0 0) W5) := by
          refine ⟨lo, ln, lc, ko, kn, kc, Y5.out, FrX.arg HX.out B5.out HwQ.out, World.ownsRow_nil _ _ _ _⟩
        have HW5 := Lib.hid hW5
        have HQ := Lib.hid hQ
        clear b5 hW5 hQ hm HC3 X3 B3 HRR HZ
        go_wp2
        rw [← HW5.out, ← HQ.out]
        clear c0 c1 c2 c3 X4 B4 HW5 HQ
        go_loopw [5, 27, 59] (fun o i _ wr => ∃ (k : Nat) (ao : Option Addr) (cap : Nat), i = .int .i64 k ∧ k ≤ m ∧ o = .slice ao k cap ∧ Below Q W5 wr ∧ Hid (DK x Q e k (.slice ao k cap) wr)) (fun _ i _ _ => 300 - (intOf i).toNat)
        case atStart => exact ⟨0, none, 0, rfl, Nat.zero_le _, rfl, Below.refl _ _, F5⟩
        case round =>
          obtain ⟨k, ao, cap, rfl, hk, rfl, hbl, HD⟩ := hrel
          obtain ⟨lo2, ln2, lc2, ko2, kn2, kc2, hY, hF, hO⟩ := HD.out
          have hk3 : (k : Int) < 300 := by omega
          have HB := Lib.hid hbl
          have HF := Lib.hid hF
          have HO := Lib.hid hO
          have YR := Lib.hid hY
          have BW : Hid (Below w.heap.size w wr) := B5.out.trans (hbl.mono HwQ.out)
          have XR : Hid (wr.heap[q0]? = some (.cells #[.int .i64 x.k, .slice lo ln lc, .int .i64 x.a, .slice ko kn kc] 25)) := (hbl.block _ HqQ.out).trans X5.out
          have HN : Hid (Calls Try.prog 10 #[.agg #[.int .i64 (Cur.stepN k x).k, .slice lo2 ln2 lc2, .int .i64 (Cur.stepN k x).a, .slice ko2 kn2 kc2]] wr (LstA (x.nums[k]?) wr)) := by
            have h := now_any e _ _ wr hF.at
            rw [Cur.stepN_now HR8.out k] at h
            exact h
          have d0 := boxc hY 0 _ rfl
          have d1 := boxc hY 1 _ rfl
          have d2 := boxc hY 2 _ rfl
          have d3 := boxc hY 3 _ rfl
          obtain ⟨s, hs⟩ : ∃ s, s = x.nums[k]? := ⟨_, rfl⟩
          rw [← hs] at HN
          have HS := Lib.hid hs
          clear hF hO hY hs hbl HD
          go_wp2_with fail
          (with_reducible refine HN.out.mono ?_)
          rintro e6 w6 ⟨rfl, b6⟩
          have HF6 := Lib.hid (HF.out.next b6)
          have HO6 := Lib.hid (own_stay HO.out b6)
          have Y6 : Hid (w6.heap[Q]? = some (.cells #[.int .i64 (Cur.stepN k x).k, .slice lo2 ln2 lc2, .int .i64 (Cur.stepN k x).a, .slice ko2 kn2 kc2] 25)) := (b6.block _ (lt_of_block YR.out)).trans YR.out
          have X6 : Hid (w6.heap[q0]? = some (.cells #[.int .i64 x.k, .slice lo ln lc, .int .i64 x.a, .slice ko kn kc] 25)) := (b6.block _ (lt_of_block XR.out)).trans XR.out
          have HBS : Hid (Q + 1 ≤ wr.heap.size) := lt_of_block YR.out
          have B6 : Hid (Below w.heap.size w w6) := BW.out.trans (b6.mono BW.out.size)
          have HB6 : Hid (Below Q W5 w6) := HB.out.trans (b6.mono (by have := HBS.out; omega))
          have HS6 : Hid (Q + 1 ≤ w6.heap.size) := Nat.le_trans HBS.out b6.size
          clear b6 HN HF HO YR XR d0 d1 d2 d3
          cases s with
          | none =>
            have hkm : x.nums.length ≤ k := by
              have := HS.out
              rcases Nat.lt_or_ge k x.nums.length with h | h
              · rw [List.getElem?_eq_getElem h] at this; cases this
              · exact h
            have HKM := Lib.hid hkm
            have c0 := boxc X6.out 0 _ rfl
            have c1 := boxc X6.out 1 _ rfl
            have c2 := boxc X6.out 2 _ rfl
            have c3 := boxc X6.out 3 _ rfl
            simp only [Option.isSome_none, Option.getD_none]
            clear hkm
            go_wp2_with fail
            have HAL := Lib.hid (all_cu e x _ w6 (curR_steady e _ _ _ _ _ _ HX.out B6.out B6.out.size))
            (with_reducible refine HAL.out.mono ?_)
            rintro e7 w7 ⟨v7, rfl, o7, b7⟩
            rw [Cur.allN_right HR8.out (Nat.le_refl _)] at o7
            have HAT : Hid (At w7 w7.heap.size (.slice ao k cap) x.nums) := by
              have h := own_stay HO6.out b7
              rw [List.take_of_length_le HKM.out] at h
              have hk' : k = x.nums.length := by have := HKM.out; have := HM.out; omega
              refine at_.own (base := Q + 1) (e := 3) ?_
              rw [← hk']; exact h
            have B7 : Hid (Below w.heap.size w w7) := B6.out.trans (b7.mono B6.out.size)
            have Y7 := Lib.hid ((b7.block _ (lt_of_block Y6.out)).trans Y6.out)
            have HF7 := Lib.hid (HF6.out.next b7)
            have A7 := Lib.hid (at_.own o7)
            clear o7 b7 c0 c1 c2 c3
            go_wp2_with fail
            (with_reducible refine (ints_same _ _ _ w7 HAT.out A7.out).mono ?_)
            rintro e8 w8 ⟨rfl, b8⟩
            have HAT8 : Hid (At w8 w8.heap.size (.slice ao k cap) x.nums) := (HAT.out.below b8).mono b8.size
            have B8 : Hid (Below w.heap.size w w8) := B7.out.trans (b8.mono B7.out.size)
            have Y8 := Lib.hid ((b8.block _ (lt_of_block Y7.out)).trans Y7.out)
            have HF8 := Lib.hid (HF7.out.next b8)
            clear b8 HF7 HAT
            go_wp2_with fail
            (with_reducible refine (pright_any _ _ w8 HAT8.out).mono ?_)
            rintro e9 w9 ⟨rfl, b9⟩
            have hro : rightOf x.nums = true := HRT x HR8.out
            rw [hro]
            have B9 : Hid (Below w.heap.size w w9) := B8.out.trans (b9.mono B8.out.size)
            have Y9 := Lib.hid ((b9.block _ (lt_of_block Y8.out)).trans Y8.out)
            have HF9 := Lib.hid (HF8.out.next b9)
            have d0 := boxc Y9.out 0 _ rfl
            have d1 := boxc Y9.out 1 _ rfl
            have d2 := boxc Y9.out 2 _ rfl
            have d3 := boxc Y9.out 3 _ rfl
            clear b9 hro HF8
            go_wp2_with fail
            (with_reducible refine (all_cu e (Cur.stepN k x) _ w9 HF9.out.at).mono ?_)
            rintro e10 w10 ⟨v10, rfl, o10, b10⟩
            rw [Cur.allN_right (Cur.stepN_right HR8.out k) (Nat.le_refl _), Cur.stepN_nums HR8.out k, List.drop_eq_nil_of_le HKM.out] at o10
            obtain ⟨ao10, cap10, rfl⟩ := own_slice o10
            have B10 : Hid (Below w.heap.size w w10) := B9.out.trans (b10.mono B9.out.size)
            simp only [List.length_nil]
            clear o10 b10 d0 d1 d2 d3
            go_wp2_with fail
            (with_reducible refine (HAW.out _).mono ?_)
            rintro e11 w11 ⟨rfl, b11⟩
            go_wp2
            go_ret
            exact ⟨rfl, B10.out.trans (b11.mono B10.out.size)⟩
          | some y =>
            have hkl : k < x.nums.length := by
              have := HS.out
              rcases Nat.lt_or_ge k x.nums.length with h | h
              · exact h
              · rw [List.getElem?_eq_none h] at this; cases this
            have hyE : y = x.nums.getD k 0 := by
              have := HS.out
              rw [List.getElem?_eq_getElem hkl] at this
              rw [Option.some.inj this]; simp [List.getD, hkl]
            have HTK : Hid (i64s (x.nums.take (k + 1)) = i64s (x.nums.take k) ++ [.int .i64 y]) := by
              show _ = _
              rw [take_snoc hkl, i64s_app, ← hyE]; rfl
            have HKL : Hid (k < m) := by show _ < _; rw [HM.out]; exact hkl
            have hkb : (k + 1) * 8 ≤ 140737488355328 := by omega
            simp only [Option.getD_some, Option.isSome_some]
            clear hkl hyE
            go_wp2_with (at_builtin; refine kit.app1k w6.heap.size rfl (.tmp 53) (.tmp 55) 22 rfl rfl (Q + 1) Try.underlying22 infoInt rfl (by decide) (by decide) HO6.out rfl rfl rfl (by simp [Value.oneCell']) hkb HS6.out ?_)
            intro v7 w7 hO7 hg7 hb7
            obtain ⟨ao7, cp7, rfl⟩ := own_slice hO7
            have bA := app_below HO6.out HS6.out hg7
            have Y7 : Hid (w7.heap[Q]? = some (.cells #[.int .i64 (Cur.stepN k x).k, .slice lo2 ln2 lc2, .int .i64 (Cur.stepN k x).a, .slice ko2 kn2 kc2] 25)) := (bA.block _ (by omega)).trans Y6.out
            have B7 : Hid (Below w.heap.size w w7) := B6.out.trans (bA.mono (by have := HwQ.out; omega))
            have HB7 : Hid (Below Q W5 w7) := HB6.out.trans (bA.mono (by omega))
            have HF7 := Lib.hid ((HF6.out.next below1).grown hg7 (by rw [World.size_alloc]; exact hb7))
            have HO7 : Hid (w7.ownsRow (Q + 1) 3 1 (.slice ao7 (k + 1) cp7) (k + 1) (i64s (x.nums.take (k + 1)))) := by
              show World.ownsRow _ _ _ _ _ _ _
              rw [HTK.out]; exact hO7
            have hsn : Cur.stepN (k + 1) x = (Cur.stepN k x).fwd (y + 1) := by
              show (match (Cur.stepN k x).now with | none => Cur.stepN k x | some y => Cur.fwd (y + 1) (Cur.stepN k x)) = _
              rw [Cur.stepN_now HR8.out k, ← HS.out]
            have HST : Hid (Calls Try.prog 17 #[.agg #[.int .i64 (Cur.stepN k x).k, .slice lo2 ln2 lc2, .int .i64 (Cur.stepN k x).a, .slice ko2 kn2 kc2]] w7 (CurA e (Cur.stepN (k + 1) x) w7)) := by
              have h := step_any e (Cur.stepN k x) _ w7 HF7.out.at
              unfold StepP at h
              rw [Cur.stepN_now HR8.out k, ← HS.out] at h
              simp only at h
              rw [← hsn] at h
              exact h
            have d0 := boxc Y7.out 0 _ rfl
            have d1 := boxc Y7.out 1 _ rfl
            have d2 := boxc Y7.out 2 _ rfl
            have d3 := boxc Y7.out 3 _ rfl
            clear hO7 hg7 hb7 bA hsn HF6 HO6 Y6 B6 HB6 HS6 X6
            go_wp2_with fail
            (with_reducible refine HST.out.mono ?_)
            rintro e8 w8 ⟨c8, rfl, hf8, b8⟩
            obtain ⟨lo8, ln8, lc8, ko8, kn8, kc8, rfl⟩ := cur_form hf8.at
            have hQ7 := lt_of_block Y7.out
            have Y8 : w8.heap[Q]? = some (.cells #[.int .i64 (Cur.stepN k x).k, .slice lo2 ln2 lc2, .int .i64 (Cur.stepN k x).a, .slice ko2 kn2 kc2] 25) := (b8.block _ hQ7).trans Y7.out
            have HD9 : Hid (DK x Q e (k + 1) (.slice ao7 (k + 1) cp7) (w8.setRow Q #[.int .i64 (Cur.stepN (k + 1) x).k, .slice lo8 ln8 lc8, .int .i64 (Cur.stepN (k + 1) x).a, .slice ko8 kn8 kc8])) := by
              refine ⟨lo8, ln8, lc8, ko8, kn8, kc8, setRow_heap w8 Q _ _ _ _ Y8, FrX.store (FrX.of hf8 hQ7 (own_lt HO7.out)) _, ?_⟩
              exact own_fre (own_stay HO7.out b8) (fun j hB _ => setRow_other _ _ _ _ (by omega))
            have HB9 : Hid (Below Q W5 (w8.setRow Q #[.int .i64 (Cur.stepN (k + 1) x).k, .slice lo8 ln8 lc8, .int .i64 (Cur.stepN (k + 1) x).a, .slice ko8 kn8 kc8])) := below_setRow (HB7.out.trans (b8.mono (by omega))) (Nat.le_refl _) _
            clear hf8 b8 d0 d1 d2 d3 hQ7 HST HF7 HO7 HB7 Y7 B7
            go_wp2_with ((with_reducible show wpList _ _ _ (Oper.mk _ (Op.store 25 (.tmp 6) _) _ _ _ _ :: _) _ _); refine wpList_store_row rfl 25 (.tmp 6) _ rfl Q #[.int .i64 (Cur.stepN (k + 1) x).k, .slice lo8 ln8 lc8, .int .i64 (Cur.stepN (k + 1) x).a, .slice ko8 kn8 kc8] rfl rfl 25 #[.int .i64 (Cur.stepN k x).k, .slice lo2 ln2 lc2, .int .i64 (Cur.stepN k x).a, .slice ko2 kn2 kc2] Y8 csize rfl (by simp [Value.oneCell']) ?_)
            obtain ⟨w9, h9⟩ : ∃ W, W = World.setRow w8 Q #[.int .i64 (Cur.stepN (k + 1) x).k, .slice lo8 ln8 lc8, .int .i64 (Cur.stepN (k + 1) x).a, .slice ko8 kn8 kc8] := ⟨_, rfl⟩
            rw [← h9] at HD9 HB9 ⊢
            clear h9 Y8
            go_wp2
            go_roundw
            case rel => exact ⟨k + 1, ao7, cp7, by go_num, HKL.out, rfl, HB9.out, HD9⟩
            case measure => simp [intOf]; omega
end Go.Proofs.Ytojngbobecdpeaa
