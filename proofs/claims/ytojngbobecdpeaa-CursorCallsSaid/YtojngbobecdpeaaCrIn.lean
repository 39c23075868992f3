/- the document's cursors: which numbers they have. -/
import Derived.Test.YtojngbobecdpeaaCurCon
import Derived.Test.YtojngbobecdpeaaCrRight
import Derived.BigQuiet
namespace Go.Proofs.Ytojngbobecdpeaa
open Go Go.RowKit Go.ChangeShapes at_ pm cl
namespace Cur
theorem take_cur {l : List Cur} {k : Nat} (h : k < l.length) : l.take (k + 1) = l.take k ++ [l.getD k default] := by
  rw [List.take_add_one, List.getElem?_eq_getElem h, List.getD_eq_getElem?_getD, List.getElem?_eq_getElem h]; rfl
def S2 (l : List Cur) (n : Int) (j : Nat) (_s a : Bool) : Prop := a = (decide (0 < l.length) && (l.take j).all fun c => has c.nums n)
def S3 (l : List Cur) (n : Int) (j : Nat) (s _a : Bool) : Prop := s = (l.take j).any fun c => has c.nums n
def S4 (l : List Cur) (n : Int) (j : Nat) (s a : Bool) : Prop := (j = 0 → s = false) ∧ (0 < j → a = has (l.getD 0 default).nums n ∧ s = ((l.take j).drop 1).any fun c => has c.nums n)
theorem s2_start {l : List Cur} {n : Int} {z s : Bool} (h : z = decide (0 < l.length)) : S2 l n 0 s z := by unfold S2; simp [h]
theorem s4_start {l : List Cur} {n : Int} {z : Bool} : S4 l n 0 false z := ⟨fun _ => rfl, fun h => absurd h (Nat.lt_irrefl 0)⟩
section
variable {l : List Cur} {n : Int} {k : Nat} {s a r : Bool} {y : Cur}
theorem s2_succ (h : k < l.length) (hs : S2 l n k s a) (hr : r = has y.nums n) (hy : y = l.getD k default) : S2 l n (k + 1) (s || r) (a && r) := by
  unfold S2 at hs ⊢
  rw [take_cur h, List.all_append, hs, hr, hy, Bool.and_assoc]; simp
theorem s3_succ (h : k < l.length) (hs : S3 l n k s a) (hr : r = has y.nums n) (hy : y = l.getD k default) : S3 l n (k + 1) (s || r) a := by
  unfold S3 at hs ⊢
  rw [take_cur h, List.any_append, hs, hr, hy]; simp
theorem s4_zero (h0 : k = 0) (_ : k < l.length) (hs : S4 l n k s a) (hr : r = has y.nums n) (hy : y = l.getD k default) : S4 l n (k + 1) s r := by
  subst h0
  refine ⟨fun h => absurd h (by omega), fun _ => ⟨by rw [hr, hy], ?_⟩⟩
  rw [hs.1 rfl, List.drop_eq_nil_of_le (by rw [List.length_take]; omega)]; rfl
theorem s4_succ (h0 : ¬ k = 0) (h : k < l.length) (hs : S4 l n k s a) (hr : r = has y.nums n) (hy : y = l.getD k default) : S4 l n (k + 1) (s || r) a := by
  obtain ⟨h1, h2⟩ := hs.2 (by omega)
  refine ⟨fun h => absurd h (by omega), fun _ => ⟨h1, ?_⟩⟩
  rw [take_cur h, List.drop_append_of_le_length (by rw [List.length_take]; omega), List.any_append, h2, hr, hy]; simp
theorem s2_end (hs : S2 l n l.length s a) : has (allOf (l.map nums)) n = a := by
  unfold S2 at hs
  rw [hs, List.take_length]
  cases l with
  | nil => rfl
  | cons c t =>
    rw [has_both (by simp), List.not_any_eq_all_not]; simp
theorem s3_end (hs : S3 l n l.length s a) : has (mergeOf (l.map nums)) n = s := by
  unfold S3 at hs
  rw [hs, List.take_length, has_any]
theorem s4_end (h : l ≠ []) (hs : S4 l n l.length s a) : has (subOf (l.map nums)) n = (a && !s) := by
  cases l with
  | nil => exact absurd rfl h
  | cons c t =>
    obtain ⟨h1, h2⟩ := hs.2 (by simp)
    rw [List.take_length] at h2
    rw [has_sub, h1, h2]; rfl
end
end Cur
theorem bd_trans {a b c : World} (h : Below a.heap.size a b) (h2 : Below b.heap.size b c) : Below a.heap.size a c := h.trans (h2.mono h.size)
set_option maxHeartbeats 12800000 in
set_option maxRecDepth 100000 in
theorem rin_of (e : Nat) (n : Int) (HH : ∀ (x : Cur) (c : List Value) (w : World), curR e w w.heap.size c x → x.Ok → Calls Try.prog 49 #[.agg c.toArray, .int .i64 n] w (Said (has x.nums n) w))
    (x : Cur) (c : List Value) (w : World) (h : curR (e + 1) w w.heap.size c x) (ok : x.Ok) :
    Calls Try.prog 49 #[.agg c.toArray, .int .i64 n] w (Said (has x.nums n) w) := by
  cases x with
  | mk xk xl xa xs =>
  obtain ⟨lo, ln, lc, ko, kn, kc, rfl, hA, hR⟩ := h
  simp only [Cur.k, Cur.l, Cur.a, Cur.ks] at hA hR ⊢
  obtain ⟨hln, hln0, _⟩ := hA.cells
  have hcap : ln ≤ lc := by
    obtain ⟨_, _, e, ⟨_, h2⟩, _⟩ := hA
    simp only [Value.slice.injEq] at e
    omega
  obtain ⟨hkn, hkc, hko, hko0⟩ : kn = xs.length ∧ kn ≤ kc ∧ (ko = none → kc = 0) ∧ kn ≤ 9223372036854775807 := by
    obtain ⟨cs, g0, g1, ⟨g2, ao, c2, e, ⟨g3, g4⟩, g5, g6⟩⟩ := hR
    simp only [Value.slice.injEq] at e
    obtain ⟨rfl, rfl, rfl⟩ := e
    unfold maxLen at g5
    exact ⟨rfl, g4, g3, by omega⟩
  have hlnm : ln ≤ 9223372036854775807 := by
    obtain ⟨_, _, _, _, hm, _⟩ := hA
    unfold maxLen at hm
    omega
  obtain ⟨W2, hW2⟩ : ∃ W, W = w.alloc (.cells #[.int .i64 xk, .slice lo ln lc, .int .i64 xa, .slice ko kn kc] 25) := ⟨_, rfl⟩
  have b2 : Below w.heap.size w W2 := by rw [hW2]; exact below1
  obtain ⟨q0, hq0⟩ : ∃ q, q = w.heap.size := ⟨_, rfl⟩
  have x2 : W2.heap[q0]? = some (.cells #[.int .i64 xk, .slice lo ln lc, .int .i64 xa, .slice ko kn kc] 25) := by
    rw [hW2, hq0]; exact heap_alloc_new _ _
  have HAT : Hid (∀ W, Below W2.heap.size W2 W → At W W.heap.size (.slice lo ln lc) xl) := fun W hW => (hA.below (b2.trans (hW.mono b2.size))).mono (Nat.le_trans b2.size hW.size)
  have HRW : Hid (∀ W, Below W2.heap.size W2 W → RowsAt 4 (curR e) W W.heap.size (.slice ko kn kc) xs) := fun W hW => hR.next (curR_steady e) (b2.trans (hW.mono b2.size))
  have X2 := Lib.hid x2
  have B2 := Lib.hid b2
  have HW2 := Lib.hid hW2
  have HQ0 := Lib.hid hq0
  have c0 := boxc x2 0 _ rfl
  have c1 := boxc x2 1 _ rfl
  have c2 := boxc x2 2 _ rfl
  have c3 := boxc x2 3 _ rfl
  by_cases k1 : xk = 1
  · subst k1
    obtain ⟨rfl, ha0, hal, h4, hrt⟩ := ok.list
    rw [Cur.nums_list]
    obtain ⟨p, rfl⟩ : ∃ p : Nat, xa = (p : Int) := ⟨xa.toNat, by omega⟩
    rw [Int.toNat_natCast]
    have hinc : Inc (xl.drop p) := (Cur.gd_drop ⟨right_inc hrt, right_mem hrt⟩ p).1
    obtain ⟨r, hr⟩ : ∃ r, r = has (xl.drop p) n := ⟨_, rfl⟩
    rw [← hr]
    have HP : Hid (∀ (v : Value) (W : World), At W W.heap.size v (xl.drop p) → Calls Try.prog 58 #[v, .int .i64 n] W (Said r W)) := by
      intro v W hv; rw [hr]; exact rhas_any _ n v W hv hinc (by rw [List.length_drop]; omega)
    have HLN := Lib.hid hln
    have hpl : p ≤ ln := by omega
    have e1 : (0 : Int) ≤ (p : Int) := by omega
    have e2 : (p : Int) ≤ (ln : Int) := by omega
    have HAA := Lib.hid hA
    rw [hW2, hq0] at c0 c1 c2 c3
    clear hr hinc hrt h4 hal ha0 hln hA ok hkn hkc hko hko0 HRW HH hW2 hq0 x2 b2
    cases lo with
    | none =>
      obtain ⟨rfl, rfl⟩ := hln0 rfl
      obtain rfl : p = 0 := by omega
      replace HW2 : Hid (W2 = w.alloc (.cells #[.int .i64 1, .slice none 0 0, .int .i64 0, .slice ko kn kc] 25)) := HW2
      replace c2 : (w.alloc (.cells #[.int .i64 1, .slice none 0 0, .int .i64 0, .slice ko kn kc] 25)).cell? ⟨w.heap.size, 2, none⟩ = some (.int .i64 0) := c2
      have HNIL : Hid (∀ W, At W W.heap.size (.slice none 0 0) (xl.drop 0)) := by
        intro W
        have : xl = [] := List.eq_nil_of_length_eq_zero HLN.out.symm
        rw [this]; exact at_.nil W _
      go_enter Try.func49, Try.ntmps49
      go_wp2_with fail
      rw [← HW2.out]
      (with_reducible refine (HP.out _ _ (HNIL.out _)).mono ?_)
      rintro e w3 ⟨rfl, b3⟩
      have B3 := Lib.hid (B2.out.trans (b3.mono B2.out.size))
      clear b3 c0 c1 c2 c3 e1 e2
      go_wp2
      go_ret
      exact ⟨rfl, B3.out⟩
    | some a =>
      clear hln0
      by_cases hl0 : ln ≤ p
      · obtain rfl : p = ln := by omega
        have HP0 : Hid (∀ (sp : Option Addr) (cp : Nat) (W : World), (sp = none → cp = 0) → Calls Try.prog 58 #[.slice sp 0 cp, .int .i64 n] W (Said r W)) := by
          intro sp cp W hs
          refine HP.out _ W ?_
          have : xl.drop p = [] := List.drop_eq_nil_of_le (by rw [HLN.out]; exact Nat.le_refl _)
          rw [this]
          exact ⟨sp, cp, rfl, ⟨hs, Nat.zero_le _⟩, by simp, fun h => absurd h (by simp)⟩
        obtain ⟨ab, af, ap⟩ := a
        by_cases hcp : lc = p
        · subst hcp
          go_enter Try.func49, Try.ntmps49
          go_wp2_with fail
          rw [← HW2.out]
          (try rw [Nat.sub_self])
          (with_reducible refine (HP0.out _ _ _ ?_).mono ?_)
          · first | (intro h; cases h; done) | (split <;> simp)
          rintro e w3 ⟨rfl, b3⟩
          have B3 := Lib.hid (B2.out.trans (b3.mono B2.out.size))
          clear b3 c0 c1 c2 c3 e1 e2
          go_wp2
          go_ret
          exact ⟨rfl, B3.out⟩
        · have hne : ¬ lc - p = 0 := by omega
          have hne3 : ¬ lc ≤ p := by omega
          go_enter Try.func49, Try.ntmps49
          go_wp2_with fail
          rw [← HW2.out]
          (try rw [Nat.sub_self])
          (with_reducible refine (HP0.out _ _ _ ?_).mono ?_)
          · first | (intro h; cases h; done) | (split <;> simp)
          rintro e w3 ⟨rfl, b3⟩
          have B3 := Lib.hid (B2.out.trans (b3.mono B2.out.size))
          clear b3 c0 c1 c2 c3 e1 e2
          go_wp2
          go_ret
          exact ⟨rfl, B3.out⟩
      · obtain ⟨ba, oa, e⟩ : ∃ b o, a = ⟨b, o, none⟩ := by
          obtain ⟨ao, cap, e, _, _, ka⟩ := HAA.out
          obtain ⟨b, o, rfl, _⟩ := ka (by rw [← HLN.out]; omega)
          simp only [Value.slice.injEq] at e
          exact ⟨b, o, Option.some.inj e.1⟩
        subst e
        have hne : ¬ lc - p = 0 := by omega
        have hne2 : ¬ lc = p := by omega
        have hne3 : ¬ lc ≤ p := by omega
        have HP0 : Hid (∀ (cp : Nat) (W : World), ln - p ≤ cp → Below W2.heap.size W2 W → Calls Try.prog 58 #[.slice (some ⟨ba, oa + p, none⟩) (ln - p) cp, .int .i64 n] W (Said r W)) := fun cp W hcp hW =>
          HP.out _ W (at_drop (n := ln) (p := p) (HAT.out W hW) hpl hcp (fun b o e _ => by simp only [Option.some.injEq, Addr.mk.injEq] at e; obtain ⟨rfl, rfl, _⟩ := e; rfl) (fun e => by cases e))
        go_enter Try.func49, Try.ntmps49
        go_wp2_with fail
        rw [← HW2.out]
        (with_reducible refine (HP0.out _ _ (by omega) (Below.refl _ _)).mono ?_)
        rintro e w3 ⟨rfl, b3⟩
        have B3 := Lib.hid (B2.out.trans (b3.mono B2.out.size))
        clear b3 c0 c1 c2 c3 e1 e2 hne hne2 hne3
        go_wp2
        go_ret
        exact ⟨rfl, B3.out⟩
  · obtain ⟨hk, hk4, rfl, rfl, h20, hoks⟩ := ok.kids k1
    have HOK := Lib.hid hoks
    have HKN := Lib.hid hkn
    replace HH := Lib.hid HH
    clear hoks h20 ok hA hR hln hln0 hcap HAT hkn hkc hko
    by_cases k3 : xk = 3
    · subst k3
      rw [Cur.nums_any]
      obtain ⟨rb, hrb⟩ : ∃ b, b = has (mergeOf (xs.map Cur.nums)) n := ⟨_, rfl⟩
      rw [← hrb]
      have HRB := Lib.hid hrb
      have HZ0 : Hid (decide (0 < kn) = decide (0 < xs.length)) := by show _ = _; rw [HKN.out]

      clear hrb hk4 hk
      rw [hW2, hq0] at c0 c1 c2 c3
      go_enter Try.func49, Try.ntmps49
      go_wp2
      go_quiet (fail)
      rw [← HW2.out, ← HQ0.out]
      clear c0 c1 c2 c3
      have bd := below_drewN (Below.refl W2.heap.size W2) nq
      obtain ⟨W4, hW4⟩ : ∃ W, W = W2.drewN nq := ⟨_, rfl⟩
      rw [← hW4] at bd ⊢
      have BD := Lib.hid bd
      have X4 := Lib.hid ((bd.block _ (lt_of_block X2.out)).trans X2.out)
      have c0 := boxc X4.out 0 _ rfl
      have c3 := boxc X4.out 3 _ rfl
      clear hW4 bd hW2 hq0 x2 b2
      go_wp2
      clear c0 c3
      go_loopw [5, 6, 27, 54] (fun s a i _ wr => ∃ (k : Nat) (sb ab : Bool), i = .int .i64 k ∧ k ≤ kn ∧ s = .bool sb ∧ a = .bool ab ∧ Cur.S3 xs n k sb ab ∧ Below W4.heap.size W4 wr) (fun _ _ i _ _ => kn - (intOf i).toNat)
      case atStart => exact ⟨0, false, decide (0 < kn), rfl, by omega, rfl, rfl, rfl, Below.refl _ _⟩
      case round =>
        obtain ⟨k, sb, ab, rfl, hk, rfl, rfl, hs, hbl⟩ := hrel
        have HS := Lib.hid hs
        have hblw := bd_trans BD.out hbl
        have XR := Lib.hid ((hbl.block _ (lt_of_block X4.out)).trans X4.out)
        clear hs
        by_cases hlt : k < kn
        · have hkI : (k : Int) < (kn : Int) := by omega
          obtain ⟨y, hy⟩ : ∃ y, y = xs.getD k default := ⟨_, rfl⟩
          obtain ⟨ba, oa, c, rfl, hbB, hcl, hRc, hC⟩ := (HRW.out _ hblw).get HKN.out hlt default
          rw [← hy] at hRc
          obtain ⟨lo3, ln3, lc3, ko3, kn3, kc3, rfl⟩ := cur_form hRc
          have q0' : wr.cell? ⟨ba, oa + k * 4, none⟩ = _ := hC 0 _ rfl
          have q1 := hC 1 _ rfl
          have q2 := hC 2 _ rfl
          have q3 := hC 3 _ rfl
          have hym : y ∈ xs := by
            rw [hy, List.getD_eq_getElem?_getD, List.getElem?_eq_getElem (by rw [← HKN.out]; exact hlt)]; exact List.getElem_mem _
          obtain ⟨W3, hW3⟩ : ∃ W, W = wr.alloc (.cells #[.int .i64 y.k, .slice lo3 ln3 lc3, .int .i64 y.a, .slice ko3 kn3 kc3] 25) := ⟨_, rfl⟩
          have b3 : Below wr.heap.size wr W3 := by rw [hW3]; exact below1
          have hc3 : curR e W3 W3.heap.size [.int .i64 y.k, .slice lo3 ln3 lc3, .int .i64 y.a, .slice ko3 kn3 kc3] y := curR_steady e _ _ _ _ _ _ hRc b3 b3.size
          have HKL : Hid (k < xs.length) := by show _ < _; rw [← HKN.out]; exact hlt
          have HK1 : Hid (k + 1 ≤ kn) := hlt
          have HC := Lib.hid (HH.out y _ W3 hc3 (HOK.out y hym))
          have B3 := Lib.hid b3
          have HW3 := Lib.hid hW3
          have HBL := Lib.hid hbl
          have HY := Lib.hid hy
          obtain ⟨r, hr⟩ : ∃ r, r = has y.nums n := ⟨_, rfl⟩
          rw [← hr] at HC
          have HRR := Lib.hid hr
          clear hRc hC hy hcl hbB b3 hW3 hbl hc3 hym hr hblw
          go_wp2_with fail
          rw [← HW3.out]
          (with_reducible refine HC.out.mono ?_)
          rintro e4 w4 ⟨rfl, b4⟩
          have B4 := Lib.hid (HBL.out.trans ((B3.out.trans (b4.mono B3.out.size)).mono HBL.out.size))
          have xx := ((B3.out.trans (b4.mono B3.out.size)).block _ (lt_of_block XR.out)).trans XR.out
          have c0 := boxc xx 0 _ rfl
          clear b4 xx q0' q1 q2 q3 HC HW3
          cases r <;> cases sb <;> cases ab
          all_goals
            have HST := Lib.hid (Cur.s3_succ HKL.out HS.out HRR.out HY.out)
            go_wp2
            go_roundw
            case rel => exact ⟨_, _, _, by go_num, HK1.out, rfl, rfl, HST.out, B4.out⟩
            case measure => simp [intOf]; omega
        · obtain rfl : k = kn := by omega
          have HF : Hid (rb = sb) := by
            show _ = _
            rw [HRB.out]
            exact Cur.s3_end (by rw [← HKN.out]; exact HS.out)
          have B4 := Lib.hid (B2.out.trans ((BD.out.trans (hbl.mono BD.out.size)).mono B2.out.size))
          have c0 := boxc XR.out 0 _ rfl
          clear hbl hblw
          go_wp2
          go_ret
          exact ⟨by rw [HF.out]; rfl, B4.out⟩
    by_cases k2 : xk = 2
    · subst k2
      rw [Cur.nums_both]
      obtain ⟨rb, hrb⟩ : ∃ b, b = has (allOf (xs.map Cur.nums)) n := ⟨_, rfl⟩
      rw [← hrb]
      have HRB := Lib.hid hrb
      have HZ0 : Hid (decide (0 < kn) = decide (0 < xs.length)) := by show _ = _; rw [HKN.out]

      clear hrb hk4 hk
      rw [hW2, hq0] at c0 c1 c2 c3
      go_enter Try.func49, Try.ntmps49
      go_wp2
      go_quiet (fail)
      rw [← HW2.out, ← HQ0.out]
      clear c0 c1 c2 c3
      have bd := below_drewN (Below.refl W2.heap.size W2) nq
      obtain ⟨W4, hW4⟩ : ∃ W, W = W2.drewN nq := ⟨_, rfl⟩
      rw [← hW4] at bd ⊢
      have BD := Lib.hid bd
      have X4 := Lib.hid ((bd.block _ (lt_of_block X2.out)).trans X2.out)
      have c0 := boxc X4.out 0 _ rfl
      have c3 := boxc X4.out 3 _ rfl
      clear hW4 bd hW2 hq0 x2 b2
      go_wp2
      clear c0 c3
      go_loopw [5, 6, 27, 54] (fun s a i _ wr => ∃ (k : Nat) (sb ab : Bool), i = .int .i64 k ∧ k ≤ kn ∧ s = .bool sb ∧ a = .bool ab ∧ Cur.S2 xs n k sb ab ∧ Below W4.heap.size W4 wr) (fun _ _ i _ _ => kn - (intOf i).toNat)
      case atStart => exact ⟨0, false, decide (0 < kn), rfl, by omega, rfl, rfl, Cur.s2_start HZ0.out, Below.refl _ _⟩
      case round =>
        obtain ⟨k, sb, ab, rfl, hk, rfl, rfl, hs, hbl⟩ := hrel
        have HS := Lib.hid hs
        have hblw := bd_trans BD.out hbl
        have XR := Lib.hid ((hbl.block _ (lt_of_block X4.out)).trans X4.out)
        clear hs
        by_cases hlt : k < kn
        · have hkI : (k : Int) < (kn : Int) := by omega
          obtain ⟨y, hy⟩ : ∃ y, y = xs.getD k default := ⟨_, rfl⟩
          obtain ⟨ba, oa, c, rfl, hbB, hcl, hRc, hC⟩ := (HRW.out _ hblw).get HKN.out hlt default
          rw [← hy] at hRc
          obtain ⟨lo3, ln3, lc3, ko3, kn3, kc3, rfl⟩ := cur_form hRc
          have q0' : wr.cell? ⟨ba, oa + k * 4, none⟩ = _ := hC 0 _ rfl
          have q1 := hC 1 _ rfl
          have q2 := hC 2 _ rfl
          have q3 := hC 3 _ rfl
          have hym : y ∈ xs := by
            rw [hy, List.getD_eq_getElem?_getD, List.getElem?_eq_getElem (by rw [← HKN.out]; exact hlt)]; exact List.getElem_mem _
          obtain ⟨W3, hW3⟩ : ∃ W, W = wr.alloc (.cells #[.int .i64 y.k, .slice lo3 ln3 lc3, .int .i64 y.a, .slice ko3 kn3 kc3] 25) := ⟨_, rfl⟩
          have b3 : Below wr.heap.size wr W3 := by rw [hW3]; exact below1
          have hc3 : curR e W3 W3.heap.size [.int .i64 y.k, .slice lo3 ln3 lc3, .int .i64 y.a, .slice ko3 kn3 kc3] y := curR_steady e _ _ _ _ _ _ hRc b3 b3.size
          have HKL : Hid (k < xs.length) := by show _ < _; rw [← HKN.out]; exact hlt
          have HK1 : Hid (k + 1 ≤ kn) := hlt
          have HC := Lib.hid (HH.out y _ W3 hc3 (HOK.out y hym))
          have B3 := Lib.hid b3
          have HW3 := Lib.hid hW3
          have HBL := Lib.hid hbl
          have HY := Lib.hid hy
          obtain ⟨r, hr⟩ : ∃ r, r = has y.nums n := ⟨_, rfl⟩
          rw [← hr] at HC
          have HRR := Lib.hid hr
          clear hRc hC hy hcl hbB b3 hW3 hbl hc3 hym hr hblw
          go_wp2_with fail
          rw [← HW3.out]
          (with_reducible refine HC.out.mono ?_)
          rintro e4 w4 ⟨rfl, b4⟩
          have B4 := Lib.hid (HBL.out.trans ((B3.out.trans (b4.mono B3.out.size)).mono HBL.out.size))
          have xx := ((B3.out.trans (b4.mono B3.out.size)).block _ (lt_of_block XR.out)).trans XR.out
          have c0 := boxc xx 0 _ rfl
          clear b4 xx q0' q1 q2 q3 HC HW3
          cases r <;> cases sb <;> cases ab
          all_goals
            have HST := Lib.hid (Cur.s2_succ HKL.out HS.out HRR.out HY.out)
            go_wp2
            go_roundw
            case rel => exact ⟨_, _, _, by go_num, HK1.out, rfl, rfl, HST.out, B4.out⟩
            case measure => simp [intOf]; omega
        · obtain rfl : k = kn := by omega
          have HF : Hid (rb = ab) := by
            show _ = _
            rw [HRB.out]
            exact Cur.s2_end (by rw [← HKN.out]; exact HS.out)
          have B4 := Lib.hid (B2.out.trans ((BD.out.trans (hbl.mono BD.out.size)).mono B2.out.size))
          have c0 := boxc XR.out 0 _ rfl
          clear hbl hblw
          go_wp2
          go_ret
          exact ⟨by rw [HF.out]; rfl, B4.out⟩
    obtain rfl : xk = 4 := by omega
    rw [Cur.nums_sub]
    obtain ⟨rb, hrb⟩ : ∃ b, b = has (Cur.subOf (xs.map Cur.nums)) n := ⟨_, rfl⟩
    rw [← hrb]
    have HRB := Lib.hid hrb
    have HZ0 : Hid (decide (0 < kn) = decide (0 < xs.length)) := by show _ = _; rw [HKN.out]
    have HN0 : Hid (xs ≠ []) := hk4 rfl
    clear hrb hk4 hk
    rw [hW2, hq0] at c0 c1 c2 c3
    go_enter Try.func49, Try.ntmps49
    go_wp2
    go_quiet (fail)
    rw [← HW2.out, ← HQ0.out]
    clear c0 c1 c2 c3
    have bd := below_drewN (Below.refl W2.heap.size W2) nq
    obtain ⟨W4, hW4⟩ : ∃ W, W = W2.drewN nq := ⟨_, rfl⟩
    rw [← hW4] at bd ⊢
    have BD := Lib.hid bd
    have X4 := Lib.hid ((bd.block _ (lt_of_block X2.out)).trans X2.out)
    have c0 := boxc X4.out 0 _ rfl
    have c3 := boxc X4.out 3 _ rfl
    clear hW4 bd hW2 hq0 x2 b2
    go_wp2
    clear c0 c3
    go_loopw [5, 6, 27, 54] (fun s a i _ wr => ∃ (k : Nat) (sb ab : Bool), i = .int .i64 k ∧ k ≤ kn ∧ s = .bool sb ∧ a = .bool ab ∧ Cur.S4 xs n k sb ab ∧ Below W4.heap.size W4 wr) (fun _ _ i _ _ => kn - (intOf i).toNat)
    case atStart => exact ⟨0, false, decide (0 < kn), rfl, by omega, rfl, rfl, Cur.s4_start, Below.refl _ _⟩
    case round =>
      obtain ⟨k, sb, ab, rfl, hk, rfl, rfl, hs, hbl⟩ := hrel
      have HS := Lib.hid hs
      have hblw := bd_trans BD.out hbl
      have XR := Lib.hid ((hbl.block _ (lt_of_block X4.out)).trans X4.out)
      clear hs
      by_cases hlt : k < kn
      · have hkI : (k : Int) < (kn : Int) := by omega
        obtain ⟨y, hy⟩ : ∃ y, y = xs.getD k default := ⟨_, rfl⟩
        obtain ⟨ba, oa, c, rfl, hbB, hcl, hRc, hC⟩ := (HRW.out _ hblw).get HKN.out hlt default
        rw [← hy] at hRc
        obtain ⟨lo3, ln3, lc3, ko3, kn3, kc3, rfl⟩ := cur_form hRc
        have q0' : wr.cell? ⟨ba, oa + k * 4, none⟩ = _ := hC 0 _ rfl
        have q1 := hC 1 _ rfl
        have q2 := hC 2 _ rfl
        have q3 := hC 3 _ rfl
        have hym : y ∈ xs := by
          rw [hy, List.getD_eq_getElem?_getD, List.getElem?_eq_getElem (by rw [← HKN.out]; exact hlt)]; exact List.getElem_mem _
        obtain ⟨W3, hW3⟩ : ∃ W, W = wr.alloc (.cells #[.int .i64 y.k, .slice lo3 ln3 lc3, .int .i64 y.a, .slice ko3 kn3 kc3] 25) := ⟨_, rfl⟩
        have b3 : Below wr.heap.size wr W3 := by rw [hW3]; exact below1
        have hc3 : curR e W3 W3.heap.size [.int .i64 y.k, .slice lo3 ln3 lc3, .int .i64 y.a, .slice ko3 kn3 kc3] y := curR_steady e _ _ _ _ _ _ hRc b3 b3.size
        have HKL : Hid (k < xs.length) := by show _ < _; rw [← HKN.out]; exact hlt
        have HK1 : Hid (k + 1 ≤ kn) := hlt
        have HC := Lib.hid (HH.out y _ W3 hc3 (HOK.out y hym))
        have B3 := Lib.hid b3
        have HW3 := Lib.hid hW3
        have HBL := Lib.hid hbl
        have HY := Lib.hid hy
        obtain ⟨r, hr⟩ : ∃ r, r = has y.nums n := ⟨_, rfl⟩
        rw [← hr] at HC
        have HRR := Lib.hid hr
        clear hRc hC hy hcl hbB b3 hW3 hbl hc3 hym hr hblw
        go_wp2_with fail
        rw [← HW3.out]
        (with_reducible refine HC.out.mono ?_)
        rintro e4 w4 ⟨rfl, b4⟩
        have B4 := Lib.hid (HBL.out.trans ((B3.out.trans (b4.mono B3.out.size)).mono HBL.out.size))
        have xx := ((B3.out.trans (b4.mono B3.out.size)).block _ (lt_of_block XR.out)).trans XR.out
        have c0 := boxc xx 0 _ rfl
        clear b4 xx q0' q1 q2 q3 HC HW3
        by_cases hk0 : k = 0
        · have hk0b : ((k : Int) == 0) = true := by simp [hk0]
          have HK0 := Lib.hid hk0
          clear hk0
          cases r <;> cases sb <;> cases ab
          all_goals
            have HST := Lib.hid (Cur.s4_zero HK0.out HKL.out HS.out HRR.out HY.out)
            go_wp2
            go_roundw
            case rel => exact ⟨_, _, _, by go_num, HK1.out, rfl, rfl, HST.out, B4.out⟩
            case measure => simp [intOf]; omega
        · have hk0i : ¬ (k : Int) = 0 := by omega
          have hk0b : ((k : Int) == 0) = false := beq_eq_false_iff_ne.2 hk0i
          have HK0 := Lib.hid hk0
          clear hk0
          cases r <;> cases sb <;> cases ab
          all_goals
            have HST := Lib.hid (Cur.s4_succ HK0.out HKL.out HS.out HRR.out HY.out)
            go_wp2
            go_roundw
            case rel => exact ⟨_, _, _, by go_num, HK1.out, rfl, rfl, HST.out, B4.out⟩
            case measure => simp [intOf]; omega
      · obtain rfl : k = kn := by omega
        have HF : Hid (rb = (ab && !sb)) := by
          show _ = _
          rw [HRB.out]
          exact Cur.s4_end HN0.out (by rw [← HKN.out]; exact HS.out)
        have B4 := Lib.hid (B2.out.trans ((BD.out.trans (hbl.mono BD.out.size)).mono B2.out.size))
        have c0 := boxc XR.out 0 _ rfl
        clear hbl hblw
        cases ab <;> cases sb
        all_goals
          go_wp2
          go_ret
          exact ⟨by rw [HF.out]; rfl, B4.out⟩
theorem rin_cu (n : Int) : ∀ (d : Nat) (x : Cur) (c : List Value) (w : World), curR d w w.heap.size c x → x.Ok → Calls Try.prog 49 #[.agg c.toArray, .int .i64 n] w (Said (has x.nums n) w)
  | 0, _, _, _, h, _ => h.elim
  | d + 1, x, c, w, h, ok => rin_of d n (fun x c w hx ok => rin_cu n d x c w hx ok) x c w h ok
end Go.Proofs.Ytojngbobecdpeaa
