/- cursors: least, by contract. -/
import Derived.Test.YtojngbobecdpeaaCurLst
namespace Go.Proofs.Ytojngbobecdpeaa
open Go Go.RowKit Go.ChangeShapes at_ pm cl
set_option maxHeartbeats 12800000 in
set_option maxRecDepth 100000 in
theorem least_of (d : Nat) (HH : ∀ (n : Int) (x : Cur) (c : List Value) (w : World), curR d w w.heap.size c x → x.Ok → Calls Try.prog 34 #[.agg c.toArray, .int .i64 n] w (LstA (Cur.lst x.nums n) w))
    (n : Int) (x : Cur) (c : List Value) (w : World) (h : curR (d + 1) w w.heap.size c x) (ok : x.Ok) :
    Calls Try.prog 34 #[.agg c.toArray, .int .i64 n] w (LstA (Cur.lst x.nums n) w) := by
  have hx0 := h
  have okx := ok
  cases x with
  | mk xk xl xa xs =>
  obtain ⟨lo, ln, lc, ko, kn, kc, rfl, hA, hR⟩ := h
  simp only [Cur.k, Cur.l, Cur.a, Cur.ks] at hA hR hx0 ⊢
  obtain ⟨hln, hln0, _⟩ := hA.cells
  have hcap : ln ≤ lc := by
    obtain ⟨_, _, e, ⟨_, h2⟩, _⟩ := hA
    simp only [Value.slice.injEq] at e
    omega
  obtain ⟨hkn, hko0⟩ : kn = xs.length ∧ kn ≤ 9223372036854775807 := by
    obtain ⟨cs, g0, g1, ⟨g2, ao, c2, e, ⟨g3, g4⟩, g5, g6⟩⟩ := hR
    simp only [Value.slice.injEq] at e
    obtain ⟨rfl, rfl, rfl⟩ := e
    unfold maxLen at g5
    exact ⟨rfl, by omega⟩
  obtain ⟨W2, hW2⟩ : ∃ W, W = w.alloc (.cells #[.int .i64 xk, .slice lo ln lc, .int .i64 xa, .slice ko kn kc] 25) := ⟨_, rfl⟩
  have b2 : Below w.heap.size w W2 := by rw [hW2]; exact below1
  obtain ⟨q0, hq0⟩ : ∃ q, q = w.heap.size := ⟨_, rfl⟩
  have x2 : W2.heap[q0]? = some (.cells #[.int .i64 xk, .slice lo ln lc, .int .i64 xa, .slice ko kn kc] 25) := by
    rw [hW2, hq0]; exact heap_alloc_new _ _
  have X2 := Lib.hid x2
  have B2 := Lib.hid b2
  have HW2 := Lib.hid hW2
  have HQ0 := Lib.hid hq0
  have HAT : Hid (∀ W, Below W2.heap.size W2 W → At W W.heap.size (.slice lo ln lc) xl) := fun W hW => (hA.below (b2.trans (hW.mono b2.size))).mono (Nat.le_trans b2.size hW.size)
  have HRW : Hid (∀ W, Below W2.heap.size W2 W → RowsAt 4 (curR d) W W.heap.size (.slice ko kn kc) xs) := fun W hW => hR.next (curR_steady d) (b2.trans (hW.mono b2.size))
  have HXW : Hid (∀ W, Below W2.heap.size W2 W → curR (d + 1) W W.heap.size (#[.int .i64 xk, .slice lo ln lc, .int .i64 xa, .slice ko kn kc] : Array Value).toList (.mk xk xl xa xs)) := fun W hW => curR_steady (d + 1) _ _ _ _ _ _ hx0 (b2.trans (hW.mono b2.size)) (Nat.le_trans b2.size hW.size)
  have c0 := boxc x2 0 _ rfl
  have c1 := boxc x2 1 _ rfl
  have c2 := boxc x2 2 _ rfl
  have c3 := boxc x2 3 _ rfl
  rw [hW2, hq0] at c0 c1 c2 c3
  clear hR hx0 x2 b2 hW2 hq0
  by_cases k1 : xk = 1
  · subst k1
    obtain ⟨rfl, ha0, hal, h4, hrt⟩ := ok.list
    rw [Cur.nums_list]
    obtain ⟨p, rfl⟩ : ∃ p : Nat, xa = (p : Int) := ⟨xa.toNat, by omega⟩
    rw [Int.toNat_natCast]
    have hinc : Inc (xl.drop p) := (Cur.gd_drop ⟨right_inc hrt, right_mem hrt⟩ p).1
    rw [Cur.lst_count hinc, List.length_drop, ← hln]
    have HP : Hid (∀ (v : Value) (W : World), At W W.heap.size v (xl.drop p) → Calls Try.prog 45 #[v, .int .i64 n] W (fun e w' => e = .returned (.tuple #[.int .i64 ((xl.drop p).countP (fun x => decide (x < n)) : Nat), .bool ((xl.drop p).contains n)]) ∧ Below W.heap.size W w')) := by
      intro v W hv; exact bs2_any _ n v W hv hinc (by rw [List.length_drop]; omega)
    have hct : (xl.drop p).countP (fun x => decide (x < n)) ≤ ln - p := by have := List.countP_le_length (p := fun x : Int => decide (x < n)) (l := xl.drop p); rw [List.length_drop, ← hln] at this; exact this
    have HGD : Hid (∀ j, (xl.drop p).getD j 0 = xl.getD (p + j) 0) := fun j => getD_drop _ _ _
    obtain ⟨ct, hctE⟩ : ∃ z, z = (xl.drop p).countP (fun x => decide (x < n)) := ⟨_, rfl⟩
    obtain ⟨bb, hbb⟩ : ∃ z, z = (xl.drop p).contains n := ⟨_, rfl⟩
    rw [← hctE] at HP hct ⊢
    rw [← hbb] at HP
    have HLN := Lib.hid hln
    have hpl : p ≤ ln := by omega
    have e1 : (0 : Int) ≤ (p : Int) := by omega
    have e2 : (p : Int) ≤ (ln : Int) := by omega
    have HAA := Lib.hid hA
    have hl9 : ln ≤ 4000 := by omega
    clear hinc hrt h4 hal ha0 hln hA ok okx hkn hko0 HRW HH HXW hctE hbb
    cases lo with
    | none =>
      obtain ⟨rfl, rfl⟩ := hln0 rfl
      obtain rfl : p = 0 := by omega
      obtain rfl : ct = 0 := by omega
      replace HW2 : Hid (W2 = w.alloc (.cells #[.int .i64 1, .slice none 0 0, .int .i64 0, .slice ko kn kc] 25)) := HW2
      replace c2 : (w.alloc (.cells #[.int .i64 1, .slice none 0 0, .int .i64 0, .slice ko kn kc] 25)).cell? ⟨w.heap.size, 2, none⟩ = some (.int .i64 0) := c2
      replace HP : Hid (∀ (v : Value) (W : World), At W W.heap.size v (xl.drop 0) → Calls Try.prog 45 #[v, .int .i64 n] W (fun e w' => e = .returned (.tuple #[.int .i64 0, .bool bb]) ∧ Below W.heap.size W w')) := HP
      rw [if_neg (by omega)]
      have HNIL : Hid (∀ W, At W W.heap.size (.slice none 0 0) (xl.drop 0)) := by
        intro W
        have : xl = [] := List.eq_nil_of_length_eq_zero HLN.out.symm
        rw [this]; exact at_.nil W _
      go_enter Try.func34, Try.ntmps34
      go_wp2_with fail
      rw [← HW2.out]
      (with_reducible refine (HP.out _ _ (HNIL.out _)).mono ?_)
      rintro e w3 ⟨rfl, b3⟩
      have B3 := Lib.hid (B2.out.trans (b3.mono B2.out.size))
      clear b3 c0 c1 c2 c3 e1 e2
      go_wp2
      refine bodyPost_ret (v := .tuple #[.int .i64 0, .bool false]) (by simp [results, Try.results34, go_sem]) rfl ⟨rfl, B3.out⟩
    | some a =>
      clear hln0
      by_cases hl0 : ln ≤ p
      · obtain rfl : p = ln := by omega
        obtain rfl : ct = 0 := by omega
        rw [if_neg (by omega)]
        replace HP : Hid (∀ (v : Value) (W : World), At W W.heap.size v (xl.drop p) → Calls Try.prog 45 #[v, .int .i64 n] W (fun e w' => e = .returned (.tuple #[.int .i64 0, .bool bb]) ∧ Below W.heap.size W w')) := HP
        have HP0 : Hid (∀ (sp : Option Addr) (cp : Nat) (W : World), (sp = none → cp = 0) → Calls Try.prog 45 #[.slice sp 0 cp, .int .i64 n] W (fun e w' => e = .returned (.tuple #[.int .i64 0, .bool bb]) ∧ Below W.heap.size W w')) := by
          intro sp cp W hs
          refine HP.out _ W ?_
          have : xl.drop p = [] := List.drop_eq_nil_of_le (by rw [HLN.out]; exact Nat.le_refl _)
          rw [this]
          exact ⟨sp, cp, rfl, ⟨hs, Nat.zero_le _⟩, by simp, fun h => absurd h (by simp)⟩
        obtain ⟨ab, af, ap⟩ := a
        by_cases hcp : lc = p
        · subst hcp
          go_enter Try.func34, Try.ntmps34
          go_wp2_with fail
          rw [← HW2.out]
          (try rw [Nat.sub_self])
          (with_reducible refine (HP0.out _ _ _ ?_).mono ?_)
          · first | (intro h; cases h; done) | (split <;> simp)
          rintro e w3 ⟨rfl, b3⟩
          have B3 := Lib.hid (B2.out.trans (b3.mono B2.out.size))
          clear b3 c0 c1 c2 c3 e1 e2
          go_wp2
          refine bodyPost_ret (v := .tuple #[.int .i64 0, .bool false]) (by simp [results, Try.results34, go_sem]) rfl ⟨rfl, B3.out⟩
        · have hne : ¬ lc - p = 0 := by omega
          have hne3 : ¬ lc ≤ p := by omega
          go_enter Try.func34, Try.ntmps34
          go_wp2_with fail
          rw [← HW2.out]
          (try rw [Nat.sub_self])
          (with_reducible refine (HP0.out _ _ _ ?_).mono ?_)
          · first | (intro h; cases h; done) | (split <;> simp)
          rintro e w3 ⟨rfl, b3⟩
          have B3 := Lib.hid (B2.out.trans (b3.mono B2.out.size))
          clear b3 c0 c1 c2 c3 e1 e2
          go_wp2
          refine bodyPost_ret (v := .tuple #[.int .i64 0, .bool false]) (by simp [results, Try.results34, go_sem]) rfl ⟨rfl, B3.out⟩
      · obtain ⟨ba, oa, e⟩ : ∃ b o, a = ⟨b, o, none⟩ := by
          obtain ⟨ao, cap, e, _, _, ka⟩ := HAA.out
          obtain ⟨b, o, rfl, _⟩ := ka (by rw [← HLN.out]; omega)
          simp only [Value.slice.injEq] at e
          exact ⟨b, o, Option.some.inj e.1⟩
        subst e
        have hne : ¬ lc - p = 0 := by omega
        have hne2 : ¬ lc = p := by omega
        have hne3 : ¬ lc ≤ p := by omega
        have HP0 : Hid (∀ (cp : Nat) (W : World), ln - p ≤ cp → Below W2.heap.size W2 W → Calls Try.prog 45 #[.slice (some ⟨ba, oa + p, none⟩) (ln - p) cp, .int .i64 n] W (fun e w' => e = .returned (.tuple #[.int .i64 ct, .bool bb]) ∧ Below W.heap.size W w')) := fun cp W hcp hW =>
          HP.out _ W (at_drop (n := ln) (p := p) (HAT.out W hW) hpl hcp (fun b o e _ => by simp only [Option.some.injEq, Addr.mk.injEq] at e; obtain ⟨rfl, rfl, _⟩ := e; rfl) (fun e => by cases e))
        have HCE : Hid (∀ W, Below W2.heap.size W2 W → ct < ln - p → W.cell? ⟨ba, oa + p + ct, none⟩ = some (.int .i64 (xl.getD (p + ct) 0))) := by
          intro W hW hc
          obtain ⟨ao, cap, e, _, _, ka⟩ := HAT.out W hW
          obtain ⟨b, o, rfl, hB, hcell⟩ := ka (by rw [← HLN.out]; omega)
          simp only [Value.slice.injEq, Option.some.injEq, Addr.mk.injEq] at e
          obtain ⟨⟨rfl, rfl, _⟩, _⟩ := e
          rw [Nat.add_assoc]; exact hcell _ (by rw [← HLN.out]; omega)
        rw [HGD.out]
        obtain ⟨y, hy⟩ : ∃ y, y = xl.getD (p + ct) 0 := ⟨_, rfl⟩
        rw [← hy] at HCE ⊢
        clear hy
        by_cases hc : ct = ln - p
        · rw [if_neg (by omega)]
          subst hc
          go_enter Try.func34, Try.ntmps34
          go_wp2_with fail
          rw [← HW2.out]
          (with_reducible refine (HP0.out _ _ (by omega) (Below.refl _ _)).mono ?_)
          rintro e w3 ⟨rfl, b3⟩
          have B3 := Lib.hid (B2.out.trans (b3.mono B2.out.size))
          have C3 := Lib.hid b3
          clear b3 c0 c1 c2 c3 e1 e2 hne hne2 hne3
          go_wp2
          refine bodyPost_ret (v := .tuple #[.int .i64 0, .bool false]) (by simp [results, Try.results34, go_sem]) rfl ⟨rfl, B3.out⟩
        · have hlt : ct < ln - p := by omega
          rw [if_pos hlt]
          go_enter Try.func34, Try.ntmps34
          go_wp2_with fail
          rw [← HW2.out]
          (with_reducible refine (HP0.out _ _ (by omega) (Below.refl _ _)).mono ?_)
          rintro e w3 ⟨rfl, b3⟩
          have B3 := Lib.hid (B2.out.trans (b3.mono B2.out.size))
          have C3 := Lib.hid b3
          clear b3 c0 c1 c2 c3 e1 e2 hne hne2 hne3
          have cc := HCE.out w3 C3.out hlt
          have hcI : ¬ (ct : Int) = ((ln - p : Nat) : Int) := by omega
          have hcI2 : (ct : Int) < ((ln - p : Nat) : Int) := by omega
          go_wp2
          refine bodyPost_ret (v := .tuple #[.int .i64 y, .bool true]) (by simp [results, Try.results34, go_sem]) rfl ⟨rfl, B3.out⟩
  · obtain ⟨hk, hk4, rfl, rfl, h20, hoks⟩ := ok.kids k1
    have HOK := Lib.hid hoks
    have HKN := Lib.hid hkn
    have HHH := Lib.hid HH
    have HOX := Lib.hid okx
    clear hoks h20 ok okx hA hln hln0 hcap HAT hkn HH
    by_cases k3 : xk = 3
    · subst k3
      rw [Cur.nums_any]
      have HC := Lib.hid (lany_of d n (fun x c w hx ok => HHH.out n x c w hx ok) xs (.slice ko kn kc) W2 (HRW.out _ (Below.refl _ _)) HOK.out)
      obtain ⟨r, hr⟩ : ∃ b, b = Cur.lst (mergeOf (xs.map Cur.nums)) n := ⟨_, rfl⟩
      rw [← hr] at HC ⊢
      clear hr hk4 hk
      go_enter Try.func34, Try.ntmps34
      go_wp2_with fail
      rw [← HW2.out]
      (with_reducible refine HC.out.mono ?_)
      rintro e w3 ⟨rfl, b3⟩
      have B3 := Lib.hid (B2.out.trans (b3.mono B2.out.size))
      clear b3
      go_wp2
      refine bodyPost_ret (v := .tuple #[.int .i64 (r.getD 0), .bool r.isSome]) (by simp [results, Try.results34, go_sem]) rfl ⟨rfl, B3.out⟩
    · by_cases g0 : kn = 0
      · subst g0
        have hx : xs = [] := List.eq_nil_of_length_eq_zero HKN.out.symm
        have hk2 : xk = 2 := by
          rcases hk with h | h | h
          · exact h
          · exact absurd h k3
          · exact absurd hx (hk4 h)
        subst hx
        subst hk2
        have hv : Cur.lst (Cur.nums (.mk 2 [] 0 [])) n = none := by rw [Cur.nums_both]; rfl
        rw [hv]
        clear hv hk4 hk HOX HXW
        go_enter Try.func34, Try.ntmps34
        go_wp2
        rw [← HW2.out]
        refine bodyPost_ret (v := .tuple #[.int .i64 0, .bool false]) (by simp [results, Try.results34, go_sem]) rfl ⟨rfl, B2.out⟩
      · have hkp : 0 < kn := by omega
        have g0i : ¬ (kn : Int) = 0 := by omega
        obtain ⟨x1, r, hxs⟩ : ∃ x1 r, xs = x1 :: r := by
          cases xs with
          | nil => exact absurd HKN.out g0
          | cons x1 r => exact ⟨x1, r, rfl⟩
        obtain ⟨N, hN⟩ : ∃ N, N = Cur.nums (.mk xk [] 0 xs) := ⟨_, rfl⟩
        have hNgd : Cur.Gd N := by rw [hN]; exact HOX.out.gd
        have hFgd : Cur.Gd x1.nums := (HOK.out x1 (by rw [hxs]; simp)).gd
        have hsub : ∀ t ∈ N, t ∈ x1.nums := by
          intro t ht
          rw [hN] at ht
          rcases hk with rfl | rfl | rfl
          · rw [Cur.nums_both, allOf_mem (by rw [hxs]; simp)] at ht
            exact ht _ (by rw [hxs]; simp)
          · exact absurd rfl k3
          · rw [Cur.nums_sub, hxs, List.map_cons] at ht
            exact (mem_minus.1 ht).1
        have HFI := Lib.hid (fun z : Int => Cur.lst_first (z := z) hNgd.1 hFgd.1 hsub)
        have HY0 : Hid (∀ z y, Cur.lst x1.nums z = some y → 0 ≤ y) := fun z y hy => (hFgd.2 y (Cur.lst_some hFgd.1 hy).1).1
        have HFB : Hid (∀ z y, Cur.lst x1.nums z = some y → y ≤ 1099511627776) := fun z y hy => (hFgd.2 y (Cur.lst_some hFgd.1 hy).1).2
        have hgt := (HRW.out W2 (Below.refl _ _)).get HKN.out hkp default
        rw [hxs] at hgt
        obtain ⟨ba, oa, c, rfl, hbB, hcl, hR1, hC1⟩ := hgt
        obtain ⟨lo1, ln1, lc1, ko1, kn1, kc1, rfl⟩ := cur_form hR1
        have HQ : Hid (∀ W, Below W2.heap.size W2 W → ∀ (i : Nat) u, [Value.int .i64 x1.k, .slice lo1 ln1 lc1, .int .i64 x1.a, .slice ko1 kn1 kc1][i]? = some u → W.cell? ⟨ba, oa + i, none⟩ = some u) := by
          intro W hW i u hu
          have := hC1 i u hu
          rw [Nat.zero_mul, Nat.add_zero] at this
          exact (hW.cell (p := ⟨ba, oa + i, none⟩) hbB).trans this
        have HL1 : Hid (∀ (z : Int) W, Below W2.heap.size W2 W → Calls Try.prog 34 #[.agg #[.int .i64 x1.k, .slice lo1 ln1 lc1, .int .i64 x1.a, .slice ko1 kn1 kc1], .int .i64 z] W (LstA (Cur.lst x1.nums z) W)) := fun z W hW => HHH.out z x1 _ W (curR_steady d _ _ _ _ _ _ hR1 hW hW.size) (HOK.out x1 (by rw [hxs]; simp))
        have HHS : Hid (∀ (z : Int) W, Below W2.heap.size W2 W → Calls Try.prog 47 #[.agg #[.int .i64 xk, .slice lo ln lc, .int .i64 0, .slice (some ⟨ba, oa, none⟩) kn kc], .int .i64 z] W (Said (has N z) W)) := fun z W hW => by rw [hN]; exact has_cu z (d + 1) _ _ W (HXW.out W hW) HOX.out
        rw [← hN]
        obtain ⟨R, hRR⟩ : ∃ R, R = Cur.lst N n := ⟨_, rfl⟩
        rw [← hRR]
        have HR := Lib.hid hRR
        obtain ⟨F, hF⟩ : ∃ F, F = x1.nums := ⟨_, rfl⟩
        rw [← hF] at HFI HFB HL1 HY0
        obtain ⟨zk, hzk⟩ : ∃ z, z = x1.k := ⟨_, rfl⟩
        obtain ⟨za, hza⟩ : ∃ z, z = x1.a := ⟨_, rfl⟩
        rw [← hzk, ← hza] at HQ HL1
        have g0b : ((kn : Int) == 0) = false := beq_eq_false_iff_ne.2 g0i
        have k2 : (xk == 1) = false := beq_eq_false_iff_ne.2 k1
        have k4 : (xk == 3) = false := beq_eq_false_iff_ne.2 k3
        clear hk4 hk HOX HXW HRW HOK HHH hxs hN hNgd hFgd hsub hR1 hC1 hbB hcl hRR hF hzk hza
        go_enter Try.func34, Try.ntmps34
        go_wp2
        rw [← HW2.out, ← HQ0.out]
        clear c0 c1 c2 c3
        go_loopw [1] (fun t wr => ∃ z : Int, t = .int .i64 z ∧ Hid (R = Cur.lst N z) ∧ Below W2.heap.size W2 wr) (fun t _ => F.countP (fun x => decide (intOf t ≤ x)))
        case atStart => exact ⟨n, rfl, HR.out, Below.refl _ _⟩
        case round =>
          obtain ⟨z, rfl, HZ, hbl⟩ := hrel
          have xx := (hbl.block _ (lt_of_block X2.out)).trans X2.out
          have c3 := boxc xx 3 _ rfl
          have y0 : wr.cell? ⟨ba, oa, none⟩ = _ := HQ.out _ hbl 0 _ rfl
          have y1 := HQ.out _ hbl 1 _ rfl
          have y2 := HQ.out _ hbl 2 _ rfl
          have y3 := HQ.out _ hbl 3 _ rfl
          have HLC := Lib.hid (HL1.out z wr hbl)
          have HBL := Lib.hid hbl
          obtain ⟨s, hs⟩ : ∃ s, s = Cur.lst F z := ⟨_, rfl⟩
          rw [← hs] at HLC
          have HSS := Lib.hid hs
          clear hs xx hbl
          cases s with
          | none =>
            have HF : Hid (R = none) := by
              show R = none
              rw [HZ.out]; exact (HFI.out z).1 HSS.out.symm
            go_wp2_with fail
            (with_reducible refine HLC.out.mono ?_)
            rintro e w3 ⟨rfl, b3⟩
            have B3 := Lib.hid (B2.out.trans ((HBL.out.trans (b3.mono HBL.out.size)).mono B2.out.size))
            simp only [Option.getD_none, Option.isSome_none]
            clear b3 c3 y0 y1 y2 y3
            go_wp2
            refine bodyPost_ret (v := .tuple #[.int .i64 0, .bool false]) (by simp [results, Try.results34, go_sem]) rfl ?_
            rw [HF.out]; exact ⟨rfl, B3.out⟩
          | some y =>
            have hyb := HFB.out z y HSS.out.symm
            go_wp2_with fail
            (with_reducible refine HLC.out.mono ?_)
            rintro e w3 ⟨rfl, b3⟩
            have C3 := Lib.hid (HBL.out.trans (b3.mono HBL.out.size))
            have B3 := Lib.hid (B2.out.trans (C3.out.mono B2.out.size))
            have xx := (C3.out.block _ (lt_of_block X2.out)).trans X2.out
            simp only [Option.getD_some, Option.isSome_some]
            clear b3 c3 y0 y1 y2 y3
            have c0 := boxc xx 0 _ rfl
            have c1 := boxc xx 1 _ rfl
            have c2 := boxc xx 2 _ rfl
            have c3 := boxc xx 3 _ rfl
            have HHC := Lib.hid (HHS.out y w3 C3.out)
            obtain ⟨q, hq⟩ : ∃ q, q = has N y := ⟨_, rfl⟩
            rw [← hq] at HHC
            have HQQ := Lib.hid hq
            clear hq xx
            go_wp2_with fail
            (with_reducible refine HHC.out.mono ?_)
            rintro e w4 ⟨rfl, b4⟩
            have C4 := Lib.hid (C3.out.trans (b4.mono C3.out.size))
            have B4 := Lib.hid (B2.out.trans (C4.out.mono B2.out.size))
            clear b4 c0 c1 c2 c3
            cases q with
            | true =>
              have HF : Hid (R = some y) := by
                show R = some y
                rw [HZ.out]; exact ((HFI.out z).2 y HSS.out.symm).1 (has_iff.1 HQQ.out.symm)
              go_wp2
              refine bodyPost_ret (v := .tuple #[.int .i64 y, .bool true]) (by simp [results, Try.results34, go_sem]) rfl ?_
              rw [HF.out]; exact ⟨rfl, B4.out⟩
            | false =>
              obtain ⟨hn1, hn2⟩ := ((HFI.out z).2 y HSS.out.symm).2 (has_not.1 HQQ.out.symm)
              have HZ2 : Hid (R = Cur.lst N (y + 1)) := by show _ = _; rw [HZ.out]; exact hn1
              have HM2 := Lib.hid hn2
              have hy0 := HY0.out z y HSS.out.symm
              clear hn1 hn2
              go_wp2
              go_roundw
              case rel => exact ⟨y + 1, by go_num, HZ2, C4.out⟩
              case measure => exact HM2.out
theorem least_cu : ∀ (d : Nat) (n : Int) (x : Cur) (c : List Value) (w : World), curR d w w.heap.size c x → x.Ok → Calls Try.prog 34 #[.agg c.toArray, .int .i64 n] w (LstA (Cur.lst x.nums n) w)
  | 0, _, _, _, _, h, _ => h.elim
  | d + 1, n, x, c, w, h, ok => least_of d (fun n x c w h ok => least_cu d n x c w h ok) n x c w h ok
end Go.Proofs.Ytojngbobecdpeaa
