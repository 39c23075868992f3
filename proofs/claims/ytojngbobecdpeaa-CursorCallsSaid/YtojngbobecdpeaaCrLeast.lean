/- the document's cursors: the least number that is not below one. -/
import Derived.Test.YtojngbobecdpeaaCrRight
import Derived.Test.YtojngbobecdpeaaCurOps
namespace Go.Proofs.Ytojngbobecdpeaa
open Go Go.RowKit Go.ChangeShapes at_ pm cl
namespace Cur
mutual
/-- the numbers of its lists, of those that count -/
def uni : Cur → List Int
  | mk k l a ks => if k = 1 then l.drop a.toNat else if k = 4 then (unis ks).headD [] else mergeOf (unis ks)
def unis : List Cur → List (List Int)
  | [] => []
  | c :: r => uni c :: unis r
end
theorem unis_map : ∀ ks : List Cur, unis ks = ks.map uni
  | [] => by simp [unis]
  | c :: r => by simp [unis, unis_map r]
theorem uni_list {l : List Int} {a : Int} {ks : List Cur} : uni (mk 1 l a ks) = l.drop a.toNat := by simp [uni]
theorem uni_both {l : List Int} {a : Int} {ks : List Cur} : uni (mk 2 l a ks) = mergeOf (ks.map uni) := by simp [uni, unis_map]
theorem uni_any {l : List Int} {a : Int} {ks : List Cur} : uni (mk 3 l a ks) = mergeOf (ks.map uni) := by simp [uni, unis_map]
theorem uni_head {l : List Int} {a : Int} {ks : List Cur} : uni (mk 4 l a ks) = (ks.map uni).headD [] := by simp [uni, unis_map]
theorem uni_sub {l : List Int} {a : Int} {ks : List Cur} : uni (mk 4 l a ks) = (ks.getD 0 default).uni := by
  rw [uni_head]
  cases ks with
  | nil => show [] = uni (mk 0 [] 0 []); simp [uni, unis_map, mergeOf]
  | cons c r => rfl
theorem uni_gd : ∀ (d : Nat) (c : Cur), right d c = true → Gd (uni c) ∧ ∀ x ∈ nums c, x ∈ uni c
  | 0, c, h => by cases c; simp [right] at h
  | d + 1, mk k l a ks, h => by
    by_cases h1 : k = 1
    · subst h1
      obtain ⟨_, _, _, _, hr⟩ := right_list h
      rw [nums_list, uni_list]
      exact ⟨gd_drop ⟨right_inc hr, right_mem hr⟩ _, fun x hx => hx⟩
    · obtain ⟨hk, hk4, _, _, _, hks⟩ := right_kids h1 h
      have hg : ∀ l ∈ ks.map uni, Gd l := by
        intro l hl
        obtain ⟨c, hc, rfl⟩ := List.mem_map.1 hl
        exact (uni_gd d c (hks c hc)).1
      rcases hk with rfl | rfl | rfl
      · rw [nums_both, uni_both]
        refine ⟨gd_merge hg, fun x hx => ?_⟩
        cases ks with
        | nil => simp [allOf] at hx
        | cons c r =>
          exact mergeOf_mem.2 ⟨uni c, by simp, (uni_gd d c (hks c (by simp))).2 x ((allOf_mem (by simp)).1 hx (nums c) (by simp))⟩
      · rw [nums_any, uni_any]
        refine ⟨gd_merge hg, fun x hx => ?_⟩
        obtain ⟨l, hl, hxl⟩ := mergeOf_mem.1 hx
        obtain ⟨c, hc, rfl⟩ := List.mem_map.1 hl
        exact mergeOf_mem.2 ⟨uni c, List.mem_map.2 ⟨c, hc, rfl⟩, (uni_gd d c (hks c hc)).2 x hxl⟩
      · rw [nums_sub, uni_head]
        cases ks with
        | nil => exact absurd rfl (hk4 rfl)
        | cons c r =>
          refine ⟨hg (uni c) (by simp), fun x hx => ?_⟩
          exact (uni_gd d c (hks c (by simp))).2 x (mem_minus.1 hx).1
theorem Ok.uni {x : Cur} (h : Ok x) : Gd x.uni ∧ ∀ t ∈ nums x, t ∈ x.uni := by obtain ⟨d, h⟩ := h; exact uni_gd d x h
theorem uni_take {l : List Cur} {k : Nat} {y : Cur} (h : k < l.length) (hy : y = l.getD k default) : (l.map Cur.uni).take (k + 1) = (l.map Cur.uni).take k ++ [y.uni] := by
  rw [List.take_succ_eq_append_getElem (by rw [List.length_map]; exact h), List.getElem_map, hy, List.getD_eq_getElem?_getD, List.getElem?_eq_getElem h]; rfl
theorem best_all {l : List Cur} {n : Int} {y : Option Int} (ho : ∀ c ∈ l, c.Ok) (h : Best ((l.map Cur.uni).take l.length) n y) : lst (mergeOf (l.map Cur.uni)) n = y := by
  rw [List.take_of_length_le (by rw [List.length_map]; exact Nat.le_refl _)] at h
  refine Best.merge h (fun t ht => ?_)
  obtain ⟨x, hx, rfl⟩ := List.mem_map.1 ht
  exact ((ho x hx).uni).1
theorem best_one {l : List Cur} {n : Int} {y : Option Int} (_ho : ∀ c ∈ l, c.Ok) (h0 : 0 < l.length) (h : Best ((l.map Cur.uni).take 1) n y) : lst (l.getD 0 default).uni n = y := by
  cases l with
  | nil => exact absurd h0 (Nat.lt_irrefl 0)
  | cons c r =>
    cases y with
    | none => exact h _ (by simp)
    | some y =>
      obtain ⟨⟨l, hl, e⟩, _⟩ := h
      have : l = c.uni := by simpa using hl
      rw [this] at e; exact e
end Cur
set_option maxHeartbeats 12800000 in
set_option maxRecDepth 100000 in
theorem rleast_of (e : Nat) (n : Int) (HH : ∀ (x : Cur) (c : List Value) (w : World), curR e w w.heap.size c x → x.Ok → Calls Try.prog 48 #[.agg c.toArray, .int .i64 n] w (LstA (Cur.lst x.uni n) w))
    (x : Cur) (c : List Value) (w : World) (h : curR (e + 1) w w.heap.size c x) (ok : x.Ok) :
    Calls Try.prog 48 #[.agg c.toArray, .int .i64 n] w (LstA (Cur.lst x.uni n) w) := by
  cases x with
  | mk xk xl xa xs =>
  obtain ⟨lo, ln, lc, ko, kn, kc, rfl, hA, hR⟩ := h
  simp only [Cur.k, Cur.l, Cur.a, Cur.ks] at hA hR ⊢
  obtain ⟨hln, hln0, _⟩ := hA.cells
  have hcap : ln ≤ lc := by
    obtain ⟨_, _, e, ⟨_, h2⟩, _⟩ := hA
    simp only [Value.slice.injEq] at e
    omega
  obtain ⟨hkn, hkc, hko, hko0⟩ : kn = xs.length ∧ kn ≤ kc ∧ (ko = none → kc = 0) ∧ kn ≤ 9223372036854775807 := by
    obtain ⟨cs, g0, g1, ⟨g2, ao, c2, e, ⟨g3, g4⟩, g5, g6⟩⟩ := hR
    simp only [Value.slice.injEq] at e
    obtain ⟨rfl, rfl, rfl⟩ := e
    unfold maxLen at g5
    exact ⟨rfl, g4, g3, by omega⟩
  have hlnm : ln ≤ 9223372036854775807 := by
    obtain ⟨_, _, _, _, hm, _⟩ := hA
    unfold maxLen at hm
    omega
  obtain ⟨W2, hW2⟩ : ∃ W, W = w.alloc (.cells #[.int .i64 xk, .slice lo ln lc, .int .i64 xa, .slice ko kn kc] 25) := ⟨_, rfl⟩
  have b2 : Below w.heap.size w W2 := by rw [hW2]; exact below1
  obtain ⟨q0, hq0⟩ : ∃ q, q = w.heap.size := ⟨_, rfl⟩
  have x2 : W2.heap[q0]? = some (.cells #[.int .i64 xk, .slice lo ln lc, .int .i64 xa, .slice ko kn kc] 25) := by
    rw [hW2, hq0]; exact heap_alloc_new _ _
  have HAT : Hid (∀ W, Below W2.heap.size W2 W → At W W.heap.size (.slice lo ln lc) xl) := fun W hW => (hA.below (b2.trans (hW.mono b2.size))).mono (Nat.le_trans b2.size hW.size)
  have HRW : Hid (∀ W, Below W2.heap.size W2 W → RowsAt 4 (curR e) W W.heap.size (.slice ko kn kc) xs) := fun W hW => hR.next (curR_steady e) (b2.trans (hW.mono b2.size))
  have X2 := Lib.hid x2
  have B2 := Lib.hid b2
  have HW2 := Lib.hid hW2
  have HQ0 := Lib.hid hq0
  have c0 := boxc x2 0 _ rfl
  have c1 := boxc x2 1 _ rfl
  have c2 := boxc x2 2 _ rfl
  have c3 := boxc x2 3 _ rfl
  by_cases k1 : xk = 1
  · subst k1
    obtain ⟨rfl, ha0, hal, h4, hrt⟩ := ok.list
    rw [Cur.uni_list]
    obtain ⟨p, rfl⟩ : ∃ p : Nat, xa = (p : Int) := ⟨xa.toNat, by omega⟩
    rw [Int.toNat_natCast]
    have hinc : Inc (xl.drop p) := (Cur.gd_drop ⟨right_inc hrt, right_mem hrt⟩ p).1
    have HINC := Lib.hid hinc
    have HLN := Lib.hid hln
    have hpl : p ≤ ln := by omega
    have e1 : (0 : Int) ≤ (p : Int) := by omega
    have e2 : (p : Int) ≤ (ln : Int) := by omega
    have HAA := Lib.hid hA
    obtain ⟨rs, hrs⟩ : ∃ r, r = Cur.lst (xl.drop p) n := ⟨_, rfl⟩
    rw [← hrs]
    have HRS := Lib.hid hrs
    rw [hW2, hq0] at c0 c1 c2 c3
    clear hinc hrt h4 hal ha0 hln hA ok hkn hkc hko hko0 HRW HH hW2 hq0 x2 b2 hrs
    cases lo with
    | none =>
      obtain ⟨rfl, rfl⟩ := hln0 rfl
      obtain rfl : p = 0 := by omega
      obtain rfl : rs = none := by
        rw [HRS.out, List.eq_nil_of_length_eq_zero HLN.out.symm]; rfl
      replace HW2 : Hid (W2 = w.alloc (.cells #[.int .i64 1, .slice none 0 0, .int .i64 0, .slice ko kn kc] 25)) := HW2
      replace c2 : (w.alloc (.cells #[.int .i64 1, .slice none 0 0, .int .i64 0, .slice ko kn kc] 25)).cell? ⟨w.heap.size, 2, none⟩ = some (.int .i64 0) := c2
      go_enter Try.func48, Try.ntmps48
      go_wp2
      rw [← HW2.out, ← HQ0.out]
      clear c0 c1 c2 c3 e1 e2
      go_loopw [23, 31] (fun i _ wr => i = .int .i64 0 ∧ Below W2.heap.size W2 wr) (fun _ _ _ => 0)
      case atStart => exact ⟨rfl, Below.refl _ _⟩
      case round =>
        obtain ⟨rfl, hbl⟩ := hrel
        have B9 := Lib.hid (B2.out.trans (hbl.mono B2.out.size))
        clear hbl
        go_wp2
        refine bodyPost_ret (v := .tuple #[.int .i64 0, .bool false]) (by simp [results, Try.results48, go_sem]) rfl ⟨rfl, B9.out⟩
    | some a =>
      clear hln0
      by_cases hl0 : ln ≤ p
      · obtain rfl : p = ln := by omega
        obtain rfl : rs = none := by
          rw [HRS.out, List.drop_eq_nil_of_le (by rw [HLN.out]; exact Nat.le_refl _)]; rfl
        obtain ⟨ab, af, ap⟩ := a
        by_cases hcp : lc = p
        · subst hcp
          go_enter Try.func48, Try.ntmps48
          go_wp2
          rw [← HW2.out, ← HQ0.out]
          (try rw [Nat.sub_self])
          clear c0 c1 c2 c3 e1 e2
          go_loopw [23, 31] (fun i _ wr => i = .int .i64 0 ∧ Below W2.heap.size W2 wr) (fun _ _ _ => 0)
          case atStart => exact ⟨rfl, Below.refl _ _⟩
          case round =>
            obtain ⟨rfl, hbl⟩ := hrel
            have B9 := Lib.hid (B2.out.trans (hbl.mono B2.out.size))
            clear hbl
            go_wp2
            refine bodyPost_ret (v := .tuple #[.int .i64 0, .bool false]) (by simp [results, Try.results48, go_sem]) rfl ⟨rfl, B9.out⟩
        · have hne : ¬ lc - p = 0 := by omega
          have hne3 : ¬ lc ≤ p := by omega
          go_enter Try.func48, Try.ntmps48
          go_wp2
          rw [← HW2.out, ← HQ0.out]
          (try rw [Nat.sub_self])
          clear c0 c1 c2 c3 e1 e2
          go_loopw [23, 31] (fun i _ wr => i = .int .i64 0 ∧ Below W2.heap.size W2 wr) (fun _ _ _ => 0)
          case atStart => exact ⟨rfl, Below.refl _ _⟩
          case round =>
            obtain ⟨rfl, hbl⟩ := hrel
            have B9 := Lib.hid (B2.out.trans (hbl.mono B2.out.size))
            clear hbl
            go_wp2
            refine bodyPost_ret (v := .tuple #[.int .i64 0, .bool false]) (by simp [results, Try.results48, go_sem]) rfl ⟨rfl, B9.out⟩
      · obtain ⟨ba, oa, e⟩ : ∃ b o, a = ⟨b, o, none⟩ := by
          obtain ⟨ao, cap, e, _, _, ka⟩ := HAA.out
          obtain ⟨b, o, rfl, _⟩ := ka (by rw [← HLN.out]; omega)
          simp only [Value.slice.injEq] at e
          exact ⟨b, o, Option.some.inj e.1⟩
        subst e
        have hne : ¬ lc - p = 0 := by omega
        have hne2 : ¬ lc = p := by omega
        have hne3 : ¬ lc ≤ p := by omega
        obtain ⟨m, hm⟩ : ∃ m, m = ln - p := ⟨_, rfl⟩
        have HMM : Hid (m = (xl.drop p).length) := by show _ = _; rw [hm, List.length_drop, HLN.out]
        have HCE : Hid (∀ W, Below W2.heap.size W2 W → ∀ ct, ct < m → W.cell? ⟨ba, oa + p + ct, none⟩ = some (.int .i64 ((xl.drop p).getD ct 0))) := by
          intro W hW ct hc
          obtain ⟨ao, cap, e, _, _, ka⟩ := HAT.out W hW
          obtain ⟨b, o, rfl, hB, hcell⟩ := ka (by rw [← HLN.out]; omega)
          simp only [Value.slice.injEq, Option.some.injEq, Addr.mk.injEq] at e
          obtain ⟨⟨rfl, rfl, _⟩, _⟩ := e
          rw [getD_drop, Nat.add_assoc]; exact hcell _ (by rw [← HLN.out]; omega)
        have hm9 : m ≤ 9223372036854775807 := by omega
        have HM := Lib.hid hm
        clear hm
        go_enter Try.func48, Try.ntmps48
        go_wp2
        rw [← HW2.out, ← HQ0.out, ← HM.out]
        clear c0 c1 c2 c3 e1 e2 hne hne2 hne3
        go_loopw [23, 31] (fun i _ wr => ∃ k : Nat, i = .int .i64 k ∧ k ≤ m ∧ Hid (∀ j, j < k → (xl.drop p).getD j 0 < n) ∧ Below W2.heap.size W2 wr) (fun i _ _ => m - (intOf i).toNat)
        case atStart => exact ⟨0, rfl, Nat.zero_le _, fun j hj => absurd hj (Nat.not_lt_zero _), Below.refl _ _⟩
        case round =>
          obtain ⟨k, rfl, hk, HI, hbl⟩ := hrel
          have HBL := Lib.hid hbl
          have B9 := Lib.hid (B2.out.trans (hbl.mono B2.out.size))
          by_cases hlt : k < m
          · have hkI : (k : Int) < (m : Int) := by omega
            have cc := HCE.out wr HBL.out k hlt
            obtain ⟨y, hy⟩ : ∃ y, y = (xl.drop p).getD k 0 := ⟨_, rfl⟩
            rw [← hy] at cc
            have HY := Lib.hid hy
            clear hy hbl
            by_cases hge : n ≤ y
            · have HF : Hid (rs = some y) := by
                show _ = _
                have hkl : k < (xl.drop p).length := by rw [← HMM.out]; exact hlt
                rw [HRS.out]
                refine Cur.lst_yes HINC.out (by rw [HY.out]; exact mem_get hkl) hge (fun t ht hn => ?_)
                obtain ⟨j, hj, rfl⟩ := get_mem ht
                rcases (by omega : j < k ∨ j = k ∨ k < j) with h | rfl | h
                · have := HI.out j h; omega
                · rw [HY.out]; exact Int.le_refl _
                · have := inc_get HINC.out h hj; rw [HY.out]; omega
              go_wp2
              refine bodyPost_ret (v := .tuple #[.int .i64 y, .bool true]) (by simp [results, Try.results48, go_sem]) rfl ?_
              rw [HF.out]; exact ⟨rfl, B9.out⟩
            · have HI2 : Hid (∀ j, j < k + 1 → (xl.drop p).getD j 0 < n) := fun j hj => by
                by_cases e : j = k
                · rw [e, ← HY.out]; omega
                · exact HI.out j (by omega)
              go_wp2
              go_roundw
              case rel => exact ⟨k + 1, by go_num, by omega, HI2, HBL.out⟩
              case measure => simp [intOf]; omega
          · have HF : Hid (rs = none) := by
              show _ = _
              rw [HRS.out]
              refine Cur.lst_no (fun t ht => ?_)
              obtain ⟨j, hj, rfl⟩ := get_mem ht
              exact HI.out j (by have := HMM.out; omega)
            clear hbl
            go_wp2
            refine bodyPost_ret (v := .tuple #[.int .i64 0, .bool false]) (by simp [results, Try.results48, go_sem]) rfl ?_
            rw [HF.out]; exact ⟨rfl, B9.out⟩
  · obtain ⟨hk, hk4, rfl, rfl, h20, hoks⟩ := ok.kids k1
    have HOK := Lib.hid hoks
    have HKN := Lib.hid hkn
    have hkn' := hkn
    replace HH := Lib.hid HH
    clear hoks h20 ok hA hR hln hln0 hcap HAT hkn hkc hko
    by_cases k3 : xk = 3
    · subst k3
      rw [Cur.uni_any]
      obtain ⟨rs, hrs⟩ : ∃ b, b = Cur.lst (mergeOf (xs.map Cur.uni)) n := ⟨_, rfl⟩
      rw [← hrs]
      have HRS := Lib.hid hrs

      clear hrs hk4 hk hkn'
      rw [hW2, hq0] at c0 c1 c2 c3
      go_enter Try.func48, Try.ntmps48
      go_wp2
      rw [← HW2.out, ← HQ0.out]
      clear c0 c1 c2 c3 hW2 hq0 x2 b2
      go_loopw [8, 9, 35, 64] (fun b g i _ wr => ∃ k : Nat, i = .int .i64 k ∧ k ≤ kn ∧ (∃ y : Option Int, b = .int .i64 (y.getD 0) ∧ g = .bool y.isSome ∧ Cur.Best ((xs.map Cur.uni).take k) n y) ∧ Below W2.heap.size W2 wr) (fun _ _ i _ _ => kn - (intOf i).toNat)
      case atStart => exact ⟨0, rfl, Nat.zero_le _, ⟨none, rfl, rfl, Cur.Best.nil n⟩, Below.refl _ _⟩
      case round =>
        obtain ⟨k, rfl, hk, ⟨y0, rfl, rfl, hy0⟩, hbl⟩ := hrel
        have HY0 := Lib.hid hy0
        clear hy0
        by_cases hlt : k < kn
        · have hkI : (k : Int) < (kn : Int) := by omega
          obtain ⟨y, hy⟩ : ∃ y, y = xs.getD k default := ⟨_, rfl⟩
          obtain ⟨ba, oa, c, rfl, hbB, hcl, hRc, hC⟩ := (HRW.out _ hbl).get HKN.out hlt default
          rw [← hy] at hRc
          obtain ⟨lo3, ln3, lc3, ko3, kn3, kc3, rfl⟩ := cur_form hRc
          have q0' : wr.cell? ⟨ba, oa + k * 4, none⟩ = _ := hC 0 _ rfl
          have q1 := hC 1 _ rfl
          have q2 := hC 2 _ rfl
          have q3 := hC 3 _ rfl
          have hym : y ∈ xs := by
            rw [hy, List.getD_eq_getElem?_getD, List.getElem?_eq_getElem (by rw [← HKN.out]; exact hlt)]; exact List.getElem_mem _
          obtain ⟨W3, hW3⟩ : ∃ W, W = wr.alloc (.cells #[.int .i64 y.k, .slice lo3 ln3 lc3, .int .i64 y.a, .slice ko3 kn3 kc3] 25) := ⟨_, rfl⟩
          have b3 : Below wr.heap.size wr W3 := by rw [hW3]; exact below1
          have hc3 : curR e W3 W3.heap.size [.int .i64 y.k, .slice lo3 ln3 lc3, .int .i64 y.a, .slice ko3 kn3 kc3] y := curR_steady e _ _ _ _ _ _ hRc b3 b3.size
          have HKL : Hid (k < xs.length) := by show _ < _; rw [← HKN.out]; exact hlt
          have HC := Lib.hid (HH.out y _ W3 hc3 (HOK.out y hym))
          have B3 := Lib.hid b3
          have HW3 := Lib.hid hW3
          have X3 := ((hbl.trans (b3.mono hbl.size)).block _ (lt_of_block X2.out)).trans X2.out
          have c0 := boxc X3 0 _ rfl
          have HBL := Lib.hid hbl
          have HST := Cur.Best.snoc (l := y.uni) HY0.out
          rw [← Cur.uni_take HKL.out hy] at HST
          obtain ⟨r, hr⟩ : ∃ r, r = Cur.lst y.uni n := ⟨_, rfl⟩
          rw [← hr] at HC HST
          have HSS := Lib.hid HST
          rw [hW3] at c0
          clear hRc hC hy hcl hbB b3 hW3 hbl hc3 hym hr HST X3
          go_wp2_with fail
          rw [← HW3.out]
          (with_reducible refine HC.out.mono ?_)
          rintro e4 w4 ⟨rfl, b4⟩
          have B4 := Lib.hid (HBL.out.trans ((B3.out.trans (b4.mono B3.out.size)).mono HBL.out.size))
          clear b4 q0' q1 q2 q3 HC HW3 c0
          cases r with
          | none =>
            simp only [Option.getD_none, Option.isSome_none]
            cases y0 with
            | none =>
              simp only [Option.getD_none, Option.isSome_none]
              go_wp2
              go_roundw
              case rel => exact ⟨k + 1, by go_num, by omega, ⟨none, rfl, rfl, HSS.out⟩, B4.out⟩
              case measure => simp [intOf]; omega
            | some t =>
              simp only [Option.getD_some, Option.isSome_some]
              go_wp2
              go_roundw
              case rel => exact ⟨k + 1, by go_num, by omega, ⟨some t, rfl, rfl, HSS.out⟩, B4.out⟩
              case measure => simp [intOf]; omega
          | some u =>
            simp only [Option.getD_some, Option.isSome_some]
            cases y0 with
            | none =>
              simp only [Option.getD_none, Option.isSome_none]
              go_wp2
              go_roundw
              case rel => exact ⟨k + 1, by go_num, by omega, ⟨some u, rfl, rfl, HSS.out⟩, B4.out⟩
              case measure => simp [intOf]; omega
            | some t =>
              simp only [Option.getD_some, Option.isSome_some]
              by_cases hut : u < t
              · have HT : Hid (Cur.Best ((xs.map Cur.uni).take (k + 1)) n (some u)) := by have := HSS.out; simp only [if_pos hut] at this; exact this
                go_wp2
                go_roundw
                case rel => exact ⟨k + 1, by go_num, by omega, ⟨some u, rfl, rfl, HT.out⟩, B4.out⟩
                case measure => simp [intOf]; omega
              · have HT : Hid (Cur.Best ((xs.map Cur.uni).take (k + 1)) n (some t)) := by have := HSS.out; simp only [if_neg hut] at this; exact this
                go_wp2
                go_roundw
                case rel => exact ⟨k + 1, by go_num, by omega, ⟨some t, rfl, rfl, HT.out⟩, B4.out⟩
                case measure => simp [intOf]; omega
        · obtain rfl : k = kn := by omega
          have HF : Hid (rs = y0) := by
            show _ = _
            rw [HRS.out]
            exact Cur.best_all HOK.out (by rw [← HKN.out]; exact HY0.out)
          have B9 := Lib.hid (B2.out.trans (hbl.mono B2.out.size))
          clear hbl
          go_wp2
          refine bodyPost_ret (v := .tuple #[.int .i64 (y0.getD 0), .bool y0.isSome]) (by simp [results, Try.results48, go_sem]) rfl ?_
          rw [HF.out]; exact ⟨rfl, B9.out⟩
    by_cases k2 : xk = 2
    · subst k2
      rw [Cur.uni_both]
      obtain ⟨rs, hrs⟩ : ∃ b, b = Cur.lst (mergeOf (xs.map Cur.uni)) n := ⟨_, rfl⟩
      rw [← hrs]
      have HRS := Lib.hid hrs

      clear hrs hk4 hk hkn'
      rw [hW2, hq0] at c0 c1 c2 c3
      go_enter Try.func48, Try.ntmps48
      go_wp2
      rw [← HW2.out, ← HQ0.out]
      clear c0 c1 c2 c3 hW2 hq0 x2 b2
      go_loopw [8, 9, 35, 64] (fun b g i _ wr => ∃ k : Nat, i = .int .i64 k ∧ k ≤ kn ∧ (∃ y : Option Int, b = .int .i64 (y.getD 0) ∧ g = .bool y.isSome ∧ Cur.Best ((xs.map Cur.uni).take k) n y) ∧ Below W2.heap.size W2 wr) (fun _ _ i _ _ => kn - (intOf i).toNat)
      case atStart => exact ⟨0, rfl, Nat.zero_le _, ⟨none, rfl, rfl, Cur.Best.nil n⟩, Below.refl _ _⟩
      case round =>
        obtain ⟨k, rfl, hk, ⟨y0, rfl, rfl, hy0⟩, hbl⟩ := hrel
        have HY0 := Lib.hid hy0
        clear hy0
        by_cases hlt : k < kn
        · have hkI : (k : Int) < (kn : Int) := by omega
          obtain ⟨y, hy⟩ : ∃ y, y = xs.getD k default := ⟨_, rfl⟩
          obtain ⟨ba, oa, c, rfl, hbB, hcl, hRc, hC⟩ := (HRW.out _ hbl).get HKN.out hlt default
          rw [← hy] at hRc
          obtain ⟨lo3, ln3, lc3, ko3, kn3, kc3, rfl⟩ := cur_form hRc
          have q0' : wr.cell? ⟨ba, oa + k * 4, none⟩ = _ := hC 0 _ rfl
          have q1 := hC 1 _ rfl
          have q2 := hC 2 _ rfl
          have q3 := hC 3 _ rfl
          have hym : y ∈ xs := by
            rw [hy, List.getD_eq_getElem?_getD, List.getElem?_eq_getElem (by rw [← HKN.out]; exact hlt)]; exact List.getElem_mem _
          obtain ⟨W3, hW3⟩ : ∃ W, W = wr.alloc (.cells #[.int .i64 y.k, .slice lo3 ln3 lc3, .int .i64 y.a, .slice ko3 kn3 kc3] 25) := ⟨_, rfl⟩
          have b3 : Below wr.heap.size wr W3 := by rw [hW3]; exact below1
          have hc3 : curR e W3 W3.heap.size [.int .i64 y.k, .slice lo3 ln3 lc3, .int .i64 y.a, .slice ko3 kn3 kc3] y := curR_steady e _ _ _ _ _ _ hRc b3 b3.size
          have HKL : Hid (k < xs.length) := by show _ < _; rw [← HKN.out]; exact hlt
          have HC := Lib.hid (HH.out y _ W3 hc3 (HOK.out y hym))
          have B3 := Lib.hid b3
          have HW3 := Lib.hid hW3
          have X3 := ((hbl.trans (b3.mono hbl.size)).block _ (lt_of_block X2.out)).trans X2.out
          have c0 := boxc X3 0 _ rfl
          have HBL := Lib.hid hbl
          have HST := Cur.Best.snoc (l := y.uni) HY0.out
          rw [← Cur.uni_take HKL.out hy] at HST
          obtain ⟨r, hr⟩ : ∃ r, r = Cur.lst y.uni n := ⟨_, rfl⟩
          rw [← hr] at HC HST
          have HSS := Lib.hid HST
          rw [hW3] at c0
          clear hRc hC hy hcl hbB b3 hW3 hbl hc3 hym hr HST X3
          go_wp2_with fail
          rw [← HW3.out]
          (with_reducible refine HC.out.mono ?_)
          rintro e4 w4 ⟨rfl, b4⟩
          have B4 := Lib.hid (HBL.out.trans ((B3.out.trans (b4.mono B3.out.size)).mono HBL.out.size))
          clear b4 q0' q1 q2 q3 HC HW3 c0
          cases r with
          | none =>
            simp only [Option.getD_none, Option.isSome_none]
            cases y0 with
            | none =>
              simp only [Option.getD_none, Option.isSome_none]
              go_wp2
              go_roundw
              case rel => exact ⟨k + 1, by go_num, by omega, ⟨none, rfl, rfl, HSS.out⟩, B4.out⟩
              case measure => simp [intOf]; omega
            | some t =>
              simp only [Option.getD_some, Option.isSome_some]
              go_wp2
              go_roundw
              case rel => exact ⟨k + 1, by go_num, by omega, ⟨some t, rfl, rfl, HSS.out⟩, B4.out⟩
              case measure => simp [intOf]; omega
          | some u =>
            simp only [Option.getD_some, Option.isSome_some]
            cases y0 with
            | none =>
              simp only [Option.getD_none, Option.isSome_none]
              go_wp2
              go_roundw
              case rel => exact ⟨k + 1, by go_num, by omega, ⟨some u, rfl, rfl, HSS.out⟩, B4.out⟩
              case measure => simp [intOf]; omega
            | some t =>
              simp only [Option.getD_some, Option.isSome_some]
              by_cases hut : u < t
              · have HT : Hid (Cur.Best ((xs.map Cur.uni).take (k + 1)) n (some u)) := by have := HSS.out; simp only [if_pos hut] at this; exact this
                go_wp2
                go_roundw
                case rel => exact ⟨k + 1, by go_num, by omega, ⟨some u, rfl, rfl, HT.out⟩, B4.out⟩
                case measure => simp [intOf]; omega
              · have HT : Hid (Cur.Best ((xs.map Cur.uni).take (k + 1)) n (some t)) := by have := HSS.out; simp only [if_neg hut] at this; exact this
                go_wp2
                go_roundw
                case rel => exact ⟨k + 1, by go_num, by omega, ⟨some t, rfl, rfl, HT.out⟩, B4.out⟩
                case measure => simp [intOf]; omega
        · obtain rfl : k = kn := by omega
          have HF : Hid (rs = y0) := by
            show _ = _
            rw [HRS.out]
            exact Cur.best_all HOK.out (by rw [← HKN.out]; exact HY0.out)
          have B9 := Lib.hid (B2.out.trans (hbl.mono B2.out.size))
          clear hbl
          go_wp2
          refine bodyPost_ret (v := .tuple #[.int .i64 (y0.getD 0), .bool y0.isSome]) (by simp [results, Try.results48, go_sem]) rfl ?_
          rw [HF.out]; exact ⟨rfl, B9.out⟩
    obtain rfl : xk = 4 := by omega
    rw [Cur.uni_sub]
    obtain ⟨rs, hrs⟩ : ∃ b, b = Cur.lst ((xs.getD 0 default).uni) n := ⟨_, rfl⟩
    rw [← hrs]
    have HRS := Lib.hid hrs
    have hkpos : 0 < kn := by
      rw [hkn']
      rcases Nat.eq_zero_or_pos xs.length with h | h
      · exact absurd (List.eq_nil_of_length_eq_zero h) (hk4 rfl)
      · exact h
    clear hrs hk4 hk hkn'
    rw [hW2, hq0] at c0 c1 c2 c3
    go_enter Try.func48, Try.ntmps48
    go_wp2
    rw [← HW2.out, ← HQ0.out]
    clear c0 c1 c2 c3 hW2 hq0 x2 b2
    go_loopw [8, 9, 35, 64] (fun b g i _ wr => ∃ k : Nat, i = .int .i64 k ∧ k ≤ kn ∧ k ≤ 1 ∧ (∃ y : Option Int, b = .int .i64 (y.getD 0) ∧ g = .bool y.isSome ∧ Cur.Best ((xs.map Cur.uni).take k) n y) ∧ Below W2.heap.size W2 wr) (fun _ _ i _ _ => kn - (intOf i).toNat)
    case atStart => exact ⟨0, rfl, Nat.zero_le _, Nat.zero_le _, ⟨none, rfl, rfl, Cur.Best.nil n⟩, Below.refl _ _⟩
    case round =>
      obtain ⟨k, rfl, hk, hk2, ⟨y0, rfl, rfl, hy0⟩, hbl⟩ := hrel
      have HY0 := Lib.hid hy0
      clear hy0
      by_cases hlt : k < kn
      · have hkI : (k : Int) < (kn : Int) := by omega
        by_cases hk0 : k = 0
        · have hk0i : ¬ (0 : Int) < (k : Int) := by omega
          have hk0n : ¬ 0 < k := by omega
          have HK0 := Lib.hid hk0
          have hk21 : Hid (k + 1 ≤ 1) := by show _ ≤ _; omega
          clear hk0
          obtain ⟨y, hy⟩ : ∃ y, y = xs.getD k default := ⟨_, rfl⟩
          obtain ⟨ba, oa, c, rfl, hbB, hcl, hRc, hC⟩ := (HRW.out _ hbl).get HKN.out hlt default
          rw [← hy] at hRc
          obtain ⟨lo3, ln3, lc3, ko3, kn3, kc3, rfl⟩ := cur_form hRc
          have q0' : wr.cell? ⟨ba, oa + k * 4, none⟩ = _ := hC 0 _ rfl
          have q1 := hC 1 _ rfl
          have q2 := hC 2 _ rfl
          have q3 := hC 3 _ rfl
          have hym : y ∈ xs := by
            rw [hy, List.getD_eq_getElem?_getD, List.getElem?_eq_getElem (by rw [← HKN.out]; exact hlt)]; exact List.getElem_mem _
          obtain ⟨W3, hW3⟩ : ∃ W, W = wr.alloc (.cells #[.int .i64 y.k, .slice lo3 ln3 lc3, .int .i64 y.a, .slice ko3 kn3 kc3] 25) := ⟨_, rfl⟩
          have b3 : Below wr.heap.size wr W3 := by rw [hW3]; exact below1
          have hc3 : curR e W3 W3.heap.size [.int .i64 y.k, .slice lo3 ln3 lc3, .int .i64 y.a, .slice ko3 kn3 kc3] y := curR_steady e _ _ _ _ _ _ hRc b3 b3.size
          have HKL : Hid (k < xs.length) := by show _ < _; rw [← HKN.out]; exact hlt
          have HC := Lib.hid (HH.out y _ W3 hc3 (HOK.out y hym))
          have B3 := Lib.hid b3
          have HW3 := Lib.hid hW3
          have X3 := ((hbl.trans (b3.mono hbl.size)).block _ (lt_of_block X2.out)).trans X2.out
          have c0 := boxc X3 0 _ rfl
          have HBL := Lib.hid hbl
          have HST := Cur.Best.snoc (l := y.uni) HY0.out
          rw [← Cur.uni_take HKL.out hy] at HST
          obtain ⟨r, hr⟩ : ∃ r, r = Cur.lst y.uni n := ⟨_, rfl⟩
          rw [← hr] at HC HST
          have HSS := Lib.hid HST
          rw [hW3] at c0
          clear hRc hC hy hcl hbB b3 hW3 hbl hc3 hym hr HST X3
          go_wp2_with fail
          rw [← HW3.out]
          (with_reducible refine HC.out.mono ?_)
          rintro e4 w4 ⟨rfl, b4⟩
          have B4 := Lib.hid (HBL.out.trans ((B3.out.trans (b4.mono B3.out.size)).mono HBL.out.size))
          clear b4 q0' q1 q2 q3 HC HW3 c0
          cases r with
          | none =>
            simp only [Option.getD_none, Option.isSome_none]
            cases y0 with
            | none =>
              simp only [Option.getD_none, Option.isSome_none]
              go_wp2
              go_roundw
              case rel => exact ⟨k + 1, by go_num, by omega, hk21.out, ⟨none, rfl, rfl, HSS.out⟩, B4.out⟩
              case measure => simp [intOf]; omega
            | some t =>
              simp only [Option.getD_some, Option.isSome_some]
              go_wp2
              go_roundw
              case rel => exact ⟨k + 1, by go_num, by omega, hk21.out, ⟨some t, rfl, rfl, HSS.out⟩, B4.out⟩
              case measure => simp [intOf]; omega
          | some u =>
            simp only [Option.getD_some, Option.isSome_some]
            cases y0 with
            | none =>
              simp only [Option.getD_none, Option.isSome_none]
              go_wp2
              go_roundw
              case rel => exact ⟨k + 1, by go_num, by omega, hk21.out, ⟨some u, rfl, rfl, HSS.out⟩, B4.out⟩
              case measure => simp [intOf]; omega
            | some t =>
              simp only [Option.getD_some, Option.isSome_some]
              by_cases hut : u < t
              · have HT : Hid (Cur.Best ((xs.map Cur.uni).take (k + 1)) n (some u)) := by have := HSS.out; simp only [if_pos hut] at this; exact this
                go_wp2
                go_roundw
                case rel => exact ⟨k + 1, by go_num, by omega, hk21.out, ⟨some u, rfl, rfl, HT.out⟩, B4.out⟩
                case measure => simp [intOf]; omega
              · have HT : Hid (Cur.Best ((xs.map Cur.uni).take (k + 1)) n (some t)) := by have := HSS.out; simp only [if_neg hut] at this; exact this
                go_wp2
                go_roundw
                case rel => exact ⟨k + 1, by go_num, by omega, hk21.out, ⟨some t, rfl, rfl, HT.out⟩, B4.out⟩
                case measure => simp [intOf]; omega
        · have hk0i : (0 : Int) < (k : Int) := by omega
          have hk0n : 0 < k := by omega
          have hk0p : 0 < kn := by omega
          obtain ⟨y, hy⟩ : ∃ y, y = xs.getD k default := ⟨_, rfl⟩
          obtain ⟨ba, oa, c, rfl, hbB, hcl, hRc, hC⟩ := (HRW.out _ hbl).get HKN.out hlt default
          rw [← hy] at hRc
          obtain ⟨lo3, ln3, lc3, ko3, kn3, kc3, rfl⟩ := cur_form hRc
          have q0' : wr.cell? ⟨ba, oa + k * 4, none⟩ = _ := hC 0 _ rfl
          have q1 := hC 1 _ rfl
          have q2 := hC 2 _ rfl
          have q3 := hC 3 _ rfl
          have hym : y ∈ xs := by
            rw [hy, List.getD_eq_getElem?_getD, List.getElem?_eq_getElem (by rw [← HKN.out]; exact hlt)]; exact List.getElem_mem _
          obtain ⟨W3, hW3⟩ : ∃ W, W = wr.alloc (.cells #[.int .i64 y.k, .slice lo3 ln3 lc3, .int .i64 y.a, .slice ko3 kn3 kc3] 25) := ⟨_, rfl⟩
          have b3 : Below wr.heap.size wr W3 := by rw [hW3]; exact below1
          have hc3 : curR e W3 W3.heap.size [.int .i64 y.k, .slice lo3 ln3 lc3, .int .i64 y.a, .slice ko3 kn3 kc3] y := curR_steady e _ _ _ _ _ _ hRc b3 b3.size
          have HY1 : Hid (Cur.Best ((xs.map Cur.uni).take 1) n y0) := by
            have := HY0.out
            rwa [show k = 1 by omega] at this
          have HF : Hid (rs = y0) := by
            show _ = _
            rw [HRS.out]
            exact Cur.best_one HOK.out (by rw [← HKN.out]; exact hk0p) HY1.out
          have HB3 := hbl.trans (b3.mono hbl.size)
          have B9 := Lib.hid (B2.out.trans (HB3.mono B2.out.size))
          have X3 := (HB3.block _ (lt_of_block X2.out)).trans X2.out
          have c0 := boxc X3 0 _ rfl
          rw [hW3] at c0
          have HW3 := Lib.hid hW3
          clear hRc hC hy hcl hbB b3 hW3 hbl hc3 hym HB3 X3
          go_wp2
          rw [← HW3.out]
          refine bodyPost_ret (v := .tuple #[.int .i64 (y0.getD 0), .bool y0.isSome]) (by simp [results, Try.results48, go_sem]) rfl ?_
          rw [HF.out]; exact ⟨rfl, B9.out⟩
      · obtain rfl : k = kn := by omega
        have hk0p : 0 < k := by omega
        have HF : Hid (rs = y0) := by
          show _ = _
          rw [HRS.out]
          exact Cur.best_one HOK.out (by rw [← HKN.out]; exact hk0p) (by have := HY0.out; rwa [show k = 1 by omega] at this)
        have B9 := Lib.hid (B2.out.trans (hbl.mono B2.out.size))
        clear hbl
        go_wp2
        refine bodyPost_ret (v := .tuple #[.int .i64 (y0.getD 0), .bool y0.isSome]) (by simp [results, Try.results48, go_sem]) rfl ?_
        rw [HF.out]; exact ⟨rfl, B9.out⟩
theorem rleast_cu (n : Int) : ∀ (d : Nat) (x : Cur) (c : List Value) (w : World), curR d w w.heap.size c x → x.Ok → Calls Try.prog 48 #[.agg c.toArray, .int .i64 n] w (LstA (Cur.lst x.uni n) w)
  | 0, _, _, _, h, _ => h.elim
  | d + 1, x, c, w, h, ok => rleast_of d n (fun x c w hx ok => rleast_cu n d x c w hx ok) x c w h ok
end Go.Proofs.Ytojngbobecdpeaa
