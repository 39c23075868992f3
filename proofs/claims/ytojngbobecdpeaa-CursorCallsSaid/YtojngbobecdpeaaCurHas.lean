/- cursors: has, by contract. -/
import Derived.Test.YtojngbobecdpeaaCurCon
namespace Go.Proofs.Ytojngbobecdpeaa
open Go Go.RowKit Go.ChangeShapes at_ pm cl
set_option maxHeartbeats 12800000 in
set_option maxRecDepth 100000 in
theorem has_of (d : Nat) (n : Int) (HH : ∀ (x : Cur) (c : List Value) (w : World), curR d w w.heap.size c x → x.Ok → Calls Try.prog 47 #[.agg c.toArray, .int .i64 n] w (Said (has x.nums n) w))
    (x : Cur) (c : List Value) (w : World) (h : curR (d + 1) w w.heap.size c x) (ok : x.Ok) :
    Calls Try.prog 47 #[.agg c.toArray, .int .i64 n] w (Said (has x.nums n) w) := by
  have hmf : ∀ (fn : Fn) (first cap : Array Value) (w : World), (Instr.makeFunc fn first cap).run Try.prog w = .ok (.func fn first cap) w := fun _ _ _ _ => rfl
  cases x with
  | mk xk xl xa xs =>
  obtain ⟨lo, ln, lc, ko, kn, kc, rfl, hA, hR⟩ := h
  simp only [Cur.k, Cur.l, Cur.a, Cur.ks] at hA hR ⊢
  obtain ⟨hln, hln0, _⟩ := hA.cells
  have hcap : ln ≤ lc := by
    obtain ⟨_, _, e, ⟨_, h2⟩, _⟩ := hA
    simp only [Value.slice.injEq] at e
    omega
  obtain ⟨hkn, hkc, hko, hko0⟩ : kn = xs.length ∧ kn ≤ kc ∧ (ko = none → kc = 0) ∧ kn ≤ 9223372036854775807 := by
    obtain ⟨cs, g0, g1, ⟨g2, ao, c2, e, ⟨g3, g4⟩, g5, g6⟩⟩ := hR
    simp only [Value.slice.injEq] at e
    obtain ⟨rfl, rfl, rfl⟩ := e
    unfold maxLen at g5
    exact ⟨rfl, g4, g3, by omega⟩
  obtain ⟨W2, hW2⟩ : ∃ W, W = (w.alloc (.cells #[.int .i64 xk, .slice lo ln lc, .int .i64 xa, .slice ko kn kc] 25)).alloc (.cells #[.int .i64 n] 3) := ⟨_, rfl⟩
  have b2 : Below w.heap.size w W2 := by rw [hW2]; exact below1.trans (below1.mono (by simp))
  obtain ⟨q0, hq0⟩ : ∃ q, q = w.heap.size := ⟨_, rfl⟩
  have x2 : W2.heap[q0]? = some (.cells #[.int .i64 xk, .slice lo ln lc, .int .i64 xa, .slice ko kn kc] 25) := by
    rw [hW2]; exact (below1.block q0 (by rw [World.size_alloc, hq0]; omega)).trans (by rw [hq0]; exact heap_alloc_new _ _)
  have x3 : W2.heap[q0 + 1]? = some (.cells #[.int .i64 n] 3) := by
    have : q0 + 1 = (w.alloc (.cells #[.int .i64 xk, .slice lo ln lc, .int .i64 xa, .slice ko kn kc] 25)).heap.size := by rw [World.size_alloc, hq0]
    rw [hW2, this]; exact heap_alloc_new _ _
  have X2 := Lib.hid x2
  have X3 := Lib.hid x3
  have B2 := Lib.hid b2
  have HW2 := Lib.hid hW2
  have HQ0 := Lib.hid hq0
  have HAT : Hid (∀ W, Below W2.heap.size W2 W → At W W.heap.size (.slice lo ln lc) xl) := fun W hW => (hA.below (b2.trans (hW.mono b2.size))).mono (Nat.le_trans b2.size hW.size)
  have HRW : Hid (∀ W, Below W2.heap.size W2 W → RowsAt 4 (curR d) W W.heap.size (.slice ko kn kc) xs) := fun W hW => hR.next (curR_steady d) (b2.trans (hW.mono b2.size))
  have c0 := boxc x2 0 _ rfl
  have c1 := boxc x2 1 _ rfl
  have c2 := boxc x2 2 _ rfl
  have c3 := boxc x2 3 _ rfl
  have c4 := boxc x3 0 _ rfl
  clear hR x2 x3 b2 hW2 hq0
  by_cases k1 : xk = 1
  · subst k1
    obtain ⟨rfl, ha0, hal, h4, hrt⟩ := ok.list
    rw [Cur.nums_list]
    obtain ⟨p, rfl⟩ : ∃ p : Nat, xa = (p : Int) := ⟨xa.toNat, by omega⟩
    rw [Int.toNat_natCast]
    have hinc : Inc (xl.drop p) := (Cur.gd_drop ⟨right_inc hrt, right_mem hrt⟩ p).1
    obtain ⟨r, hr⟩ : ∃ r, r = has (xl.drop p) n := ⟨_, rfl⟩
    rw [← hr]
    have HP : Hid (∀ (v : Value) (W : World), At W W.heap.size v (xl.drop p) → Calls Try.prog 54 #[v, .int .i64 n] W (Said r W)) := by
      intro v W hv; rw [hr]; exact phas_any _ n v W hv hinc (by rw [List.length_drop]; omega)
    have HLN := Lib.hid hln
    have hpl : p ≤ ln := by omega
    have e1 : (0 : Int) ≤ (p : Int) := by omega
    have e2 : (p : Int) ≤ (ln : Int) := by omega
    have HAA := Lib.hid hA
    clear hr hinc hrt h4 hal ha0 hln hA ok hkn hkc hko hko0 HRW HH
    cases lo with
    | none =>
      obtain ⟨rfl, rfl⟩ := hln0 rfl
      obtain rfl : p = 0 := by omega
      replace HW2 : Hid (W2 = (w.alloc (.cells #[.int .i64 1, .slice none 0 0, .int .i64 0, .slice ko kn kc] 25)).alloc (.cells #[.int .i64 n] 3)) := HW2
      replace X2 : Hid (W2.heap[q0]? = some (.cells #[.int .i64 1, .slice none 0 0, .int .i64 0, .slice ko kn kc] 25)) := X2
      replace c2 : W2.cell? ⟨q0, 2, none⟩ = some (.int .i64 0) := c2
      go_enter Try.func47, Try.ntmps47
      go_wp2
      rw [← HW2.out, ← HQ0.out]
      clear c0 c1 c2 c3 c4
      refine wp_flow 7 (fun _ => 1000) (fun ww => RowKit.Below W2.heap.size W2 ww) (fun _ w w' => (fun (w w' : World) => RowKit.Below w.heap.size w w') w w') (fun kF vF wF => match kF with | 0 => (vF = .pointer (some ⟨q0, 1, none⟩)) | 1 => (vF = .slice none 0 0) | 2 => (vF = .pointer (some ⟨q0, 2, none⟩)) | 3 => (vF = .int .i64 0) | 4 => (∃ sp cp, vF = .slice sp (0 - 0) cp ∧ ∀ W, RowKit.Below W2.heap.size W2 W → At W W.heap.size (.slice sp (0 - 0) cp) (xl.drop 0)) | 5 => (vF = .int .i64 n) | 6 => (vF = .bool r) | _ => True) (fun _ _ _ _ => True) (by kernel_rfl) (by kernel_rfl) ?_ ?_ ?_ ?_ ?_
      · exact (Below.refl _ _).drew
      · intro iF wF1 wF2 hR hT; exact hR.trans (hT.mono hR.size)
      · intro kF hkF iF hiF hne hdd hanc hdan vF wF1 wF2 h hT
        rcases (by omega : kF = 0 ∨ kF = 1 ∨ kF = 2 ∨ kF = 3 ∨ kF = 4 ∨ kF = 5 ∨ kF = 6) with rfl | rfl | rfl | rfl | rfl | rfl | rfl
        · exact h
        · exact h
        · exact h
        · exact h
        · exact h
        · exact h
        · exact h
      · refine FlowAll.cons ?_ ?_
        · intro xF wx hR hd K hK
          clear hd
          simp only [List.take_succ_cons, List.take_zero, fillOf, Act.put, List.setIfInBounds_toArray, List.set_cons_zero, List.set_cons_succ, Nat.reduceAdd, Nat.zero_add] at hK ⊢
          obtain hbR := id hR
          rw [if_pos (by rfl)]
          go_simp
          exact hK.out _ _ (Below.refl _ _) (rfl) (fun _ _ _ => ⟨trivial, trivial⟩)
        refine FlowAll.cons ?_ ?_
        · intro xF wx hR hd K hK
          have dd0 : ((xF 0) = .pointer (some ⟨q0, 1, none⟩)) := hd 0 (by kernel_rfl)
          clear hd
          simp only [List.take_succ_cons, List.take_zero, fillOf, Act.put, List.setIfInBounds_toArray, List.set_cons_zero, List.set_cons_succ, Nat.reduceAdd, Nat.zero_add] at hK ⊢
          try generalize xF 0 = yy0 at *
          obtain rfl := dd0
          obtain hbR := id hR
          have hxa := (hbR.block _ (lt_of_block X2.out)).trans X2.out
          have c9 := boxc hxa 1 _ rfl
          clear hxa
          rw [if_pos (by rfl)]
          go_simp
          exact hK.out _ _ (Below.refl _ _) (rfl) (fun _ _ _ => ⟨trivial, trivial⟩)
        refine FlowAll.cons ?_ ?_
        · intro xF wx hR hd K hK
          clear hd
          simp only [List.take_succ_cons, List.take_zero, fillOf, Act.put, List.setIfInBounds_toArray, List.set_cons_zero, List.set_cons_succ, Nat.reduceAdd, Nat.zero_add] at hK ⊢
          obtain hbR := id hR
          rw [if_pos (by rfl)]
          go_simp
          exact hK.out _ _ (Below.refl _ _) (rfl) (fun _ _ _ => ⟨trivial, trivial⟩)
        refine FlowAll.cons ?_ ?_
        · intro xF wx hR hd K hK
          have dd2 : ((xF 2) = .pointer (some ⟨q0, 2, none⟩)) := hd 2 (by kernel_rfl)
          clear hd
          simp only [List.take_succ_cons, List.take_zero, fillOf, Act.put, List.setIfInBounds_toArray, List.set_cons_zero, List.set_cons_succ, Nat.reduceAdd, Nat.zero_add] at hK ⊢
          try generalize xF 2 = yy2 at *
          obtain rfl := dd2
          obtain hbR := id hR
          have hxa := (hbR.block _ (lt_of_block X2.out)).trans X2.out
          have c9 := boxc hxa 2 _ rfl
          clear hxa
          rw [if_pos (by rfl)]
          go_simp
          exact hK.out _ _ (Below.refl _ _) (rfl) (fun _ _ _ => ⟨trivial, trivial⟩)
        refine FlowAll.cons ?_ ?_
        · intro xF wx hR hd K hK
          have dd1 : ((xF 1) = .slice none 0 0) := hd 1 (by kernel_rfl)
          have dd3 : ((xF 3) = .int .i64 0) := hd 3 (by kernel_rfl)
          clear hd
          simp only [List.take_succ_cons, List.take_zero, fillOf, Act.put, List.setIfInBounds_toArray, List.set_cons_zero, List.set_cons_succ, Nat.reduceAdd, Nat.zero_add] at hK ⊢
          try generalize xF 1 = yy1 at *
          try generalize xF 3 = yy3 at *
          obtain rfl := dd1
          obtain rfl := dd3
          obtain hbR := id hR
          rw [if_pos (by rfl)]
          go_simp
          exact hK.out _ _ (Below.refl _ _) (⟨_, _, rfl, fun W hW => at_drop (n := 0) (p := 0) (HAT.out W hW) (by omega) (by omega) (fun b o e h => absurd h (by omega)) (fun _ => rfl)⟩) (fun _ _ _ => ⟨trivial, trivial⟩)
        refine FlowAll.cons ?_ ?_
        · intro xF wx hR hd K hK
          clear hd
          simp only [List.take_succ_cons, List.take_zero, fillOf, Act.put, List.setIfInBounds_toArray, List.set_cons_zero, List.set_cons_succ, Nat.reduceAdd, Nat.zero_add] at hK ⊢
          obtain hbR := id hR
          have hxa := (hbR.block _ (lt_of_block X3.out)).trans X3.out
          have c9 := boxc hxa 0 _ rfl
          clear hxa
          rw [if_pos (by rfl)]
          go_simp
          exact hK.out _ _ (Below.refl _ _) (rfl) (fun _ _ _ => ⟨trivial, trivial⟩)
        refine FlowAll.cons ?_ ?_
        · intro xF wx hR hd K hK
          have dd4 : (∃ sp cp, (xF 4) = .slice sp (0 - 0) cp ∧ ∀ W, RowKit.Below W2.heap.size W2 W → At W W.heap.size (.slice sp (0 - 0) cp) (xl.drop 0)) := hd 4 (by kernel_rfl)
          have dd5 : ((xF 5) = .int .i64 n) := hd 5 (by kernel_rfl)
          clear hd
          simp only [List.take_succ_cons, List.take_zero, fillOf, Act.put, List.setIfInBounds_toArray, List.set_cons_zero, List.set_cons_succ, Nat.reduceAdd, Nat.zero_add] at hK ⊢
          try generalize xF 4 = yy4 at *
          try generalize xF 5 = yy5 at *
          obtain ⟨sp, cp, rfl, hat⟩ := dd4
          obtain rfl := dd5
          obtain hbR := id hR
          rw [if_pos (by rfl)]
          go_simp
          (go_at_call 54; (with_reducible refine (HP.out _ _ (hat _ hbR)).mono ?_); rintro e wK ⟨rfl, hbK⟩)
          try go_wp2_with fail
          exact hK.out _ _ (hbK) (rfl) (fun _ _ _ => ⟨trivial, trivial⟩)
        exact FlowAll.nil
      intro xF wx hR hF hP
      clear hP
      have dd0 : ((xF 0) = .pointer (some ⟨q0, 1, none⟩)) := hF 0 (by omega) (by decide)
      have dd1 : ((xF 1) = .slice none 0 0) := hF 1 (by omega) (by decide)
      have dd2 : ((xF 2) = .pointer (some ⟨q0, 2, none⟩)) := hF 2 (by omega) (by decide)
      have dd3 : ((xF 3) = .int .i64 0) := hF 3 (by omega) (by decide)
      have dd4 : (∃ sp cp, (xF 4) = .slice sp (0 - 0) cp ∧ ∀ W, RowKit.Below W2.heap.size W2 W → At W W.heap.size (.slice sp (0 - 0) cp) (xl.drop 0)) := hF 4 (by omega) (by decide)
      have dd5 : ((xF 5) = .int .i64 n) := hF 5 (by omega) (by decide)
      have dd6 : ((xF 6) = .bool r) := hF 6 (by omega) (by decide)
      clear hF
      simp only [List.take_succ_cons, List.take_zero, List.drop_succ_cons, List.drop_zero, fillOf, Act.put, List.setIfInBounds_toArray, List.set_cons_zero, List.set_cons_succ, Nat.reduceAdd, Nat.zero_add]
      try generalize xF 0 = yy0 at *
      try generalize xF 1 = yy1 at *
      try generalize xF 2 = yy2 at *
      try generalize xF 3 = yy3 at *
      try generalize xF 4 = yy4 at *
      try generalize xF 5 = yy5 at *
      try generalize xF 6 = yy6 at *
      clear xF
      obtain rfl := dd0
      obtain rfl := dd1
      obtain rfl := dd2
      obtain rfl := dd3
      obtain ⟨sp, cp, rfl, hat⟩ := dd4
      obtain rfl := dd5
      obtain rfl := dd6
      have hRE := Lib.hid hR
      clear hR
      go_wp2
      go_ret
      exact ⟨rfl, B2.out.trans (hRE.out.mono B2.out.size)⟩
    | some a =>
      clear hln0
      by_cases hl0 : ln = 0
      · subst hl0
        obtain rfl : p = 0 := by omega
        obtain ⟨ab, af, ap⟩ := a
        replace HW2 : Hid (W2 = (w.alloc (.cells #[.int .i64 1, .slice (some ⟨ab, af, ap⟩) 0 lc, .int .i64 0, .slice ko kn kc] 25)).alloc (.cells #[.int .i64 n] 3)) := HW2
        replace X2 : Hid (W2.heap[q0]? = some (.cells #[.int .i64 1, .slice (some ⟨ab, af, ap⟩) 0 lc, .int .i64 0, .slice ko kn kc] 25)) := X2
        replace c2 : W2.cell? ⟨q0, 2, none⟩ = some (.int .i64 0) := c2
        go_enter Try.func47, Try.ntmps47
        go_wp2
        rw [← HW2.out, ← HQ0.out]
        clear c0 c1 c2 c3 c4
        refine wp_flow 7 (fun _ => 1000) (fun ww => RowKit.Below W2.heap.size W2 ww) (fun _ w w' => (fun (w w' : World) => RowKit.Below w.heap.size w w') w w') (fun kF vF wF => match kF with | 0 => (vF = .pointer (some ⟨q0, 1, none⟩)) | 1 => (vF = .slice (some ⟨ab, af, ap⟩) 0 lc) | 2 => (vF = .pointer (some ⟨q0, 2, none⟩)) | 3 => (vF = .int .i64 0) | 4 => (∃ sp cp, vF = .slice sp (0 - 0) cp ∧ ∀ W, RowKit.Below W2.heap.size W2 W → At W W.heap.size (.slice sp (0 - 0) cp) (xl.drop 0)) | 5 => (vF = .int .i64 n) | 6 => (vF = .bool r) | _ => True) (fun _ _ _ _ => True) (by kernel_rfl) (by kernel_rfl) ?_ ?_ ?_ ?_ ?_
        · exact (Below.refl _ _).drew
        · intro iF wF1 wF2 hR hT; exact hR.trans (hT.mono hR.size)
        · intro kF hkF iF hiF hne hdd hanc hdan vF wF1 wF2 h hT
          rcases (by omega : kF = 0 ∨ kF = 1 ∨ kF = 2 ∨ kF = 3 ∨ kF = 4 ∨ kF = 5 ∨ kF = 6) with rfl | rfl | rfl | rfl | rfl | rfl | rfl
          · exact h
          · exact h
          · exact h
          · exact h
          · exact h
          · exact h
          · exact h
        · refine FlowAll.cons ?_ ?_
          · intro xF wx hR hd K hK
            clear hd
            simp only [List.take_succ_cons, List.take_zero, fillOf, Act.put, List.setIfInBounds_toArray, List.set_cons_zero, List.set_cons_succ, Nat.reduceAdd, Nat.zero_add] at hK ⊢
            obtain hbR := id hR
            rw [if_pos (by rfl)]
            go_simp
            exact hK.out _ _ (Below.refl _ _) (rfl) (fun _ _ _ => ⟨trivial, trivial⟩)
          refine FlowAll.cons ?_ ?_
          · intro xF wx hR hd K hK
            have dd0 : ((xF 0) = .pointer (some ⟨q0, 1, none⟩)) := hd 0 (by kernel_rfl)
            clear hd
            simp only [List.take_succ_cons, List.take_zero, fillOf, Act.put, List.setIfInBounds_toArray, List.set_cons_zero, List.set_cons_succ, Nat.reduceAdd, Nat.zero_add] at hK ⊢
            try generalize xF 0 = yy0 at *
            obtain rfl := dd0
            obtain hbR := id hR
            have hxa := (hbR.block _ (lt_of_block X2.out)).trans X2.out
            have c9 := boxc hxa 1 _ rfl
            clear hxa
            rw [if_pos (by rfl)]
            go_simp
            exact hK.out _ _ (Below.refl _ _) (rfl) (fun _ _ _ => ⟨trivial, trivial⟩)
          refine FlowAll.cons ?_ ?_
          · intro xF wx hR hd K hK
            clear hd
            simp only [List.take_succ_cons, List.take_zero, fillOf, Act.put, List.setIfInBounds_toArray, List.set_cons_zero, List.set_cons_succ, Nat.reduceAdd, Nat.zero_add] at hK ⊢
            obtain hbR := id hR
            rw [if_pos (by rfl)]
            go_simp
            exact hK.out _ _ (Below.refl _ _) (rfl) (fun _ _ _ => ⟨trivial, trivial⟩)
          refine FlowAll.cons ?_ ?_
          · intro xF wx hR hd K hK
            have dd2 : ((xF 2) = .pointer (some ⟨q0, 2, none⟩)) := hd 2 (by kernel_rfl)
            clear hd
            simp only [List.take_succ_cons, List.take_zero, fillOf, Act.put, List.setIfInBounds_toArray, List.set_cons_zero, List.set_cons_succ, Nat.reduceAdd, Nat.zero_add] at hK ⊢
            try generalize xF 2 = yy2 at *
            obtain rfl := dd2
            obtain hbR := id hR
            have hxa := (hbR.block _ (lt_of_block X2.out)).trans X2.out
            have c9 := boxc hxa 2 _ rfl
            clear hxa
            rw [if_pos (by rfl)]
            go_simp
            exact hK.out _ _ (Below.refl _ _) (rfl) (fun _ _ _ => ⟨trivial, trivial⟩)
          refine FlowAll.cons ?_ ?_
          · intro xF wx hR hd K hK
            have dd1 : ((xF 1) = .slice (some ⟨ab, af, ap⟩) 0 lc) := hd 1 (by kernel_rfl)
            have dd3 : ((xF 3) = .int .i64 0) := hd 3 (by kernel_rfl)
            clear hd
            simp only [List.take_succ_cons, List.take_zero, fillOf, Act.put, List.setIfInBounds_toArray, List.set_cons_zero, List.set_cons_succ, Nat.reduceAdd, Nat.zero_add] at hK ⊢
            try generalize xF 1 = yy1 at *
            try generalize xF 3 = yy3 at *
            obtain rfl := dd1
            obtain rfl := dd3
            obtain hbR := id hR
            rw [if_pos (by rfl)]
            go_simp
            exact hK.out _ _ (Below.refl _ _) (⟨_, _, rfl, fun W hW => at_drop (n := 0) (p := 0) (HAT.out W hW) (by omega) (by omega) (fun b o e h => absurd h (by omega)) (by first | (intro h; cases h; done) | (split <;> simp))⟩) (fun _ _ _ => ⟨trivial, trivial⟩)
          refine FlowAll.cons ?_ ?_
          · intro xF wx hR hd K hK
            clear hd
            simp only [List.take_succ_cons, List.take_zero, fillOf, Act.put, List.setIfInBounds_toArray, List.set_cons_zero, List.set_cons_succ, Nat.reduceAdd, Nat.zero_add] at hK ⊢
            obtain hbR := id hR
            have hxa := (hbR.block _ (lt_of_block X3.out)).trans X3.out
            have c9 := boxc hxa 0 _ rfl
            clear hxa
            rw [if_pos (by rfl)]
            go_simp
            exact hK.out _ _ (Below.refl _ _) (rfl) (fun _ _ _ => ⟨trivial, trivial⟩)
          refine FlowAll.cons ?_ ?_
          · intro xF wx hR hd K hK
            have dd4 : (∃ sp cp, (xF 4) = .slice sp (0 - 0) cp ∧ ∀ W, RowKit.Below W2.heap.size W2 W → At W W.heap.size (.slice sp (0 - 0) cp) (xl.drop 0)) := hd 4 (by kernel_rfl)
            have dd5 : ((xF 5) = .int .i64 n) := hd 5 (by kernel_rfl)
            clear hd
            simp only [List.take_succ_cons, List.take_zero, fillOf, Act.put, List.setIfInBounds_toArray, List.set_cons_zero, List.set_cons_succ, Nat.reduceAdd, Nat.zero_add] at hK ⊢
            try generalize xF 4 = yy4 at *
            try generalize xF 5 = yy5 at *
            obtain ⟨sp, cp, rfl, hat⟩ := dd4
            obtain rfl := dd5
            obtain hbR := id hR
            rw [if_pos (by rfl)]
            go_simp
            (go_at_call 54; (with_reducible refine (HP.out _ _ (hat _ hbR)).mono ?_); rintro e wK ⟨rfl, hbK⟩)
            try go_wp2_with fail
            exact hK.out _ _ (hbK) (rfl) (fun _ _ _ => ⟨trivial, trivial⟩)
          exact FlowAll.nil
        intro xF wx hR hF hP
        clear hP
        have dd0 : ((xF 0) = .pointer (some ⟨q0, 1, none⟩)) := hF 0 (by omega) (by decide)
        have dd1 : ((xF 1) = .slice (some ⟨ab, af, ap⟩) 0 lc) := hF 1 (by omega) (by decide)
        have dd2 : ((xF 2) = .pointer (some ⟨q0, 2, none⟩)) := hF 2 (by omega) (by decide)
        have dd3 : ((xF 3) = .int .i64 0) := hF 3 (by omega) (by decide)
        have dd4 : (∃ sp cp, (xF 4) = .slice sp (0 - 0) cp ∧ ∀ W, RowKit.Below W2.heap.size W2 W → At W W.heap.size (.slice sp (0 - 0) cp) (xl.drop 0)) := hF 4 (by omega) (by decide)
        have dd5 : ((xF 5) = .int .i64 n) := hF 5 (by omega) (by decide)
        have dd6 : ((xF 6) = .bool r) := hF 6 (by omega) (by decide)
        clear hF
        simp only [List.take_succ_cons, List.take_zero, List.drop_succ_cons, List.drop_zero, fillOf, Act.put, List.setIfInBounds_toArray, List.set_cons_zero, List.set_cons_succ, Nat.reduceAdd, Nat.zero_add]
        try generalize xF 0 = yy0 at *
        try generalize xF 1 = yy1 at *
        try generalize xF 2 = yy2 at *
        try generalize xF 3 = yy3 at *
        try generalize xF 4 = yy4 at *
        try generalize xF 5 = yy5 at *
        try generalize xF 6 = yy6 at *
        clear xF
        obtain rfl := dd0
        obtain rfl := dd1
        obtain rfl := dd2
        obtain rfl := dd3
        obtain ⟨sp, cp, rfl, hat⟩ := dd4
        obtain rfl := dd5
        obtain rfl := dd6
        have hRE := Lib.hid hR
        clear hR
        go_wp2
        go_ret
        exact ⟨rfl, B2.out.trans (hRE.out.mono B2.out.size)⟩
      · obtain ⟨ba, oa, e⟩ : ∃ b o, a = ⟨b, o, none⟩ := by
          obtain ⟨ao, cap, e, _, _, ka⟩ := HAA.out
          obtain ⟨b, o, rfl, _⟩ := ka (by rw [← HLN.out]; omega)
          simp only [Value.slice.injEq] at e
          exact ⟨b, o, Option.some.inj e.1⟩
        subst e
        go_enter Try.func47, Try.ntmps47
        go_wp2
        rw [← HW2.out, ← HQ0.out]
        clear c0 c1 c2 c3 c4
        refine wp_flow 7 (fun _ => 1000) (fun ww => RowKit.Below W2.heap.size W2 ww) (fun _ w w' => (fun (w w' : World) => RowKit.Below w.heap.size w w') w w') (fun kF vF wF => match kF with | 0 => (vF = .pointer (some ⟨q0, 1, none⟩)) | 1 => (vF = .slice (some ⟨ba, oa, none⟩) ln lc) | 2 => (vF = .pointer (some ⟨q0, 2, none⟩)) | 3 => (vF = .int .i64 (p : Int)) | 4 => (∃ sp cp, vF = .slice sp (ln - p) cp ∧ ∀ W, RowKit.Below W2.heap.size W2 W → At W W.heap.size (.slice sp (ln - p) cp) (xl.drop p)) | 5 => (vF = .int .i64 n) | 6 => (vF = .bool r) | _ => True) (fun _ _ _ _ => True) (by kernel_rfl) (by kernel_rfl) ?_ ?_ ?_ ?_ ?_
        · exact (Below.refl _ _).drew
        · intro iF wF1 wF2 hR hT; exact hR.trans (hT.mono hR.size)
        · intro kF hkF iF hiF hne hdd hanc hdan vF wF1 wF2 h hT
          rcases (by omega : kF = 0 ∨ kF = 1 ∨ kF = 2 ∨ kF = 3 ∨ kF = 4 ∨ kF = 5 ∨ kF = 6) with rfl | rfl | rfl | rfl | rfl | rfl | rfl
          · exact h
          · exact h
          · exact h
          · exact h
          · exact h
          · exact h
          · exact h
        · refine FlowAll.cons ?_ ?_
          · intro xF wx hR hd K hK
            clear hd
            simp only [List.take_succ_cons, List.take_zero, fillOf, Act.put, List.setIfInBounds_toArray, List.set_cons_zero, List.set_cons_succ, Nat.reduceAdd, Nat.zero_add] at hK ⊢
            obtain hbR := id hR
            rw [if_pos (by rfl)]
            go_simp
            exact hK.out _ _ (Below.refl _ _) (rfl) (fun _ _ _ => ⟨trivial, trivial⟩)
          refine FlowAll.cons ?_ ?_
          · intro xF wx hR hd K hK
            have dd0 : ((xF 0) = .pointer (some ⟨q0, 1, none⟩)) := hd 0 (by kernel_rfl)
            clear hd
            simp only [List.take_succ_cons, List.take_zero, fillOf, Act.put, List.setIfInBounds_toArray, List.set_cons_zero, List.set_cons_succ, Nat.reduceAdd, Nat.zero_add] at hK ⊢
            try generalize xF 0 = yy0 at *
            obtain rfl := dd0
            obtain hbR := id hR
            have hxa := (hbR.block _ (lt_of_block X2.out)).trans X2.out
            have c9 := boxc hxa 1 _ rfl
            clear hxa
            rw [if_pos (by rfl)]
            go_simp
            exact hK.out _ _ (Below.refl _ _) (rfl) (fun _ _ _ => ⟨trivial, trivial⟩)
          refine FlowAll.cons ?_ ?_
          · intro xF wx hR hd K hK
            clear hd
            simp only [List.take_succ_cons, List.take_zero, fillOf, Act.put, List.setIfInBounds_toArray, List.set_cons_zero, List.set_cons_succ, Nat.reduceAdd, Nat.zero_add] at hK ⊢
            obtain hbR := id hR
            rw [if_pos (by rfl)]
            go_simp
            exact hK.out _ _ (Below.refl _ _) (rfl) (fun _ _ _ => ⟨trivial, trivial⟩)
          refine FlowAll.cons ?_ ?_
          · intro xF wx hR hd K hK
            have dd2 : ((xF 2) = .pointer (some ⟨q0, 2, none⟩)) := hd 2 (by kernel_rfl)
            clear hd
            simp only [List.take_succ_cons, List.take_zero, fillOf, Act.put, List.setIfInBounds_toArray, List.set_cons_zero, List.set_cons_succ, Nat.reduceAdd, Nat.zero_add] at hK ⊢
            try generalize xF 2 = yy2 at *
            obtain rfl := dd2
            obtain hbR := id hR
            have hxa := (hbR.block _ (lt_of_block X2.out)).trans X2.out
            have c9 := boxc hxa 2 _ rfl
            clear hxa
            rw [if_pos (by rfl)]
            go_simp
            exact hK.out _ _ (Below.refl _ _) (rfl) (fun _ _ _ => ⟨trivial, trivial⟩)
          refine FlowAll.cons ?_ ?_
          · intro xF wx hR hd K hK
            have dd1 : ((xF 1) = .slice (some ⟨ba, oa, none⟩) ln lc) := hd 1 (by kernel_rfl)
            have dd3 : ((xF 3) = .int .i64 (p : Int)) := hd 3 (by kernel_rfl)
            clear hd
            simp only [List.take_succ_cons, List.take_zero, fillOf, Act.put, List.setIfInBounds_toArray, List.set_cons_zero, List.set_cons_succ, Nat.reduceAdd, Nat.zero_add] at hK ⊢
            try generalize xF 1 = yy1 at *
            try generalize xF 3 = yy3 at *
            obtain rfl := dd1
            obtain rfl := dd3
            obtain hbR := id hR
            rw [if_pos (by rfl)]
            go_simp
            exact hK.out _ _ (Below.refl _ _) (⟨_, _, rfl, fun W hW => at_drop (n := ln) (p := p) (HAT.out W hW) (by omega) (by omega) (fun b o e h => by simp only [Option.some.injEq, Addr.mk.injEq] at e; obtain ⟨rfl, rfl, _⟩ := e; first | rfl | (rw [if_neg (by omega)]) | simp) (by first | (intro h; cases h; done) | (split <;> simp))⟩) (fun _ _ _ => ⟨trivial, trivial⟩)
          refine FlowAll.cons ?_ ?_
          · intro xF wx hR hd K hK
            clear hd
            simp only [List.take_succ_cons, List.take_zero, fillOf, Act.put, List.setIfInBounds_toArray, List.set_cons_zero, List.set_cons_succ, Nat.reduceAdd, Nat.zero_add] at hK ⊢
            obtain hbR := id hR
            have hxa := (hbR.block _ (lt_of_block X3.out)).trans X3.out
            have c9 := boxc hxa 0 _ rfl
            clear hxa
            rw [if_pos (by rfl)]
            go_simp
            exact hK.out _ _ (Below.refl _ _) (rfl) (fun _ _ _ => ⟨trivial, trivial⟩)
          refine FlowAll.cons ?_ ?_
          · intro xF wx hR hd K hK
            have dd4 : (∃ sp cp, (xF 4) = .slice sp (ln - p) cp ∧ ∀ W, RowKit.Below W2.heap.size W2 W → At W W.heap.size (.slice sp (ln - p) cp) (xl.drop p)) := hd 4 (by kernel_rfl)
            have dd5 : ((xF 5) = .int .i64 n) := hd 5 (by kernel_rfl)
            clear hd
            simp only [List.take_succ_cons, List.take_zero, fillOf, Act.put, List.setIfInBounds_toArray, List.set_cons_zero, List.set_cons_succ, Nat.reduceAdd, Nat.zero_add] at hK ⊢
            try generalize xF 4 = yy4 at *
            try generalize xF 5 = yy5 at *
            obtain ⟨sp, cp, rfl, hat⟩ := dd4
            obtain rfl := dd5
            obtain hbR := id hR
            rw [if_pos (by rfl)]
            go_simp
            (go_at_call 54; (with_reducible refine (HP.out _ _ (hat _ hbR)).mono ?_); rintro e wK ⟨rfl, hbK⟩)
            try go_wp2_with fail
            exact hK.out _ _ (hbK) (rfl) (fun _ _ _ => ⟨trivial, trivial⟩)
          exact FlowAll.nil
        intro xF wx hR hF hP
        clear hP
        have dd0 : ((xF 0) = .pointer (some ⟨q0, 1, none⟩)) := hF 0 (by omega) (by decide)
        have dd1 : ((xF 1) = .slice (some ⟨ba, oa, none⟩) ln lc) := hF 1 (by omega) (by decide)
        have dd2 : ((xF 2) = .pointer (some ⟨q0, 2, none⟩)) := hF 2 (by omega) (by decide)
        have dd3 : ((xF 3) = .int .i64 (p : Int)) := hF 3 (by omega) (by decide)
        have dd4 : (∃ sp cp, (xF 4) = .slice sp (ln - p) cp ∧ ∀ W, RowKit.Below W2.heap.size W2 W → At W W.heap.size (.slice sp (ln - p) cp) (xl.drop p)) := hF 4 (by omega) (by decide)
        have dd5 : ((xF 5) = .int .i64 n) := hF 5 (by omega) (by decide)
        have dd6 : ((xF 6) = .bool r) := hF 6 (by omega) (by decide)
        clear hF
        simp only [List.take_succ_cons, List.take_zero, List.drop_succ_cons, List.drop_zero, fillOf, Act.put, List.setIfInBounds_toArray, List.set_cons_zero, List.set_cons_succ, Nat.reduceAdd, Nat.zero_add]
        try generalize xF 0 = yy0 at *
        try generalize xF 1 = yy1 at *
        try generalize xF 2 = yy2 at *
        try generalize xF 3 = yy3 at *
        try generalize xF 4 = yy4 at *
        try generalize xF 5 = yy5 at *
        try generalize xF 6 = yy6 at *
        clear xF
        obtain rfl := dd0
        obtain rfl := dd1
        obtain rfl := dd2
        obtain rfl := dd3
        obtain ⟨sp, cp, rfl, hat⟩ := dd4
        obtain rfl := dd5
        obtain rfl := dd6
        have hRE := Lib.hid hR
        clear hR
        go_wp2
        go_ret
        exact ⟨rfl, B2.out.trans (hRE.out.mono B2.out.size)⟩
  · obtain ⟨hk, hk4, rfl, rfl, h20, hoks⟩ := ok.kids k1
    have HOK := Lib.hid hoks
    have HKN := Lib.hid hkn
    have HHH := Lib.hid HH
    clear hoks h20 ok hA hln hln0 hcap HAT hkn
    rcases hk with rfl | rfl | rfl
    · rw [Cur.nums_both]
      have k2 : (2 : Int) ≠ 1 := by decide
      by_cases g0 : kn = 0
      · subst g0
        obtain rfl : xs = [] := List.eq_nil_of_length_eq_zero HKN.out.symm
        have hv : has (allOf (([] : List Cur).map Cur.nums)) n = false := rfl
        rw [hv]
        clear hv hk4
        go_enter Try.func47, Try.ntmps47
        go_wp2
        rw [← HW2.out]
        go_ret
        exact ⟨rfl, B2.out⟩
      · have g0i : (0 : Int) < (kn : Int) := by omega
        have g0n : 0 < kn := by omega
        have hne : xs ≠ [] := by intro e; rw [e] at HKN; exact g0 HKN.out
        rw [Cur.has_both hne]
        have HC := Lib.hid (con_all d n xs (.slice ko kn kc) (q0 + 1) W2 (HRW.out _ (Below.refl _ _)) X3.out (fun x hx c W hc => HHH.out x c W hc (HOK.out x hx)))
        obtain ⟨b, hb⟩ : ∃ b, b = (xs.any fun x => !has x.nums n) := ⟨_, rfl⟩
        rw [← hb] at HC ⊢
        clear hb hne hk4
        go_enter Try.func47, Try.ntmps47
        go_wp2_with fail
        rw [← HW2.out, ← HQ0.out]
        (with_reducible refine HC.out.mono ?_)
        rintro e w3 ⟨rfl, b3⟩
        have B3 := Lib.hid (B2.out.trans (b3.mono B2.out.size))
        clear b3
        cases b <;> (go_wp2; go_ret; exact ⟨rfl, B3.out⟩)
    · rw [Cur.nums_any, Cur.has_any]
      have HC := Lib.hid (some_of d n xs (.slice ko kn kc) W2 (HRW.out _ (Below.refl _ _)) (fun x hx c W hc => HHH.out x c W hc (HOK.out x hx)))
      obtain ⟨b, hb⟩ : ∃ b, b = (xs.any fun x => has x.nums n) := ⟨_, rfl⟩
      rw [← hb] at HC ⊢
      clear hb hk4
      go_enter Try.func47, Try.ntmps47
      go_wp2_with fail
      rw [← HW2.out]
      (with_reducible refine HC.out.mono ?_)
      rintro e w3 ⟨rfl, b3⟩
      have B3 := Lib.hid (B2.out.trans (b3.mono B2.out.size))
      clear b3
      go_wp2
      go_ret
      exact ⟨rfl, B3.out⟩
    · rw [Cur.nums_sub]
      cases xs with
      | nil => exact absurd rfl (hk4 rfl)
      | cons x1 r =>
      rw [Cur.has_sub]
      clear hk4
      have hkp : 0 < kn := by rw [HKN.out]; simp
      obtain ⟨ba, oa, c, rfl, hbB, hcl, hR1, hC1⟩ := (HRW.out W2 (Below.refl _ _)).get HKN.out hkp default
      obtain ⟨lo1, ln1, lc1, ko1, kn1, kc1, rfl⟩ := cur_form hR1
      have HQ : Hid (∀ W, Below W2.heap.size W2 W → ∀ (i : Nat) u, [Value.int .i64 x1.k, .slice lo1 ln1 lc1, .int .i64 x1.a, .slice ko1 kn1 kc1][i]? = some u → W.cell? ⟨ba, oa + i, none⟩ = some u) := by
        intro W hW i u hu
        have := hC1 i u hu
        rw [Nat.zero_mul, Nat.add_zero] at this
        exact (hW.cell (p := ⟨ba, oa + i, none⟩) hbB).trans this
      have HC1 : Hid (∀ W, Below W2.heap.size W2 W → Calls Try.prog 47 #[.agg #[.int .i64 x1.k, .slice lo1 ln1 lc1, .int .i64 x1.a, .slice ko1 kn1 kc1], .int .i64 n] W (Said (has x1.nums n) W)) := fun W hW => HHH.out x1 _ W (curR_steady d _ _ _ _ _ _ hR1 hW hW.size) (HOK.out x1 (by simp))
      have HC2 : Hid (∀ (sp : Option Addr) (cp : Nat) (W : World), RowsAt 4 (curR d) W W.heap.size (.slice sp (kn - 1) cp) r → Calls Try.prog 57 #[.slice sp (kn - 1) cp, .int .i64 n] W (Said (r.any fun x => has x.nums n) W)) := fun sp cp W hW => some_of d n r _ W hW (fun x hx c W hc => HHH.out x c W hc (HOK.out x (by simp [hx])))
      obtain ⟨r1, hr1⟩ : ∃ b, b = has x1.nums n := ⟨_, rfl⟩
      obtain ⟨r2, hr2⟩ : ∃ b, b = (r.any fun x => has x.nums n) := ⟨_, rfl⟩
      rw [← hr1] at HC1 ⊢
      rw [← hr2] at HC2 ⊢
      obtain ⟨xk, hxk⟩ : ∃ z, z = x1.k := ⟨_, rfl⟩
      obtain ⟨xa, hxa⟩ : ∃ z, z = x1.a := ⟨_, rfl⟩
      rw [← hxk, ← hxa] at HQ HC1
      clear hR1 hC1 hbB hcl hr1 hr2 hxk hxa
      have e1 : (1 : Int) ≤ (kn : Int) := by omega
      have e3 : 1 ≤ kn := hkp
      cases r1 with
      | false =>
        go_enter Try.func47, Try.ntmps47
        go_wp2
        rw [← HW2.out, ← HQ0.out]
        clear c0 c1 c2 c3 c4
        refine wp_flow 14 (fun _ => 1000) (fun ww => RowKit.Below W2.heap.size W2 ww) (fun _ w w' => (fun (w w' : World) => RowKit.Below w.heap.size w w') w w') (fun kF vF wF => match kF with | 0 => (vF = .pointer (some ⟨q0, 3, none⟩)) | 1 => (vF = .slice (some ⟨ba, oa, none⟩) kn kc) | 2 => (vF = .pointer (some ⟨ba, oa, none⟩)) | 3 => (vF = .agg #[.int .i64 xk, .slice lo1 ln1 lc1, .int .i64 xa, .slice ko1 kn1 kc1]) | 4 => (vF = .int .i64 n) | 5 => (vF = .bool false) | 6 => (vF = .bool false) | 7 => (vF = undef) | 8 => (vF = undef) | 9 => (vF = undef) | 10 => (vF = undef) | 11 => (vF = undef) | 12 => (vF = undef) | 13 => (vF = .bool false) | _ => True) (fun _ _ _ _ => True) (by kernel_rfl) (by kernel_rfl) ?_ ?_ ?_ ?_ ?_
        · exact (Below.refl _ _).drew
        · intro iF wF1 wF2 hR hT; exact hR.trans (hT.mono hR.size)
        · intro kF hkF iF hiF hne hdd hanc hdan vF wF1 wF2 h hT
          rcases (by omega : kF = 0 ∨ kF = 1 ∨ kF = 2 ∨ kF = 3 ∨ kF = 4 ∨ kF = 5 ∨ kF = 6 ∨ kF = 7 ∨ kF = 8 ∨ kF = 9 ∨ kF = 10 ∨ kF = 11 ∨ kF = 12 ∨ kF = 13) with rfl | rfl | rfl | rfl | rfl | rfl | rfl | rfl | rfl | rfl | rfl | rfl | rfl | rfl
          · exact h
          · exact h
          · exact h
          · exact h
          · exact h
          · exact h
          · exact h
          · exact h
          · exact h
          · exact h
          · exact h
          · exact h
          · exact h
          · exact h
        · refine FlowAll.cons ?_ ?_
          · intro xF wx hR hd K hK
            clear hd
            simp only [List.take_succ_cons, List.take_zero, fillOf, Act.put, List.setIfInBounds_toArray, List.set_cons_zero, List.set_cons_succ, Nat.reduceAdd, Nat.zero_add] at hK ⊢
            obtain hbR := id hR
            rw [if_pos (by rfl)]
            go_simp
            exact hK.out _ _ (Below.refl _ _) (rfl) (fun _ _ _ => ⟨trivial, trivial⟩)
          refine FlowAll.cons ?_ ?_
          · intro xF wx hR hd K hK
            have dd0 : ((xF 0) = .pointer (some ⟨q0, 3, none⟩)) := hd 0 (by kernel_rfl)
            clear hd
            simp only [List.take_succ_cons, List.take_zero, fillOf, Act.put, List.setIfInBounds_toArray, List.set_cons_zero, List.set_cons_succ, Nat.reduceAdd, Nat.zero_add] at hK ⊢
            try generalize xF 0 = yy0 at *
            obtain rfl := dd0
            obtain hbR := id hR
            have hxa := (hbR.block _ (lt_of_block X2.out)).trans X2.out
            have c9 := boxc hxa 3 _ rfl
            clear hxa
            rw [if_pos (by rfl)]
            go_simp
            exact hK.out _ _ (Below.refl _ _) (rfl) (fun _ _ _ => ⟨trivial, trivial⟩)
          refine FlowAll.cons ?_ ?_
          · intro xF wx hR hd K hK
            have dd1 : ((xF 1) = .slice (some ⟨ba, oa, none⟩) kn kc) := hd 1 (by kernel_rfl)
            clear hd
            simp only [List.take_succ_cons, List.take_zero, fillOf, Act.put, List.setIfInBounds_toArray, List.set_cons_zero, List.set_cons_succ, Nat.reduceAdd, Nat.zero_add] at hK ⊢
            try generalize xF 1 = yy1 at *
            obtain rfl := dd1
            obtain hbR := id hR
            rw [if_pos (by rfl)]
            go_simp
            exact hK.out _ _ (Below.refl _ _) (rfl) (fun _ _ _ => ⟨trivial, trivial⟩)
          refine FlowAll.cons ?_ ?_
          · intro xF wx hR hd K hK
            have dd2 : ((xF 2) = .pointer (some ⟨ba, oa, none⟩)) := hd 2 (by kernel_rfl)
            clear hd
            simp only [List.take_succ_cons, List.take_zero, fillOf, Act.put, List.setIfInBounds_toArray, List.set_cons_zero, List.set_cons_succ, Nat.reduceAdd, Nat.zero_add] at hK ⊢
            try generalize xF 2 = yy2 at *
            obtain rfl := dd2
            obtain hbR := id hR
            have y0 : wx.cell? ⟨ba, oa, none⟩ = _ := HQ.out _ hbR 0 _ rfl
            have y1 := HQ.out _ hbR 1 _ rfl
            have y2 := HQ.out _ hbR 2 _ rfl
            have y3 := HQ.out _ hbR 3 _ rfl
            rw [if_pos (by rfl)]
            go_simp
            exact hK.out _ _ (Below.refl _ _) (rfl) (fun _ _ _ => ⟨trivial, trivial⟩)
          refine FlowAll.cons ?_ ?_
          · intro xF wx hR hd K hK
            clear hd
            simp only [List.take_succ_cons, List.take_zero, fillOf, Act.put, List.setIfInBounds_toArray, List.set_cons_zero, List.set_cons_succ, Nat.reduceAdd, Nat.zero_add] at hK ⊢
            obtain hbR := id hR
            have hxa := (hbR.block _ (lt_of_block X3.out)).trans X3.out
            have c9 := boxc hxa 0 _ rfl
            clear hxa
            rw [if_pos (by rfl)]
            go_simp
            exact hK.out _ _ (Below.refl _ _) (rfl) (fun _ _ _ => ⟨trivial, trivial⟩)
          refine FlowAll.cons ?_ ?_
          · intro xF wx hR hd K hK
            have dd3 : ((xF 3) = .agg #[.int .i64 xk, .slice lo1 ln1 lc1, .int .i64 xa, .slice ko1 kn1 kc1]) := hd 3 (by kernel_rfl)
            have dd4 : ((xF 4) = .int .i64 n) := hd 4 (by kernel_rfl)
            clear hd
            simp only [List.take_succ_cons, List.take_zero, fillOf, Act.put, List.setIfInBounds_toArray, List.set_cons_zero, List.set_cons_succ, Nat.reduceAdd, Nat.zero_add] at hK ⊢
            try generalize xF 3 = yy3 at *
            try generalize xF 4 = yy4 at *
            obtain rfl := dd3
            obtain rfl := dd4
            obtain hbR := id hR
            rw [if_pos (by rfl)]
            go_simp
            (go_at_call 47; (with_reducible refine (HC1.out _ hbR).mono ?_); rintro e wK ⟨rfl, hbK⟩)
            try go_wp2_with fail
            exact hK.out _ _ (hbK) (rfl) (fun _ _ _ => ⟨trivial, trivial⟩)
          refine FlowAll.cons ?_ ?_
          · intro xF wx hR hd K hK
            have dd5 : ((xF 5) = .bool false) := hd 5 (by kernel_rfl)
            clear hd
            simp only [List.take_succ_cons, List.take_zero, fillOf, Act.put, List.setIfInBounds_toArray, List.set_cons_zero, List.set_cons_succ, Nat.reduceAdd, Nat.zero_add] at hK ⊢
            try generalize xF 5 = yy5 at *
            obtain rfl := dd5
            obtain hbR := id hR
            rw [if_pos (by rfl)]
            go_simp
            exact hK.out _ _ (Below.refl _ _) (rfl) (fun _ _ _ => ⟨trivial, trivial⟩)
          refine FlowAll.cons ?_ ?_
          · intro xF wx hR hd K hK
            have dd6 : ((xF 6) = .bool false) := hd 6 (by kernel_rfl)
            clear hd
            simp only [List.take_succ_cons, List.take_zero, fillOf, Act.put, List.setIfInBounds_toArray, List.set_cons_zero, List.set_cons_succ, Nat.reduceAdd, Nat.zero_add] at hK ⊢
            try generalize xF 6 = yy6 at *
            obtain rfl := dd6
            obtain hbR := id hR
            rw [if_neg (by intro h; exact absurd (show false = true from h) Bool.false_ne_true)]
            try simp only [Act.put, List.setIfInBounds_toArray, List.set_cons_zero, List.set_cons_succ]
            exact hK.out _ _ (Below.refl _ _) (rfl) (fun _ _ _ => ⟨trivial, trivial⟩)
          refine FlowAll.cons ?_ ?_
          · intro xF wx hR hd K hK
            have dd6 : ((xF 6) = .bool false) := hd 6 (by kernel_rfl)
            clear hd
            simp only [List.take_succ_cons, List.take_zero, fillOf, Act.put, List.setIfInBounds_toArray, List.set_cons_zero, List.set_cons_succ, Nat.reduceAdd, Nat.zero_add] at hK ⊢
            try generalize xF 6 = yy6 at *
            obtain rfl := dd6
            obtain hbR := id hR
            rw [if_neg (by intro h; exact absurd (show false = true from h) Bool.false_ne_true)]
            try simp only [Act.put, List.setIfInBounds_toArray, List.set_cons_zero, List.set_cons_succ]
            exact hK.out _ _ (Below.refl _ _) (rfl) (fun _ _ _ => ⟨trivial, trivial⟩)
          refine FlowAll.cons ?_ ?_
          · intro xF wx hR hd K hK
            have dd6 : ((xF 6) = .bool false) := hd 6 (by kernel_rfl)
            clear hd
            simp only [List.take_succ_cons, List.take_zero, fillOf, Act.put, List.setIfInBounds_toArray, List.set_cons_zero, List.set_cons_succ, Nat.reduceAdd, Nat.zero_add] at hK ⊢
            try generalize xF 6 = yy6 at *
            obtain rfl := dd6
            obtain hbR := id hR
            rw [if_neg (by intro h; exact absurd (show false = true from h) Bool.false_ne_true)]
            try simp only [Act.put, List.setIfInBounds_toArray, List.set_cons_zero, List.set_cons_succ]
            exact hK.out _ _ (Below.refl _ _) (rfl) (fun _ _ _ => ⟨trivial, trivial⟩)
          refine FlowAll.cons ?_ ?_
          · intro xF wx hR hd K hK
            have dd6 : ((xF 6) = .bool false) := hd 6 (by kernel_rfl)
            clear hd
            simp only [List.take_succ_cons, List.take_zero, fillOf, Act.put, List.setIfInBounds_toArray, List.set_cons_zero, List.set_cons_succ, Nat.reduceAdd, Nat.zero_add] at hK ⊢
            try generalize xF 6 = yy6 at *
            obtain rfl := dd6
            obtain hbR := id hR
            rw [if_neg (by intro h; exact absurd (show false = true from h) Bool.false_ne_true)]
            try simp only [Act.put, List.setIfInBounds_toArray, List.set_cons_zero, List.set_cons_succ]
            exact hK.out _ _ (Below.refl _ _) (rfl) (fun _ _ _ => ⟨trivial, trivial⟩)
          refine FlowAll.cons ?_ ?_
          · intro xF wx hR hd K hK
            have dd6 : ((xF 6) = .bool false) := hd 6 (by kernel_rfl)
            clear hd
            simp only [List.take_succ_cons, List.take_zero, fillOf, Act.put, List.setIfInBounds_toArray, List.set_cons_zero, List.set_cons_succ, Nat.reduceAdd, Nat.zero_add] at hK ⊢
            try generalize xF 6 = yy6 at *
            obtain rfl := dd6
            obtain hbR := id hR
            rw [if_neg (by intro h; exact absurd (show false = true from h) Bool.false_ne_true)]
            try simp only [Act.put, List.setIfInBounds_toArray, List.set_cons_zero, List.set_cons_succ]
            exact hK.out _ _ (Below.refl _ _) (rfl) (fun _ _ _ => ⟨trivial, trivial⟩)
          refine FlowAll.cons ?_ ?_
          · intro xF wx hR hd K hK
            have dd6 : ((xF 6) = .bool false) := hd 6 (by kernel_rfl)
            clear hd
            simp only [List.take_succ_cons, List.take_zero, fillOf, Act.put, List.setIfInBounds_toArray, List.set_cons_zero, List.set_cons_succ, Nat.reduceAdd, Nat.zero_add] at hK ⊢
            try generalize xF 6 = yy6 at *
            obtain rfl := dd6
            obtain hbR := id hR
            rw [if_neg (by intro h; exact absurd (show false = true from h) Bool.false_ne_true)]
            try simp only [Act.put, List.setIfInBounds_toArray, List.set_cons_zero, List.set_cons_succ]
            exact hK.out _ _ (Below.refl _ _) (rfl) (fun _ _ _ => ⟨trivial, trivial⟩)
          refine FlowAll.cons ?_ ?_
          · intro xF wx hR hd K hK
            have dd6 : ((xF 6) = .bool false) := hd 6 (by kernel_rfl)
            have dd12 : ((xF 12) = undef) := hd 12 (by kernel_rfl)
            clear hd
            simp only [List.take_succ_cons, List.take_zero, fillOf, Act.put, List.setIfInBounds_toArray, List.set_cons_zero, List.set_cons_succ, Nat.reduceAdd, Nat.zero_add] at hK ⊢
            try generalize xF 6 = yy6 at *
            try generalize xF 12 = yy12 at *
            obtain rfl := dd6
            obtain rfl := dd12
            obtain hbR := id hR
            rw [if_pos (by rfl)]
            go_simp
            exact hK.out _ _ (Below.refl _ _) (rfl) (fun _ _ _ => ⟨trivial, trivial⟩)
          exact FlowAll.nil
        intro xF wx hR hF hP
        clear hP
        have dd0 : ((xF 0) = .pointer (some ⟨q0, 3, none⟩)) := hF 0 (by omega) (by decide)
        have dd1 : ((xF 1) = .slice (some ⟨ba, oa, none⟩) kn kc) := hF 1 (by omega) (by decide)
        have dd2 : ((xF 2) = .pointer (some ⟨ba, oa, none⟩)) := hF 2 (by omega) (by decide)
        have dd3 : ((xF 3) = .agg #[.int .i64 xk, .slice lo1 ln1 lc1, .int .i64 xa, .slice ko1 kn1 kc1]) := hF 3 (by omega) (by decide)
        have dd4 : ((xF 4) = .int .i64 n) := hF 4 (by omega) (by decide)
        have dd5 : ((xF 5) = .bool false) := hF 5 (by omega) (by decide)
        have dd6 : ((xF 6) = .bool false) := hF 6 (by omega) (by decide)
        have dd7 : ((xF 7) = undef) := hF 7 (by omega) (by decide)
        have dd8 : ((xF 8) = undef) := hF 8 (by omega) (by decide)
        have dd9 : ((xF 9) = undef) := hF 9 (by omega) (by decide)
        have dd10 : ((xF 10) = undef) := hF 10 (by omega) (by decide)
        have dd11 : ((xF 11) = undef) := hF 11 (by omega) (by decide)
        have dd12 : ((xF 12) = undef) := hF 12 (by omega) (by decide)
        have dd13 : ((xF 13) = .bool false) := hF 13 (by omega) (by decide)
        clear hF
        simp only [List.take_succ_cons, List.take_zero, List.drop_succ_cons, List.drop_zero, fillOf, Act.put, List.setIfInBounds_toArray, List.set_cons_zero, List.set_cons_succ, Nat.reduceAdd, Nat.zero_add]
        try generalize xF 0 = yy0 at *
        try generalize xF 1 = yy1 at *
        try generalize xF 2 = yy2 at *
        try generalize xF 3 = yy3 at *
        try generalize xF 4 = yy4 at *
        try generalize xF 5 = yy5 at *
        try generalize xF 6 = yy6 at *
        try generalize xF 7 = yy7 at *
        try generalize xF 8 = yy8 at *
        try generalize xF 9 = yy9 at *
        try generalize xF 10 = yy10 at *
        try generalize xF 11 = yy11 at *
        try generalize xF 12 = yy12 at *
        try generalize xF 13 = yy13 at *
        clear xF
        obtain rfl := dd0
        obtain rfl := dd1
        obtain rfl := dd2
        obtain rfl := dd3
        obtain rfl := dd4
        obtain rfl := dd5
        obtain rfl := dd6
        obtain rfl := dd7
        obtain rfl := dd8
        obtain rfl := dd9
        obtain rfl := dd10
        obtain rfl := dd11
        obtain rfl := dd12
        obtain rfl := dd13
        have hRE := Lib.hid hR
        clear hR
        go_wp2
        go_ret
        exact ⟨rfl, B2.out.trans (hRE.out.mono B2.out.size)⟩
      | true =>
        cases r2 with
        | false =>
          go_enter Try.func47, Try.ntmps47
          go_wp2
          rw [← HW2.out, ← HQ0.out]
          clear c0 c1 c2 c3 c4
          refine wp_flow 14 (fun _ => 1000) (fun ww => RowKit.Below W2.heap.size W2 ww) (fun _ w w' => (fun (w w' : World) => RowKit.Below w.heap.size w w') w w') (fun kF vF wF => match kF with | 0 => (vF = .pointer (some ⟨q0, 3, none⟩)) | 1 => (vF = .slice (some ⟨ba, oa, none⟩) kn kc) | 2 => (vF = .pointer (some ⟨ba, oa, none⟩)) | 3 => (vF = .agg #[.int .i64 xk, .slice lo1 ln1 lc1, .int .i64 xa, .slice ko1 kn1 kc1]) | 4 => (vF = .int .i64 n) | 5 => (vF = .bool true) | 6 => (vF = .bool true) | 7 => (vF = .pointer (some ⟨q0, 3, none⟩)) | 8 => (vF = .slice (some ⟨ba, oa, none⟩) kn kc) | 9 => (∃ sp cp, vF = .slice sp (kn - 1) cp ∧ ∀ W, RowKit.Below W2.heap.size W2 W → RowsAt 4 (curR d) W W.heap.size (.slice sp (kn - 1) cp) r) | 10 => (vF = .int .i64 n) | 11 => (vF = .bool false) | 12 => (vF = .bool true) | 13 => (vF = .bool true) | _ => True) (fun _ _ _ _ => True) (by kernel_rfl) (by kernel_rfl) ?_ ?_ ?_ ?_ ?_
          · exact (Below.refl _ _).drew
          · intro iF wF1 wF2 hR hT; exact hR.trans (hT.mono hR.size)
          · intro kF hkF iF hiF hne hdd hanc hdan vF wF1 wF2 h hT
            rcases (by omega : kF = 0 ∨ kF = 1 ∨ kF = 2 ∨ kF = 3 ∨ kF = 4 ∨ kF = 5 ∨ kF = 6 ∨ kF = 7 ∨ kF = 8 ∨ kF = 9 ∨ kF = 10 ∨ kF = 11 ∨ kF = 12 ∨ kF = 13) with rfl | rfl | rfl | rfl | rfl | rfl | rfl | rfl | rfl | rfl | rfl | rfl | rfl | rfl
            · exact h
            · exact h
            · exact h
            · exact h
            · exact h
            · exact h
            · exact h
            · exact h
            · exact h
            · exact h
            · exact h
            · exact h
            · exact h
            · exact h
          · refine FlowAll.cons ?_ ?_
            · intro xF wx hR hd K hK
              clear hd
              simp only [List.take_succ_cons, List.take_zero, fillOf, Act.put, List.setIfInBounds_toArray, List.set_cons_zero, List.set_cons_succ, Nat.reduceAdd, Nat.zero_add] at hK ⊢
              obtain hbR := id hR
              rw [if_pos (by rfl)]
              go_simp
              exact hK.out _ _ (Below.refl _ _) (rfl) (fun _ _ _ => ⟨trivial, trivial⟩)
            refine FlowAll.cons ?_ ?_
            · intro xF wx hR hd K hK
              have dd0 : ((xF 0) = .pointer (some ⟨q0, 3, none⟩)) := hd 0 (by kernel_rfl)
              clear hd
              simp only [List.take_succ_cons, List.take_zero, fillOf, Act.put, List.setIfInBounds_toArray, List.set_cons_zero, List.set_cons_succ, Nat.reduceAdd, Nat.zero_add] at hK ⊢
              try generalize xF 0 = yy0 at *
              obtain rfl := dd0
              obtain hbR := id hR
              have hxa := (hbR.block _ (lt_of_block X2.out)).trans X2.out
              have c9 := boxc hxa 3 _ rfl
              clear hxa
              rw [if_pos (by rfl)]
              go_simp
              exact hK.out _ _ (Below.refl _ _) (rfl) (fun _ _ _ => ⟨trivial, trivial⟩)
            refine FlowAll.cons ?_ ?_
            · intro xF wx hR hd K hK
              have dd1 : ((xF 1) = .slice (some ⟨ba, oa, none⟩) kn kc) := hd 1 (by kernel_rfl)
              clear hd
              simp only [List.take_succ_cons, List.take_zero, fillOf, Act.put, List.setIfInBounds_toArray, List.set_cons_zero, List.set_cons_succ, Nat.reduceAdd, Nat.zero_add] at hK ⊢
              try generalize xF 1 = yy1 at *
              obtain rfl := dd1
              obtain hbR := id hR
              rw [if_pos (by rfl)]
              go_simp
              exact hK.out _ _ (Below.refl _ _) (rfl) (fun _ _ _ => ⟨trivial, trivial⟩)
            refine FlowAll.cons ?_ ?_
            · intro xF wx hR hd K hK
              have dd2 : ((xF 2) = .pointer (some ⟨ba, oa, none⟩)) := hd 2 (by kernel_rfl)
              clear hd
              simp only [List.take_succ_cons, List.take_zero, fillOf, Act.put, List.setIfInBounds_toArray, List.set_cons_zero, List.set_cons_succ, Nat.reduceAdd, Nat.zero_add] at hK ⊢
              try generalize xF 2 = yy2 at *
              obtain rfl := dd2
              obtain hbR := id hR
              have y0 : wx.cell? ⟨ba, oa, none⟩ = _ := HQ.out _ hbR 0 _ rfl
              have y1 := HQ.out _ hbR 1 _ rfl
              have y2 := HQ.out _ hbR 2 _ rfl
              have y3 := HQ.out _ hbR 3 _ rfl
              rw [if_pos (by rfl)]
              go_simp
              exact hK.out _ _ (Below.refl _ _) (rfl) (fun _ _ _ => ⟨trivial, trivial⟩)
            refine FlowAll.cons ?_ ?_
            · intro xF wx hR hd K hK
              clear hd
              simp only [List.take_succ_cons, List.take_zero, fillOf, Act.put, List.setIfInBounds_toArray, List.set_cons_zero, List.set_cons_succ, Nat.reduceAdd, Nat.zero_add] at hK ⊢
              obtain hbR := id hR
              have hxa := (hbR.block _ (lt_of_block X3.out)).trans X3.out
              have c9 := boxc hxa 0 _ rfl
              clear hxa
              rw [if_pos (by rfl)]
              go_simp
              exact hK.out _ _ (Below.refl _ _) (rfl) (fun _ _ _ => ⟨trivial, trivial⟩)
            refine FlowAll.cons ?_ ?_
            · intro xF wx hR hd K hK
              have dd3 : ((xF 3) = .agg #[.int .i64 xk, .slice lo1 ln1 lc1, .int .i64 xa, .slice ko1 kn1 kc1]) := hd 3 (by kernel_rfl)
              have dd4 : ((xF 4) = .int .i64 n) := hd 4 (by kernel_rfl)
              clear hd
              simp only [List.take_succ_cons, List.take_zero, fillOf, Act.put, List.setIfInBounds_toArray, List.set_cons_zero, List.set_cons_succ, Nat.reduceAdd, Nat.zero_add] at hK ⊢
              try generalize xF 3 = yy3 at *
              try generalize xF 4 = yy4 at *
              obtain rfl := dd3
              obtain rfl := dd4
              obtain hbR := id hR
              rw [if_pos (by rfl)]
              go_simp
              (go_at_call 47; (with_reducible refine (HC1.out _ hbR).mono ?_); rintro e wK ⟨rfl, hbK⟩)
              try go_wp2_with fail
              exact hK.out _ _ (hbK) (rfl) (fun _ _ _ => ⟨trivial, trivial⟩)
            refine FlowAll.cons ?_ ?_
            · intro xF wx hR hd K hK
              have dd5 : ((xF 5) = .bool true) := hd 5 (by kernel_rfl)
              clear hd
              simp only [List.take_succ_cons, List.take_zero, fillOf, Act.put, List.setIfInBounds_toArray, List.set_cons_zero, List.set_cons_succ, Nat.reduceAdd, Nat.zero_add] at hK ⊢
              try generalize xF 5 = yy5 at *
              obtain rfl := dd5
              obtain hbR := id hR
              rw [if_pos (by rfl)]
              go_simp
              exact hK.out _ _ (Below.refl _ _) (rfl) (fun _ _ _ => ⟨trivial, trivial⟩)
            refine FlowAll.cons ?_ ?_
            · intro xF wx hR hd K hK
              have dd6 : ((xF 6) = .bool true) := hd 6 (by kernel_rfl)
              clear hd
              simp only [List.take_succ_cons, List.take_zero, fillOf, Act.put, List.setIfInBounds_toArray, List.set_cons_zero, List.set_cons_succ, Nat.reduceAdd, Nat.zero_add] at hK ⊢
              try generalize xF 6 = yy6 at *
              obtain rfl := dd6
              obtain hbR := id hR
              rw [if_pos (by rfl)]
              go_simp
              exact hK.out _ _ (Below.refl _ _) (rfl) (fun _ _ _ => ⟨trivial, trivial⟩)
            refine FlowAll.cons ?_ ?_
            · intro xF wx hR hd K hK
              have dd6 : ((xF 6) = .bool true) := hd 6 (by kernel_rfl)
              have dd7 : ((xF 7) = .pointer (some ⟨q0, 3, none⟩)) := hd 7 (by kernel_rfl)
              clear hd
              simp only [List.take_succ_cons, List.take_zero, fillOf, Act.put, List.setIfInBounds_toArray, List.set_cons_zero, List.set_cons_succ, Nat.reduceAdd, Nat.zero_add] at hK ⊢
              try generalize xF 6 = yy6 at *
              try generalize xF 7 = yy7 at *
              obtain rfl := dd6
              obtain rfl := dd7
              obtain hbR := id hR
              have hxa := (hbR.block _ (lt_of_block X2.out)).trans X2.out
              have c9 := boxc hxa 3 _ rfl
              clear hxa
              rw [if_pos (by rfl)]
              go_simp
              exact hK.out _ _ (Below.refl _ _) (rfl) (fun _ _ _ => ⟨trivial, trivial⟩)
            refine FlowAll.cons ?_ ?_
            · intro xF wx hR hd K hK
              have dd6 : ((xF 6) = .bool true) := hd 6 (by kernel_rfl)
              have dd8 : ((xF 8) = .slice (some ⟨ba, oa, none⟩) kn kc) := hd 8 (by kernel_rfl)
              clear hd
              simp only [List.take_succ_cons, List.take_zero, fillOf, Act.put, List.setIfInBounds_toArray, List.set_cons_zero, List.set_cons_succ, Nat.reduceAdd, Nat.zero_add] at hK ⊢
              try generalize xF 6 = yy6 at *
              try generalize xF 8 = yy8 at *
              obtain rfl := dd6
              obtain rfl := dd8
              obtain hbR := id hR
              rw [if_pos (by rfl)]
              go_simp
              exact hK.out _ _ (Below.refl _ _) (⟨_, _, rfl, fun W hW => rows_drop (n := kn) (i := 1) (HRW.out W hW) HKN.out e3 (by omega) (fun b o e h => by simp only [Option.some.injEq, Addr.mk.injEq] at e; obtain ⟨rfl, rfl, _⟩ := e; first | rfl | (rw [if_neg (by omega)]) | simp) (by first | (intro h; cases h; done) | (split <;> simp))⟩) (fun _ _ _ => ⟨trivial, trivial⟩)
            refine FlowAll.cons ?_ ?_
            · intro xF wx hR hd K hK
              have dd6 : ((xF 6) = .bool true) := hd 6 (by kernel_rfl)
              clear hd
              simp only [List.take_succ_cons, List.take_zero, fillOf, Act.put, List.setIfInBounds_toArray, List.set_cons_zero, List.set_cons_succ, Nat.reduceAdd, Nat.zero_add] at hK ⊢
              try generalize xF 6 = yy6 at *
              obtain rfl := dd6
              obtain hbR := id hR
              have hxa := (hbR.block _ (lt_of_block X3.out)).trans X3.out
              have c9 := boxc hxa 0 _ rfl
              clear hxa
              rw [if_pos (by rfl)]
              go_simp
              exact hK.out _ _ (Below.refl _ _) (rfl) (fun _ _ _ => ⟨trivial, trivial⟩)
            refine FlowAll.cons ?_ ?_
            · intro xF wx hR hd K hK
              have dd6 : ((xF 6) = .bool true) := hd 6 (by kernel_rfl)
              have dd9 : (∃ sp cp, (xF 9) = .slice sp (kn - 1) cp ∧ ∀ W, RowKit.Below W2.heap.size W2 W → RowsAt 4 (curR d) W W.heap.size (.slice sp (kn - 1) cp) r) := hd 9 (by kernel_rfl)
              have dd10 : ((xF 10) = .int .i64 n) := hd 10 (by kernel_rfl)
              clear hd
              simp only [List.take_succ_cons, List.take_zero, fillOf, Act.put, List.setIfInBounds_toArray, List.set_cons_zero, List.set_cons_succ, Nat.reduceAdd, Nat.zero_add] at hK ⊢
              try generalize xF 6 = yy6 at *
              try generalize xF 9 = yy9 at *
              try generalize xF 10 = yy10 at *
              obtain rfl := dd6
              obtain ⟨sp, cp, rfl, hat⟩ := dd9
              obtain rfl := dd10
              obtain hbR := id hR
              rw [if_pos (by rfl)]
              go_simp
              (go_at_call 57; (with_reducible refine (HC2.out _ _ _ (hat _ hbR)).mono ?_); rintro e wK ⟨rfl, hbK⟩)
              try go_wp2_with fail
              exact hK.out _ _ (hbK) (rfl) (fun _ _ _ => ⟨trivial, trivial⟩)
            refine FlowAll.cons ?_ ?_
            · intro xF wx hR hd K hK
              have dd6 : ((xF 6) = .bool true) := hd 6 (by kernel_rfl)
              have dd11 : ((xF 11) = .bool false) := hd 11 (by kernel_rfl)
              clear hd
              simp only [List.take_succ_cons, List.take_zero, fillOf, Act.put, List.setIfInBounds_toArray, List.set_cons_zero, List.set_cons_succ, Nat.reduceAdd, Nat.zero_add] at hK ⊢
              try generalize xF 6 = yy6 at *
              try generalize xF 11 = yy11 at *
              obtain rfl := dd6
              obtain rfl := dd11
              obtain hbR := id hR
              rw [if_pos (by rfl)]
              go_simp
              exact hK.out _ _ (Below.refl _ _) (rfl) (fun _ _ _ => ⟨trivial, trivial⟩)
            refine FlowAll.cons ?_ ?_
            · intro xF wx hR hd K hK
              have dd6 : ((xF 6) = .bool true) := hd 6 (by kernel_rfl)
              have dd12 : ((xF 12) = .bool true) := hd 12 (by kernel_rfl)
              clear hd
              simp only [List.take_succ_cons, List.take_zero, fillOf, Act.put, List.setIfInBounds_toArray, List.set_cons_zero, List.set_cons_succ, Nat.reduceAdd, Nat.zero_add] at hK ⊢
              try generalize xF 6 = yy6 at *
              try generalize xF 12 = yy12 at *
              obtain rfl := dd6
              obtain rfl := dd12
              obtain hbR := id hR
              rw [if_pos (by rfl)]
              go_simp
              exact hK.out _ _ (Below.refl _ _) (rfl) (fun _ _ _ => ⟨trivial, trivial⟩)
            exact FlowAll.nil
          intro xF wx hR hF hP
          clear hP
          have dd0 : ((xF 0) = .pointer (some ⟨q0, 3, none⟩)) := hF 0 (by omega) (by decide)
          have dd1 : ((xF 1) = .slice (some ⟨ba, oa, none⟩) kn kc) := hF 1 (by omega) (by decide)
          have dd2 : ((xF 2) = .pointer (some ⟨ba, oa, none⟩)) := hF 2 (by omega) (by decide)
          have dd3 : ((xF 3) = .agg #[.int .i64 xk, .slice lo1 ln1 lc1, .int .i64 xa, .slice ko1 kn1 kc1]) := hF 3 (by omega) (by decide)
          have dd4 : ((xF 4) = .int .i64 n) := hF 4 (by omega) (by decide)
          have dd5 : ((xF 5) = .bool true) := hF 5 (by omega) (by decide)
          have dd6 : ((xF 6) = .bool true) := hF 6 (by omega) (by decide)
          have dd7 : ((xF 7) = .pointer (some ⟨q0, 3, none⟩)) := hF 7 (by omega) (by decide)
          have dd8 : ((xF 8) = .slice (some ⟨ba, oa, none⟩) kn kc) := hF 8 (by omega) (by decide)
          have dd9 : (∃ sp cp, (xF 9) = .slice sp (kn - 1) cp ∧ ∀ W, RowKit.Below W2.heap.size W2 W → RowsAt 4 (curR d) W W.heap.size (.slice sp (kn - 1) cp) r) := hF 9 (by omega) (by decide)
          have dd10 : ((xF 10) = .int .i64 n) := hF 10 (by omega) (by decide)
          have dd11 : ((xF 11) = .bool false) := hF 11 (by omega) (by decide)
          have dd12 : ((xF 12) = .bool true) := hF 12 (by omega) (by decide)
          have dd13 : ((xF 13) = .bool true) := hF 13 (by omega) (by decide)
          clear hF
          simp only [List.take_succ_cons, List.take_zero, List.drop_succ_cons, List.drop_zero, fillOf, Act.put, List.setIfInBounds_toArray, List.set_cons_zero, List.set_cons_succ, Nat.reduceAdd, Nat.zero_add]
          try generalize xF 0 = yy0 at *
          try generalize xF 1 = yy1 at *
          try generalize xF 2 = yy2 at *
          try generalize xF 3 = yy3 at *
          try generalize xF 4 = yy4 at *
          try generalize xF 5 = yy5 at *
          try generalize xF 6 = yy6 at *
          try generalize xF 7 = yy7 at *
          try generalize xF 8 = yy8 at *
          try generalize xF 9 = yy9 at *
          try generalize xF 10 = yy10 at *
          try generalize xF 11 = yy11 at *
          try generalize xF 12 = yy12 at *
          try generalize xF 13 = yy13 at *
          clear xF
          obtain rfl := dd0
          obtain rfl := dd1
          obtain rfl := dd2
          obtain rfl := dd3
          obtain rfl := dd4
          obtain rfl := dd5
          obtain rfl := dd6
          obtain rfl := dd7
          obtain rfl := dd8
          obtain ⟨sp, cp, rfl, hat⟩ := dd9
          obtain rfl := dd10
          obtain rfl := dd11
          obtain rfl := dd12
          obtain rfl := dd13
          have hRE := Lib.hid hR
          clear hR
          go_wp2
          go_ret
          exact ⟨rfl, B2.out.trans (hRE.out.mono B2.out.size)⟩
        | true =>
          go_enter Try.func47, Try.ntmps47
          go_wp2
          rw [← HW2.out, ← HQ0.out]
          clear c0 c1 c2 c3 c4
          refine wp_flow 14 (fun _ => 1000) (fun ww => RowKit.Below W2.heap.size W2 ww) (fun _ w w' => (fun (w w' : World) => RowKit.Below w.heap.size w w') w w') (fun kF vF wF => match kF with | 0 => (vF = .pointer (some ⟨q0, 3, none⟩)) | 1 => (vF = .slice (some ⟨ba, oa, none⟩) kn kc) | 2 => (vF = .pointer (some ⟨ba, oa, none⟩)) | 3 => (vF = .agg #[.int .i64 xk, .slice lo1 ln1 lc1, .int .i64 xa, .slice ko1 kn1 kc1]) | 4 => (vF = .int .i64 n) | 5 => (vF = .bool true) | 6 => (vF = .bool true) | 7 => (vF = .pointer (some ⟨q0, 3, none⟩)) | 8 => (vF = .slice (some ⟨ba, oa, none⟩) kn kc) | 9 => (∃ sp cp, vF = .slice sp (kn - 1) cp ∧ ∀ W, RowKit.Below W2.heap.size W2 W → RowsAt 4 (curR d) W W.heap.size (.slice sp (kn - 1) cp) r) | 10 => (vF = .int .i64 n) | 11 => (vF = .bool true) | 12 => (vF = .bool false) | 13 => (vF = .bool false) | _ => True) (fun _ _ _ _ => True) (by kernel_rfl) (by kernel_rfl) ?_ ?_ ?_ ?_ ?_
          · exact (Below.refl _ _).drew
          · intro iF wF1 wF2 hR hT; exact hR.trans (hT.mono hR.size)
          · intro kF hkF iF hiF hne hdd hanc hdan vF wF1 wF2 h hT
            rcases (by omega : kF = 0 ∨ kF = 1 ∨ kF = 2 ∨ kF = 3 ∨ kF = 4 ∨ kF = 5 ∨ kF = 6 ∨ kF = 7 ∨ kF = 8 ∨ kF = 9 ∨ kF = 10 ∨ kF = 11 ∨ kF = 12 ∨ kF = 13) with rfl | rfl | rfl | rfl | rfl | rfl | rfl | rfl | rfl | rfl | rfl | rfl | rfl | rfl
            · exact h
            · exact h
            · exact h
            · exact h
            · exact h
            · exact h
            · exact h
            · exact h
            · exact h
            · exact h
            · exact h
            · exact h
            · exact h
            · exact h
          · refine FlowAll.cons ?_ ?_
            · intro xF wx hR hd K hK
              clear hd
              simp only [List.take_succ_cons, List.take_zero, fillOf, Act.put, List.setIfInBounds_toArray, List.set_cons_zero, List.set_cons_succ, Nat.reduceAdd, Nat.zero_add] at hK ⊢
              obtain hbR := id hR
              rw [if_pos (by rfl)]
              go_simp
              exact hK.out _ _ (Below.refl _ _) (rfl) (fun _ _ _ => ⟨trivial, trivial⟩)
            refine FlowAll.cons ?_ ?_
            · intro xF wx hR hd K hK
              have dd0 : ((xF 0) = .pointer (some ⟨q0, 3, none⟩)) := hd 0 (by kernel_rfl)
              clear hd
              simp only [List.take_succ_cons, List.take_zero, fillOf, Act.put, List.setIfInBounds_toArray, List.set_cons_zero, List.set_cons_succ, Nat.reduceAdd, Nat.zero_add] at hK ⊢
              try generalize xF 0 = yy0 at *
              obtain rfl := dd0
              obtain hbR := id hR
              have hxa := (hbR.block _ (lt_of_block X2.out)).trans X2.out
              have c9 := boxc hxa 3 _ rfl
              clear hxa
              rw [if_pos (by rfl)]
              go_simp
              exact hK.out _ _ (Below.refl _ _) (rfl) (fun _ _ _ => ⟨trivial, trivial⟩)
            refine FlowAll.cons ?_ ?_
            · intro xF wx hR hd K hK
              have dd1 : ((xF 1) = .slice (some ⟨ba, oa, none⟩) kn kc) := hd 1 (by kernel_rfl)
              clear hd
              simp only [List.take_succ_cons, List.take_zero, fillOf, Act.put, List.setIfInBounds_toArray, List.set_cons_zero, List.set_cons_succ, Nat.reduceAdd, Nat.zero_add] at hK ⊢
              try generalize xF 1 = yy1 at *
              obtain rfl := dd1
              obtain hbR := id hR
              rw [if_pos (by rfl)]
              go_simp
              exact hK.out _ _ (Below.refl _ _) (rfl) (fun _ _ _ => ⟨trivial, trivial⟩)
            refine FlowAll.cons ?_ ?_
            · intro xF wx hR hd K hK
              have dd2 : ((xF 2) = .pointer (some ⟨ba, oa, none⟩)) := hd 2 (by kernel_rfl)
              clear hd
              simp only [List.take_succ_cons, List.take_zero, fillOf, Act.put, List.setIfInBounds_toArray, List.set_cons_zero, List.set_cons_succ, Nat.reduceAdd, Nat.zero_add] at hK ⊢
              try generalize xF 2 = yy2 at *
              obtain rfl := dd2
              obtain hbR := id hR
              have y0 : wx.cell? ⟨ba, oa, none⟩ = _ := HQ.out _ hbR 0 _ rfl
              have y1 := HQ.out _ hbR 1 _ rfl
              have y2 := HQ.out _ hbR 2 _ rfl
              have y3 := HQ.out _ hbR 3 _ rfl
              rw [if_pos (by rfl)]
              go_simp
              exact hK.out _ _ (Below.refl _ _) (rfl) (fun _ _ _ => ⟨trivial, trivial⟩)
            refine FlowAll.cons ?_ ?_
            · intro xF wx hR hd K hK
              clear hd
              simp only [List.take_succ_cons, List.take_zero, fillOf, Act.put, List.setIfInBounds_toArray, List.set_cons_zero, List.set_cons_succ, Nat.reduceAdd, Nat.zero_add] at hK ⊢
              obtain hbR := id hR
              have hxa := (hbR.block _ (lt_of_block X3.out)).trans X3.out
              have c9 := boxc hxa 0 _ rfl
              clear hxa
              rw [if_pos (by rfl)]
              go_simp
              exact hK.out _ _ (Below.refl _ _) (rfl) (fun _ _ _ => ⟨trivial, trivial⟩)
            refine FlowAll.cons ?_ ?_
            · intro xF wx hR hd K hK
              have dd3 : ((xF 3) = .agg #[.int .i64 xk, .slice lo1 ln1 lc1, .int .i64 xa, .slice ko1 kn1 kc1]) := hd 3 (by kernel_rfl)
              have dd4 : ((xF 4) = .int .i64 n) := hd 4 (by kernel_rfl)
              clear hd
              simp only [List.take_succ_cons, List.take_zero, fillOf, Act.put, List.setIfInBounds_toArray, List.set_cons_zero, List.set_cons_succ, Nat.reduceAdd, Nat.zero_add] at hK ⊢
              try generalize xF 3 = yy3 at *
              try generalize xF 4 = yy4 at *
              obtain rfl := dd3
              obtain rfl := dd4
              obtain hbR := id hR
              rw [if_pos (by rfl)]
              go_simp
              (go_at_call 47; (with_reducible refine (HC1.out _ hbR).mono ?_); rintro e wK ⟨rfl, hbK⟩)
              try go_wp2_with fail
              exact hK.out _ _ (hbK) (rfl) (fun _ _ _ => ⟨trivial, trivial⟩)
            refine FlowAll.cons ?_ ?_
            · intro xF wx hR hd K hK
              have dd5 : ((xF 5) = .bool true) := hd 5 (by kernel_rfl)
              clear hd
              simp only [List.take_succ_cons, List.take_zero, fillOf, Act.put, List.setIfInBounds_toArray, List.set_cons_zero, List.set_cons_succ, Nat.reduceAdd, Nat.zero_add] at hK ⊢
              try generalize xF 5 = yy5 at *
              obtain rfl := dd5
              obtain hbR := id hR
              rw [if_pos (by rfl)]
              go_simp
              exact hK.out _ _ (Below.refl _ _) (rfl) (fun _ _ _ => ⟨trivial, trivial⟩)
            refine FlowAll.cons ?_ ?_
            · intro xF wx hR hd K hK
              have dd6 : ((xF 6) = .bool true) := hd 6 (by kernel_rfl)
              clear hd
              simp only [List.take_succ_cons, List.take_zero, fillOf, Act.put, List.setIfInBounds_toArray, List.set_cons_zero, List.set_cons_succ, Nat.reduceAdd, Nat.zero_add] at hK ⊢
              try generalize xF 6 = yy6 at *
              obtain rfl := dd6
              obtain hbR := id hR
              rw [if_pos (by rfl)]
              go_simp
              exact hK.out _ _ (Below.refl _ _) (rfl) (fun _ _ _ => ⟨trivial, trivial⟩)
            refine FlowAll.cons ?_ ?_
            · intro xF wx hR hd K hK
              have dd6 : ((xF 6) = .bool true) := hd 6 (by kernel_rfl)
              have dd7 : ((xF 7) = .pointer (some ⟨q0, 3, none⟩)) := hd 7 (by kernel_rfl)
              clear hd
              simp only [List.take_succ_cons, List.take_zero, fillOf, Act.put, List.setIfInBounds_toArray, List.set_cons_zero, List.set_cons_succ, Nat.reduceAdd, Nat.zero_add] at hK ⊢
              try generalize xF 6 = yy6 at *
              try generalize xF 7 = yy7 at *
              obtain rfl := dd6
              obtain rfl := dd7
              obtain hbR := id hR
              have hxa := (hbR.block _ (lt_of_block X2.out)).trans X2.out
              have c9 := boxc hxa 3 _ rfl
              clear hxa
              rw [if_pos (by rfl)]
              go_simp
              exact hK.out _ _ (Below.refl _ _) (rfl) (fun _ _ _ => ⟨trivial, trivial⟩)
            refine FlowAll.cons ?_ ?_
            · intro xF wx hR hd K hK
              have dd6 : ((xF 6) = .bool true) := hd 6 (by kernel_rfl)
              have dd8 : ((xF 8) = .slice (some ⟨ba, oa, none⟩) kn kc) := hd 8 (by kernel_rfl)
              clear hd
              simp only [List.take_succ_cons, List.take_zero, fillOf, Act.put, List.setIfInBounds_toArray, List.set_cons_zero, List.set_cons_succ, Nat.reduceAdd, Nat.zero_add] at hK ⊢
              try generalize xF 6 = yy6 at *
              try generalize xF 8 = yy8 at *
              obtain rfl := dd6
              obtain rfl := dd8
              obtain hbR := id hR
              rw [if_pos (by rfl)]
              go_simp
              exact hK.out _ _ (Below.refl _ _) (⟨_, _, rfl, fun W hW => rows_drop (n := kn) (i := 1) (HRW.out W hW) HKN.out e3 (by omega) (fun b o e h => by simp only [Option.some.injEq, Addr.mk.injEq] at e; obtain ⟨rfl, rfl, _⟩ := e; first | rfl | (rw [if_neg (by omega)]) | simp) (by first | (intro h; cases h; done) | (split <;> simp))⟩) (fun _ _ _ => ⟨trivial, trivial⟩)
            refine FlowAll.cons ?_ ?_
            · intro xF wx hR hd K hK
              have dd6 : ((xF 6) = .bool true) := hd 6 (by kernel_rfl)
              clear hd
              simp only [List.take_succ_cons, List.take_zero, fillOf, Act.put, List.setIfInBounds_toArray, List.set_cons_zero, List.set_cons_succ, Nat.reduceAdd, Nat.zero_add] at hK ⊢
              try generalize xF 6 = yy6 at *
              obtain rfl := dd6
              obtain hbR := id hR
              have hxa := (hbR.block _ (lt_of_block X3.out)).trans X3.out
              have c9 := boxc hxa 0 _ rfl
              clear hxa
              rw [if_pos (by rfl)]
              go_simp
              exact hK.out _ _ (Below.refl _ _) (rfl) (fun _ _ _ => ⟨trivial, trivial⟩)
            refine FlowAll.cons ?_ ?_
            · intro xF wx hR hd K hK
              have dd6 : ((xF 6) = .bool true) := hd 6 (by kernel_rfl)
              have dd9 : (∃ sp cp, (xF 9) = .slice sp (kn - 1) cp ∧ ∀ W, RowKit.Below W2.heap.size W2 W → RowsAt 4 (curR d) W W.heap.size (.slice sp (kn - 1) cp) r) := hd 9 (by kernel_rfl)
              have dd10 : ((xF 10) = .int .i64 n) := hd 10 (by kernel_rfl)
              clear hd
              simp only [List.take_succ_cons, List.take_zero, fillOf, Act.put, List.setIfInBounds_toArray, List.set_cons_zero, List.set_cons_succ, Nat.reduceAdd, Nat.zero_add] at hK ⊢
              try generalize xF 6 = yy6 at *
              try generalize xF 9 = yy9 at *
              try generalize xF 10 = yy10 at *
              obtain rfl := dd6
              obtain ⟨sp, cp, rfl, hat⟩ := dd9
              obtain rfl := dd10
              obtain hbR := id hR
              rw [if_pos (by rfl)]
              go_simp
              (go_at_call 57; (with_reducible refine (HC2.out _ _ _ (hat _ hbR)).mono ?_); rintro e wK ⟨rfl, hbK⟩)
              try go_wp2_with fail
              exact hK.out _ _ (hbK) (rfl) (fun _ _ _ => ⟨trivial, trivial⟩)
            refine FlowAll.cons ?_ ?_
            · intro xF wx hR hd K hK
              have dd6 : ((xF 6) = .bool true) := hd 6 (by kernel_rfl)
              have dd11 : ((xF 11) = .bool true) := hd 11 (by kernel_rfl)
              clear hd
              simp only [List.take_succ_cons, List.take_zero, fillOf, Act.put, List.setIfInBounds_toArray, List.set_cons_zero, List.set_cons_succ, Nat.reduceAdd, Nat.zero_add] at hK ⊢
              try generalize xF 6 = yy6 at *
              try generalize xF 11 = yy11 at *
              obtain rfl := dd6
              obtain rfl := dd11
              obtain hbR := id hR
              rw [if_pos (by rfl)]
              go_simp
              exact hK.out _ _ (Below.refl _ _) (rfl) (fun _ _ _ => ⟨trivial, trivial⟩)
            refine FlowAll.cons ?_ ?_
            · intro xF wx hR hd K hK
              have dd6 : ((xF 6) = .bool true) := hd 6 (by kernel_rfl)
              have dd12 : ((xF 12) = .bool false) := hd 12 (by kernel_rfl)
              clear hd
              simp only [List.take_succ_cons, List.take_zero, fillOf, Act.put, List.setIfInBounds_toArray, List.set_cons_zero, List.set_cons_succ, Nat.reduceAdd, Nat.zero_add] at hK ⊢
              try generalize xF 6 = yy6 at *
              try generalize xF 12 = yy12 at *
              obtain rfl := dd6
              obtain rfl := dd12
              obtain hbR := id hR
              rw [if_pos (by rfl)]
              go_simp
              exact hK.out _ _ (Below.refl _ _) (rfl) (fun _ _ _ => ⟨trivial, trivial⟩)
            exact FlowAll.nil
          intro xF wx hR hF hP
          clear hP
          have dd0 : ((xF 0) = .pointer (some ⟨q0, 3, none⟩)) := hF 0 (by omega) (by decide)
          have dd1 : ((xF 1) = .slice (some ⟨ba, oa, none⟩) kn kc) := hF 1 (by omega) (by decide)
          have dd2 : ((xF 2) = .pointer (some ⟨ba, oa, none⟩)) := hF 2 (by omega) (by decide)
          have dd3 : ((xF 3) = .agg #[.int .i64 xk, .slice lo1 ln1 lc1, .int .i64 xa, .slice ko1 kn1 kc1]) := hF 3 (by omega) (by decide)
          have dd4 : ((xF 4) = .int .i64 n) := hF 4 (by omega) (by decide)
          have dd5 : ((xF 5) = .bool true) := hF 5 (by omega) (by decide)
          have dd6 : ((xF 6) = .bool true) := hF 6 (by omega) (by decide)
          have dd7 : ((xF 7) = .pointer (some ⟨q0, 3, none⟩)) := hF 7 (by omega) (by decide)
          have dd8 : ((xF 8) = .slice (some ⟨ba, oa, none⟩) kn kc) := hF 8 (by omega) (by decide)
          have dd9 : (∃ sp cp, (xF 9) = .slice sp (kn - 1) cp ∧ ∀ W, RowKit.Below W2.heap.size W2 W → RowsAt 4 (curR d) W W.heap.size (.slice sp (kn - 1) cp) r) := hF 9 (by omega) (by decide)
          have dd10 : ((xF 10) = .int .i64 n) := hF 10 (by omega) (by decide)
          have dd11 : ((xF 11) = .bool true) := hF 11 (by omega) (by decide)
          have dd12 : ((xF 12) = .bool false) := hF 12 (by omega) (by decide)
          have dd13 : ((xF 13) = .bool false) := hF 13 (by omega) (by decide)
          clear hF
          simp only [List.take_succ_cons, List.take_zero, List.drop_succ_cons, List.drop_zero, fillOf, Act.put, List.setIfInBounds_toArray, List.set_cons_zero, List.set_cons_succ, Nat.reduceAdd, Nat.zero_add]
          try generalize xF 0 = yy0 at *
          try generalize xF 1 = yy1 at *
          try generalize xF 2 = yy2 at *
          try generalize xF 3 = yy3 at *
          try generalize xF 4 = yy4 at *
          try generalize xF 5 = yy5 at *
          try generalize xF 6 = yy6 at *
          try generalize xF 7 = yy7 at *
          try generalize xF 8 = yy8 at *
          try generalize xF 9 = yy9 at *
          try generalize xF 10 = yy10 at *
          try generalize xF 11 = yy11 at *
          try generalize xF 12 = yy12 at *
          try generalize xF 13 = yy13 at *
          clear xF
          obtain rfl := dd0
          obtain rfl := dd1
          obtain rfl := dd2
          obtain rfl := dd3
          obtain rfl := dd4
          obtain rfl := dd5
          obtain rfl := dd6
          obtain rfl := dd7
          obtain rfl := dd8
          obtain ⟨sp, cp, rfl, hat⟩ := dd9
          obtain rfl := dd10
          obtain rfl := dd11
          obtain rfl := dd12
          obtain rfl := dd13
          have hRE := Lib.hid hR
          clear hR
          go_wp2
          go_ret
          exact ⟨rfl, B2.out.trans (hRE.out.mono B2.out.size)⟩
theorem has_cu (n : Int) : ∀ (d : Nat) (x : Cur) (c : List Value) (w : World), curR d w w.heap.size c x → x.Ok → Calls Try.prog 47 #[.agg c.toArray, .int .i64 n] w (Said (has x.nums n) w)
  | 0, _, _, _, h, _ => h.elim
  | d + 1, x, c, w, h, ok => has_of d n (fun x c w h ok => has_cu n d x c w h ok) x c w h ok
end Go.Proofs.Ytojngbobecdpeaa
