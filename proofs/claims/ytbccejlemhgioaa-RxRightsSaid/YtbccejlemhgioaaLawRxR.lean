/- the law of the one form: its walk. -/
import Derived.Test.YtbccejlemhgioaaRxAwk2
import Derived.Test.YtbccejlemhgioaaRxOkZ
import Derived.Test.YtbccejlemhgioaaRxROkZ
import Derived.Test.YtbccejlemhgioaaRxSize
import Derived.Test.YtbccejlemhgioaaFlow
namespace Go.Proofs.Ytbccejlemhgioaa
open Go Go.RowKit Go.ChangeShapes cl rx
set_option maxHeartbeats 12800000 in
set_option maxRecDepth 100000 in
theorem law_rights (e : Nat) (x : Pat) (c : List Value) (w : World) (h : rxR e w w.heap.size c x) : Calls Try.prog 5 #[.agg c.toArray] w (Said true w) := by
  obtain ⟨ko, kn, kc, rfl⟩ := rx_form h
  obtain ⟨A, hA⟩ : ∃ A, A = okF 48 x := ⟨_, rfl⟩
  obtain ⟨c, hc⟩ : ∃ c : Array Value, c = #[.int .i64 x.k, .int .u64 x.cl.a, .int .u64 x.cl.b, .int .u64 x.cl.c, .int .u64 x.cl.d, .slice ko kn kc, .int .i64 x.mn, .int .i64 x.mx] := ⟨_, rfl⟩
  have HAW : Hid (∀ W, Calls Try.prog 7 #[] W (Said true W)) := awake_any
  have HS : Hid (∀ W, Below w.heap.size w W → Calls Try.prog 16 #[.agg #[.int .i64 x.k, .int .u64 x.cl.a, .int .u64 x.cl.b, .int .u64 x.cl.c, .int .u64 x.cl.d, .slice ko kn kc, .int .i64 x.mn, .int .i64 x.mx], .int .i64 60] W (SzR W)) := fun W hW => size_rx 60 e 60 x _ W rfl (by omega) (rxR_steady e _ _ _ _ _ _ h hW hW.size)
  have HR : Hid (∀ W, Below w.heap.size w W → Calls Try.prog 17 #[.agg #[.int .i64 x.k, .int .u64 x.cl.a, .int .u64 x.cl.b, .int .u64 x.cl.c, .int .u64 x.cl.d, .slice ko kn kc, .int .i64 x.mn, .int .i64 x.mx]] W (fun e w' => e = .returned (.bool A) ∧ Below W.heap.size W w')) := fun W hW => by rw [hA]; exact rx_right_any e x _ W (rxR_steady e _ _ _ _ _ _ h hW hW.size)
  have HQ : Hid (∀ W, Below w.heap.size w W → Calls Try.prog 18 #[.agg #[.int .i64 x.k, .int .u64 x.cl.a, .int .u64 x.cl.b, .int .u64 x.cl.c, .int .u64 x.cl.d, .slice ko kn kc, .int .i64 x.mn, .int .i64 x.mx]] W (fun e w' => e = .returned (.bool A) ∧ Below W.heap.size W w')) := fun W hW => by rw [hA]; exact rrx_right_any e x _ W (rxR_steady e _ _ _ _ _ _ h hW hW.size)
  obtain ⟨W2, hW2⟩ : ∃ W, W = w.alloc (.cells #[.int .i64 x.k, .int .u64 x.cl.a, .int .u64 x.cl.b, .int .u64 x.cl.c, .int .u64 x.cl.d, .slice ko kn kc, .int .i64 x.mn, .int .i64 x.mx] 28) := ⟨_, rfl⟩
  obtain ⟨q, hq⟩ : ∃ q, q = w.heap.size := ⟨_, rfl⟩
  have b2 : Below w.heap.size w W2 := by rw [hW2]; exact below1
  have x2 : W2.heap[q]? = some (.cells #[.int .i64 x.k, .int .u64 x.cl.a, .int .u64 x.cl.b, .int .u64 x.cl.c, .int .u64 x.cl.d, .slice ko kn kc, .int .i64 x.mn, .int .i64 x.mx] 28) := by rw [hW2, hq]; exact heap_alloc_new _ _
  have c0 := boxc x2 0 _ rfl
  have c1 := boxc x2 1 _ rfl
  have c2 := boxc x2 2 _ rfl
  have c3 := boxc x2 3 _ rfl
  have c4 := boxc x2 4 _ rfl
  have c5 := boxc x2 5 _ rfl
  have c6 := boxc x2 6 _ rfl
  have c7 := boxc x2 7 _ rfl
  rw [hW2, hq] at c0 c1 c2 c3 c4 c5 c6 c7
  have X2 := Lib.hid x2
  have B2 := Lib.hid b2
  have HW2 := Lib.hid hW2
  have HQE := Lib.hid hq
  clear h b2 x2 hW2 hq hA hc
  go_enter Try.func5, Try.ntmps5
  go_wp2_with fail
  rw [← HW2.out, ← HQE.out]
  (with_reducible refine (HS.out _ B2.out).mono ?_)
  rintro e3 w3 ⟨z, b, rfl, _, _, b3⟩
  have B3 := Lib.hid (B2.out.trans (b3.mono B2.out.size))
  have X3 := Lib.hid ((b3.block _ (lt_of_block X2.out)).trans X2.out)
  clear b3 c0 c1 c2 c3 c4 c5 c6 c7
  cases b with
  | false =>
    go_wp2_with fail
    (with_reducible refine (HAW.out _).mono ?_)
    rintro e4 w4 ⟨rfl, b4⟩
    have B4 := Lib.hid (B3.out.trans (b4.mono B3.out.size))
    clear b4
    go_wp2
    go_ret
    exact ⟨rfl, B4.out⟩
  | true =>
    have d0 := boxc X3.out 0 _ rfl
    have d1 := boxc X3.out 1 _ rfl
    have d2 := boxc X3.out 2 _ rfl
    have d3 := boxc X3.out 3 _ rfl
    have d4 := boxc X3.out 4 _ rfl
    have d5 := boxc X3.out 5 _ rfl
    have d6 := boxc X3.out 6 _ rfl
    have d7 := boxc X3.out 7 _ rfl
    go_wp2
    refine wp_flow 8 (fun _ => 1000) (fun ww => Below w3.heap.size w3 ww) (fun _ w w' => (fun (w w' : World) => RowKit.Below w.heap.size w w') w w') (fun kF vF wF => match kF with | 0 => (vF = .agg #[.int .i64 x.k, .int .u64 x.cl.a, .int .u64 x.cl.b, .int .u64 x.cl.c, .int .u64 x.cl.d, .slice ko kn kc, .int .i64 x.mn, .int .i64 x.mx]) | 1 => (vF = .bool A) | 2 => (vF = .agg #[.int .i64 x.k, .int .u64 x.cl.a, .int .u64 x.cl.b, .int .u64 x.cl.c, .int .u64 x.cl.d, .slice ko kn kc, .int .i64 x.mn, .int .i64 x.mx]) | 3 => (vF = .bool A) | 4 => (vF = .bool true) | 5 => (vF = .bool true) | 6 => (vF = .bool true) | 7 => (vF = .bool true) | _ => True) (fun _ _ _ _ => True) (by kernel_rfl) (by kernel_rfl) ?_ ?_ ?_ ?_ ?_
    · exact (Below.refl _ _).drew
    · intro iF wF1 wF2 hR hT; exact hR.trans (Below.mono hT (Below.size hR))
    · intro kF hkF iF hiF hne hdd hanc hdan vF wF1 wF2 h hT
      rcases (by omega : kF = 0 ∨ kF = 1 ∨ kF = 2 ∨ kF = 3 ∨ kF = 4 ∨ kF = 5 ∨ kF = 6 ∨ kF = 7) with rfl | rfl | rfl | rfl | rfl | rfl | rfl | rfl
      · exact h
      · exact h
      · exact h
      · exact h
      · exact h
      · exact h
      · exact h
      · exact h
    · generalize hAF : fillOf _ _ _ = AF
      replace hAF := fun x => congrFun hAF x
      simp only [List.take_succ_cons, List.take_zero, fillOf, Act.put, List.setIfInBounds_toArray, List.set_cons_zero, List.set_cons_succ, Nat.reduceAdd, Nat.zero_add] at hAF
      refine FlowAll.cons ?_ ?_
      · intro xF wz hR hd K hK
        clear hd
        simp only [← hAF, Act.put, List.setIfInBounds_toArray, List.set_cons_zero, List.set_cons_succ] at hK ⊢
        clear hAF
        try simp only [Nat.zero_add] at hK ⊢
        try simp only [Nat.reduceAdd] at hK ⊢
        obtain hbR := id hR
        have hxa := (hbR.block _ (lt_of_block X3.out)).trans X3.out
        have c90 := boxc hxa 0 _ rfl
        have c91 := boxc hxa 1 _ rfl
        have c92 := boxc hxa 2 _ rfl
        have c93 := boxc hxa 3 _ rfl
        have c94 := boxc hxa 4 _ rfl
        have c95 := boxc hxa 5 _ rfl
        have c96 := boxc hxa 6 _ rfl
        have c97 := boxc hxa 7 _ rfl
        clear hxa
        rw [if_pos (by rfl)]
        go_simp
        exact hK.out _ _ (Below.refl _ _) (rfl) (fun _ _ _ => ⟨trivial, trivial⟩)
      refine FlowAll.cons ?_ ?_
      · intro xF wz hR hd K hK
        have dd0 : ((xF 0) = .agg #[.int .i64 x.k, .int .u64 x.cl.a, .int .u64 x.cl.b, .int .u64 x.cl.c, .int .u64 x.cl.d, .slice ko kn kc, .int .i64 x.mn, .int .i64 x.mx]) := hd 0 (by kernel_rfl)
        clear hd
        simp only [← hAF, Act.put, List.setIfInBounds_toArray, List.set_cons_zero, List.set_cons_succ] at hK ⊢
        clear hAF
        try simp only [Nat.zero_add] at hK ⊢
        try simp only [Nat.reduceAdd] at hK ⊢
        try generalize xF 0 = yy0 at *
        obtain rfl := dd0
        obtain hbR := id hR
        rw [if_pos (by rfl)]
        go_simp
        (go_at_call 17; (with_reducible refine (HR.out _ (B3.out.trans (Below.mono hbR (Below.size B3.out)))).mono ?_); rintro e wK ⟨rfl, hbK⟩)
        try go_wp2_with fail
        exact hK.out _ _ (hbK) (rfl) (fun _ _ _ => ⟨trivial, trivial⟩)
      refine FlowAll.cons ?_ ?_
      · intro xF wz hR hd K hK
        clear hd
        simp only [← hAF, Act.put, List.setIfInBounds_toArray, List.set_cons_zero, List.set_cons_succ] at hK ⊢
        clear hAF
        try simp only [Nat.zero_add] at hK ⊢
        try simp only [Nat.reduceAdd] at hK ⊢
        obtain hbR := id hR
        have hxa := (hbR.block _ (lt_of_block X3.out)).trans X3.out
        have c90 := boxc hxa 0 _ rfl
        have c91 := boxc hxa 1 _ rfl
        have c92 := boxc hxa 2 _ rfl
        have c93 := boxc hxa 3 _ rfl
        have c94 := boxc hxa 4 _ rfl
        have c95 := boxc hxa 5 _ rfl
        have c96 := boxc hxa 6 _ rfl
        have c97 := boxc hxa 7 _ rfl
        clear hxa
        rw [if_pos (by rfl)]
        go_simp
        exact hK.out _ _ (Below.refl _ _) (rfl) (fun _ _ _ => ⟨trivial, trivial⟩)
      refine FlowAll.cons ?_ ?_
      · intro xF wz hR hd K hK
        have dd2 : ((xF 2) = .agg #[.int .i64 x.k, .int .u64 x.cl.a, .int .u64 x.cl.b, .int .u64 x.cl.c, .int .u64 x.cl.d, .slice ko kn kc, .int .i64 x.mn, .int .i64 x.mx]) := hd 2 (by kernel_rfl)
        clear hd
        simp only [← hAF, Act.put, List.setIfInBounds_toArray, List.set_cons_zero, List.set_cons_succ] at hK ⊢
        clear hAF
        try simp only [Nat.zero_add] at hK ⊢
        try simp only [Nat.reduceAdd] at hK ⊢
        try generalize xF 2 = yy2 at *
        obtain rfl := dd2
        obtain hbR := id hR
        rw [if_pos (by rfl)]
        go_simp
        (go_at_call 18; (with_reducible refine (HQ.out _ (B3.out.trans (Below.mono hbR (Below.size B3.out)))).mono ?_); rintro e wK ⟨rfl, hbK⟩)
        try go_wp2_with fail
        exact hK.out _ _ (hbK) (rfl) (fun _ _ _ => ⟨trivial, trivial⟩)
      refine FlowAll.cons ?_ ?_
      · intro xF wz hR hd K hK
        have dd1 : ((xF 1) = .bool A) := hd 1 (by kernel_rfl)
        have dd3 : ((xF 3) = .bool A) := hd 3 (by kernel_rfl)
        clear hd
        simp only [← hAF, Act.put, List.setIfInBounds_toArray, List.set_cons_zero, List.set_cons_succ] at hK ⊢
        clear hAF
        try simp only [Nat.zero_add] at hK ⊢
        try simp only [Nat.reduceAdd] at hK ⊢
        try generalize xF 1 = yy1 at *
        try generalize xF 3 = yy3 at *
        obtain rfl := dd1
        obtain rfl := dd3
        obtain hbR := id hR
        rw [if_pos (by rfl)]
        go_simp
        exact hK.out _ _ (Below.refl _ _) (rfl) (fun _ _ _ => ⟨trivial, trivial⟩)
      refine FlowAll.cons ?_ ?_
      · intro xF wz hR hd K hK
        have dd4 : ((xF 4) = .bool true) := hd 4 (by kernel_rfl)
        clear hd
        simp only [← hAF, Act.put, List.setIfInBounds_toArray, List.set_cons_zero, List.set_cons_succ] at hK ⊢
        clear hAF
        try simp only [Nat.zero_add] at hK ⊢
        try simp only [Nat.reduceAdd] at hK ⊢
        try generalize xF 4 = yy4 at *
        obtain rfl := dd4
        obtain hbR := id hR
        rw [if_pos (by rfl)]
        go_simp
        exact hK.out _ _ (Below.refl _ _) (rfl) (fun _ _ _ => ⟨trivial, trivial⟩)
      refine FlowAll.cons ?_ ?_
      · intro xF wz hR hd K hK
        have dd5 : ((xF 5) = .bool true) := hd 5 (by kernel_rfl)
        clear hd
        simp only [← hAF, Act.put, List.setIfInBounds_toArray, List.set_cons_zero, List.set_cons_succ] at hK ⊢
        clear hAF
        try simp only [Nat.zero_add] at hK ⊢
        try simp only [Nat.reduceAdd] at hK ⊢
        try generalize xF 5 = yy5 at *
        obtain rfl := dd5
        obtain hbR := id hR
        rw [if_pos (by rfl)]
        go_simp
        (go_at_call 7; (with_reducible refine (HAW.out _).mono ?_); rintro e wK ⟨rfl, hbK⟩)
        try go_wp2_with fail
        exact hK.out _ _ (hbK) (rfl) (fun _ _ _ => ⟨trivial, trivial⟩)
      refine FlowAll.cons ?_ ?_
      · intro xF wz hR hd K hK
        have dd5 : ((xF 5) = .bool true) := hd 5 (by kernel_rfl)
        have dd6 : ((xF 6) = .bool true) := hd 6 (by kernel_rfl)
        clear hd
        simp only [← hAF, Act.put, List.setIfInBounds_toArray, List.set_cons_zero, List.set_cons_succ] at hK ⊢
        clear hAF
        try simp only [Nat.zero_add] at hK ⊢
        try simp only [Nat.reduceAdd] at hK ⊢
        try generalize xF 5 = yy5 at *
        try generalize xF 6 = yy6 at *
        obtain rfl := dd5
        obtain rfl := dd6
        obtain hbR := id hR
        rw [if_pos (by rfl)]
        go_simp
        exact hK.out _ _ (Below.refl _ _) (rfl) (fun _ _ _ => ⟨trivial, trivial⟩)
      exact FlowAll.nil
    intro xF wz hR hF hP
    clear hP
    have dd0 : ((xF 0) = .agg #[.int .i64 x.k, .int .u64 x.cl.a, .int .u64 x.cl.b, .int .u64 x.cl.c, .int .u64 x.cl.d, .slice ko kn kc, .int .i64 x.mn, .int .i64 x.mx]) := hF 0 (by omega) (by decide)
    have dd1 : ((xF 1) = .bool A) := hF 1 (by omega) (by decide)
    have dd2 : ((xF 2) = .agg #[.int .i64 x.k, .int .u64 x.cl.a, .int .u64 x.cl.b, .int .u64 x.cl.c, .int .u64 x.cl.d, .slice ko kn kc, .int .i64 x.mn, .int .i64 x.mx]) := hF 2 (by omega) (by decide)
    have dd3 : ((xF 3) = .bool A) := hF 3 (by omega) (by decide)
    have dd4 : ((xF 4) = .bool true) := hF 4 (by omega) (by decide)
    have dd5 : ((xF 5) = .bool true) := hF 5 (by omega) (by decide)
    have dd6 : ((xF 6) = .bool true) := hF 6 (by omega) (by decide)
    have dd7 : ((xF 7) = .bool true) := hF 7 (by omega) (by decide)
    clear hF
    simp only [List.take_succ_cons, List.take_zero, List.drop_succ_cons, List.drop_zero, fillOf, Act.put, List.setIfInBounds_toArray, List.set_cons_zero, List.set_cons_succ, Nat.reduceAdd, Nat.zero_add]
    try generalize xF 0 = yy0 at *
    try generalize xF 1 = yy1 at *
    try generalize xF 2 = yy2 at *
    try generalize xF 3 = yy3 at *
    try generalize xF 4 = yy4 at *
    try generalize xF 5 = yy5 at *
    try generalize xF 6 = yy6 at *
    try generalize xF 7 = yy7 at *
    clear xF
    obtain rfl := dd0
    obtain rfl := dd1
    obtain rfl := dd2
    obtain rfl := dd3
    obtain rfl := dd4
    obtain rfl := dd5
    obtain rfl := dd6
    obtain rfl := dd7
    have hRE := Lib.hid hR
    clear hR
    go_wp2
    go_ret
    exact ⟨rfl, B3.out.trans (hRE.out.mono B3.out.size)⟩
end Go.Proofs.Ytbccejlemhgioaa
