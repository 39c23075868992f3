/- the document's right, on any pattern. -/
import Derived.Test.YtbccejlemhgioaaRxRKids
namespace Go.Proofs.Ytbccejlemhgioaa
open Go Go.RowKit Go.ChangeShapes cl rx
set_option maxHeartbeats 25600000 in
set_option maxRecDepth 100000 in
theorem rright_of (d e : Nat) (z : Int) (hzd : z = (d : Int) + 1) (hd : d ≤ 1000) (HK0 : ∀ (y : Pat) (c : List Value) (w : World) (zk : Int), rxR (e + 1) w w.heap.size c y → Calls Try.prog 34 #[.agg c.toArray, .int .i64 z, .int .i64 zk] w (fun e w' => e = .returned (.bool (kidsF (fun x => okF d x) [zk] y.ks)) ∧ Below w.heap.size w w'))
    (x : Pat) (c : List Value) (w : World) (h : rxR (e + 1) w w.heap.size c x) : Calls Try.prog 25 #[.agg c.toArray, .int .i64 z] w (fun e w' => e = .returned (.bool (okF (d + 1) x)) ∧ Below w.heap.size w w') := by
  cases x with
  | mk xk xc xs mn mx =>
  obtain ⟨ko, kn, kc, rfl, hK⟩ := h
  simp only [Pat.k, Pat.cl, Pat.ks, Pat.mn, Pat.mx] at hK ⊢
  have hkn : kn = xs.length := by
    obtain ⟨_, _, e, _, _⟩ := hK.form
    simp only [Value.slice.injEq] at e
    exact e.2.1
  have hz0 : (z == 0) = false := beq_eq_false_iff_ne.2 (by omega)
  have hz1 : ¬ z = 0 := by omega
  have hz2 : decide (z < 1) = false := decide_eq_false (by omega)
  have hz3 : (1 : Int) ≤ z := by omega
  have hzw : IntKind.i64.wrap (z - 1) = z - 1 := IntWalk.i64_in _ (by omega)
  have HK := Lib.hid HK0
  obtain ⟨W2, hW2⟩ : ∃ W, W = w.alloc (.cells #[.int .i64 xk, .int .u64 xc.a, .int .u64 xc.b, .int .u64 xc.c, .int .u64 xc.d, .slice ko kn kc, .int .i64 mn, .int .i64 mx] 28) := ⟨_, rfl⟩
  have b2 : Below w.heap.size w W2 := by rw [hW2]; exact below1
  have x2 : W2.heap[w.heap.size]? = some (.cells #[.int .i64 xk, .int .u64 xc.a, .int .u64 xc.b, .int .u64 xc.c, .int .u64 xc.d, .slice ko kn kc, .int .i64 mn, .int .i64 mx] 28 (0, 0)) := by rw [hW2]; exact heap_alloc_new _ _
  have HBW : Hid (Below w.heap.size w (w.alloc (.cells #[.int .i64 xk, .int .u64 xc.a, .int .u64 xc.b, .int .u64 xc.c, .int .u64 xc.d, .slice ko kn kc, .int .i64 mn, .int .i64 mx] 28))) := below1
  rw [← hW2] at HBW
  have HRW : Hid (∀ W, Below w.heap.size w W → RowsAt 8 (rxR e) W W.heap.size (.slice ko kn kc) xs) := fun W hW => hK.next (rxR_steady e) hW
  have HRX : Hid (∀ W, Below w.heap.size w W → rxR (e + 1) W W.heap.size [.int .i64 xk, .int .u64 xc.a, .int .u64 xc.b, .int .u64 xc.c, .int .u64 xc.d, .slice ko kn kc, .int .i64 mn, .int .i64 mx] (.mk xk xc xs mn mx)) := fun W hW => ⟨ko, kn, kc, rfl, hK.next (rxR_steady e) hW⟩
  have X2 := Lib.hid x2
  have HW2 := Lib.hid hW2
  obtain ⟨A, hA⟩ : ∃ A, A = okF (d + 1) (.mk xk xc xs mn mx) := ⟨_, rfl⟩
  rw [← hA]
  unfold okF at hA
  clear hK b2 x2 hW2 HK0 hzd hd
  by_cases h60 : 60 < xs.length
  · have d60 : decide ((60 : Int) < (kn : Int)) = true := decide_eq_true (by omega)
    have HV : Hid (A = false) := by show _ = _; rw [hA]; rw [if_pos h60]
    clear hkn
    have x2 : W2.heap[w.heap.size]? = some (.cells #[.int .i64 xk, .int .u64 xc.a, .int .u64 xc.b, .int .u64 xc.c, .int .u64 xc.d, .slice ko kn kc, .int .i64 mn, .int .i64 mx] 28 (0, 0)) := X2.out
    have hW2 : W2 = w.alloc (.cells #[.int .i64 xk, .int .u64 xc.a, .int .u64 xc.b, .int .u64 xc.c, .int .u64 xc.d, .slice ko kn kc, .int .i64 mn, .int .i64 mx] 28) := HW2.out
    have c0 := boxc x2 0 _ rfl
    have c1 := boxc x2 1 _ rfl
    have c2 := boxc x2 2 _ rfl
    have c3 := boxc x2 3 _ rfl
    have c4 := boxc x2 4 _ rfl
    have c5 := boxc x2 5 _ rfl
    have c6 := boxc x2 6 _ rfl
    have c7 := boxc x2 7 _ rfl
    rw [hW2] at c0 c1 c2 c3 c4 c5 c6 c7
    clear x2 hW2 hA 
    go_enter Try.func25, Try.ntmps25
    go_wp2
    go_ret
    refine ⟨by rw [HV.out]; rfl, ?_⟩
    rw [← HW2.out]
    exact HBW.out
  have d60 : decide ((60 : Int) < (kn : Int)) = false := decide_eq_false (by omega)
  have d60' : (kn : Int) ≤ 60 := by omega
  by_cases k1 : xk = 1
  · subst k1
    by_cases hxc : xc = Cls.zero
    rotate_left
    · have hcz := Cls.isz_of hxc
      have HV : Hid (A = false) := by show _ = _; rw [hA]; rw [if_neg h60, if_pos (Or.inl ⟨by decide, hxc⟩)]
      clear hkn
      have x2 : W2.heap[w.heap.size]? = some (.cells #[.int .i64 1, .int .u64 xc.a, .int .u64 xc.b, .int .u64 xc.c, .int .u64 xc.d, .slice ko kn kc, .int .i64 mn, .int .i64 mx] 28 (0, 0)) := X2.out
      have hW2 : W2 = w.alloc (.cells #[.int .i64 1, .int .u64 xc.a, .int .u64 xc.b, .int .u64 xc.c, .int .u64 xc.d, .slice ko kn kc, .int .i64 mn, .int .i64 mx] 28) := HW2.out
      have c0 := boxc x2 0 _ rfl
      have c1 := boxc x2 1 _ rfl
      have c2 := boxc x2 2 _ rfl
      have c3 := boxc x2 3 _ rfl
      have c4 := boxc x2 4 _ rfl
      have c5 := boxc x2 5 _ rfl
      have c6 := boxc x2 6 _ rfl
      have c7 := boxc x2 7 _ rfl
      rw [hW2] at c0 c1 c2 c3 c4 c5 c6 c7
      clear x2 hW2 hA 
      go_enter Try.func25, Try.ntmps25
      go_wp2
      go_ret
      refine ⟨by rw [HV.out]; rfl, ?_⟩
      rw [← HW2.out]
      exact HBW.out
    have hcz : xc.isz = true := decide_eq_true hxc
    have HXC := Lib.hid hxc
    clear hxc
    by_cases hmn : mn = 0
    rotate_left
    · have q1mn0 : (mn == 0) = false := beq_eq_false_iff_ne.2 (by omega)
      have q2mn0 : ¬ mn = 0 := by omega
      have q3mn0 : (mn != 0) = true := by rw [bne, q1mn0]; rfl
      have HV : Hid (A = false) := by show _ = _; rw [hA]; rw [if_neg h60, if_pos (Or.inr ⟨by decide, Or.inl hmn⟩)]
      clear hkn
      have x2 : W2.heap[w.heap.size]? = some (.cells #[.int .i64 1, .int .u64 xc.a, .int .u64 xc.b, .int .u64 xc.c, .int .u64 xc.d, .slice ko kn kc, .int .i64 mn, .int .i64 mx] 28 (0, 0)) := X2.out
      have hW2 : W2 = w.alloc (.cells #[.int .i64 1, .int .u64 xc.a, .int .u64 xc.b, .int .u64 xc.c, .int .u64 xc.d, .slice ko kn kc, .int .i64 mn, .int .i64 mx] 28) := HW2.out
      have c0 := boxc x2 0 _ rfl
      have c1 := boxc x2 1 _ rfl
      have c2 := boxc x2 2 _ rfl
      have c3 := boxc x2 3 _ rfl
      have c4 := boxc x2 4 _ rfl
      have c5 := boxc x2 5 _ rfl
      have c6 := boxc x2 6 _ rfl
      have c7 := boxc x2 7 _ rfl
      rw [hW2] at c0 c1 c2 c3 c4 c5 c6 c7
      clear x2 hW2 hA 
      go_enter Try.func25, Try.ntmps25
      go_wp2
      go_ret
      refine ⟨by rw [HV.out]; rfl, ?_⟩
      rw [← HW2.out]
      exact HBW.out
    subst hmn
    by_cases hmx : mx = 0
    rotate_left
    · have q1mx0 : (mx == 0) = false := beq_eq_false_iff_ne.2 (by omega)
      have q2mx0 : ¬ mx = 0 := by omega
      have q3mx0 : (mx != 0) = true := by rw [bne, q1mx0]; rfl
      have HV : Hid (A = false) := by show _ = _; rw [hA]; rw [if_neg h60, if_pos (Or.inr ⟨by decide, Or.inr hmx⟩)]
      clear hkn
      have x2 : W2.heap[w.heap.size]? = some (.cells #[.int .i64 1, .int .u64 xc.a, .int .u64 xc.b, .int .u64 xc.c, .int .u64 xc.d, .slice ko kn kc, .int .i64 0, .int .i64 mx] 28 (0, 0)) := X2.out
      have hW2 : W2 = w.alloc (.cells #[.int .i64 1, .int .u64 xc.a, .int .u64 xc.b, .int .u64 xc.c, .int .u64 xc.d, .slice ko kn kc, .int .i64 0, .int .i64 mx] 28) := HW2.out
      have c0 := boxc x2 0 _ rfl
      have c1 := boxc x2 1 _ rfl
      have c2 := boxc x2 2 _ rfl
      have c3 := boxc x2 3 _ rfl
      have c4 := boxc x2 4 _ rfl
      have c5 := boxc x2 5 _ rfl
      have c6 := boxc x2 6 _ rfl
      have c7 := boxc x2 7 _ rfl
      rw [hW2] at c0 c1 c2 c3 c4 c5 c6 c7
      clear x2 hW2 hA 
      go_enter Try.func25, Try.ntmps25
      go_wp2
      go_ret
      refine ⟨by rw [HV.out]; rfl, ?_⟩
      rw [← HW2.out]
      exact HBW.out
    subst hmx
    have hcond : ¬ (((1 : Int) ≠ 2 ∧ xc ≠ Cls.zero) ∨ ((1 : Int) ≠ 5 ∧ ((0 : Int) ≠ 0 ∨ (0 : Int) ≠ 0))) := fun h => h.elim (fun h => h.2 HXC.out) (fun h => h.2.elim (fun h => h rfl) (fun h => h rfl))
    rw [if_neg h60, if_neg hcond] at hA
    rw [if_pos rfl] at hA
    by_cases h0 : kn = 0
    · subst h0
      have HV : Hid (A = true) := by show _ = _; rw [hA]; exact decide_eq_true (by omega)
      clear hkn hcond
      have x2 : W2.heap[w.heap.size]? = some (.cells #[.int .i64 1, .int .u64 xc.a, .int .u64 xc.b, .int .u64 xc.c, .int .u64 xc.d, .slice ko 0 kc, .int .i64 0, .int .i64 0] 28 (0, 0)) := X2.out
      have hW2 : W2 = w.alloc (.cells #[.int .i64 1, .int .u64 xc.a, .int .u64 xc.b, .int .u64 xc.c, .int .u64 xc.d, .slice ko 0 kc, .int .i64 0, .int .i64 0] 28) := HW2.out
      have c0 := boxc x2 0 _ rfl
      have c1 := boxc x2 1 _ rfl
      have c2 := boxc x2 2 _ rfl
      have c3 := boxc x2 3 _ rfl
      have c4 := boxc x2 4 _ rfl
      have c5 := boxc x2 5 _ rfl
      have c6 := boxc x2 6 _ rfl
      have c7 := boxc x2 7 _ rfl
      rw [hW2] at c0 c1 c2 c3 c4 c5 c6 c7
      clear x2 hW2 hA 
      go_enter Try.func25, Try.ntmps25
      go_wp2
      go_ret
      refine ⟨by rw [HV.out]; rfl, ?_⟩
      rw [← HW2.out]
      exact HBW.out
    have q1kn0 : ((kn : Int) == 0) = false := beq_eq_false_iff_ne.2 (by omega)
    have q2kn0 : ¬ (kn : Int) = 0 := by omega
    have q3kn0 : ((kn : Int) != 0) = true := by rw [bne, q1kn0]; rfl
    have HV : Hid (A = false) := by show _ = _; rw [hA]; exact decide_eq_false (by omega)
    clear hkn hcond
    have x2 : W2.heap[w.heap.size]? = some (.cells #[.int .i64 1, .int .u64 xc.a, .int .u64 xc.b, .int .u64 xc.c, .int .u64 xc.d, .slice ko kn kc, .int .i64 0, .int .i64 0] 28 (0, 0)) := X2.out
    have hW2 : W2 = w.alloc (.cells #[.int .i64 1, .int .u64 xc.a, .int .u64 xc.b, .int .u64 xc.c, .int .u64 xc.d, .slice ko kn kc, .int .i64 0, .int .i64 0] 28) := HW2.out
    have c0 := boxc x2 0 _ rfl
    have c1 := boxc x2 1 _ rfl
    have c2 := boxc x2 2 _ rfl
    have c3 := boxc x2 3 _ rfl
    have c4 := boxc x2 4 _ rfl
    have c5 := boxc x2 5 _ rfl
    have c6 := boxc x2 6 _ rfl
    have c7 := boxc x2 7 _ rfl
    rw [hW2] at c0 c1 c2 c3 c4 c5 c6 c7
    clear x2 hW2 hA 
    go_enter Try.func25, Try.ntmps25
    go_wp2
    go_ret
    refine ⟨by rw [HV.out]; rfl, ?_⟩
    rw [← HW2.out]
    exact HBW.out
  by_cases k2 : xk = 2
  · subst k2
    by_cases hmn : mn = 0
    rotate_left
    · have q1mn0 : (mn == 0) = false := beq_eq_false_iff_ne.2 (by omega)
      have q2mn0 : ¬ mn = 0 := by omega
      have q3mn0 : (mn != 0) = true := by rw [bne, q1mn0]; rfl
      have HV : Hid (A = false) := by show _ = _; rw [hA]; rw [if_neg h60, if_pos (Or.inr ⟨by decide, Or.inl hmn⟩)]
      clear hkn
      have x2 : W2.heap[w.heap.size]? = some (.cells #[.int .i64 2, .int .u64 xc.a, .int .u64 xc.b, .int .u64 xc.c, .int .u64 xc.d, .slice ko kn kc, .int .i64 mn, .int .i64 mx] 28 (0, 0)) := X2.out
      have hW2 : W2 = w.alloc (.cells #[.int .i64 2, .int .u64 xc.a, .int .u64 xc.b, .int .u64 xc.c, .int .u64 xc.d, .slice ko kn kc, .int .i64 mn, .int .i64 mx] 28) := HW2.out
      have c0 := boxc x2 0 _ rfl
      have c1 := boxc x2 1 _ rfl
      have c2 := boxc x2 2 _ rfl
      have c3 := boxc x2 3 _ rfl
      have c4 := boxc x2 4 _ rfl
      have c5 := boxc x2 5 _ rfl
      have c6 := boxc x2 6 _ rfl
      have c7 := boxc x2 7 _ rfl
      rw [hW2] at c0 c1 c2 c3 c4 c5 c6 c7
      clear x2 hW2 hA 
      go_enter Try.func25, Try.ntmps25
      go_wp2
      go_ret
      refine ⟨by rw [HV.out]; rfl, ?_⟩
      rw [← HW2.out]
      exact HBW.out
    subst hmn
    by_cases hmx : mx = 0
    rotate_left
    · have q1mx0 : (mx == 0) = false := beq_eq_false_iff_ne.2 (by omega)
      have q2mx0 : ¬ mx = 0 := by omega
      have q3mx0 : (mx != 0) = true := by rw [bne, q1mx0]; rfl
      have HV : Hid (A = false) := by show _ = _; rw [hA]; rw [if_neg h60, if_pos (Or.inr ⟨by decide, Or.inr hmx⟩)]
      clear hkn
      have x2 : W2.heap[w.heap.size]? = some (.cells #[.int .i64 2, .int .u64 xc.a, .int .u64 xc.b, .int .u64 xc.c, .int .u64 xc.d, .slice ko kn kc, .int .i64 0, .int .i64 mx] 28 (0, 0)) := X2.out
      have hW2 : W2 = w.alloc (.cells #[.int .i64 2, .int .u64 xc.a, .int .u64 xc.b, .int .u64 xc.c, .int .u64 xc.d, .slice ko kn kc, .int .i64 0, .int .i64 mx] 28) := HW2.out
      have c0 := boxc x2 0 _ rfl
      have c1 := boxc x2 1 _ rfl
      have c2 := boxc x2 2 _ rfl
      have c3 := boxc x2 3 _ rfl
      have c4 := boxc x2 4 _ rfl
      have c5 := boxc x2 5 _ rfl
      have c6 := boxc x2 6 _ rfl
      have c7 := boxc x2 7 _ rfl
      rw [hW2] at c0 c1 c2 c3 c4 c5 c6 c7
      clear x2 hW2 hA 
      go_enter Try.func25, Try.ntmps25
      go_wp2
      go_ret
      refine ⟨by rw [HV.out]; rfl, ?_⟩
      rw [← HW2.out]
      exact HBW.out
    subst hmx
    have hcond : ¬ (((2 : Int) ≠ 2 ∧ xc ≠ Cls.zero) ∨ ((2 : Int) ≠ 5 ∧ ((0 : Int) ≠ 0 ∨ (0 : Int) ≠ 0))) := fun h => h.elim (fun h => h.1 rfl) (fun h => h.2.elim (fun h => h rfl) (fun h => h rfl))
    rw [if_neg h60, if_neg hcond] at hA
    rw [if_neg (by decide), if_pos rfl] at hA
    by_cases h0 : kn = 0
    · subst h0
      have HV : Hid (A = !xc.isz) := by show _ = _; rw [hA]; rw [decide_eq_true (by omega : xs.length = 0)]; rfl
      clear hkn hcond
      cases hcz : xc.isz with
      | true =>
        rw [hcz] at HV
        have x2 : W2.heap[w.heap.size]? = some (.cells #[.int .i64 2, .int .u64 xc.a, .int .u64 xc.b, .int .u64 xc.c, .int .u64 xc.d, .slice ko 0 kc, .int .i64 0, .int .i64 0] 28 (0, 0)) := X2.out
        have hW2 : W2 = w.alloc (.cells #[.int .i64 2, .int .u64 xc.a, .int .u64 xc.b, .int .u64 xc.c, .int .u64 xc.d, .slice ko 0 kc, .int .i64 0, .int .i64 0] 28) := HW2.out
        have c0 := boxc x2 0 _ rfl
        have c1 := boxc x2 1 _ rfl
        have c2 := boxc x2 2 _ rfl
        have c3 := boxc x2 3 _ rfl
        have c4 := boxc x2 4 _ rfl
        have c5 := boxc x2 5 _ rfl
        have c6 := boxc x2 6 _ rfl
        have c7 := boxc x2 7 _ rfl
        rw [hW2] at c0 c1 c2 c3 c4 c5 c6 c7
        clear x2 hW2 hA 
        go_enter Try.func25, Try.ntmps25
        go_wp2
        go_ret
        refine ⟨by rw [HV.out]; rfl, ?_⟩
        rw [← HW2.out]
        exact HBW.out
      | false =>
        rw [hcz] at HV
        have x2 : W2.heap[w.heap.size]? = some (.cells #[.int .i64 2, .int .u64 xc.a, .int .u64 xc.b, .int .u64 xc.c, .int .u64 xc.d, .slice ko 0 kc, .int .i64 0, .int .i64 0] 28 (0, 0)) := X2.out
        have hW2 : W2 = w.alloc (.cells #[.int .i64 2, .int .u64 xc.a, .int .u64 xc.b, .int .u64 xc.c, .int .u64 xc.d, .slice ko 0 kc, .int .i64 0, .int .i64 0] 28) := HW2.out
        have c0 := boxc x2 0 _ rfl
        have c1 := boxc x2 1 _ rfl
        have c2 := boxc x2 2 _ rfl
        have c3 := boxc x2 3 _ rfl
        have c4 := boxc x2 4 _ rfl
        have c5 := boxc x2 5 _ rfl
        have c6 := boxc x2 6 _ rfl
        have c7 := boxc x2 7 _ rfl
        rw [hW2] at c0 c1 c2 c3 c4 c5 c6 c7
        clear x2 hW2 hA 
        go_enter Try.func25, Try.ntmps25
        go_wp2
        go_ret
        refine ⟨by rw [HV.out]; rfl, ?_⟩
        rw [← HW2.out]
        exact HBW.out
    have q1kn0 : ((kn : Int) == 0) = false := beq_eq_false_iff_ne.2 (by omega)
    have q2kn0 : ¬ (kn : Int) = 0 := by omega
    have q3kn0 : ((kn : Int) != 0) = true := by rw [bne, q1kn0]; rfl
    have HV : Hid (A = false) := by show _ = _; rw [hA]; rw [decide_eq_false (by omega : ¬ xs.length = 0)]; rfl
    clear hkn hcond
    have x2 : W2.heap[w.heap.size]? = some (.cells #[.int .i64 2, .int .u64 xc.a, .int .u64 xc.b, .int .u64 xc.c, .int .u64 xc.d, .slice ko kn kc, .int .i64 0, .int .i64 0] 28 (0, 0)) := X2.out
    have hW2 : W2 = w.alloc (.cells #[.int .i64 2, .int .u64 xc.a, .int .u64 xc.b, .int .u64 xc.c, .int .u64 xc.d, .slice ko kn kc, .int .i64 0, .int .i64 0] 28) := HW2.out
    have c0 := boxc x2 0 _ rfl
    have c1 := boxc x2 1 _ rfl
    have c2 := boxc x2 2 _ rfl
    have c3 := boxc x2 3 _ rfl
    have c4 := boxc x2 4 _ rfl
    have c5 := boxc x2 5 _ rfl
    have c6 := boxc x2 6 _ rfl
    have c7 := boxc x2 7 _ rfl
    rw [hW2] at c0 c1 c2 c3 c4 c5 c6 c7
    clear x2 hW2 hA 
    go_enter Try.func25, Try.ntmps25
    go_wp2
    go_ret
    refine ⟨by rw [HV.out]; rfl, ?_⟩
    rw [← HW2.out]
    exact HBW.out
  by_cases k3 : xk = 3
  · subst k3
    by_cases hxc : xc = Cls.zero
    rotate_left
    · have hcz := Cls.isz_of hxc
      have HV : Hid (A = false) := by show _ = _; rw [hA]; rw [if_neg h60, if_pos (Or.inl ⟨by decide, hxc⟩)]
      clear hkn
      have x2 : W2.heap[w.heap.size]? = some (.cells #[.int .i64 3, .int .u64 xc.a, .int .u64 xc.b, .int .u64 xc.c, .int .u64 xc.d, .slice ko kn kc, .int .i64 mn, .int .i64 mx] 28 (0, 0)) := X2.out
      have hW2 : W2 = w.alloc (.cells #[.int .i64 3, .int .u64 xc.a, .int .u64 xc.b, .int .u64 xc.c, .int .u64 xc.d, .slice ko kn kc, .int .i64 mn, .int .i64 mx] 28) := HW2.out
      have c0 := boxc x2 0 _ rfl
      have c1 := boxc x2 1 _ rfl
      have c2 := boxc x2 2 _ rfl
      have c3 := boxc x2 3 _ rfl
      have c4 := boxc x2 4 _ rfl
      have c5 := boxc x2 5 _ rfl
      have c6 := boxc x2 6 _ rfl
      have c7 := boxc x2 7 _ rfl
      rw [hW2] at c0 c1 c2 c3 c4 c5 c6 c7
      clear x2 hW2 hA 
      go_enter Try.func25, Try.ntmps25
      go_wp2
      go_ret
      refine ⟨by rw [HV.out]; rfl, ?_⟩
      rw [← HW2.out]
      exact HBW.out
    have hcz : xc.isz = true := decide_eq_true hxc
    have HXC := Lib.hid hxc
    clear hxc
    by_cases hmn : mn = 0
    rotate_left
    · have q1mn0 : (mn == 0) = false := beq_eq_false_iff_ne.2 (by omega)
      have q2mn0 : ¬ mn = 0 := by omega
      have q3mn0 : (mn != 0) = true := by rw [bne, q1mn0]; rfl
      have HV : Hid (A = false) := by show _ = _; rw [hA]; rw [if_neg h60, if_pos (Or.inr ⟨by decide, Or.inl hmn⟩)]
      clear hkn
      have x2 : W2.heap[w.heap.size]? = some (.cells #[.int .i64 3, .int .u64 xc.a, .int .u64 xc.b, .int .u64 xc.c, .int .u64 xc.d, .slice ko kn kc, .int .i64 mn, .int .i64 mx] 28 (0, 0)) := X2.out
      have hW2 : W2 = w.alloc (.cells #[.int .i64 3, .int .u64 xc.a, .int .u64 xc.b, .int .u64 xc.c, .int .u64 xc.d, .slice ko kn kc, .int .i64 mn, .int .i64 mx] 28) := HW2.out
      have c0 := boxc x2 0 _ rfl
      have c1 := boxc x2 1 _ rfl
      have c2 := boxc x2 2 _ rfl
      have c3 := boxc x2 3 _ rfl
      have c4 := boxc x2 4 _ rfl
      have c5 := boxc x2 5 _ rfl
      have c6 := boxc x2 6 _ rfl
      have c7 := boxc x2 7 _ rfl
      rw [hW2] at c0 c1 c2 c3 c4 c5 c6 c7
      clear x2 hW2 hA 
      go_enter Try.func25, Try.ntmps25
      go_wp2
      go_ret
      refine ⟨by rw [HV.out]; rfl, ?_⟩
      rw [← HW2.out]
      exact HBW.out
    subst hmn
    by_cases hmx : mx = 0
    rotate_left
    · have q1mx0 : (mx == 0) = false := beq_eq_false_iff_ne.2 (by omega)
      have q2mx0 : ¬ mx = 0 := by omega
      have q3mx0 : (mx != 0) = true := by rw [bne, q1mx0]; rfl
      have HV : Hid (A = false) := by show _ = _; rw [hA]; rw [if_neg h60, if_pos (Or.inr ⟨by decide, Or.inr hmx⟩)]
      clear hkn
      have x2 : W2.heap[w.heap.size]? = some (.cells #[.int .i64 3, .int .u64 xc.a, .int .u64 xc.b, .int .u64 xc.c, .int .u64 xc.d, .slice ko kn kc, .int .i64 0, .int .i64 mx] 28 (0, 0)) := X2.out
      have hW2 : W2 = w.alloc (.cells #[.int .i64 3, .int .u64 xc.a, .int .u64 xc.b, .int .u64 xc.c, .int .u64 xc.d, .slice ko kn kc, .int .i64 0, .int .i64 mx] 28) := HW2.out
      have c0 := boxc x2 0 _ rfl
      have c1 := boxc x2 1 _ rfl
      have c2 := boxc x2 2 _ rfl
      have c3 := boxc x2 3 _ rfl
      have c4 := boxc x2 4 _ rfl
      have c5 := boxc x2 5 _ rfl
      have c6 := boxc x2 6 _ rfl
      have c7 := boxc x2 7 _ rfl
      rw [hW2] at c0 c1 c2 c3 c4 c5 c6 c7
      clear x2 hW2 hA 
      go_enter Try.func25, Try.ntmps25
      go_wp2
      go_ret
      refine ⟨by rw [HV.out]; rfl, ?_⟩
      rw [← HW2.out]
      exact HBW.out
    subst hmx
    have hcond : ¬ (((3 : Int) ≠ 2 ∧ xc ≠ Cls.zero) ∨ ((3 : Int) ≠ 5 ∧ ((0 : Int) ≠ 0 ∨ (0 : Int) ≠ 0))) := fun h => h.elim (fun h => h.2 HXC.out) (fun h => h.2.elim (fun h => h rfl) (fun h => h rfl))
    rw [if_neg h60, if_neg hcond] at hA
    rw [if_neg (by decide), if_neg (by decide), if_pos rfl] at hA
    have HKN := Lib.hid hkn
    have HA := Lib.hid hA
    have hkc : kn ≤ kc := by
      obtain ⟨ao, cap, e, h1, _⟩ := (HRW.out _ (Below.refl _ _)).form
      simp only [Value.slice.injEq] at e
      omega
    clear hkn hcond
    have x2 : W2.heap[w.heap.size]? = some (.cells #[.int .i64 3, .int .u64 xc.a, .int .u64 xc.b, .int .u64 xc.c, .int .u64 xc.d, .slice ko kn kc, .int .i64 0, .int .i64 0] 28 (0, 0)) := X2.out
    have hW2 : W2 = w.alloc (.cells #[.int .i64 3, .int .u64 xc.a, .int .u64 xc.b, .int .u64 xc.c, .int .u64 xc.d, .slice ko kn kc, .int .i64 0, .int .i64 0] 28) := HW2.out
    have c0 := boxc x2 0 _ rfl
    have c1 := boxc x2 1 _ rfl
    have c2 := boxc x2 2 _ rfl
    have c3 := boxc x2 3 _ rfl
    have c4 := boxc x2 4 _ rfl
    have c5 := boxc x2 5 _ rfl
    have c6 := boxc x2 6 _ rfl
    have c7 := boxc x2 7 _ rfl
    rw [hW2] at c0 c1 c2 c3 c4 c5 c6 c7
    clear x2 hW2 hA 
    go_enter Try.func25, Try.ntmps25
    go_wp2
    clear c0 c1 c2 c3 c4 c5 c6 c7
    rw [← HW2.out]
    go_loopw [66, 73] (fun i _ wr => ∃ k : Nat, i = .int .i64 k ∧ k ≤ kn ∧ Below W2.heap.size W2 wr ∧ ∀ j, j < k → (xs.getD j default).k ≠ 1) (fun i _ _ => kn - (intOf i).toNat)
    case atStart => exact ⟨0, rfl, Nat.zero_le _, Below.refl _ _, fun j hj => absurd hj (by omega)⟩
    case round =>
      obtain ⟨k, rfl, hk, hbl, hall⟩ := hrel
      have HBL := Lib.hid hbl
      have HALL := Lib.hid hall
      have HB0 := Lib.hid (HBW.out.trans (hbl.mono HBW.out.size))
      clear hall
      by_cases hlt : k < kn
      · have hkI : (k : Int) < (kn : Int) := by omega
        obtain ⟨x, hx⟩ : ∃ x, x = xs.getD k default := ⟨_, rfl⟩
        obtain ⟨ba, oa, c, rfl, hbB, hcl, hR, hC⟩ := (HRW.out _ HB0.out).get HKN.out hlt default
        rw [← hx] at hR
        have HX := Lib.hid hx
        have HLT := Lib.hid hlt
        obtain ⟨uo, un, uc, rfl⟩ := rx_form hR
        have z0 : wr.cell? ⟨ba, oa + k * 8, none⟩ = _ := hC 0 _ rfl
        have z1 := hC 1 _ rfl
        have z2 := hC 2 _ rfl
        have z3 := hC 3 _ rfl
        have z4 := hC 4 _ rfl
        have z5 := hC 5 _ rfl
        have z6 := hC 6 _ rfl
        have z7 := hC 7 _ rfl
        have b4 : Below wr.heap.size wr (wr.alloc (.cells #[.int .i64 x.k, .int .u64 x.cl.a, .int .u64 x.cl.b, .int .u64 x.cl.c, .int .u64 x.cl.d, .slice uo un uc, .int .i64 x.mn, .int .i64 x.mx] 28)) := below1
        have x4 : (wr.alloc (.cells #[.int .i64 x.k, .int .u64 x.cl.a, .int .u64 x.cl.b, .int .u64 x.cl.c, .int .u64 x.cl.d, .slice uo un uc, .int .i64 x.mn, .int .i64 x.mx] 28)).heap[wr.heap.size]? = some (.cells #[.int .i64 x.k, .int .u64 x.cl.a, .int .u64 x.cl.b, .int .u64 x.cl.c, .int .u64 x.cl.d, .slice uo un uc, .int .i64 x.mn, .int .i64 x.mx] 28) := heap_alloc_new _ _
        have y0 := boxc x4 0 _ rfl
        have B4 := Lib.hid (hbl.trans (b4.mono hbl.size))
        clear b4 x4 hR hC hx hcl hbB hbl hlt
        by_cases hx1 : x.k = 1
        · have e1 : (x.k == 1) = true := beq_iff_eq.2 hx1
          have HV : Hid (A = false) := by
            show _ = _
            rw [HA.out, kidsF_no (by have := HKN.out; have := HLT.out; omega) HX.out (by rw [hx1]; rfl), Bool.and_false]
          clear hx1
          go_wp2
          go_ret
          exact ⟨by rw [HV.out]; rfl, HBW.out.trans (B4.out.mono HBW.out.size)⟩
        · have e1 : (x.k == 1) = false := beq_eq_false_iff_ne.2 hx1
          have HX1 := Lib.hid hx1
          go_wp2
          go_roundw
          case rel =>
            refine ⟨k + 1, by go_num, by have := HLT.out; omega, B4.out, fun j hj => ?_⟩
            rcases (by omega : j < k ∨ j = k) with hj | rfl
            · exact HALL.out j hj
            · rw [← HX.out]; exact HX1.out
          case measure => simp [intOf]; have := HLT.out; omega
      · obtain rfl : k = kn := by omega
        have xb := (hbl.block _ (lt_of_block X2.out)).trans X2.out
        have f0 := boxc xb 0 _ rfl
        have f1 := boxc xb 1 _ rfl
        have f2 := boxc xb 2 _ rfl
        have f3 := boxc xb 3 _ rfl
        have f4 := boxc xb 4 _ rfl
        have f5 := boxc xb 5 _ rfl
        have f6 := boxc xb 6 _ rfl
        have f7 := boxc xb 7 _ rfl
        clear xb hbl hlt
        by_cases h2 : 2 ≤ k
        · have d2 : decide ((1 : Int) < (k : Int)) = true := decide_eq_true (by omega)
          have d2' : (1 : Int) < (k : Int) := by omega
          have HV : Hid (A = kidsF (fun x => okF d x) [3] xs) := by
            show _ = _
            rw [HA.out, decide_eq_true (by have := HKN.out; omega : 2 ≤ xs.length), Bool.true_and]
            exact kidsF_31 (fun j hj => HALL.out j (by have := HKN.out; omega))
          have HRK' := Lib.hid (HK.out _ _ _ 3 (HRX.out _ HB0.out))
          clear h2
          go_wp2_with fail
          (with_reducible refine HRK'.out.mono ?_)
          rintro e5 w5 ⟨rfl, b5⟩
          have B5 := Lib.hid (HB0.out.trans (b5.mono HB0.out.size))
          clear b5 f0 f1 f2 f3 f4 f5 f6 f7
          go_wp2
          go_ret
          exact ⟨by rw [HV.out]; rfl, B5.out⟩
        · have d2 : decide ((1 : Int) < (k : Int)) = false := decide_eq_false (by omega)
          have d2' : (k : Int) ≤ 1 := by omega
          have HV : Hid (A = false) := by show _ = _; rw [HA.out, decide_eq_false (by have := HKN.out; omega : ¬ 2 ≤ xs.length)]; rfl
          clear h2
          go_wp2
          go_ret
          exact ⟨by rw [HV.out]; rfl, HB0.out⟩
  by_cases k4 : xk = 4
  · subst k4
    by_cases hxc : xc = Cls.zero
    rotate_left
    · have hcz := Cls.isz_of hxc
      have HV : Hid (A = false) := by show _ = _; rw [hA]; rw [if_neg h60, if_pos (Or.inl ⟨by decide, hxc⟩)]
      clear hkn
      have x2 : W2.heap[w.heap.size]? = some (.cells #[.int .i64 4, .int .u64 xc.a, .int .u64 xc.b, .int .u64 xc.c, .int .u64 xc.d, .slice ko kn kc, .int .i64 mn, .int .i64 mx] 28 (0, 0)) := X2.out
      have hW2 : W2 = w.alloc (.cells #[.int .i64 4, .int .u64 xc.a, .int .u64 xc.b, .int .u64 xc.c, .int .u64 xc.d, .slice ko kn kc, .int .i64 mn, .int .i64 mx] 28) := HW2.out
      have c0 := boxc x2 0 _ rfl
      have c1 := boxc x2 1 _ rfl
      have c2 := boxc x2 2 _ rfl
      have c3 := boxc x2 3 _ rfl
      have c4 := boxc x2 4 _ rfl
      have c5 := boxc x2 5 _ rfl
      have c6 := boxc x2 6 _ rfl
      have c7 := boxc x2 7 _ rfl
      rw [hW2] at c0 c1 c2 c3 c4 c5 c6 c7
      clear x2 hW2 hA 
      go_enter Try.func25, Try.ntmps25
      go_wp2
      go_ret
      refine ⟨by rw [HV.out]; rfl, ?_⟩
      rw [← HW2.out]
      exact HBW.out
    have hcz : xc.isz = true := decide_eq_true hxc
    have HXC := Lib.hid hxc
    clear hxc
    by_cases hmn : mn = 0
    rotate_left
    · have q1mn0 : (mn == 0) = false := beq_eq_false_iff_ne.2 (by omega)
      have q2mn0 : ¬ mn = 0 := by omega
      have q3mn0 : (mn != 0) = true := by rw [bne, q1mn0]; rfl
      have HV : Hid (A = false) := by show _ = _; rw [hA]; rw [if_neg h60, if_pos (Or.inr ⟨by decide, Or.inl hmn⟩)]
      clear hkn
      have x2 : W2.heap[w.heap.size]? = some (.cells #[.int .i64 4, .int .u64 xc.a, .int .u64 xc.b, .int .u64 xc.c, .int .u64 xc.d, .slice ko kn kc, .int .i64 mn, .int .i64 mx] 28 (0, 0)) := X2.out
      have hW2 : W2 = w.alloc (.cells #[.int .i64 4, .int .u64 xc.a, .int .u64 xc.b, .int .u64 xc.c, .int .u64 xc.d, .slice ko kn kc, .int .i64 mn, .int .i64 mx] 28) := HW2.out
      have c0 := boxc x2 0 _ rfl
      have c1 := boxc x2 1 _ rfl
      have c2 := boxc x2 2 _ rfl
      have c3 := boxc x2 3 _ rfl
      have c4 := boxc x2 4 _ rfl
      have c5 := boxc x2 5 _ rfl
      have c6 := boxc x2 6 _ rfl
      have c7 := boxc x2 7 _ rfl
      rw [hW2] at c0 c1 c2 c3 c4 c5 c6 c7
      clear x2 hW2 hA 
      go_enter Try.func25, Try.ntmps25
      go_wp2
      go_ret
      refine ⟨by rw [HV.out]; rfl, ?_⟩
      rw [← HW2.out]
      exact HBW.out
    subst hmn
    by_cases hmx : mx = 0
    rotate_left
    · have q1mx0 : (mx == 0) = false := beq_eq_false_iff_ne.2 (by omega)
      have q2mx0 : ¬ mx = 0 := by omega
      have q3mx0 : (mx != 0) = true := by rw [bne, q1mx0]; rfl
      have HV : Hid (A = false) := by show _ = _; rw [hA]; rw [if_neg h60, if_pos (Or.inr ⟨by decide, Or.inr hmx⟩)]
      clear hkn
      have x2 : W2.heap[w.heap.size]? = some (.cells #[.int .i64 4, .int .u64 xc.a, .int .u64 xc.b, .int .u64 xc.c, .int .u64 xc.d, .slice ko kn kc, .int .i64 0, .int .i64 mx] 28 (0, 0)) := X2.out
      have hW2 : W2 = w.alloc (.cells #[.int .i64 4, .int .u64 xc.a, .int .u64 xc.b, .int .u64 xc.c, .int .u64 xc.d, .slice ko kn kc, .int .i64 0, .int .i64 mx] 28) := HW2.out
      have c0 := boxc x2 0 _ rfl
      have c1 := boxc x2 1 _ rfl
      have c2 := boxc x2 2 _ rfl
      have c3 := boxc x2 3 _ rfl
      have c4 := boxc x2 4 _ rfl
      have c5 := boxc x2 5 _ rfl
      have c6 := boxc x2 6 _ rfl
      have c7 := boxc x2 7 _ rfl
      rw [hW2] at c0 c1 c2 c3 c4 c5 c6 c7
      clear x2 hW2 hA 
      go_enter Try.func25, Try.ntmps25
      go_wp2
      go_ret
      refine ⟨by rw [HV.out]; rfl, ?_⟩
      rw [← HW2.out]
      exact HBW.out
    subst hmx
    have hcond : ¬ (((4 : Int) ≠ 2 ∧ xc ≠ Cls.zero) ∨ ((4 : Int) ≠ 5 ∧ ((0 : Int) ≠ 0 ∨ (0 : Int) ≠ 0))) := fun h => h.elim (fun h => h.2 HXC.out) (fun h => h.2.elim (fun h => h rfl) (fun h => h rfl))
    rw [if_neg h60, if_neg hcond] at hA
    rw [if_neg (by decide), if_neg (by decide), if_neg (by decide), if_pos rfl] at hA
    by_cases h2 : 2 ≤ kn
    rotate_left
    · have d2 : decide ((1 : Int) < (kn : Int)) = false := decide_eq_false (by omega)
      have d2' : (kn : Int) ≤ 1 := by omega
      have HV : Hid (A = false) := by show _ = _; rw [hA]; rw [decide_eq_false (by omega : ¬ 2 ≤ xs.length)]; rfl
      clear hkn hcond h2
      have x2 : W2.heap[w.heap.size]? = some (.cells #[.int .i64 4, .int .u64 xc.a, .int .u64 xc.b, .int .u64 xc.c, .int .u64 xc.d, .slice ko kn kc, .int .i64 0, .int .i64 0] 28 (0, 0)) := X2.out
      have hW2 : W2 = w.alloc (.cells #[.int .i64 4, .int .u64 xc.a, .int .u64 xc.b, .int .u64 xc.c, .int .u64 xc.d, .slice ko kn kc, .int .i64 0, .int .i64 0] 28) := HW2.out
      have c0 := boxc x2 0 _ rfl
      have c1 := boxc x2 1 _ rfl
      have c2 := boxc x2 2 _ rfl
      have c3 := boxc x2 3 _ rfl
      have c4 := boxc x2 4 _ rfl
      have c5 := boxc x2 5 _ rfl
      have c6 := boxc x2 6 _ rfl
      have c7 := boxc x2 7 _ rfl
      rw [hW2] at c0 c1 c2 c3 c4 c5 c6 c7
      clear x2 hW2 hA 
      go_enter Try.func25, Try.ntmps25
      go_wp2
      go_ret
      refine ⟨by rw [HV.out]; rfl, ?_⟩
      rw [← HW2.out]
      exact HBW.out
    have d2 : decide ((1 : Int) < (kn : Int)) = true := decide_eq_true (by omega)
    have d2' : (1 : Int) < (kn : Int) := by omega
    have HV : Hid (A = kidsF (fun x => okF d x) [4] xs) := by show _ = _; rw [hA, decide_eq_true (by omega : 2 ≤ xs.length)]; rfl
    have HRK' := Lib.hid (HK.out _ _ _ 4 (HRX.out _ HBW.out))
    clear hkn hcond h2
    have x2 : W2.heap[w.heap.size]? = some (.cells #[.int .i64 4, .int .u64 xc.a, .int .u64 xc.b, .int .u64 xc.c, .int .u64 xc.d, .slice ko kn kc, .int .i64 0, .int .i64 0] 28 (0, 0)) := X2.out
    have hW2 : W2 = w.alloc (.cells #[.int .i64 4, .int .u64 xc.a, .int .u64 xc.b, .int .u64 xc.c, .int .u64 xc.d, .slice ko kn kc, .int .i64 0, .int .i64 0] 28) := HW2.out
    have c0 := boxc x2 0 _ rfl
    have c1 := boxc x2 1 _ rfl
    have c2 := boxc x2 2 _ rfl
    have c3 := boxc x2 3 _ rfl
    have c4 := boxc x2 4 _ rfl
    have c5 := boxc x2 5 _ rfl
    have c6 := boxc x2 6 _ rfl
    have c7 := boxc x2 7 _ rfl
    rw [hW2] at c0 c1 c2 c3 c4 c5 c6 c7
    clear x2 hW2 hA 
    go_enter Try.func25, Try.ntmps25
    go_wp2_with fail
    rw [← HW2.out]
    (with_reducible refine HRK'.out.mono ?_)
    rintro e5 w5 ⟨rfl, b5⟩
    have B5 := Lib.hid (HBW.out.trans (b5.mono HBW.out.size))
    clear b5 c0 c1 c2 c3 c4 c5 c6 c7
    go_wp2
    go_ret
    exact ⟨by rw [HV.out]; rfl, B5.out⟩
  by_cases k5 : xk = 5
  · subst k5
    by_cases hxc : xc = Cls.zero
    rotate_left
    · have hcz := Cls.isz_of hxc
      have HV : Hid (A = false) := by show _ = _; rw [hA]; rw [if_neg h60, if_pos (Or.inl ⟨by decide, hxc⟩)]
      clear hkn
      have x2 : W2.heap[w.heap.size]? = some (.cells #[.int .i64 5, .int .u64 xc.a, .int .u64 xc.b, .int .u64 xc.c, .int .u64 xc.d, .slice ko kn kc, .int .i64 mn, .int .i64 mx] 28 (0, 0)) := X2.out
      have hW2 : W2 = w.alloc (.cells #[.int .i64 5, .int .u64 xc.a, .int .u64 xc.b, .int .u64 xc.c, .int .u64 xc.d, .slice ko kn kc, .int .i64 mn, .int .i64 mx] 28) := HW2.out
      have c0 := boxc x2 0 _ rfl
      have c1 := boxc x2 1 _ rfl
      have c2 := boxc x2 2 _ rfl
      have c3 := boxc x2 3 _ rfl
      have c4 := boxc x2 4 _ rfl
      have c5 := boxc x2 5 _ rfl
      have c6 := boxc x2 6 _ rfl
      have c7 := boxc x2 7 _ rfl
      rw [hW2] at c0 c1 c2 c3 c4 c5 c6 c7
      clear x2 hW2 hA 
      go_enter Try.func25, Try.ntmps25
      go_wp2
      go_ret
      refine ⟨by rw [HV.out]; rfl, ?_⟩
      rw [← HW2.out]
      exact HBW.out
    have hcz : xc.isz = true := decide_eq_true hxc
    have HXC := Lib.hid hxc
    clear hxc
    have hcond : ¬ (((5 : Int) ≠ 2 ∧ xc ≠ Cls.zero) ∨ ((5 : Int) ≠ 5 ∧ (mn ≠ 0 ∨ mx ≠ 0))) := fun h => h.elim (fun h => h.2 HXC.out) (fun h => h.1 rfl)
    rw [if_neg h60, if_neg hcond] at hA
    rw [if_neg (by decide), if_neg (by decide), if_neg (by decide), if_neg (by decide), if_pos rfl] at hA
    by_cases h1 : kn = 1
    rotate_left
    · have q1kn1 : ((kn : Int) == 1) = false := beq_eq_false_iff_ne.2 (by omega)
      have q2kn1 : ¬ (kn : Int) = 1 := by omega
      have q3kn1 : ((kn : Int) != 1) = true := by rw [bne, q1kn1]; rfl
      have HV : Hid (A = false) := by show _ = _; rw [hA]; rw [decide_eq_false (by omega : ¬ xs.length = 1)]; rfl
      clear hkn hcond h1
      have x2 : W2.heap[w.heap.size]? = some (.cells #[.int .i64 5, .int .u64 xc.a, .int .u64 xc.b, .int .u64 xc.c, .int .u64 xc.d, .slice ko kn kc, .int .i64 mn, .int .i64 mx] 28 (0, 0)) := X2.out
      have hW2 : W2 = w.alloc (.cells #[.int .i64 5, .int .u64 xc.a, .int .u64 xc.b, .int .u64 xc.c, .int .u64 xc.d, .slice ko kn kc, .int .i64 mn, .int .i64 mx] 28) := HW2.out
      have c0 := boxc x2 0 _ rfl
      have c1 := boxc x2 1 _ rfl
      have c2 := boxc x2 2 _ rfl
      have c3 := boxc x2 3 _ rfl
      have c4 := boxc x2 4 _ rfl
      have c5 := boxc x2 5 _ rfl
      have c6 := boxc x2 6 _ rfl
      have c7 := boxc x2 7 _ rfl
      rw [hW2] at c0 c1 c2 c3 c4 c5 c6 c7
      clear x2 hW2 hA 
      go_enter Try.func25, Try.ntmps25
      go_wp2
      go_ret
      refine ⟨by rw [HV.out]; rfl, ?_⟩
      rw [← HW2.out]
      exact HBW.out
    subst h1
    have hn3 : decide (((1 : Nat) : Int) = 1) = true := rfl
    rw [decide_eq_true (by omega : xs.length = 1), Bool.true_and] at hA
    by_cases g10 : 0 ≤ mn
    rotate_left
    · have L0_mnd : decide (0 ≤ mn) = false := decide_eq_false (by omega)
      have L0_mnr : mn < 0 := by omega
      have L0_mne : decide (mn < 0) = true := decide_eq_true (by omega)
      have HV : Hid (A = false) := by show _ = _; rw [hA]; rw [show bndB mn mx = false from decide_eq_false (by omega)]; rfl
      clear hkn hcond
      have x2 : W2.heap[w.heap.size]? = some (.cells #[.int .i64 5, .int .u64 xc.a, .int .u64 xc.b, .int .u64 xc.c, .int .u64 xc.d, .slice ko 1 kc, .int .i64 mn, .int .i64 mx] 28 (0, 0)) := X2.out
      have hW2 : W2 = w.alloc (.cells #[.int .i64 5, .int .u64 xc.a, .int .u64 xc.b, .int .u64 xc.c, .int .u64 xc.d, .slice ko 1 kc, .int .i64 mn, .int .i64 mx] 28) := HW2.out
      have c0 := boxc x2 0 _ rfl
      have c1 := boxc x2 1 _ rfl
      have c2 := boxc x2 2 _ rfl
      have c3 := boxc x2 3 _ rfl
      have c4 := boxc x2 4 _ rfl
      have c5 := boxc x2 5 _ rfl
      have c6 := boxc x2 6 _ rfl
      have c7 := boxc x2 7 _ rfl
      rw [hW2] at c0 c1 c2 c3 c4 c5 c6 c7
      clear x2 hW2 hA 
      go_enter Try.func25, Try.ntmps25
      go_wp2
      go_ret
      refine ⟨by rw [HV.out]; rfl, ?_⟩
      rw [← HW2.out]
      exact HBW.out
    have L0_mnd : decide (0 ≤ mn) = true := decide_eq_true (by omega)
    have L0_mnr : 0 ≤ mn := by omega
    have L0_mne : decide (mn < 0) = false := decide_eq_false (by omega)
    by_cases g11 : mn ≤ 20
    rotate_left
    · have Lmn_20d : decide (mn ≤ 20) = false := decide_eq_false (by omega)
      have Lmn_20r : 20 < mn := by omega
      have Lmn_20e : decide (20 < mn) = true := decide_eq_true (by omega)
      have HV : Hid (A = false) := by show _ = _; rw [hA]; rw [show bndB mn mx = false from decide_eq_false (by omega)]; rfl
      clear hkn hcond
      have x2 : W2.heap[w.heap.size]? = some (.cells #[.int .i64 5, .int .u64 xc.a, .int .u64 xc.b, .int .u64 xc.c, .int .u64 xc.d, .slice ko 1 kc, .int .i64 mn, .int .i64 mx] 28 (0, 0)) := X2.out
      have hW2 : W2 = w.alloc (.cells #[.int .i64 5, .int .u64 xc.a, .int .u64 xc.b, .int .u64 xc.c, .int .u64 xc.d, .slice ko 1 kc, .int .i64 mn, .int .i64 mx] 28) := HW2.out
      have c0 := boxc x2 0 _ rfl
      have c1 := boxc x2 1 _ rfl
      have c2 := boxc x2 2 _ rfl
      have c3 := boxc x2 3 _ rfl
      have c4 := boxc x2 4 _ rfl
      have c5 := boxc x2 5 _ rfl
      have c6 := boxc x2 6 _ rfl
      have c7 := boxc x2 7 _ rfl
      rw [hW2] at c0 c1 c2 c3 c4 c5 c6 c7
      clear x2 hW2 hA 
      go_enter Try.func25, Try.ntmps25
      go_wp2
      go_ret
      refine ⟨by rw [HV.out]; rfl, ?_⟩
      rw [← HW2.out]
      exact HBW.out
    have Lmn_20d : decide (mn ≤ 20) = true := decide_eq_true (by omega)
    have Lmn_20r : mn ≤ 20 := by omega
    have Lmn_20e : decide (20 < mn) = false := decide_eq_false (by omega)
    by_cases g12 : -1 ≤ mx
    rotate_left
    · have L1_mxd : decide (-1 ≤ mx) = false := decide_eq_false (by omega)
      have L1_mxr : mx < -1 := by omega
      have L1_mxe : decide (mx < -1) = true := decide_eq_true (by omega)
      have HV : Hid (A = false) := by show _ = _; rw [hA]; rw [show bndB mn mx = false from decide_eq_false (by omega)]; rfl
      clear hkn hcond
      have x2 : W2.heap[w.heap.size]? = some (.cells #[.int .i64 5, .int .u64 xc.a, .int .u64 xc.b, .int .u64 xc.c, .int .u64 xc.d, .slice ko 1 kc, .int .i64 mn, .int .i64 mx] 28 (0, 0)) := X2.out
      have hW2 : W2 = w.alloc (.cells #[.int .i64 5, .int .u64 xc.a, .int .u64 xc.b, .int .u64 xc.c, .int .u64 xc.d, .slice ko 1 kc, .int .i64 mn, .int .i64 mx] 28) := HW2.out
      have c0 := boxc x2 0 _ rfl
      have c1 := boxc x2 1 _ rfl
      have c2 := boxc x2 2 _ rfl
      have c3 := boxc x2 3 _ rfl
      have c4 := boxc x2 4 _ rfl
      have c5 := boxc x2 5 _ rfl
      have c6 := boxc x2 6 _ rfl
      have c7 := boxc x2 7 _ rfl
      rw [hW2] at c0 c1 c2 c3 c4 c5 c6 c7
      clear x2 hW2 hA 
      go_enter Try.func25, Try.ntmps25
      go_wp2
      go_ret
      refine ⟨by rw [HV.out]; rfl, ?_⟩
      rw [← HW2.out]
      exact HBW.out
    have L1_mxd : decide (-1 ≤ mx) = true := decide_eq_true (by omega)
    have L1_mxr : -1 ≤ mx := by omega
    have L1_mxe : decide (mx < -1) = false := decide_eq_false (by omega)
    by_cases g13 : mx ≤ 20
    rotate_left
    · have Lmx_20d : decide (mx ≤ 20) = false := decide_eq_false (by omega)
      have Lmx_20r : 20 < mx := by omega
      have Lmx_20e : decide (20 < mx) = true := decide_eq_true (by omega)
      have HV : Hid (A = false) := by show _ = _; rw [hA]; rw [show bndB mn mx = false from decide_eq_false (by omega)]; rfl
      clear hkn hcond
      have x2 : W2.heap[w.heap.size]? = some (.cells #[.int .i64 5, .int .u64 xc.a, .int .u64 xc.b, .int .u64 xc.c, .int .u64 xc.d, .slice ko 1 kc, .int .i64 mn, .int .i64 mx] 28 (0, 0)) := X2.out
      have hW2 : W2 = w.alloc (.cells #[.int .i64 5, .int .u64 xc.a, .int .u64 xc.b, .int .u64 xc.c, .int .u64 xc.d, .slice ko 1 kc, .int .i64 mn, .int .i64 mx] 28) := HW2.out
      have c0 := boxc x2 0 _ rfl
      have c1 := boxc x2 1 _ rfl
      have c2 := boxc x2 2 _ rfl
      have c3 := boxc x2 3 _ rfl
      have c4 := boxc x2 4 _ rfl
      have c5 := boxc x2 5 _ rfl
      have c6 := boxc x2 6 _ rfl
      have c7 := boxc x2 7 _ rfl
      rw [hW2] at c0 c1 c2 c3 c4 c5 c6 c7
      clear x2 hW2 hA 
      go_enter Try.func25, Try.ntmps25
      go_wp2
      go_ret
      refine ⟨by rw [HV.out]; rfl, ?_⟩
      rw [← HW2.out]
      exact HBW.out
    have Lmx_20d : decide (mx ≤ 20) = true := decide_eq_true (by omega)
    have Lmx_20r : mx ≤ 20 := by omega
    have Lmx_20e : decide (20 < mx) = false := decide_eq_false (by omega)
    by_cases g5 : mx < 0
    · have L0_mxd : decide (0 ≤ mx) = false := decide_eq_false (by omega)
      have L0_mxr : mx < 0 := by omega
      have L0_mxe : decide (mx < 0) = true := decide_eq_true (by omega)
      by_cases g6 : mn = 1
      · subst g6
        have q1mx1 : (mx == 1) = false := beq_eq_false_iff_ne.2 (by omega)
        have q2mx1 : ¬ mx = 1 := by omega
        have q3mx1 : (mx != 1) = true := by rw [bne, q1mx1]; rfl
        have HV : Hid (A = kidsF (fun x => okF d x) [0] xs) := by show _ = _; rw [hA, show bndB 1 mx = true from decide_eq_true (by omega), Bool.true_and]; exact kidsF_0
        have HRK' := Lib.hid (HK.out _ _ _ 0 (HRX.out _ HBW.out))
        clear hkn hcond
        have x2 : W2.heap[w.heap.size]? = some (.cells #[.int .i64 5, .int .u64 xc.a, .int .u64 xc.b, .int .u64 xc.c, .int .u64 xc.d, .slice ko 1 kc, .int .i64 1, .int .i64 mx] 28 (0, 0)) := X2.out
        have hW2 : W2 = w.alloc (.cells #[.int .i64 5, .int .u64 xc.a, .int .u64 xc.b, .int .u64 xc.c, .int .u64 xc.d, .slice ko 1 kc, .int .i64 1, .int .i64 mx] 28) := HW2.out
        have c0 := boxc x2 0 _ rfl
        have c1 := boxc x2 1 _ rfl
        have c2 := boxc x2 2 _ rfl
        have c3 := boxc x2 3 _ rfl
        have c4 := boxc x2 4 _ rfl
        have c5 := boxc x2 5 _ rfl
        have c6 := boxc x2 6 _ rfl
        have c7 := boxc x2 7 _ rfl
        rw [hW2] at c0 c1 c2 c3 c4 c5 c6 c7
        clear x2 hW2 hA 
        go_enter Try.func25, Try.ntmps25
        go_wp2_with fail
        rw [← HW2.out]
        (with_reducible refine HRK'.out.mono ?_)
        rintro e5 w5 ⟨rfl, b5⟩
        have B5 := Lib.hid (HBW.out.trans (b5.mono HBW.out.size))
        clear b5 c0 c1 c2 c3 c4 c5 c6 c7
        go_wp2
        go_ret
        exact ⟨by rw [HV.out]; rfl, B5.out⟩
      · have q1mn1 : (mn == 1) = false := beq_eq_false_iff_ne.2 (by omega)
        have q2mn1 : ¬ mn = 1 := by omega
        have q3mn1 : (mn != 1) = true := by rw [bne, q1mn1]; rfl
        have HV : Hid (A = kidsF (fun x => okF d x) [0] xs) := by show _ = _; rw [hA, show bndB mn mx = true from decide_eq_true (by omega), Bool.true_and]; exact kidsF_0
        have HRK' := Lib.hid (HK.out _ _ _ 0 (HRX.out _ HBW.out))
        clear hkn hcond
        have x2 : W2.heap[w.heap.size]? = some (.cells #[.int .i64 5, .int .u64 xc.a, .int .u64 xc.b, .int .u64 xc.c, .int .u64 xc.d, .slice ko 1 kc, .int .i64 mn, .int .i64 mx] 28 (0, 0)) := X2.out
        have hW2 : W2 = w.alloc (.cells #[.int .i64 5, .int .u64 xc.a, .int .u64 xc.b, .int .u64 xc.c, .int .u64 xc.d, .slice ko 1 kc, .int .i64 mn, .int .i64 mx] 28) := HW2.out
        have c0 := boxc x2 0 _ rfl
        have c1 := boxc x2 1 _ rfl
        have c2 := boxc x2 2 _ rfl
        have c3 := boxc x2 3 _ rfl
        have c4 := boxc x2 4 _ rfl
        have c5 := boxc x2 5 _ rfl
        have c6 := boxc x2 6 _ rfl
        have c7 := boxc x2 7 _ rfl
        rw [hW2] at c0 c1 c2 c3 c4 c5 c6 c7
        clear x2 hW2 hA 
        go_enter Try.func25, Try.ntmps25
        go_wp2_with fail
        rw [← HW2.out]
        (with_reducible refine HRK'.out.mono ?_)
        rintro e5 w5 ⟨rfl, b5⟩
        have B5 := Lib.hid (HBW.out.trans (b5.mono HBW.out.size))
        clear b5 c0 c1 c2 c3 c4 c5 c6 c7
        go_wp2
        go_ret
        exact ⟨by rw [HV.out]; rfl, B5.out⟩
    have L0_mxd : decide (0 ≤ mx) = true := decide_eq_true (by omega)
    have L0_mxr : 0 ≤ mx := by omega
    have L0_mxe : decide (mx < 0) = false := decide_eq_false (by omega)
    by_cases g8 : mn ≤ mx
    rotate_left
    · have Lmn_mxd : decide (mn ≤ mx) = false := decide_eq_false (by omega)
      have Lmn_mxr : mx < mn := by omega
      have Lmn_mxe : decide (mx < mn) = true := decide_eq_true (by omega)
      have HV : Hid (A = false) := by show _ = _; rw [hA]; rw [show bndB mn mx = false from decide_eq_false (by omega)]; rfl
      clear hkn hcond
      have x2 : W2.heap[w.heap.size]? = some (.cells #[.int .i64 5, .int .u64 xc.a, .int .u64 xc.b, .int .u64 xc.c, .int .u64 xc.d, .slice ko 1 kc, .int .i64 mn, .int .i64 mx] 28 (0, 0)) := X2.out
      have hW2 : W2 = w.alloc (.cells #[.int .i64 5, .int .u64 xc.a, .int .u64 xc.b, .int .u64 xc.c, .int .u64 xc.d, .slice ko 1 kc, .int .i64 mn, .int .i64 mx] 28) := HW2.out
      have c0 := boxc x2 0 _ rfl
      have c1 := boxc x2 1 _ rfl
      have c2 := boxc x2 2 _ rfl
      have c3 := boxc x2 3 _ rfl
      have c4 := boxc x2 4 _ rfl
      have c5 := boxc x2 5 _ rfl
      have c6 := boxc x2 6 _ rfl
      have c7 := boxc x2 7 _ rfl
      rw [hW2] at c0 c1 c2 c3 c4 c5 c6 c7
      clear x2 hW2 hA 
      go_enter Try.func25, Try.ntmps25
      go_wp2
      go_ret
      refine ⟨by rw [HV.out]; rfl, ?_⟩
      rw [← HW2.out]
      exact HBW.out
    have Lmn_mxd : decide (mn ≤ mx) = true := decide_eq_true (by omega)
    have Lmn_mxr : mn ≤ mx := by omega
    have Lmn_mxe : decide (mx < mn) = false := decide_eq_false (by omega)
    by_cases g6 : mn = 1
    · subst g6
      by_cases g7 : mx = 1
      · subst g7
        have HV : Hid (A = false) := by show _ = _; rw [hA]; rw [show bndB 1 1 = false from decide_eq_false (by omega)]; rfl
        clear hkn hcond
        have x2 : W2.heap[w.heap.size]? = some (.cells #[.int .i64 5, .int .u64 xc.a, .int .u64 xc.b, .int .u64 xc.c, .int .u64 xc.d, .slice ko 1 kc, .int .i64 1, .int .i64 1] 28 (0, 0)) := X2.out
        have hW2 : W2 = w.alloc (.cells #[.int .i64 5, .int .u64 xc.a, .int .u64 xc.b, .int .u64 xc.c, .int .u64 xc.d, .slice ko 1 kc, .int .i64 1, .int .i64 1] 28) := HW2.out
        have c0 := boxc x2 0 _ rfl
        have c1 := boxc x2 1 _ rfl
        have c2 := boxc x2 2 _ rfl
        have c3 := boxc x2 3 _ rfl
        have c4 := boxc x2 4 _ rfl
        have c5 := boxc x2 5 _ rfl
        have c6 := boxc x2 6 _ rfl
        have c7 := boxc x2 7 _ rfl
        rw [hW2] at c0 c1 c2 c3 c4 c5 c6 c7
        clear x2 hW2 hA 
        go_enter Try.func25, Try.ntmps25
        go_wp2
        go_ret
        refine ⟨by rw [HV.out]; rfl, ?_⟩
        rw [← HW2.out]
        exact HBW.out
      · have q1mx1 : (mx == 1) = false := beq_eq_false_iff_ne.2 (by omega)
        have q2mx1 : ¬ mx = 1 := by omega
        have q3mx1 : (mx != 1) = true := by rw [bne, q1mx1]; rfl
        have HV : Hid (A = kidsF (fun x => okF d x) [0] xs) := by show _ = _; rw [hA, show bndB 1 mx = true from decide_eq_true (by omega), Bool.true_and]; exact kidsF_0
        have HRK' := Lib.hid (HK.out _ _ _ 0 (HRX.out _ HBW.out))
        clear hkn hcond
        have x2 : W2.heap[w.heap.size]? = some (.cells #[.int .i64 5, .int .u64 xc.a, .int .u64 xc.b, .int .u64 xc.c, .int .u64 xc.d, .slice ko 1 kc, .int .i64 1, .int .i64 mx] 28 (0, 0)) := X2.out
        have hW2 : W2 = w.alloc (.cells #[.int .i64 5, .int .u64 xc.a, .int .u64 xc.b, .int .u64 xc.c, .int .u64 xc.d, .slice ko 1 kc, .int .i64 1, .int .i64 mx] 28) := HW2.out
        have c0 := boxc x2 0 _ rfl
        have c1 := boxc x2 1 _ rfl
        have c2 := boxc x2 2 _ rfl
        have c3 := boxc x2 3 _ rfl
        have c4 := boxc x2 4 _ rfl
        have c5 := boxc x2 5 _ rfl
        have c6 := boxc x2 6 _ rfl
        have c7 := boxc x2 7 _ rfl
        rw [hW2] at c0 c1 c2 c3 c4 c5 c6 c7
        clear x2 hW2 hA 
        go_enter Try.func25, Try.ntmps25
        go_wp2_with fail
        rw [← HW2.out]
        (with_reducible refine HRK'.out.mono ?_)
        rintro e5 w5 ⟨rfl, b5⟩
        have B5 := Lib.hid (HBW.out.trans (b5.mono HBW.out.size))
        clear b5 c0 c1 c2 c3 c4 c5 c6 c7
        go_wp2
        go_ret
        exact ⟨by rw [HV.out]; rfl, B5.out⟩
    have q1mn1 : (mn == 1) = false := beq_eq_false_iff_ne.2 (by omega)
    have q2mn1 : ¬ mn = 1 := by omega
    have q3mn1 : (mn != 1) = true := by rw [bne, q1mn1]; rfl
    have HV : Hid (A = kidsF (fun x => okF d x) [0] xs) := by show _ = _; rw [hA, show bndB mn mx = true from decide_eq_true (by omega), Bool.true_and]; exact kidsF_0
    have HRK' := Lib.hid (HK.out _ _ _ 0 (HRX.out _ HBW.out))
    clear hkn hcond
    have x2 : W2.heap[w.heap.size]? = some (.cells #[.int .i64 5, .int .u64 xc.a, .int .u64 xc.b, .int .u64 xc.c, .int .u64 xc.d, .slice ko 1 kc, .int .i64 mn, .int .i64 mx] 28 (0, 0)) := X2.out
    have hW2 : W2 = w.alloc (.cells #[.int .i64 5, .int .u64 xc.a, .int .u64 xc.b, .int .u64 xc.c, .int .u64 xc.d, .slice ko 1 kc, .int .i64 mn, .int .i64 mx] 28) := HW2.out
    have c0 := boxc x2 0 _ rfl
    have c1 := boxc x2 1 _ rfl
    have c2 := boxc x2 2 _ rfl
    have c3 := boxc x2 3 _ rfl
    have c4 := boxc x2 4 _ rfl
    have c5 := boxc x2 5 _ rfl
    have c6 := boxc x2 6 _ rfl
    have c7 := boxc x2 7 _ rfl
    rw [hW2] at c0 c1 c2 c3 c4 c5 c6 c7
    clear x2 hW2 hA 
    go_enter Try.func25, Try.ntmps25
    go_wp2_with fail
    rw [← HW2.out]
    (with_reducible refine HRK'.out.mono ?_)
    rintro e5 w5 ⟨rfl, b5⟩
    have B5 := Lib.hid (HBW.out.trans (b5.mono HBW.out.size))
    clear b5 c0 c1 c2 c3 c4 c5 c6 c7
    go_wp2
    go_ret
    exact ⟨by rw [HV.out]; rfl, B5.out⟩
  have q1xk1 : (xk == 1) = false := beq_eq_false_iff_ne.2 (by omega)
  have q2xk1 : ¬ xk = 1 := by omega
  have q3xk1 : (xk != 1) = true := by rw [bne, q1xk1]; rfl
  have q1xk2 : (xk == 2) = false := beq_eq_false_iff_ne.2 (by omega)
  have q2xk2 : ¬ xk = 2 := by omega
  have q3xk2 : (xk != 2) = true := by rw [bne, q1xk2]; rfl
  have q1xk3 : (xk == 3) = false := beq_eq_false_iff_ne.2 (by omega)
  have q2xk3 : ¬ xk = 3 := by omega
  have q3xk3 : (xk != 3) = true := by rw [bne, q1xk3]; rfl
  have q1xk4 : (xk == 4) = false := beq_eq_false_iff_ne.2 (by omega)
  have q2xk4 : ¬ xk = 4 := by omega
  have q3xk4 : (xk != 4) = true := by rw [bne, q1xk4]; rfl
  have q1xk5 : (xk == 5) = false := beq_eq_false_iff_ne.2 (by omega)
  have q2xk5 : ¬ xk = 5 := by omega
  have q3xk5 : (xk != 5) = true := by rw [bne, q1xk5]; rfl
  by_cases hxc : xc = Cls.zero
  rotate_left
  · have hcz := Cls.isz_of hxc
    have HV : Hid (A = false) := by show _ = _; rw [hA]; rw [if_neg h60, if_pos (Or.inl ⟨k2, hxc⟩)]
    clear hkn
    have x2 : W2.heap[w.heap.size]? = some (.cells #[.int .i64 xk, .int .u64 xc.a, .int .u64 xc.b, .int .u64 xc.c, .int .u64 xc.d, .slice ko kn kc, .int .i64 mn, .int .i64 mx] 28 (0, 0)) := X2.out
    have hW2 : W2 = w.alloc (.cells #[.int .i64 xk, .int .u64 xc.a, .int .u64 xc.b, .int .u64 xc.c, .int .u64 xc.d, .slice ko kn kc, .int .i64 mn, .int .i64 mx] 28) := HW2.out
    have c0 := boxc x2 0 _ rfl
    have c1 := boxc x2 1 _ rfl
    have c2 := boxc x2 2 _ rfl
    have c3 := boxc x2 3 _ rfl
    have c4 := boxc x2 4 _ rfl
    have c5 := boxc x2 5 _ rfl
    have c6 := boxc x2 6 _ rfl
    have c7 := boxc x2 7 _ rfl
    rw [hW2] at c0 c1 c2 c3 c4 c5 c6 c7
    clear x2 hW2 hA 
    go_enter Try.func25, Try.ntmps25
    go_wp2
    go_ret
    refine ⟨by rw [HV.out]; rfl, ?_⟩
    rw [← HW2.out]
    exact HBW.out
  have hcz : xc.isz = true := decide_eq_true hxc
  have HXC := Lib.hid hxc
  clear hxc
  by_cases hmn : mn = 0
  rotate_left
  · have q1mn0 : (mn == 0) = false := beq_eq_false_iff_ne.2 (by omega)
    have q2mn0 : ¬ mn = 0 := by omega
    have q3mn0 : (mn != 0) = true := by rw [bne, q1mn0]; rfl
    have HV : Hid (A = false) := by show _ = _; rw [hA]; rw [if_neg h60, if_pos (Or.inr ⟨k5, Or.inl hmn⟩)]
    clear hkn
    have x2 : W2.heap[w.heap.size]? = some (.cells #[.int .i64 xk, .int .u64 xc.a, .int .u64 xc.b, .int .u64 xc.c, .int .u64 xc.d, .slice ko kn kc, .int .i64 mn, .int .i64 mx] 28 (0, 0)) := X2.out
    have hW2 : W2 = w.alloc (.cells #[.int .i64 xk, .int .u64 xc.a, .int .u64 xc.b, .int .u64 xc.c, .int .u64 xc.d, .slice ko kn kc, .int .i64 mn, .int .i64 mx] 28) := HW2.out
    have c0 := boxc x2 0 _ rfl
    have c1 := boxc x2 1 _ rfl
    have c2 := boxc x2 2 _ rfl
    have c3 := boxc x2 3 _ rfl
    have c4 := boxc x2 4 _ rfl
    have c5 := boxc x2 5 _ rfl
    have c6 := boxc x2 6 _ rfl
    have c7 := boxc x2 7 _ rfl
    rw [hW2] at c0 c1 c2 c3 c4 c5 c6 c7
    clear x2 hW2 hA 
    go_enter Try.func25, Try.ntmps25
    go_wp2
    go_ret
    refine ⟨by rw [HV.out]; rfl, ?_⟩
    rw [← HW2.out]
    exact HBW.out
  subst hmn
  by_cases hmx : mx = 0
  rotate_left
  · have q1mx0 : (mx == 0) = false := beq_eq_false_iff_ne.2 (by omega)
    have q2mx0 : ¬ mx = 0 := by omega
    have q3mx0 : (mx != 0) = true := by rw [bne, q1mx0]; rfl
    have HV : Hid (A = false) := by show _ = _; rw [hA]; rw [if_neg h60, if_pos (Or.inr ⟨k5, Or.inr hmx⟩)]
    clear hkn
    have x2 : W2.heap[w.heap.size]? = some (.cells #[.int .i64 xk, .int .u64 xc.a, .int .u64 xc.b, .int .u64 xc.c, .int .u64 xc.d, .slice ko kn kc, .int .i64 0, .int .i64 mx] 28 (0, 0)) := X2.out
    have hW2 : W2 = w.alloc (.cells #[.int .i64 xk, .int .u64 xc.a, .int .u64 xc.b, .int .u64 xc.c, .int .u64 xc.d, .slice ko kn kc, .int .i64 0, .int .i64 mx] 28) := HW2.out
    have c0 := boxc x2 0 _ rfl
    have c1 := boxc x2 1 _ rfl
    have c2 := boxc x2 2 _ rfl
    have c3 := boxc x2 3 _ rfl
    have c4 := boxc x2 4 _ rfl
    have c5 := boxc x2 5 _ rfl
    have c6 := boxc x2 6 _ rfl
    have c7 := boxc x2 7 _ rfl
    rw [hW2] at c0 c1 c2 c3 c4 c5 c6 c7
    clear x2 hW2 hA 
    go_enter Try.func25, Try.ntmps25
    go_wp2
    go_ret
    refine ⟨by rw [HV.out]; rfl, ?_⟩
    rw [← HW2.out]
    exact HBW.out
  subst hmx
  have hcond : ¬ (((xk : Int) ≠ 2 ∧ xc ≠ Cls.zero) ∨ ((xk : Int) ≠ 5 ∧ ((0 : Int) ≠ 0 ∨ (0 : Int) ≠ 0))) := fun h => h.elim (fun h => h.2 HXC.out) (fun h => h.2.elim (fun h => h rfl) (fun h => h rfl))
  rw [if_neg h60, if_neg hcond] at hA
  rw [if_neg k1, if_neg k2, if_neg k3, if_neg k4, if_neg k5] at hA
  have HV : Hid (A = false) := hA
  clear hkn hcond
  have x2 : W2.heap[w.heap.size]? = some (.cells #[.int .i64 xk, .int .u64 xc.a, .int .u64 xc.b, .int .u64 xc.c, .int .u64 xc.d, .slice ko kn kc, .int .i64 0, .int .i64 0] 28 (0, 0)) := X2.out
  have hW2 : W2 = w.alloc (.cells #[.int .i64 xk, .int .u64 xc.a, .int .u64 xc.b, .int .u64 xc.c, .int .u64 xc.d, .slice ko kn kc, .int .i64 0, .int .i64 0] 28) := HW2.out
  have c0 := boxc x2 0 _ rfl
  have c1 := boxc x2 1 _ rfl
  have c2 := boxc x2 2 _ rfl
  have c3 := boxc x2 3 _ rfl
  have c4 := boxc x2 4 _ rfl
  have c5 := boxc x2 5 _ rfl
  have c6 := boxc x2 6 _ rfl
  have c7 := boxc x2 7 _ rfl
  rw [hW2] at c0 c1 c2 c3 c4 c5 c6 c7
  clear x2 hW2 hA 
  go_enter Try.func25, Try.ntmps25
  go_wp2
  go_ret
  refine ⟨by rw [HV.out]; rfl, ?_⟩
  rw [← HW2.out]
  exact HBW.out
end Go.Proofs.Ytbccejlemhgioaa
