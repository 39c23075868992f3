/- texts put together: RxOkY, RxOkZ. -/
import Derived.Test.YtmfgplbfojnkdaaNf01
namespace Go.Proofs.Ytmfgplbfojnkdaa
open Go Go.RowKit Go.ChangeShapes cl rx
set_option maxHeartbeats 25600000 in
set_option maxRecDepth 100000 in
theorem right_of (d e : Nat) (z : Int) (hzd : z = (d : Int) + 1) (hd : d ≤ 1000) (HK0 : ∀ (l : List Pat) (v nv : Value) (zs : List Int) (w : World), RowsAt 8 (rxR e) w w.heap.size v l → NotP nv zs w → Calls Try.prog 52 #[v, .int .i64 (z - 1), nv] w (fun e w' => e = .returned (.bool (kidsF (fun x => okF d x) zs l)) ∧ Below w.heap.size w w'))
  (x : Pat) (c : List Value) (w : World) (h : rxR (e + 1) w w.heap.size c x) : Calls Try.prog 34 #[.agg c.toArray, .int .i64 z] w (fun e w' => e = .returned (.bool (okF (d + 1) x)) ∧ Below w.heap.size w w') := by
 cases x with
 | mk xk xc xs mn mx =>
 obtain ⟨ko, kn, kc, rfl, hK⟩ := h
 simp only [Pat.k, Pat.cl, Pat.ks, Pat.mn, Pat.mx] at hK ⊢
 have hkn : kn = xs.length := by
  obtain ⟨_, _, e, _, _⟩ := hK.form
  simp only [Value.slice.injEq] at e
  exact e.2.1
 have hz0 : (z == 0) = false := beq_eq_false_iff_ne.2 (by omega)
 have hz1 : ¬ z = 0 := by omega
 have hz2 : decide (z < 1) = false := decide_eq_false (by omega)
 have hz3 : (1 : Int) ≤ z := by omega
 have hzw : IntKind.i64.wrap (z - 1) = z - 1 := IntWalk.i64_in _ (by omega)
 have HK := Lib.hid HK0
 obtain ⟨W2, hW2⟩ : ∃ W, W = w.alloc (.cells #[.int .i64 xk, .int .u64 xc.a, .int .u64 xc.b, .int .u64 xc.c, .int .u64 xc.d, .slice ko kn kc, .int .i64 mn, .int .i64 mx] 27) := ⟨_, rfl⟩
 have b2 : Below w.heap.size w W2 := by rw [hW2]; exact below1
 have x2 : W2.heap[w.heap.size]? = some (.cells #[.int .i64 xk, .int .u64 xc.a, .int .u64 xc.b, .int .u64 xc.c, .int .u64 xc.d, .slice ko kn kc, .int .i64 mn, .int .i64 mx] 27 (0, 0)) := by rw [hW2]; exact heap_alloc_new _ _
 have HBW : Hid (Below w.heap.size w (w.alloc (.cells #[.int .i64 xk, .int .u64 xc.a, .int .u64 xc.b, .int .u64 xc.c, .int .u64 xc.d, .slice ko kn kc, .int .i64 mn, .int .i64 mx] 27))) := below1
 rw [← hW2] at HBW
 have HRW : Hid (∀ W, Below w.heap.size w W → RowsAt 8 (rxR e) W W.heap.size (.slice ko kn kc) xs) := fun W hW => hK.next (rxR_steady e) hW
 have X2 := Lib.hid x2
 have HW2 := Lib.hid hW2
 obtain ⟨A, hA⟩ : ∃ A, A = okF (d + 1) (.mk xk xc xs mn mx) := ⟨_, rfl⟩
 rw [← hA]
 unfold okF at hA
 clear hK b2 x2 hW2 HK0 hzd hd
 by_cases h60 : 60 < xs.length
 ·
  have d60 : decide ((60 : Int) < (kn : Int)) = true := decide_eq_true (by omega)
  have HV : Hid (A = false) := by show _ = _; rw [hA]; rw [if_pos h60]
  clear hkn
  have x2 : W2.heap[w.heap.size]? = some (.cells #[.int .i64 xk, .int .u64 xc.a, .int .u64 xc.b, .int .u64 xc.c, .int .u64 xc.d, .slice ko kn kc, .int .i64 mn, .int .i64 mx] 27 (0, 0)) := X2.out
  have hW2 : W2 = w.alloc (.cells #[.int .i64 xk, .int .u64 xc.a, .int .u64 xc.b, .int .u64 xc.c, .int .u64 xc.d, .slice ko kn kc, .int .i64 mn, .int .i64 mx] 27) := HW2.out
  have c0 := boxc x2 0 _ rfl
  have c1 := boxc x2 1 _ rfl
  have c2 := boxc x2 2 _ rfl
  have c3 := boxc x2 3 _ rfl
  have c4 := boxc x2 4 _ rfl
  have c5 := boxc x2 5 _ rfl
  have c6 := boxc x2 6 _ rfl
  have c7 := boxc x2 7 _ rfl
  rw [hW2] at c0 c1 c2 c3 c4 c5 c6 c7
  clear x2 hW2 hA
  go_enter Try.func34, Try.ntmps34
  go_wp2
  go_ret
  refine ⟨by rw [HV.out]; rfl, ?_⟩
  rw [← HW2.out]
  exact HBW.out
 have d60 : decide ((60 : Int) < (kn : Int)) = false := decide_eq_false (by omega)
 have d60' : (kn : Int) ≤ 60 := by omega
 by_cases k1 : xk = 1
 ·
  subst k1
  by_cases hxc : xc = Cls.zero
  rotate_left
  ·
   have hcz := Cls.isz_of hxc
   have HV : Hid (A = false) := by show _ = _; rw [hA]; rw [if_neg h60, if_pos (Or.inl ⟨by decide, hxc⟩)]
   clear hkn
   have x2 : W2.heap[w.heap.size]? = some (.cells #[.int .i64 1, .int .u64 xc.a, .int .u64 xc.b, .int .u64 xc.c, .int .u64 xc.d, .slice ko kn kc, .int .i64 mn, .int .i64 mx] 27 (0, 0)) := X2.out
   have hW2 : W2 = w.alloc (.cells #[.int .i64 1, .int .u64 xc.a, .int .u64 xc.b, .int .u64 xc.c, .int .u64 xc.d, .slice ko kn kc, .int .i64 mn, .int .i64 mx] 27) := HW2.out
   have c0 := boxc x2 0 _ rfl
   have c1 := boxc x2 1 _ rfl
   have c2 := boxc x2 2 _ rfl
   have c3 := boxc x2 3 _ rfl
   have c4 := boxc x2 4 _ rfl
   have c5 := boxc x2 5 _ rfl
   have c6 := boxc x2 6 _ rfl
   have c7 := boxc x2 7 _ rfl
   rw [hW2] at c0 c1 c2 c3 c4 c5 c6 c7
   clear x2 hW2 hA
   go_enter Try.func34, Try.ntmps34
   go_wp2
   go_ret
   refine ⟨by rw [HV.out]; rfl, ?_⟩
   rw [← HW2.out]
   exact HBW.out
  have hcz : xc.isz = true := decide_eq_true hxc
  have HXC := Lib.hid hxc
  clear hxc
  by_cases hmn : mn = 0
  rotate_left
  ·
   have q1mn0 : (mn == 0) = false := beq_eq_false_iff_ne.2 (by omega)
   have q2mn0 : ¬ mn = 0 := by omega
   have q3mn0 : (mn != 0) = true := by rw [bne, q1mn0]; rfl
   have HV : Hid (A = false) := by show _ = _; rw [hA]; rw [if_neg h60, if_pos (Or.inr ⟨by decide, Or.inl hmn⟩)]
   clear hkn
   have x2 : W2.heap[w.heap.size]? = some (.cells #[.int .i64 1, .int .u64 xc.a, .int .u64 xc.b, .int .u64 xc.c, .int .u64 xc.d, .slice ko kn kc, .int .i64 mn, .int .i64 mx] 27 (0, 0)) := X2.out
   have hW2 : W2 = w.alloc (.cells #[.int .i64 1, .int .u64 xc.a, .int .u64 xc.b, .int .u64 xc.c, .int .u64 xc.d, .slice ko kn kc, .int .i64 mn, .int .i64 mx] 27) := HW2.out
   have c0 := boxc x2 0 _ rfl
   have c1 := boxc x2 1 _ rfl
   have c2 := boxc x2 2 _ rfl
   have c3 := boxc x2 3 _ rfl
   have c4 := boxc x2 4 _ rfl
   have c5 := boxc x2 5 _ rfl
   have c6 := boxc x2 6 _ rfl
   have c7 := boxc x2 7 _ rfl
   rw [hW2] at c0 c1 c2 c3 c4 c5 c6 c7
   clear x2 hW2 hA
   go_enter Try.func34, Try.ntmps34
   go_wp2
   go_ret
   refine ⟨by rw [HV.out]; rfl, ?_⟩
   rw [← HW2.out]
   exact HBW.out
  subst hmn
  by_cases hmx : mx = 0
  rotate_left
  ·
   have q1mx0 : (mx == 0) = false := beq_eq_false_iff_ne.2 (by omega)
   have q2mx0 : ¬ mx = 0 := by omega
   have q3mx0 : (mx != 0) = true := by rw [bne, q1mx0]; rfl
   have HV : Hid (A = false) := by show _ = _; rw [hA]; rw [if_neg h60, if_pos (Or.inr ⟨by decide, Or.inr hmx⟩)]
   clear hkn
   have x2 : W2.heap[w.heap.size]? = some (.cells #[.int .i64 1, .int .u64 xc.a, .int .u64 xc.b, .int .u64 xc.c, .int .u64 xc.d, .slice ko kn kc, .int .i64 0, .int .i64 mx] 27 (0, 0)) := X2.out
   have hW2 : W2 = w.alloc (.cells #[.int .i64 1, .int .u64 xc.a, .int .u64 xc.b, .int .u64 xc.c, .int .u64 xc.d, .slice ko kn kc, .int .i64 0, .int .i64 mx] 27) := HW2.out
   have c0 := boxc x2 0 _ rfl
   have c1 := boxc x2 1 _ rfl
   have c2 := boxc x2 2 _ rfl
   have c3 := boxc x2 3 _ rfl
   have c4 := boxc x2 4 _ rfl
   have c5 := boxc x2 5 _ rfl
   have c6 := boxc x2 6 _ rfl
   have c7 := boxc x2 7 _ rfl
   rw [hW2] at c0 c1 c2 c3 c4 c5 c6 c7
   clear x2 hW2 hA
   go_enter Try.func34, Try.ntmps34
   go_wp2
   go_ret
   refine ⟨by rw [HV.out]; rfl, ?_⟩
   rw [← HW2.out]
   exact HBW.out
  subst hmx
  have hcond : ¬ (((1 : Int) ≠ 2 ∧ xc ≠ Cls.zero) ∨ ((1 : Int) ≠ 5 ∧ ((0 : Int) ≠ 0 ∨ (0 : Int) ≠ 0))) := fun h => h.elim (fun h => h.2 HXC.out) (fun h => h.2.elim (fun h => h rfl) (fun h => h rfl))
  rw [if_neg h60, if_neg hcond] at hA
  rw [if_pos rfl] at hA
  by_cases h0 : kn = 0
  ·
   subst h0
   have HV : Hid (A = true) := by show _ = _; rw [hA]; exact decide_eq_true (by omega)
   clear hkn hcond
   have x2 : W2.heap[w.heap.size]? = some (.cells #[.int .i64 1, .int .u64 xc.a, .int .u64 xc.b, .int .u64 xc.c, .int .u64 xc.d, .slice ko 0 kc, .int .i64 0, .int .i64 0] 27 (0, 0)) := X2.out
   have hW2 : W2 = w.alloc (.cells #[.int .i64 1, .int .u64 xc.a, .int .u64 xc.b, .int .u64 xc.c, .int .u64 xc.d, .slice ko 0 kc, .int .i64 0, .int .i64 0] 27) := HW2.out
   have c0 := boxc x2 0 _ rfl
   have c1 := boxc x2 1 _ rfl
   have c2 := boxc x2 2 _ rfl
   have c3 := boxc x2 3 _ rfl
   have c4 := boxc x2 4 _ rfl
   have c5 := boxc x2 5 _ rfl
   have c6 := boxc x2 6 _ rfl
   have c7 := boxc x2 7 _ rfl
   rw [hW2] at c0 c1 c2 c3 c4 c5 c6 c7
   clear x2 hW2 hA
   go_enter Try.func34, Try.ntmps34
   go_wp2
   go_ret
   refine ⟨by rw [HV.out]; rfl, ?_⟩
   rw [← HW2.out]
   exact HBW.out
  have q1kn0 : ((kn : Int) == 0) = false := beq_eq_false_iff_ne.2 (by omega)
  have q2kn0 : ¬ (kn : Int) = 0 := by omega
  have q3kn0 : ((kn : Int) != 0) = true := by rw [bne, q1kn0]; rfl
  have HV : Hid (A = false) := by show _ = _; rw [hA]; exact decide_eq_false (by omega)
  clear hkn hcond
  have x2 : W2.heap[w.heap.size]? = some (.cells #[.int .i64 1, .int .u64 xc.a, .int .u64 xc.b, .int .u64 xc.c, .int .u64 xc.d, .slice ko kn kc, .int .i64 0, .int .i64 0] 27 (0, 0)) := X2.out
  have hW2 : W2 = w.alloc (.cells #[.int .i64 1, .int .u64 xc.a, .int .u64 xc.b, .int .u64 xc.c, .int .u64 xc.d, .slice ko kn kc, .int .i64 0, .int .i64 0] 27) := HW2.out
  have c0 := boxc x2 0 _ rfl
  have c1 := boxc x2 1 _ rfl
  have c2 := boxc x2 2 _ rfl
  have c3 := boxc x2 3 _ rfl
  have c4 := boxc x2 4 _ rfl
  have c5 := boxc x2 5 _ rfl
  have c6 := boxc x2 6 _ rfl
  have c7 := boxc x2 7 _ rfl
  rw [hW2] at c0 c1 c2 c3 c4 c5 c6 c7
  clear x2 hW2 hA
  go_enter Try.func34, Try.ntmps34
  go_wp2
  go_ret
  refine ⟨by rw [HV.out]; rfl, ?_⟩
  rw [← HW2.out]
  exact HBW.out
 by_cases k2 : xk = 2
 ·
  subst k2
  by_cases hmn : mn = 0
  rotate_left
  ·
   have q1mn0 : (mn == 0) = false := beq_eq_false_iff_ne.2 (by omega)
   have q2mn0 : ¬ mn = 0 := by omega
   have q3mn0 : (mn != 0) = true := by rw [bne, q1mn0]; rfl
   have HV : Hid (A = false) := by show _ = _; rw [hA]; rw [if_neg h60, if_pos (Or.inr ⟨by decide, Or.inl hmn⟩)]
   clear hkn
   have x2 : W2.heap[w.heap.size]? = some (.cells #[.int .i64 2, .int .u64 xc.a, .int .u64 xc.b, .int .u64 xc.c, .int .u64 xc.d, .slice ko kn kc, .int .i64 mn, .int .i64 mx] 27 (0, 0)) := X2.out
   have hW2 : W2 = w.alloc (.cells #[.int .i64 2, .int .u64 xc.a, .int .u64 xc.b, .int .u64 xc.c, .int .u64 xc.d, .slice ko kn kc, .int .i64 mn, .int .i64 mx] 27) := HW2.out
   have c0 := boxc x2 0 _ rfl
   have c1 := boxc x2 1 _ rfl
   have c2 := boxc x2 2 _ rfl
   have c3 := boxc x2 3 _ rfl
   have c4 := boxc x2 4 _ rfl
   have c5 := boxc x2 5 _ rfl
   have c6 := boxc x2 6 _ rfl
   have c7 := boxc x2 7 _ rfl
   rw [hW2] at c0 c1 c2 c3 c4 c5 c6 c7
   clear x2 hW2 hA
   go_enter Try.func34, Try.ntmps34
   go_wp2
   go_ret
   refine ⟨by rw [HV.out]; rfl, ?_⟩
   rw [← HW2.out]
   exact HBW.out
  subst hmn
  by_cases hmx : mx = 0
  rotate_left
  ·
   have q1mx0 : (mx == 0) = false := beq_eq_false_iff_ne.2 (by omega)
   have q2mx0 : ¬ mx = 0 := by omega
   have q3mx0 : (mx != 0) = true := by rw [bne, q1mx0]; rfl
   have HV : Hid (A = false) := by show _ = _; rw [hA]; rw [if_neg h60, if_pos (Or.inr ⟨by decide, Or.inr hmx⟩)]
   clear hkn
   have x2 : W2.heap[w.heap.size]? = some (.cells #[.int .i64 2, .int .u64 xc.a, .int .u64 xc.b, .int .u64 xc.c, .int .u64 xc.d, .slice ko kn kc, .int .i64 0, .int .i64 mx] 27 (0, 0)) := X2.out
   have hW2 : W2 = w.alloc (.cells #[.int .i64 2, .int .u64 xc.a, .int .u64 xc.b, .int .u64 xc.c, .int .u64 xc.d, .slice ko kn kc, .int .i64 0, .int .i64 mx] 27) := HW2.out
   have c0 := boxc x2 0 _ rfl
   have c1 := boxc x2 1 _ rfl
   have c2 := boxc x2 2 _ rfl
   have c3 := boxc x2 3 _ rfl
   have c4 := boxc x2 4 _ rfl
   have c5 := boxc x2 5 _ rfl
   have c6 := boxc x2 6 _ rfl
   have c7 := boxc x2 7 _ rfl
   rw [hW2] at c0 c1 c2 c3 c4 c5 c6 c7
   clear x2 hW2 hA
   go_enter Try.func34, Try.ntmps34
   go_wp2
   go_ret
   refine ⟨by rw [HV.out]; rfl, ?_⟩
   rw [← HW2.out]
   exact HBW.out
  subst hmx
  have hcond : ¬ (((2 : Int) ≠ 2 ∧ xc ≠ Cls.zero) ∨ ((2 : Int) ≠ 5 ∧ ((0 : Int) ≠ 0 ∨ (0 : Int) ≠ 0))) := fun h => h.elim (fun h => h.1 rfl) (fun h => h.2.elim (fun h => h rfl) (fun h => h rfl))
  rw [if_neg h60, if_neg hcond] at hA
  rw [if_neg (by decide), if_pos rfl] at hA
  by_cases h0 : kn = 0
  ·
   subst h0
   have HV : Hid (A = !xc.isz) := by show _ = _; rw [hA]; rw [decide_eq_true (by omega : xs.length = 0)]; rfl
   clear hkn hcond
   cases hcz : xc.isz with
   | true =>
    rw [hcz] at HV
    have x2 : W2.heap[w.heap.size]? = some (.cells #[.int .i64 2, .int .u64 xc.a, .int .u64 xc.b, .int .u64 xc.c, .int .u64 xc.d, .slice ko 0 kc, .int .i64 0, .int .i64 0] 27 (0, 0)) := X2.out
    have hW2 : W2 = w.alloc (.cells #[.int .i64 2, .int .u64 xc.a, .int .u64 xc.b, .int .u64 xc.c, .int .u64 xc.d, .slice ko 0 kc, .int .i64 0, .int .i64 0] 27) := HW2.out
    have c0 := boxc x2 0 _ rfl
    have c1 := boxc x2 1 _ rfl
    have c2 := boxc x2 2 _ rfl
    have c3 := boxc x2 3 _ rfl
    have c4 := boxc x2 4 _ rfl
    have c5 := boxc x2 5 _ rfl
    have c6 := boxc x2 6 _ rfl
    have c7 := boxc x2 7 _ rfl
    rw [hW2] at c0 c1 c2 c3 c4 c5 c6 c7
    clear x2 hW2 hA
    go_enter Try.func34, Try.ntmps34
    go_wp2
    go_ret
    refine ⟨by rw [HV.out]; rfl, ?_⟩
    rw [← HW2.out]
    exact HBW.out
   | false =>
    rw [hcz] at HV
    have x2 : W2.heap[w.heap.size]? = some (.cells #[.int .i64 2, .int .u64 xc.a, .int .u64 xc.b, .int .u64 xc.c, .int .u64 xc.d, .slice ko 0 kc, .int .i64 0, .int .i64 0] 27 (0, 0)) := X2.out
    have hW2 : W2 = w.alloc (.cells #[.int .i64 2, .int .u64 xc.a, .int .u64 xc.b, .int .u64 xc.c, .int .u64 xc.d, .slice ko 0 kc, .int .i64 0, .int .i64 0] 27) := HW2.out
    have c0 := boxc x2 0 _ rfl
    have c1 := boxc x2 1 _ rfl
    have c2 := boxc x2 2 _ rfl
    have c3 := boxc x2 3 _ rfl
    have c4 := boxc x2 4 _ rfl
    have c5 := boxc x2 5 _ rfl
    have c6 := boxc x2 6 _ rfl
    have c7 := boxc x2 7 _ rfl
    rw [hW2] at c0 c1 c2 c3 c4 c5 c6 c7
    clear x2 hW2 hA
    go_enter Try.func34, Try.ntmps34
    go_wp2
    go_ret
    refine ⟨by rw [HV.out]; rfl, ?_⟩
    rw [← HW2.out]
    exact HBW.out
  have q1kn0 : ((kn : Int) == 0) = false := beq_eq_false_iff_ne.2 (by omega)
  have q2kn0 : ¬ (kn : Int) = 0 := by omega
  have q3kn0 : ((kn : Int) != 0) = true := by rw [bne, q1kn0]; rfl
  have HV : Hid (A = false) := by show _ = _; rw [hA]; rw [decide_eq_false (by omega : ¬ xs.length = 0)]; rfl
  clear hkn hcond
  have x2 : W2.heap[w.heap.size]? = some (.cells #[.int .i64 2, .int .u64 xc.a, .int .u64 xc.b, .int .u64 xc.c, .int .u64 xc.d, .slice ko kn kc, .int .i64 0, .int .i64 0] 27 (0, 0)) := X2.out
  have hW2 : W2 = w.alloc (.cells #[.int .i64 2, .int .u64 xc.a, .int .u64 xc.b, .int .u64 xc.c, .int .u64 xc.d, .slice ko kn kc, .int .i64 0, .int .i64 0] 27) := HW2.out
  have c0 := boxc x2 0 _ rfl
  have c1 := boxc x2 1 _ rfl
  have c2 := boxc x2 2 _ rfl
  have c3 := boxc x2 3 _ rfl
  have c4 := boxc x2 4 _ rfl
  have c5 := boxc x2 5 _ rfl
  have c6 := boxc x2 6 _ rfl
  have c7 := boxc x2 7 _ rfl
  rw [hW2] at c0 c1 c2 c3 c4 c5 c6 c7
  clear x2 hW2 hA
  go_enter Try.func34, Try.ntmps34
  go_wp2
  go_ret
  refine ⟨by rw [HV.out]; rfl, ?_⟩
  rw [← HW2.out]
  exact HBW.out
 by_cases k3 : xk = 3
 ·
  subst k3
  by_cases hxc : xc = Cls.zero
  rotate_left
  ·
   have hcz := Cls.isz_of hxc
   have HV : Hid (A = false) := by show _ = _; rw [hA]; rw [if_neg h60, if_pos (Or.inl ⟨by decide, hxc⟩)]
   clear hkn
   have x2 : W2.heap[w.heap.size]? = some (.cells #[.int .i64 3, .int .u64 xc.a, .int .u64 xc.b, .int .u64 xc.c, .int .u64 xc.d, .slice ko kn kc, .int .i64 mn, .int .i64 mx] 27 (0, 0)) := X2.out
   have hW2 : W2 = w.alloc (.cells #[.int .i64 3, .int .u64 xc.a, .int .u64 xc.b, .int .u64 xc.c, .int .u64 xc.d, .slice ko kn kc, .int .i64 mn, .int .i64 mx] 27) := HW2.out
   have c0 := boxc x2 0 _ rfl
   have c1 := boxc x2 1 _ rfl
   have c2 := boxc x2 2 _ rfl
   have c3 := boxc x2 3 _ rfl
   have c4 := boxc x2 4 _ rfl
   have c5 := boxc x2 5 _ rfl
   have c6 := boxc x2 6 _ rfl
   have c7 := boxc x2 7 _ rfl
   rw [hW2] at c0 c1 c2 c3 c4 c5 c6 c7
   clear x2 hW2 hA
   go_enter Try.func34, Try.ntmps34
   go_wp2
   go_ret
   refine ⟨by rw [HV.out]; rfl, ?_⟩
   rw [← HW2.out]
   exact HBW.out
  have hcz : xc.isz = true := decide_eq_true hxc
  have HXC := Lib.hid hxc
  clear hxc
  by_cases hmn : mn = 0
  rotate_left
  ·
   have q1mn0 : (mn == 0) = false := beq_eq_false_iff_ne.2 (by omega)
   have q2mn0 : ¬ mn = 0 := by omega
   have q3mn0 : (mn != 0) = true := by rw [bne, q1mn0]; rfl
   have HV : Hid (A = false) := by show _ = _; rw [hA]; rw [if_neg h60, if_pos (Or.inr ⟨by decide, Or.inl hmn⟩)]
   clear hkn
   have x2 : W2.heap[w.heap.size]? = some (.cells #[.int .i64 3, .int .u64 xc.a, .int .u64 xc.b, .int .u64 xc.c, .int .u64 xc.d, .slice ko kn kc, .int .i64 mn, .int .i64 mx] 27 (0, 0)) := X2.out
   have hW2 : W2 = w.alloc (.cells #[.int .i64 3, .int .u64 xc.a, .int .u64 xc.b, .int .u64 xc.c, .int .u64 xc.d, .slice ko kn kc, .int .i64 mn, .int .i64 mx] 27) := HW2.out
   have c0 := boxc x2 0 _ rfl
   have c1 := boxc x2 1 _ rfl
   have c2 := boxc x2 2 _ rfl
   have c3 := boxc x2 3 _ rfl
   have c4 := boxc x2 4 _ rfl
   have c5 := boxc x2 5 _ rfl
   have c6 := boxc x2 6 _ rfl
   have c7 := boxc x2 7 _ rfl
   rw [hW2] at c0 c1 c2 c3 c4 c5 c6 c7
   clear x2 hW2 hA
   go_enter Try.func34, Try.ntmps34
   go_wp2
   go_ret
   refine ⟨by rw [HV.out]; rfl, ?_⟩
   rw [← HW2.out]
   exact HBW.out
  subst hmn
  by_cases hmx : mx = 0
  rotate_left
  ·
   have q1mx0 : (mx == 0) = false := beq_eq_false_iff_ne.2 (by omega)
   have q2mx0 : ¬ mx = 0 := by omega
   have q3mx0 : (mx != 0) = true := by rw [bne, q1mx0]; rfl
   have HV : Hid (A = false) := by show _ = _; rw [hA]; rw [if_neg h60, if_pos (Or.inr ⟨by decide, Or.inr hmx⟩)]
   clear hkn
   have x2 : W2.heap[w.heap.size]? = some (.cells #[.int .i64 3, .int .u64 xc.a, .int .u64 xc.b, .int .u64 xc.c, .int .u64 xc.d, .slice ko kn kc, .int .i64 0, .int .i64 mx] 27 (0, 0)) := X2.out
   have hW2 : W2 = w.alloc (.cells #[.int .i64 3, .int .u64 xc.a, .int .u64 xc.b, .int .u64 xc.c, .int .u64 xc.d, .slice ko kn kc, .int .i64 0, .int .i64 mx] 27) := HW2.out
   have c0 := boxc x2 0 _ rfl
   have c1 := boxc x2 1 _ rfl
   have c2 := boxc x2 2 _ rfl
   have c3 := boxc x2 3 _ rfl
   have c4 := boxc x2 4 _ rfl
   have c5 := boxc x2 5 _ rfl
   have c6 := boxc x2 6 _ rfl
   have c7 := boxc x2 7 _ rfl
   rw [hW2] at c0 c1 c2 c3 c4 c5 c6 c7
   clear x2 hW2 hA
   go_enter Try.func34, Try.ntmps34
   go_wp2
   go_ret
   refine ⟨by rw [HV.out]; rfl, ?_⟩
   rw [← HW2.out]
   exact HBW.out
  subst hmx
  have hcond : ¬ (((3 : Int) ≠ 2 ∧ xc ≠ Cls.zero) ∨ ((3 : Int) ≠ 5 ∧ ((0 : Int) ≠ 0 ∨ (0 : Int) ≠ 0))) := fun h => h.elim (fun h => h.2 HXC.out) (fun h => h.2.elim (fun h => h rfl) (fun h => h rfl))
  rw [if_neg h60, if_neg hcond] at hA
  rw [if_neg (by decide), if_neg (by decide), if_pos rfl] at hA
  by_cases h2 : 2 ≤ kn
  rotate_left
  ·
   have d2 : decide ((2 : Int) ≤ (kn : Int)) = false := decide_eq_false (by omega)
   have d2' : (kn : Int) < 2 := by omega
   have HV : Hid (A = false) := by show _ = _; rw [hA]; rw [decide_eq_false (by omega : ¬ 2 ≤ xs.length)]; rfl
   clear hkn hcond h2
   have x2 : W2.heap[w.heap.size]? = some (.cells #[.int .i64 3, .int .u64 xc.a, .int .u64 xc.b, .int .u64 xc.c, .int .u64 xc.d, .slice ko kn kc, .int .i64 0, .int .i64 0] 27 (0, 0)) := X2.out
   have hW2 : W2 = w.alloc (.cells #[.int .i64 3, .int .u64 xc.a, .int .u64 xc.b, .int .u64 xc.c, .int .u64 xc.d, .slice ko kn kc, .int .i64 0, .int .i64 0] 27) := HW2.out
   have c0 := boxc x2 0 _ rfl
   have c1 := boxc x2 1 _ rfl
   have c2 := boxc x2 2 _ rfl
   have c3 := boxc x2 3 _ rfl
   have c4 := boxc x2 4 _ rfl
   have c5 := boxc x2 5 _ rfl
   have c6 := boxc x2 6 _ rfl
   have c7 := boxc x2 7 _ rfl
   rw [hW2] at c0 c1 c2 c3 c4 c5 c6 c7
   clear x2 hW2 hA
   go_enter Try.func34, Try.ntmps34
   go_wp2
   go_ret
   refine ⟨by rw [HV.out]; rfl, ?_⟩
   rw [← HW2.out]
   exact HBW.out
  have d2 : decide ((2 : Int) ≤ (kn : Int)) = true := decide_eq_true (by omega)
  have d2' : (2 : Int) ≤ (kn : Int) := by omega
  have HV : Hid (A = kidsF (fun x => okF d x) [3, 1] xs) := by show _ = _; rw [hA, decide_eq_true (by omega : 2 ≤ xs.length)]; rfl
  have hsz : W2.heap.size = w.heap.size + 1 := by rw [HW2.out]; exact Array.size_push ..
  have HNV : Hid (NotP (.slice (some ⟨w.heap.size + 1, 0, none⟩) 2 2) [3, 1] (W2.alloc (.cells #[.int .i64 3, .int .i64 1] 3))) := by
   refine Or.inr ⟨w.heap.size + 1, rfl, ?_, by decide, ?_⟩
   ·
    show w.heap.size + 1 < (W2.alloc _).heap.size
    have : (W2.alloc (.cells #[.int .i64 3, .int .i64 1] 3)).heap.size = W2.heap.size + 1 := Array.size_push ..
    omega
   ·
    intro j hj
    have hx := heap_alloc_new W2 (.cells #[.int .i64 3, .int .i64 1] 3)
    rw [hsz] at hx
    have hj : j < 2 := hj
    rcases (by omega : j = 0 ∨ j = 1) with rfl | rfl
    ·
     exact boxc hx 0 _ rfl
    ·
     exact boxc hx 1 _ rfl
  have b3 : Below w.heap.size w (W2.alloc (.cells #[.int .i64 3, .int .i64 1] 3)) := HBW.out.trans (below1.mono HBW.out.size)
  have HRK' := Lib.hid (HK.out xs (.slice ko kn kc) _ [3, 1] _ (HRW.out _ b3) HNV.out)
  have B3 := Lib.hid b3
  clear hkn hcond h2 hsz b3
  have x2 : W2.heap[w.heap.size]? = some (.cells #[.int .i64 3, .int .u64 xc.a, .int .u64 xc.b, .int .u64 xc.c, .int .u64 xc.d, .slice ko kn kc, .int .i64 0, .int .i64 0] 27 (0, 0)) := X2.out
  have hW2 : W2 = w.alloc (.cells #[.int .i64 3, .int .u64 xc.a, .int .u64 xc.b, .int .u64 xc.c, .int .u64 xc.d, .slice ko kn kc, .int .i64 0, .int .i64 0] 27) := HW2.out
  have c0 := boxc x2 0 _ rfl
  have c1 := boxc x2 1 _ rfl
  have c2 := boxc x2 2 _ rfl
  have c3 := boxc x2 3 _ rfl
  have c4 := boxc x2 4 _ rfl
  have c5 := boxc x2 5 _ rfl
  have c6 := boxc x2 6 _ rfl
  have c7 := boxc x2 7 _ rfl
  rw [hW2] at c0 c1 c2 c3 c4 c5 c6 c7
  clear x2 hW2 hA
  go_enter Try.func34, Try.ntmps34
  go_wp2_with fail
  rw [← HW2.out]
  (with_reducible refine HRK'.out.mono ?_)
  rintro e5 w5 ⟨rfl, b5⟩
  have B5 := Lib.hid (B3.out.trans (b5.mono B3.out.size))
  clear b5 c0 c1 c2 c3 c4 c5 c6 c7
  go_wp2
  go_ret
  exact ⟨by rw [HV.out]; rfl, B5.out⟩
 by_cases k4 : xk = 4
 ·
  subst k4
  by_cases hxc : xc = Cls.zero
  rotate_left
  ·
   have hcz := Cls.isz_of hxc
   have HV : Hid (A = false) := by show _ = _; rw [hA]; rw [if_neg h60, if_pos (Or.inl ⟨by decide, hxc⟩)]
   clear hkn
   have x2 : W2.heap[w.heap.size]? = some (.cells #[.int .i64 4, .int .u64 xc.a, .int .u64 xc.b, .int .u64 xc.c, .int .u64 xc.d, .slice ko kn kc, .int .i64 mn, .int .i64 mx] 27 (0, 0)) := X2.out
   have hW2 : W2 = w.alloc (.cells #[.int .i64 4, .int .u64 xc.a, .int .u64 xc.b, .int .u64 xc.c, .int .u64 xc.d, .slice ko kn kc, .int .i64 mn, .int .i64 mx] 27) := HW2.out
   have c0 := boxc x2 0 _ rfl
   have c1 := boxc x2 1 _ rfl
   have c2 := boxc x2 2 _ rfl
   have c3 := boxc x2 3 _ rfl
   have c4 := boxc x2 4 _ rfl
   have c5 := boxc x2 5 _ rfl
   have c6 := boxc x2 6 _ rfl
   have c7 := boxc x2 7 _ rfl
   rw [hW2] at c0 c1 c2 c3 c4 c5 c6 c7
   clear x2 hW2 hA
   go_enter Try.func34, Try.ntmps34
   go_wp2
   go_ret
   refine ⟨by rw [HV.out]; rfl, ?_⟩
   rw [← HW2.out]
   exact HBW.out
  have hcz : xc.isz = true := decide_eq_true hxc
  have HXC := Lib.hid hxc
  clear hxc
  by_cases hmn : mn = 0
  rotate_left
  ·
   have q1mn0 : (mn == 0) = false := beq_eq_false_iff_ne.2 (by omega)
   have q2mn0 : ¬ mn = 0 := by omega
   have q3mn0 : (mn != 0) = true := by rw [bne, q1mn0]; rfl
   have HV : Hid (A = false) := by show _ = _; rw [hA]; rw [if_neg h60, if_pos (Or.inr ⟨by decide, Or.inl hmn⟩)]
   clear hkn
   have x2 : W2.heap[w.heap.size]? = some (.cells #[.int .i64 4, .int .u64 xc.a, .int .u64 xc.b, .int .u64 xc.c, .int .u64 xc.d, .slice ko kn kc, .int .i64 mn, .int .i64 mx] 27 (0, 0)) := X2.out
   have hW2 : W2 = w.alloc (.cells #[.int .i64 4, .int .u64 xc.a, .int .u64 xc.b, .int .u64 xc.c, .int .u64 xc.d, .slice ko kn kc, .int .i64 mn, .int .i64 mx] 27) := HW2.out
   have c0 := boxc x2 0 _ rfl
   have c1 := boxc x2 1 _ rfl
   have c2 := boxc x2 2 _ rfl
   have c3 := boxc x2 3 _ rfl
   have c4 := boxc x2 4 _ rfl
   have c5 := boxc x2 5 _ rfl
   have c6 := boxc x2 6 _ rfl
   have c7 := boxc x2 7 _ rfl
   rw [hW2] at c0 c1 c2 c3 c4 c5 c6 c7
   clear x2 hW2 hA
   go_enter Try.func34, Try.ntmps34
   go_wp2
   go_ret
   refine ⟨by rw [HV.out]; rfl, ?_⟩
   rw [← HW2.out]
   exact HBW.out
  subst hmn
  by_cases hmx : mx = 0
  rotate_left
  ·
   have q1mx0 : (mx == 0) = false := beq_eq_false_iff_ne.2 (by omega)
   have q2mx0 : ¬ mx = 0 := by omega
   have q3mx0 : (mx != 0) = true := by rw [bne, q1mx0]; rfl
   have HV : Hid (A = false) := by show _ = _; rw [hA]; rw [if_neg h60, if_pos (Or.inr ⟨by decide, Or.inr hmx⟩)]
   clear hkn
   have x2 : W2.heap[w.heap.size]? = some (.cells #[.int .i64 4, .int .u64 xc.a, .int .u64 xc.b, .int .u64 xc.c, .int .u64 xc.d, .slice ko kn kc, .int .i64 0, .int .i64 mx] 27 (0, 0)) := X2.out
   have hW2 : W2 = w.alloc (.cells #[.int .i64 4, .int .u64 xc.a, .int .u64 xc.b, .int .u64 xc.c, .int .u64 xc.d, .slice ko kn kc, .int .i64 0, .int .i64 mx] 27) := HW2.out
   have c0 := boxc x2 0 _ rfl
   have c1 := boxc x2 1 _ rfl
   have c2 := boxc x2 2 _ rfl
   have c3 := boxc x2 3 _ rfl
   have c4 := boxc x2 4 _ rfl
   have c5 := boxc x2 5 _ rfl
   have c6 := boxc x2 6 _ rfl
   have c7 := boxc x2 7 _ rfl
   rw [hW2] at c0 c1 c2 c3 c4 c5 c6 c7
   clear x2 hW2 hA
   go_enter Try.func34, Try.ntmps34
   go_wp2
   go_ret
   refine ⟨by rw [HV.out]; rfl, ?_⟩
   rw [← HW2.out]
   exact HBW.out
  subst hmx
  have hcond : ¬ (((4 : Int) ≠ 2 ∧ xc ≠ Cls.zero) ∨ ((4 : Int) ≠ 5 ∧ ((0 : Int) ≠ 0 ∨ (0 : Int) ≠ 0))) := fun h => h.elim (fun h => h.2 HXC.out) (fun h => h.2.elim (fun h => h rfl) (fun h => h rfl))
  rw [if_neg h60, if_neg hcond] at hA
  rw [if_neg (by decide), if_neg (by decide), if_neg (by decide), if_pos rfl] at hA
  by_cases h2 : 2 ≤ kn
  rotate_left
  ·
   have d2 : decide ((2 : Int) ≤ (kn : Int)) = false := decide_eq_false (by omega)
   have d2' : (kn : Int) < 2 := by omega
   have HV : Hid (A = false) := by show _ = _; rw [hA]; rw [decide_eq_false (by omega : ¬ 2 ≤ xs.length)]; rfl
   clear hkn hcond h2
   have x2 : W2.heap[w.heap.size]? = some (.cells #[.int .i64 4, .int .u64 xc.a, .int .u64 xc.b, .int .u64 xc.c, .int .u64 xc.d, .slice ko kn kc, .int .i64 0, .int .i64 0] 27 (0, 0)) := X2.out
   have hW2 : W2 = w.alloc (.cells #[.int .i64 4, .int .u64 xc.a, .int .u64 xc.b, .int .u64 xc.c, .int .u64 xc.d, .slice ko kn kc, .int .i64 0, .int .i64 0] 27) := HW2.out
   have c0 := boxc x2 0 _ rfl
   have c1 := boxc x2 1 _ rfl
   have c2 := boxc x2 2 _ rfl
   have c3 := boxc x2 3 _ rfl
   have c4 := boxc x2 4 _ rfl
   have c5 := boxc x2 5 _ rfl
   have c6 := boxc x2 6 _ rfl
   have c7 := boxc x2 7 _ rfl
   rw [hW2] at c0 c1 c2 c3 c4 c5 c6 c7
   clear x2 hW2 hA
   go_enter Try.func34, Try.ntmps34
   go_wp2
   go_ret
   refine ⟨by rw [HV.out]; rfl, ?_⟩
   rw [← HW2.out]
   exact HBW.out
  have d2 : decide ((2 : Int) ≤ (kn : Int)) = true := decide_eq_true (by omega)
  have d2' : (2 : Int) ≤ (kn : Int) := by omega
  have HV : Hid (A = kidsF (fun x => okF d x) [4] xs) := by show _ = _; rw [hA, decide_eq_true (by omega : 2 ≤ xs.length)]; rfl
  have hsz : W2.heap.size = w.heap.size + 1 := by rw [HW2.out]; exact Array.size_push ..
  have HNV : Hid (NotP (.slice (some ⟨w.heap.size + 1, 0, none⟩) 1 1) [4] (W2.alloc (.cells #[.int .i64 4] 3))) := by
   refine Or.inr ⟨w.heap.size + 1, rfl, ?_, by decide, ?_⟩
   ·
    show w.heap.size + 1 < (W2.alloc _).heap.size
    have : (W2.alloc (.cells #[.int .i64 4] 3)).heap.size = W2.heap.size + 1 := Array.size_push ..
    omega
   ·
    intro j hj
    have hx := heap_alloc_new W2 (.cells #[.int .i64 4] 3)
    rw [hsz] at hx
    have hj : j < 1 := hj
    rcases (by omega : j = 0) with rfl
    ·
     exact boxc hx 0 _ rfl
  have b3 : Below w.heap.size w (W2.alloc (.cells #[.int .i64 4] 3)) := HBW.out.trans (below1.mono HBW.out.size)
  have HRK' := Lib.hid (HK.out xs (.slice ko kn kc) _ [4] _ (HRW.out _ b3) HNV.out)
  have B3 := Lib.hid b3
  clear hkn hcond h2 hsz b3
  have x2 : W2.heap[w.heap.size]? = some (.cells #[.int .i64 4, .int .u64 xc.a, .int .u64 xc.b, .int .u64 xc.c, .int .u64 xc.d, .slice ko kn kc, .int .i64 0, .int .i64 0] 27 (0, 0)) := X2.out
  have hW2 : W2 = w.alloc (.cells #[.int .i64 4, .int .u64 xc.a, .int .u64 xc.b, .int .u64 xc.c, .int .u64 xc.d, .slice ko kn kc, .int .i64 0, .int .i64 0] 27) := HW2.out
  have c0 := boxc x2 0 _ rfl
  have c1 := boxc x2 1 _ rfl
  have c2 := boxc x2 2 _ rfl
  have c3 := boxc x2 3 _ rfl
  have c4 := boxc x2 4 _ rfl
  have c5 := boxc x2 5 _ rfl
  have c6 := boxc x2 6 _ rfl
  have c7 := boxc x2 7 _ rfl
  rw [hW2] at c0 c1 c2 c3 c4 c5 c6 c7
  clear x2 hW2 hA
  go_enter Try.func34, Try.ntmps34
  go_wp2_with fail
  rw [← HW2.out]
  (with_reducible refine HRK'.out.mono ?_)
  rintro e5 w5 ⟨rfl, b5⟩
  have B5 := Lib.hid (B3.out.trans (b5.mono B3.out.size))
  clear b5 c0 c1 c2 c3 c4 c5 c6 c7
  go_wp2
  go_ret
  exact ⟨by rw [HV.out]; rfl, B5.out⟩
 by_cases k5 : xk = 5
 ·
  subst k5
  by_cases hxc : xc = Cls.zero
  rotate_left
  ·
   have hcz := Cls.isz_of hxc
   have HV : Hid (A = false) := by show _ = _; rw [hA]; rw [if_neg h60, if_pos (Or.inl ⟨by decide, hxc⟩)]
   clear hkn
   have x2 : W2.heap[w.heap.size]? = some (.cells #[.int .i64 5, .int .u64 xc.a, .int .u64 xc.b, .int .u64 xc.c, .int .u64 xc.d, .slice ko kn kc, .int .i64 mn, .int .i64 mx] 27 (0, 0)) := X2.out
   have hW2 : W2 = w.alloc (.cells #[.int .i64 5, .int .u64 xc.a, .int .u64 xc.b, .int .u64 xc.c, .int .u64 xc.d, .slice ko kn kc, .int .i64 mn, .int .i64 mx] 27) := HW2.out
   have c0 := boxc x2 0 _ rfl
   have c1 := boxc x2 1 _ rfl
   have c2 := boxc x2 2 _ rfl
   have c3 := boxc x2 3 _ rfl
   have c4 := boxc x2 4 _ rfl
   have c5 := boxc x2 5 _ rfl
   have c6 := boxc x2 6 _ rfl
   have c7 := boxc x2 7 _ rfl
   rw [hW2] at c0 c1 c2 c3 c4 c5 c6 c7
   clear x2 hW2 hA
   go_enter Try.func34, Try.ntmps34
   go_wp2
   go_ret
   refine ⟨by rw [HV.out]; rfl, ?_⟩
   rw [← HW2.out]
   exact HBW.out
  have hcz : xc.isz = true := decide_eq_true hxc
  have HXC := Lib.hid hxc
  clear hxc
  have hcond : ¬ (((5 : Int) ≠ 2 ∧ xc ≠ Cls.zero) ∨ ((5 : Int) ≠ 5 ∧ (mn ≠ 0 ∨ mx ≠ 0))) := fun h => h.elim (fun h => h.2 HXC.out) (fun h => h.1 rfl)
  rw [if_neg h60, if_neg hcond] at hA
  rw [if_neg (by decide), if_neg (by decide), if_neg (by decide), if_neg (by decide), if_pos rfl] at hA
  by_cases h1 : kn = 1
  rotate_left
  ·
   have q1kn1 : ((kn : Int) == 1) = false := beq_eq_false_iff_ne.2 (by omega)
   have q2kn1 : ¬ (kn : Int) = 1 := by omega
   have q3kn1 : ((kn : Int) != 1) = true := by rw [bne, q1kn1]; rfl
   have HV : Hid (A = false) := by show _ = _; rw [hA]; rw [decide_eq_false (by omega : ¬ xs.length = 1)]; rfl
   clear hkn hcond h1
   have x2 : W2.heap[w.heap.size]? = some (.cells #[.int .i64 5, .int .u64 xc.a, .int .u64 xc.b, .int .u64 xc.c, .int .u64 xc.d, .slice ko kn kc, .int .i64 mn, .int .i64 mx] 27 (0, 0)) := X2.out
   have hW2 : W2 = w.alloc (.cells #[.int .i64 5, .int .u64 xc.a, .int .u64 xc.b, .int .u64 xc.c, .int .u64 xc.d, .slice ko kn kc, .int .i64 mn, .int .i64 mx] 27) := HW2.out
   have c0 := boxc x2 0 _ rfl
   have c1 := boxc x2 1 _ rfl
   have c2 := boxc x2 2 _ rfl
   have c3 := boxc x2 3 _ rfl
   have c4 := boxc x2 4 _ rfl
   have c5 := boxc x2 5 _ rfl
   have c6 := boxc x2 6 _ rfl
   have c7 := boxc x2 7 _ rfl
   rw [hW2] at c0 c1 c2 c3 c4 c5 c6 c7
   clear x2 hW2 hA
   go_enter Try.func34, Try.ntmps34
   go_wp2
   go_ret
   refine ⟨by rw [HV.out]; rfl, ?_⟩
   rw [← HW2.out]
   exact HBW.out
  subst h1
  have hn3 : decide (((1 : Nat) : Int) = 1) = true := rfl
  rw [decide_eq_true (by omega : xs.length = 1), Bool.true_and] at hA
  have HBD := Lib.hid (fun W => rbounds_any mn mx W)
  cases hbb : bndB mn mx with
  | false =>
   rw [hbb] at HBD
   have HV : Hid (A = false) := by show _ = _; rw [hA, hbb]; rfl
   clear hkn hcond hbb
   have x2 : W2.heap[w.heap.size]? = some (.cells #[.int .i64 5, .int .u64 xc.a, .int .u64 xc.b, .int .u64 xc.c, .int .u64 xc.d, .slice ko 1 kc, .int .i64 mn, .int .i64 mx] 27 (0, 0)) := X2.out
   have hW2 : W2 = w.alloc (.cells #[.int .i64 5, .int .u64 xc.a, .int .u64 xc.b, .int .u64 xc.c, .int .u64 xc.d, .slice ko 1 kc, .int .i64 mn, .int .i64 mx] 27) := HW2.out
   have c0 := boxc x2 0 _ rfl
   have c1 := boxc x2 1 _ rfl
   have c2 := boxc x2 2 _ rfl
   have c3 := boxc x2 3 _ rfl
   have c4 := boxc x2 4 _ rfl
   have c5 := boxc x2 5 _ rfl
   have c6 := boxc x2 6 _ rfl
   have c7 := boxc x2 7 _ rfl
   rw [hW2] at c0 c1 c2 c3 c4 c5 c6 c7
   clear x2 hW2 hA
   go_enter Try.func34, Try.ntmps34
   go_wp2_with fail
   (with_reducible refine (HBD.out _).mono ?_)
   rintro e4 w4 ⟨rfl, rfl⟩
   go_wp2
   go_ret
   refine ⟨by rw [HV.out]; rfl, ?_⟩
   rw [← HW2.out]
   exact HBW.out
  | true =>
   rw [hbb] at HBD
   have HV : Hid (A = kidsF (fun x => okF d x) [] xs) := by show _ = _; rw [hA, hbb]; rfl
   have HRK' := Lib.hid (HK.out xs (.slice ko 1 kc) (.slice none 0 0) [] _ (HRW.out _ HBW.out) (Or.inl ⟨rfl, rfl⟩))
   clear hkn hcond hbb
   have x2 : W2.heap[w.heap.size]? = some (.cells #[.int .i64 5, .int .u64 xc.a, .int .u64 xc.b, .int .u64 xc.c, .int .u64 xc.d, .slice ko 1 kc, .int .i64 mn, .int .i64 mx] 27 (0, 0)) := X2.out
   have hW2 : W2 = w.alloc (.cells #[.int .i64 5, .int .u64 xc.a, .int .u64 xc.b, .int .u64 xc.c, .int .u64 xc.d, .slice ko 1 kc, .int .i64 mn, .int .i64 mx] 27) := HW2.out
   have c0 := boxc x2 0 _ rfl
   have c1 := boxc x2 1 _ rfl
   have c2 := boxc x2 2 _ rfl
   have c3 := boxc x2 3 _ rfl
   have c4 := boxc x2 4 _ rfl
   have c5 := boxc x2 5 _ rfl
   have c6 := boxc x2 6 _ rfl
   have c7 := boxc x2 7 _ rfl
   rw [hW2] at c0 c1 c2 c3 c4 c5 c6 c7
   clear x2 hW2 hA
   go_enter Try.func34, Try.ntmps34
   go_wp2_with fail
   (with_reducible refine (HBD.out _).mono ?_)
   rintro e4 w4 ⟨rfl, rfl⟩
   go_wp2_with fail
   rw [← HW2.out]
   (with_reducible refine HRK'.out.mono ?_)
   rintro e5 w5 ⟨rfl, b5⟩
   have B5 := Lib.hid (HBW.out.trans (b5.mono HBW.out.size))
   clear b5 c0 c1 c2 c3 c4 c5 c6 c7
   go_wp2
   go_ret
   exact ⟨by rw [HV.out]; rfl, B5.out⟩
 have q1xk1 : (xk == 1) = false := beq_eq_false_iff_ne.2 (by omega)
 have q2xk1 : ¬ xk = 1 := by omega
 have q3xk1 : (xk != 1) = true := by rw [bne, q1xk1]; rfl
 have q1xk2 : (xk == 2) = false := beq_eq_false_iff_ne.2 (by omega)
 have q2xk2 : ¬ xk = 2 := by omega
 have q3xk2 : (xk != 2) = true := by rw [bne, q1xk2]; rfl
 have q1xk3 : (xk == 3) = false := beq_eq_false_iff_ne.2 (by omega)
 have q2xk3 : ¬ xk = 3 := by omega
 have q3xk3 : (xk != 3) = true := by rw [bne, q1xk3]; rfl
 have q1xk4 : (xk == 4) = false := beq_eq_false_iff_ne.2 (by omega)
 have q2xk4 : ¬ xk = 4 := by omega
 have q3xk4 : (xk != 4) = true := by rw [bne, q1xk4]; rfl
 have q1xk5 : (xk == 5) = false := beq_eq_false_iff_ne.2 (by omega)
 have q2xk5 : ¬ xk = 5 := by omega
 have q3xk5 : (xk != 5) = true := by rw [bne, q1xk5]; rfl
 by_cases hxc : xc = Cls.zero
 rotate_left
 ·
  have hcz := Cls.isz_of hxc
  have HV : Hid (A = false) := by show _ = _; rw [hA]; rw [if_neg h60, if_pos (Or.inl ⟨k2, hxc⟩)]
  clear hkn
  have x2 : W2.heap[w.heap.size]? = some (.cells #[.int .i64 xk, .int .u64 xc.a, .int .u64 xc.b, .int .u64 xc.c, .int .u64 xc.d, .slice ko kn kc, .int .i64 mn, .int .i64 mx] 27 (0, 0)) := X2.out
  have hW2 : W2 = w.alloc (.cells #[.int .i64 xk, .int .u64 xc.a, .int .u64 xc.b, .int .u64 xc.c, .int .u64 xc.d, .slice ko kn kc, .int .i64 mn, .int .i64 mx] 27) := HW2.out
  have c0 := boxc x2 0 _ rfl
  have c1 := boxc x2 1 _ rfl
  have c2 := boxc x2 2 _ rfl
  have c3 := boxc x2 3 _ rfl
  have c4 := boxc x2 4 _ rfl
  have c5 := boxc x2 5 _ rfl
  have c6 := boxc x2 6 _ rfl
  have c7 := boxc x2 7 _ rfl
  rw [hW2] at c0 c1 c2 c3 c4 c5 c6 c7
  clear x2 hW2 hA
  go_enter Try.func34, Try.ntmps34
  go_wp2
  go_ret
  refine ⟨by rw [HV.out]; rfl, ?_⟩
  rw [← HW2.out]
  exact HBW.out
 have hcz : xc.isz = true := decide_eq_true hxc
 have HXC := Lib.hid hxc
 clear hxc
 by_cases hmn : mn = 0
 rotate_left
 ·
  have q1mn0 : (mn == 0) = false := beq_eq_false_iff_ne.2 (by omega)
  have q2mn0 : ¬ mn = 0 := by omega
  have q3mn0 : (mn != 0) = true := by rw [bne, q1mn0]; rfl
  have HV : Hid (A = false) := by show _ = _; rw [hA]; rw [if_neg h60, if_pos (Or.inr ⟨k5, Or.inl hmn⟩)]
  clear hkn
  have x2 : W2.heap[w.heap.size]? = some (.cells #[.int .i64 xk, .int .u64 xc.a, .int .u64 xc.b, .int .u64 xc.c, .int .u64 xc.d, .slice ko kn kc, .int .i64 mn, .int .i64 mx] 27 (0, 0)) := X2.out
  have hW2 : W2 = w.alloc (.cells #[.int .i64 xk, .int .u64 xc.a, .int .u64 xc.b, .int .u64 xc.c, .int .u64 xc.d, .slice ko kn kc, .int .i64 mn, .int .i64 mx] 27) := HW2.out
  have c0 := boxc x2 0 _ rfl
  have c1 := boxc x2 1 _ rfl
  have c2 := boxc x2 2 _ rfl
  have c3 := boxc x2 3 _ rfl
  have c4 := boxc x2 4 _ rfl
  have c5 := boxc x2 5 _ rfl
  have c6 := boxc x2 6 _ rfl
  have c7 := boxc x2 7 _ rfl
  rw [hW2] at c0 c1 c2 c3 c4 c5 c6 c7
  clear x2 hW2 hA
  go_enter Try.func34, Try.ntmps34
  go_wp2
  go_ret
  refine ⟨by rw [HV.out]; rfl, ?_⟩
  rw [← HW2.out]
  exact HBW.out
 subst hmn
 by_cases hmx : mx = 0
 rotate_left
 ·
  have q1mx0 : (mx == 0) = false := beq_eq_false_iff_ne.2 (by omega)
  have q2mx0 : ¬ mx = 0 := by omega
  have q3mx0 : (mx != 0) = true := by rw [bne, q1mx0]; rfl
  have HV : Hid (A = false) := by show _ = _; rw [hA]; rw [if_neg h60, if_pos (Or.inr ⟨k5, Or.inr hmx⟩)]
  clear hkn
  have x2 : W2.heap[w.heap.size]? = some (.cells #[.int .i64 xk, .int .u64 xc.a, .int .u64 xc.b, .int .u64 xc.c, .int .u64 xc.d, .slice ko kn kc, .int .i64 0, .int .i64 mx] 27 (0, 0)) := X2.out
  have hW2 : W2 = w.alloc (.cells #[.int .i64 xk, .int .u64 xc.a, .int .u64 xc.b, .int .u64 xc.c, .int .u64 xc.d, .slice ko kn kc, .int .i64 0, .int .i64 mx] 27) := HW2.out
  have c0 := boxc x2 0 _ rfl
  have c1 := boxc x2 1 _ rfl
  have c2 := boxc x2 2 _ rfl
  have c3 := boxc x2 3 _ rfl
  have c4 := boxc x2 4 _ rfl
  have c5 := boxc x2 5 _ rfl
  have c6 := boxc x2 6 _ rfl
  have c7 := boxc x2 7 _ rfl
  rw [hW2] at c0 c1 c2 c3 c4 c5 c6 c7
  clear x2 hW2 hA
  go_enter Try.func34, Try.ntmps34
  go_wp2
  go_ret
  refine ⟨by rw [HV.out]; rfl, ?_⟩
  rw [← HW2.out]
  exact HBW.out
 subst hmx
 have hcond : ¬ (((xk : Int) ≠ 2 ∧ xc ≠ Cls.zero) ∨ ((xk : Int) ≠ 5 ∧ ((0 : Int) ≠ 0 ∨ (0 : Int) ≠ 0))) := fun h => h.elim (fun h => h.2 HXC.out) (fun h => h.2.elim (fun h => h rfl) (fun h => h rfl))
 rw [if_neg h60, if_neg hcond] at hA
 rw [if_neg k1, if_neg k2, if_neg k3, if_neg k4, if_neg k5] at hA
 have HV : Hid (A = false) := hA
 clear hkn hcond
 have x2 : W2.heap[w.heap.size]? = some (.cells #[.int .i64 xk, .int .u64 xc.a, .int .u64 xc.b, .int .u64 xc.c, .int .u64 xc.d, .slice ko kn kc, .int .i64 0, .int .i64 0] 27 (0, 0)) := X2.out
 have hW2 : W2 = w.alloc (.cells #[.int .i64 xk, .int .u64 xc.a, .int .u64 xc.b, .int .u64 xc.c, .int .u64 xc.d, .slice ko kn kc, .int .i64 0, .int .i64 0] 27) := HW2.out
 have c0 := boxc x2 0 _ rfl
 have c1 := boxc x2 1 _ rfl
 have c2 := boxc x2 2 _ rfl
 have c3 := boxc x2 3 _ rfl
 have c4 := boxc x2 4 _ rfl
 have c5 := boxc x2 5 _ rfl
 have c6 := boxc x2 6 _ rfl
 have c7 := boxc x2 7 _ rfl
 rw [hW2] at c0 c1 c2 c3 c4 c5 c6 c7
 clear x2 hW2 hA
 go_enter Try.func34, Try.ntmps34
 go_wp2
 go_ret
 refine ⟨by rw [HV.out]; rfl, ?_⟩
 rw [← HW2.out]
 exact HBW.out
end Go.Proofs.Ytmfgplbfojnkdaa
namespace Go.Proofs.Ytmfgplbfojnkdaa
open Go Go.RowKit Go.ChangeShapes cl rx
set_option maxRecDepth 100000 in
theorem right_zero (e : Nat) (x : Pat) (c : List Value) (w : World) (h : rxR e w w.heap.size c x) : Calls Try.prog 34 #[.agg c.toArray, .int .i64 0] w (fun e w' => e = .returned (.bool false) ∧ Below w.heap.size w w') := by
 obtain ⟨ko, kn, kc, rfl⟩ := rx_form h
 have x2 : (w.alloc (.cells #[.int .i64 x.k, .int .u64 x.cl.a, .int .u64 x.cl.b, .int .u64 x.cl.c, .int .u64 x.cl.d, .slice ko kn kc, .int .i64 x.mn, .int .i64 x.mx] 27)).heap[w.heap.size]? = some (.cells #[.int .i64 x.k, .int .u64 x.cl.a, .int .u64 x.cl.b, .int .u64 x.cl.c, .int .u64 x.cl.d, .slice ko kn kc, .int .i64 x.mn, .int .i64 x.mx] 27) := heap_alloc_new _ _
 have c0 := boxc x2 0 _ rfl
 have c1 := boxc x2 1 _ rfl
 have c2 := boxc x2 2 _ rfl
 have c3 := boxc x2 3 _ rfl
 have c4 := boxc x2 4 _ rfl
 have c5 := boxc x2 5 _ rfl
 have c6 := boxc x2 6 _ rfl
 have c7 := boxc x2 7 _ rfl
 clear h x2
 go_enter Try.func34, Try.ntmps34
 go_wp2
 go_ret
 exact ⟨rfl, below1⟩
theorem right_any : ∀ (d e : Nat), d ≤ 1000 → ∀ (x : Pat) (c : List Value) (w : World), rxR e w w.heap.size c x → Calls Try.prog 34 #[.agg c.toArray, .int .i64 d] w (fun e w' => e = .returned (.bool (okF d x)) ∧ Below w.heap.size w w')
 | 0, e, _, x, c, w, h => right_zero e x c w h
 | _ + 1, 0, _, _, _, _, h => h.elim
 | d + 1, e + 1, hd, x, c, w, h => by
  have hh : ((d : Int) + 1) - 1 = (d : Int) := by omega
  have h1 := right_of d e ((d : Int) + 1) rfl (by omega) (fun l v nv zs w h hn => by
   rw [hh]
   exact rkids_any (fun x => okF d x) e d (fun x c w h => right_any d e (by omega) x c w h) l v nv zs w h hn) x c w h
  exact h1
set_option maxRecDepth 100000 in
theorem rx_right_any (e : Nat) (x : Pat) (c : List Value) (w : World) (h : rxR e w w.heap.size c x) : Calls Try.prog 19 #[.agg c.toArray] w (fun e w' => e = .returned (.bool (okF 48 x)) ∧ Below w.heap.size w w') := by
 obtain ⟨ko, kn, kc, rfl⟩ := rx_form h
 obtain ⟨W2, hW2⟩ : ∃ W, W = w.alloc (.cells #[.int .i64 x.k, .int .u64 x.cl.a, .int .u64 x.cl.b, .int .u64 x.cl.c, .int .u64 x.cl.d, .slice ko kn kc, .int .i64 x.mn, .int .i64 x.mx] 27) := ⟨_, rfl⟩
 have b2 : Below w.heap.size w W2 := by rw [hW2]; exact below1
 have x2 : W2.heap[w.heap.size]? = some (.cells #[.int .i64 x.k, .int .u64 x.cl.a, .int .u64 x.cl.b, .int .u64 x.cl.c, .int .u64 x.cl.d, .slice ko kn kc, .int .i64 x.mn, .int .i64 x.mx] 27) := by rw [hW2]; exact heap_alloc_new _ _
 obtain ⟨A, hA⟩ : ∃ A, A = okF 48 x := ⟨_, rfl⟩
 have H : Hid (Calls Try.prog 34 #[.agg #[.int .i64 x.k, .int .u64 x.cl.a, .int .u64 x.cl.b, .int .u64 x.cl.c, .int .u64 x.cl.d, .slice ko kn kc, .int .i64 x.mn, .int .i64 x.mx], .int .i64 48] W2 (fun e w' => e = .returned (.bool A) ∧ Below W2.heap.size W2 w')) := by
  rw [hA]
  exact right_any 48 e (by omega) x _ W2 (rxR_steady e _ _ _ _ _ _ h b2 b2.size)
 rw [← hA]
 have c0 := boxc x2 0 _ rfl
 have c1 := boxc x2 1 _ rfl
 have c2 := boxc x2 2 _ rfl
 have c3 := boxc x2 3 _ rfl
 have c4 := boxc x2 4 _ rfl
 have c5 := boxc x2 5 _ rfl
 have c6 := boxc x2 6 _ rfl
 have c7 := boxc x2 7 _ rfl
 rw [hW2] at c0 c1 c2 c3 c4 c5 c6 c7
 have B2 := Lib.hid b2
 have HW2 := Lib.hid hW2
 clear h b2 x2 hW2 hA
 go_enter Try.func19, Try.ntmps19
 go_wp2_with fail
 rw [← HW2.out]
 (with_reducible refine H.out.mono ?_)
 rintro e1 w1 ⟨rfl, b1⟩
 have B5 := Lib.hid (B2.out.trans (b1.mono B2.out.size))
 clear b1 c0 c1 c2 c3 c4 c5 c6 c7
 go_wp2
 go_ret
 exact ⟨rfl, B5.out⟩
end Go.Proofs.Ytmfgplbfojnkdaa
