/- the reader: often, part: of bytes that are no signs of groups, classes, escapes and bounds. -/
import Derived.Test.YtbccejlemhgioaaRxFn2
namespace Go.Proofs.Ytbccejlemhgioaa
open Go Go.RowKit Go.ChangeShapes cl rx
set_option maxHeartbeats 6400000 in
set_option maxRecDepth 100000 in
theorem rx_often (q : Nat) (S : ByteArray) (t : St) (w : World) (h : Rd q S t w) (hS : S.size ≤ 60) (hbr : ¬ nxt (kit.bytes S) t = some 123) : Calls Try.prog 40 #[.pointer (some ⟨q, 0, none⟩)] w (fun e w' => e = .returned (.tuple #[.int .i64 (often (kit.bytes S) t).1.1, .int .i64 (often (kit.bytes S) t).1.2.1, .bool (often (kit.bytes S) t).1.2.2]) ∧ RK q S (often (kit.bytes S) t).2 w w') := by
  have K0 : Hid (KX q w w) := KX.refl
  have c1 := boxc h 1 _ rfl
  by_cases g0 : nxt (kit.bytes S) t = some 42
  · skip
    have HM0 : Hid (∀ W, Rd q S t W → Calls Try.prog 27 #[.pointer (some ⟨q, 0, none⟩), .int .u8 42] W (fun e w' => e = .returned (.bool true) ∧ RK q S t.fwd W w')) := fun W hW => by
      have h := rx_meets q S t 42 W hW hS
      have hm : meets (kit.bytes S) 42 t = (true, t.fwd) := by unfold meets; rw [if_pos g0]
      rw [hm] at h
      exact h
    have HO : often (kit.bytes S) t = ((0, -1, true), t.fwd) := by unfold often; rw [if_pos g0]
    rw [HO]
    have R0 := Lib.hid h
    clear h HO
    go_enter Try.func40, Try.ntmps40
    go_wp2_with fail
    (with_reducible refine (HM0.out _ R0.out).mono ?_)
    rintro e0 w1 ⟨rfl, r0, k0⟩
    have R1 := Lib.hid r0
    have K1 := Lib.hid (k0)
    clear r0 k0
    go_wp2
    refine bodyPost_ret (v := .tuple #[.int .i64 0, .int .i64 (-1), .bool true]) (by simp [results, Try.results40, go_sem]) rfl ⟨rfl, R1.out, K1.out⟩
  by_cases g1 : nxt (kit.bytes S) t = some 43
  · skip
    have HM0 : Hid (∀ W, Rd q S t W → Calls Try.prog 27 #[.pointer (some ⟨q, 0, none⟩), .int .u8 42] W (fun e w' => e = .returned (.bool false) ∧ RK q S t W w')) := fun W hW => by
      have h := rx_meets q S t 42 W hW hS
      have hm : meets (kit.bytes S) 42 t = (false, t) := by unfold meets; rw [if_neg g0]
      rw [hm] at h
      exact h
    have HM1 : Hid (∀ W, Rd q S t W → Calls Try.prog 27 #[.pointer (some ⟨q, 0, none⟩), .int .u8 43] W (fun e w' => e = .returned (.bool true) ∧ RK q S t.fwd W w')) := fun W hW => by
      have h := rx_meets q S t 43 W hW hS
      have hm : meets (kit.bytes S) 43 t = (true, t.fwd) := by unfold meets; rw [if_pos g1]
      rw [hm] at h
      exact h
    have HO : often (kit.bytes S) t = ((1, -1, true), t.fwd) := by unfold often; rw [if_neg g0]; rw [if_pos g1]
    rw [HO]
    have R0 := Lib.hid h
    clear h HO
    go_enter Try.func40, Try.ntmps40
    go_wp2_with fail
    (with_reducible refine (HM0.out _ R0.out).mono ?_)
    rintro e0 w1 ⟨rfl, r0, k0⟩
    have R1 := Lib.hid r0
    have K1 := Lib.hid (k0)
    clear r0 k0
    go_wp2_with fail
    (with_reducible refine (HM1.out _ R1.out).mono ?_)
    rintro e1 w2 ⟨rfl, r1, k1⟩
    have R2 := Lib.hid r1
    have K2 := Lib.hid (K1.out.trans k1)
    clear r1 k1
    go_wp2
    refine bodyPost_ret (v := .tuple #[.int .i64 1, .int .i64 (-1), .bool true]) (by simp [results, Try.results40, go_sem]) rfl ⟨rfl, R2.out, K2.out⟩
  by_cases g2 : nxt (kit.bytes S) t = some 63
  · skip
    have HM0 : Hid (∀ W, Rd q S t W → Calls Try.prog 27 #[.pointer (some ⟨q, 0, none⟩), .int .u8 42] W (fun e w' => e = .returned (.bool false) ∧ RK q S t W w')) := fun W hW => by
      have h := rx_meets q S t 42 W hW hS
      have hm : meets (kit.bytes S) 42 t = (false, t) := by unfold meets; rw [if_neg g0]
      rw [hm] at h
      exact h
    have HM1 : Hid (∀ W, Rd q S t W → Calls Try.prog 27 #[.pointer (some ⟨q, 0, none⟩), .int .u8 43] W (fun e w' => e = .returned (.bool false) ∧ RK q S t W w')) := fun W hW => by
      have h := rx_meets q S t 43 W hW hS
      have hm : meets (kit.bytes S) 43 t = (false, t) := by unfold meets; rw [if_neg g1]
      rw [hm] at h
      exact h
    have HM2 : Hid (∀ W, Rd q S t W → Calls Try.prog 27 #[.pointer (some ⟨q, 0, none⟩), .int .u8 63] W (fun e w' => e = .returned (.bool true) ∧ RK q S t.fwd W w')) := fun W hW => by
      have h := rx_meets q S t 63 W hW hS
      have hm : meets (kit.bytes S) 63 t = (true, t.fwd) := by unfold meets; rw [if_pos g2]
      rw [hm] at h
      exact h
    have HO : often (kit.bytes S) t = ((0, 1, true), t.fwd) := by unfold often; rw [if_neg g0]; rw [if_neg g1]; rw [if_pos g2]
    rw [HO]
    have R0 := Lib.hid h
    clear h HO
    go_enter Try.func40, Try.ntmps40
    go_wp2_with fail
    (with_reducible refine (HM0.out _ R0.out).mono ?_)
    rintro e0 w1 ⟨rfl, r0, k0⟩
    have R1 := Lib.hid r0
    have K1 := Lib.hid (k0)
    clear r0 k0
    go_wp2_with fail
    (with_reducible refine (HM1.out _ R1.out).mono ?_)
    rintro e1 w2 ⟨rfl, r1, k1⟩
    have R2 := Lib.hid r1
    have K2 := Lib.hid (K1.out.trans k1)
    clear r1 k1
    go_wp2_with fail
    (with_reducible refine (HM2.out _ R2.out).mono ?_)
    rintro e2 w3 ⟨rfl, r2, k2⟩
    have R3 := Lib.hid r2
    have K3 := Lib.hid (K2.out.trans k2)
    clear r2 k2
    go_wp2
    refine bodyPost_ret (v := .tuple #[.int .i64 0, .int .i64 1, .bool true]) (by simp [results, Try.results40, go_sem]) rfl ⟨rfl, R3.out, K3.out⟩
  have g3 : ¬ nxt (kit.bytes S) t = some 123 := hbr
  have HM0 : Hid (∀ W, Rd q S t W → Calls Try.prog 27 #[.pointer (some ⟨q, 0, none⟩), .int .u8 42] W (fun e w' => e = .returned (.bool false) ∧ RK q S t W w')) := fun W hW => by
    have h := rx_meets q S t 42 W hW hS
    have hm : meets (kit.bytes S) 42 t = (false, t) := by unfold meets; rw [if_neg g0]
    rw [hm] at h
    exact h
  have HM1 : Hid (∀ W, Rd q S t W → Calls Try.prog 27 #[.pointer (some ⟨q, 0, none⟩), .int .u8 43] W (fun e w' => e = .returned (.bool false) ∧ RK q S t W w')) := fun W hW => by
    have h := rx_meets q S t 43 W hW hS
    have hm : meets (kit.bytes S) 43 t = (false, t) := by unfold meets; rw [if_neg g1]
    rw [hm] at h
    exact h
  have HM2 : Hid (∀ W, Rd q S t W → Calls Try.prog 27 #[.pointer (some ⟨q, 0, none⟩), .int .u8 63] W (fun e w' => e = .returned (.bool false) ∧ RK q S t W w')) := fun W hW => by
    have h := rx_meets q S t 63 W hW hS
    have hm : meets (kit.bytes S) 63 t = (false, t) := by unfold meets; rw [if_neg g2]
    rw [hm] at h
    exact h
  have HM3 : Hid (∀ W, Rd q S t W → Calls Try.prog 27 #[.pointer (some ⟨q, 0, none⟩), .int .u8 123] W (fun e w' => e = .returned (.bool false) ∧ RK q S t W w')) := fun W hW => by
    have h := rx_meets q S t 123 W hW hS
    have hm : meets (kit.bytes S) 123 t = (false, t) := by unfold meets; rw [if_neg g3]
    rw [hm] at h
    exact h
  have HO : often (kit.bytes S) t = ((0, 0, false), t) := by unfold often; rw [if_neg g0]; rw [if_neg g1]; rw [if_neg g2]
  rw [HO]
  have R0 := Lib.hid h
  clear h HO
  go_enter Try.func40, Try.ntmps40
  go_wp2_with fail
  (with_reducible refine (HM0.out _ R0.out).mono ?_)
  rintro e0 w1 ⟨rfl, r0, k0⟩
  have R1 := Lib.hid r0
  have K1 := Lib.hid (k0)
  clear r0 k0
  go_wp2_with fail
  (with_reducible refine (HM1.out _ R1.out).mono ?_)
  rintro e1 w2 ⟨rfl, r1, k1⟩
  have R2 := Lib.hid r1
  have K2 := Lib.hid (K1.out.trans k1)
  clear r1 k1
  go_wp2_with fail
  (with_reducible refine (HM2.out _ R2.out).mono ?_)
  rintro e2 w3 ⟨rfl, r2, k2⟩
  have R3 := Lib.hid r2
  have K3 := Lib.hid (K2.out.trans k2)
  clear r2 k2
  go_wp2_with fail
  (with_reducible refine (HM3.out _ R3.out).mono ?_)
  rintro e3 w4 ⟨rfl, r3, k3⟩
  have R4 := Lib.hid r3
  have K4 := Lib.hid (K3.out.trans k3)
  clear r3 k3
  go_wp2
  refine bodyPost_ret (v := .tuple #[.int .i64 0, .int .i64 0, .bool false]) (by simp [results, Try.results40, go_sem]) rfl ⟨rfl, R4.out, K4.out⟩
theorem no_brace {S : ByteArray} {t : St} (hpl : ∀ c ∈ kit.bytes S, plainC c) : ¬ nxt (kit.bytes S) t = some 123 := by
  intro h
  unfold nxt at h
  split at h
  · exact (hpl 123 (List.mem_of_getElem? h)).2.2.2.2.2 rfl
  · cases h
set_option maxHeartbeats 6400000 in
set_option maxRecDepth 100000 in
theorem rx_part (q : Nat) (S : ByteArray) (t : St) (w : World) (h : Rd q S t w) (hS : S.size ≤ 60) (hp : t.p < S.size) (hpl : ∀ c ∈ kit.bytes S, plainC c) : Calls Try.prog 36 #[.pointer (some ⟨q, 0, none⟩)] w (RxA 2 q S (rx.part (kit.bytes S) (onceS (kit.bytes S) spB) t) w) := by
  have HOn : Hid (∀ W, Rd q S t W → Calls Try.prog 39 #[.pointer (some ⟨q, 0, none⟩)] W (RxA 1 q S (onceS (kit.bytes S) spB t) W)) := fun W hW => rx_once q S t W hW hS hp hpl
  unfold rx.part
  obtain ⟨x, t1, hr⟩ : ∃ x t1, onceS (kit.bytes S) spB t = (x, t1) := ⟨_, _, rfl⟩
  rw [hr] at HOn ⊢
  simp only
  have HOf : Hid (∀ W, Rd q S t1 W → Calls Try.prog 40 #[.pointer (some ⟨q, 0, none⟩)] W (fun e w' => e = .returned (.tuple #[.int .i64 (often (kit.bytes S) t1).1.1, .int .i64 (often (kit.bytes S) t1).1.2.1, .bool (often (kit.bytes S) t1).1.2.2]) ∧ RK q S (often (kit.bytes S) t1).2 W w')) := fun W hW => rx_often q S t1 W hW hS (no_brace hpl)
  obtain ⟨oa, ob, ok, t2, ho⟩ : ∃ oa ob ok t2, often (kit.bytes S) t1 = ((oa, ob, ok), t2) := ⟨_, _, _, _, rfl⟩
  rw [ho] at HOf ⊢
  simp only at HOf ⊢
  obtain ⟨q1, hq1⟩ : ∃ q1, q1 = w.heap.size := ⟨_, rfl⟩
  have hqq : q < q1 := by rw [hq1]; exact lt_of_block h
  obtain ⟨W3, hW3⟩ : ∃ W, W = w.alloc (.cells #[.int .i64 0, .int .u64 0, .int .u64 0, .int .u64 0, .int .u64 0, .slice none 0 0, .int .i64 0, .int .i64 0] 28) := ⟨_, rfl⟩
  have b3 : Below w.heap.size w W3 := by rw [hW3]; exact below1
  have R3 := Lib.hid (h.next b3)
  have K3 := Lib.hid (KX.of (q := q) b3)
  have Z3 : Hid (W3.heap[q1]? = some (.cells #[.int .i64 0, .int .u64 0, .int .u64 0, .int .u64 0, .int .u64 0, .slice none 0 0, .int .i64 0, .int .i64 0] 28)) := by show _ = _; rw [hW3, hq1]; exact heap_alloc_new _ _
  have HW3 := Lib.hid hW3
  have HQ1 := Lib.hid hq1
  have HQQ := Lib.hid hqq
  have HQ3 : Hid (q < W3.heap.size) := lt_of_block R3.out
  have H13 : Hid (q1 < W3.heap.size) := lt_of_block Z3.out
  have HB3 : Hid (w.heap.size ≤ W3.heap.size) := b3.size
  clear h hr ho hq1 hqq hW3 b3 hp hpl hS
  cases ok with
  | false =>
    have HMN : many x (oa, ob, false) = x := rfl
    rw [HMN]
    clear HMN
    go_enter Try.func36, Try.ntmps36
    go_wp2_with fail
    rw [← HW3.out, ← HQ1.out]
    (with_reducible refine (HOn.out _ R3.out).mono ?_)
    rintro e4 w4 ⟨c, rfl, f4, r4, k4⟩
    obtain ⟨ko, kn, kc, rfl⟩ := rx_form f4.at
    obtain ⟨q2, hq2⟩ : ∃ q2, q2 = w4.heap.size := ⟨_, rfl⟩
    obtain ⟨W5, hW5⟩ : ∃ W, W = w4.alloc (.cells #[.int .i64 x.k, .int .u64 x.cl.a, .int .u64 x.cl.b, .int .u64 x.cl.c, .int .u64 x.cl.d, .slice ko kn kc, .int .i64 x.mn, .int .i64 x.mx] 28) := ⟨_, rfl⟩
    have b5 : Below w4.heap.size w4 W5 := by rw [hW5]; exact below1
    have R5 := Lib.hid (r4.next b5)
    have K5 := Lib.hid (K3.out.trans (k4.next b5))
    have F5 := Lib.hid (FreA.next f4 b5)
    have Z5 := Lib.hid ((b5.block q1 (by have := k4.2.1; have := lt_of_block Z3.out; omega)).trans ((k4.2.2 q1 (lt_of_block Z3.out) (by have := HQQ.out; omega)).trans Z3.out))
    have X5 : Hid (W5.heap[q2]? = some (.cells #[.int .i64 x.k, .int .u64 x.cl.a, .int .u64 x.cl.b, .int .u64 x.cl.c, .int .u64 x.cl.d, .slice ko kn kc, .int .i64 x.mn, .int .i64 x.mx] 28)) := by show _ = _; rw [hW5, hq2]; exact heap_alloc_new _ _
    have HQ2 : Hid (q < q2) := by show _ < _; rw [hq2]; exact lt_of_block r4
    have HB35 : Hid (W3.heap.size ≤ W5.heap.size) := Nat.le_trans k4.2.1 b5.size
    have HW5 := Lib.hid hW5
    have HQ2E := Lib.hid hq2
    clear f4 r4 k4 b5 hW5 hq2
    go_wp2_with fail
    rw [← HW5.out, ← HQ2E.out]
    (with_reducible refine (HOf.out _ R5.out).mono ?_)
    rintro e6 w6 ⟨rfl, r6, k6⟩
    have R6 := Lib.hid r6
    have HB36 : Hid (W3.heap.size ≤ w6.heap.size) := Nat.le_trans HB35.out k6.2.1
    have K6 := Lib.hid (K5.out.trans k6)
    have F6 := Lib.hid (Fre.kx F5.out k6 HQ3.out)
    have Z6 := Lib.hid ((k6.2.2 q1 (lt_of_block Z5.out) (by have := HQQ.out; omega)).trans Z5.out)
    have X6 := (k6.2.2 q2 (lt_of_block X5.out) (by have := HQ2.out; omega)).trans X5.out
    have d0 := boxc X6 0 _ rfl
    have d1 := boxc X6 1 _ rfl
    have d2 := boxc X6 2 _ rfl
    have d3 := boxc X6 3 _ rfl
    have d4 := boxc X6 4 _ rfl
    have d5 := boxc X6 5 _ rfl
    have d6 := boxc X6 6 _ rfl
    have d7 := boxc X6 7 _ rfl
    clear r6 k6 X6
    obtain ⟨wz, rfl⟩ : ∃ W, W = w6 := ⟨_, rfl⟩
    have R9 := R6
    have K9 := K6
    have ZZ := Z6
    clear R6 K6 Z6
    go_wp2_with ((with_reducible show wpList _ _ _ (Oper.mk _ (Op.store 28 (.tmp 2) _) _ _ _ _ :: _) _ _); refine wpList_store_row rfl 28 (.tmp 2) _ rfl (q1) #[.int .i64 x.k, .int .u64 x.cl.a, .int .u64 x.cl.b, .int .u64 x.cl.c, .int .u64 x.cl.d, .slice ko kn kc, .int .i64 x.mn, .int .i64 x.mx] rfl rfl 28 #[.int .i64 0, .int .u64 0, .int .u64 0, .int .u64 0, .int .u64 0, .slice none 0 0, .int .i64 0, .int .i64 0] ZZ.out rsize rfl (by simp [Value.oneCell']) ?_)
    have cc := setRow_heap _ q1 _ #[.int .i64 x.k, .int .u64 x.cl.a, .int .u64 x.cl.b, .int .u64 x.cl.c, .int .u64 x.cl.d, .slice ko kn kc, .int .i64 x.mn, .int .i64 x.mx] _ _ ZZ.out
    have rr : Rd q S _ (World.setRow wz q1 #[.int .i64 x.k, .int .u64 x.cl.a, .int .u64 x.cl.b, .int .u64 x.cl.c, .int .u64 x.cl.d, .slice ko kn kc, .int .i64 x.mn, .int .i64 x.mx]) := R9.out.keep KX.row (by have := HQQ.out; omega)
    have kk : KX q w (World.setRow wz q1 #[.int .i64 x.k, .int .u64 x.cl.a, .int .u64 x.cl.b, .int .u64 x.cl.c, .int .u64 x.cl.d, .slice ko kn kc, .int .i64 x.mn, .int .i64 x.mx]) := K9.out.trans' KX.row (by have := HQ1.out; omega)
    have ff : Fre w.heap.size (World.setRow wz q1 #[.int .i64 x.k, .int .u64 x.cl.a, .int .u64 x.cl.b, .int .u64 x.cl.c, .int .u64 x.cl.d, .slice ko kn kc, .int .i64 x.mn, .int .i64 x.mx]) (fun W => rxR 2 W W.heap.size [.int .i64 x.k, .int .u64 x.cl.a, .int .u64 x.cl.b, .int .u64 x.cl.c, .int .u64 x.cl.d, .slice ko kn kc, .int .i64 x.mn, .int .i64 x.mx] x) := FreA.low (Fre.kx (FreA.imp F6.out (fun W h => rxR_up 1 _ _ _ _ h)) KX.row H13.out) HB3.out
    obtain ⟨w9, h9⟩ : ∃ W, W = World.setRow wz q1 #[.int .i64 x.k, .int .u64 x.cl.a, .int .u64 x.cl.b, .int .u64 x.cl.c, .int .u64 x.cl.d, .slice ko kn kc, .int .i64 x.mn, .int .i64 x.mx] := ⟨_, rfl⟩
    rw [← h9] at cc rr kk ff ⊢
    clear h9
    have k0 := boxc cc 0 _ rfl
    have k1 := boxc cc 1 _ rfl
    have k2 := boxc cc 2 _ rfl
    have k3 := boxc cc 3 _ rfl
    have k4 := boxc cc 4 _ rfl
    have k5 := boxc cc 5 _ rfl
    have k6 := boxc cc 6 _ rfl
    have k7 := boxc cc 7 _ rfl
    refine bodyPost_ret (v := .agg #[.int .i64 x.k, .int .u64 x.cl.a, .int .u64 x.cl.b, .int .u64 x.cl.c, .int .u64 x.cl.d, .slice ko kn kc, .int .i64 x.mn, .int .i64 x.mx]) (by simp [results, Try.results36, go_sem, k0, k1, k2, k3, k4, k5, k6, k7]) rfl ?_
    exact ⟨[.int .i64 x.k, .int .u64 x.cl.a, .int .u64 x.cl.b, .int .u64 x.cl.c, .int .u64 x.cl.d, .slice ko kn kc, .int .i64 x.mn, .int .i64 x.mx], rfl, ff, rr, kk⟩
  | true =>
    by_cases g1 : oa = 1 ∧ ob = 1
    · have HMN : many x (oa, ob, true) = x := by unfold many; simp [g1]
      rw [HMN]
      have h1a : oa = 1 := g1.1
      have h1b : ob = 1 := g1.2
      subst h1a
      subst h1b
      clear HMN g1
      go_enter Try.func36, Try.ntmps36
      go_wp2_with fail
      rw [← HW3.out, ← HQ1.out]
      (with_reducible refine (HOn.out _ R3.out).mono ?_)
      rintro e4 w4 ⟨c, rfl, f4, r4, k4⟩
      obtain ⟨ko, kn, kc, rfl⟩ := rx_form f4.at
      obtain ⟨q2, hq2⟩ : ∃ q2, q2 = w4.heap.size := ⟨_, rfl⟩
      obtain ⟨W5, hW5⟩ : ∃ W, W = w4.alloc (.cells #[.int .i64 x.k, .int .u64 x.cl.a, .int .u64 x.cl.b, .int .u64 x.cl.c, .int .u64 x.cl.d, .slice ko kn kc, .int .i64 x.mn, .int .i64 x.mx] 28) := ⟨_, rfl⟩
      have b5 : Below w4.heap.size w4 W5 := by rw [hW5]; exact below1
      have R5 := Lib.hid (r4.next b5)
      have K5 := Lib.hid (K3.out.trans (k4.next b5))
      have F5 := Lib.hid (FreA.next f4 b5)
      have Z5 := Lib.hid ((b5.block q1 (by have := k4.2.1; have := lt_of_block Z3.out; omega)).trans ((k4.2.2 q1 (lt_of_block Z3.out) (by have := HQQ.out; omega)).trans Z3.out))
      have X5 : Hid (W5.heap[q2]? = some (.cells #[.int .i64 x.k, .int .u64 x.cl.a, .int .u64 x.cl.b, .int .u64 x.cl.c, .int .u64 x.cl.d, .slice ko kn kc, .int .i64 x.mn, .int .i64 x.mx] 28)) := by show _ = _; rw [hW5, hq2]; exact heap_alloc_new _ _
      have HQ2 : Hid (q < q2) := by show _ < _; rw [hq2]; exact lt_of_block r4
      have HB35 : Hid (W3.heap.size ≤ W5.heap.size) := Nat.le_trans k4.2.1 b5.size
      have HW5 := Lib.hid hW5
      have HQ2E := Lib.hid hq2
      clear f4 r4 k4 b5 hW5 hq2
      go_wp2_with fail
      rw [← HW5.out, ← HQ2E.out]
      (with_reducible refine (HOf.out _ R5.out).mono ?_)
      rintro e6 w6 ⟨rfl, r6, k6⟩
      have R6 := Lib.hid r6
      have HB36 : Hid (W3.heap.size ≤ w6.heap.size) := Nat.le_trans HB35.out k6.2.1
      have K6 := Lib.hid (K5.out.trans k6)
      have F6 := Lib.hid (Fre.kx F5.out k6 HQ3.out)
      have Z6 := Lib.hid ((k6.2.2 q1 (lt_of_block Z5.out) (by have := HQQ.out; omega)).trans Z5.out)
      have X6 := (k6.2.2 q2 (lt_of_block X5.out) (by have := HQ2.out; omega)).trans X5.out
      have d0 := boxc X6 0 _ rfl
      have d1 := boxc X6 1 _ rfl
      have d2 := boxc X6 2 _ rfl
      have d3 := boxc X6 3 _ rfl
      have d4 := boxc X6 4 _ rfl
      have d5 := boxc X6 5 _ rfl
      have d6 := boxc X6 6 _ rfl
      have d7 := boxc X6 7 _ rfl
      clear r6 k6 X6
      obtain ⟨wz, rfl⟩ : ∃ W, W = w6 := ⟨_, rfl⟩
      have R9 := R6
      have K9 := K6
      have ZZ := Z6
      clear R6 K6 Z6
      go_wp2_with ((with_reducible show wpList _ _ _ (Oper.mk _ (Op.store 28 (.tmp 2) _) _ _ _ _ :: _) _ _); refine wpList_store_row rfl 28 (.tmp 2) _ rfl (q1) #[.int .i64 x.k, .int .u64 x.cl.a, .int .u64 x.cl.b, .int .u64 x.cl.c, .int .u64 x.cl.d, .slice ko kn kc, .int .i64 x.mn, .int .i64 x.mx] rfl rfl 28 #[.int .i64 0, .int .u64 0, .int .u64 0, .int .u64 0, .int .u64 0, .slice none 0 0, .int .i64 0, .int .i64 0] ZZ.out rsize rfl (by simp [Value.oneCell']) ?_)
      have cc := setRow_heap _ q1 _ #[.int .i64 x.k, .int .u64 x.cl.a, .int .u64 x.cl.b, .int .u64 x.cl.c, .int .u64 x.cl.d, .slice ko kn kc, .int .i64 x.mn, .int .i64 x.mx] _ _ ZZ.out
      have rr : Rd q S _ (World.setRow wz q1 #[.int .i64 x.k, .int .u64 x.cl.a, .int .u64 x.cl.b, .int .u64 x.cl.c, .int .u64 x.cl.d, .slice ko kn kc, .int .i64 x.mn, .int .i64 x.mx]) := R9.out.keep KX.row (by have := HQQ.out; omega)
      have kk : KX q w (World.setRow wz q1 #[.int .i64 x.k, .int .u64 x.cl.a, .int .u64 x.cl.b, .int .u64 x.cl.c, .int .u64 x.cl.d, .slice ko kn kc, .int .i64 x.mn, .int .i64 x.mx]) := K9.out.trans' KX.row (by have := HQ1.out; omega)
      have ff : Fre w.heap.size (World.setRow wz q1 #[.int .i64 x.k, .int .u64 x.cl.a, .int .u64 x.cl.b, .int .u64 x.cl.c, .int .u64 x.cl.d, .slice ko kn kc, .int .i64 x.mn, .int .i64 x.mx]) (fun W => rxR 2 W W.heap.size [.int .i64 x.k, .int .u64 x.cl.a, .int .u64 x.cl.b, .int .u64 x.cl.c, .int .u64 x.cl.d, .slice ko kn kc, .int .i64 x.mn, .int .i64 x.mx] x) := FreA.low (Fre.kx (FreA.imp F6.out (fun W h => rxR_up 1 _ _ _ _ h)) KX.row H13.out) HB3.out
      obtain ⟨w9, h9⟩ : ∃ W, W = World.setRow wz q1 #[.int .i64 x.k, .int .u64 x.cl.a, .int .u64 x.cl.b, .int .u64 x.cl.c, .int .u64 x.cl.d, .slice ko kn kc, .int .i64 x.mn, .int .i64 x.mx] := ⟨_, rfl⟩
      rw [← h9] at cc rr kk ff ⊢
      clear h9
      have k0 := boxc cc 0 _ rfl
      have k1 := boxc cc 1 _ rfl
      have k2 := boxc cc 2 _ rfl
      have k3 := boxc cc 3 _ rfl
      have k4 := boxc cc 4 _ rfl
      have k5 := boxc cc 5 _ rfl
      have k6 := boxc cc 6 _ rfl
      have k7 := boxc cc 7 _ rfl
      refine bodyPost_ret (v := .agg #[.int .i64 x.k, .int .u64 x.cl.a, .int .u64 x.cl.b, .int .u64 x.cl.c, .int .u64 x.cl.d, .slice ko kn kc, .int .i64 x.mn, .int .i64 x.mx]) (by simp [results, Try.results36, go_sem, k0, k1, k2, k3, k4, k5, k6, k7]) rfl ?_
      exact ⟨[.int .i64 x.k, .int .u64 x.cl.a, .int .u64 x.cl.b, .int .u64 x.cl.c, .int .u64 x.cl.d, .slice ko kn kc, .int .i64 x.mn, .int .i64 x.mx], rfl, ff, rr, kk⟩
    · have HMN : many x (oa, ob, true) = .mk 5 .zero [x] oa ob := by unfold many; simp [g1]
      rw [HMN]
      by_cases ga : oa = 1
      · have gb : ¬ ob = 1 := fun e => g1 ⟨ga, e⟩
        have ga2 : (oa == 1) = true := by simp [ga]
        have HGA := Lib.hid ga
        clear HMN g1 ga
        go_enter Try.func36, Try.ntmps36
        go_wp2_with fail
        rw [← HW3.out, ← HQ1.out]
        (with_reducible refine (HOn.out _ R3.out).mono ?_)
        rintro e4 w4 ⟨c, rfl, f4, r4, k4⟩
        obtain ⟨ko, kn, kc, rfl⟩ := rx_form f4.at
        obtain ⟨q2, hq2⟩ : ∃ q2, q2 = w4.heap.size := ⟨_, rfl⟩
        obtain ⟨W5, hW5⟩ : ∃ W, W = w4.alloc (.cells #[.int .i64 x.k, .int .u64 x.cl.a, .int .u64 x.cl.b, .int .u64 x.cl.c, .int .u64 x.cl.d, .slice ko kn kc, .int .i64 x.mn, .int .i64 x.mx] 28) := ⟨_, rfl⟩
        have b5 : Below w4.heap.size w4 W5 := by rw [hW5]; exact below1
        have R5 := Lib.hid (r4.next b5)
        have K5 := Lib.hid (K3.out.trans (k4.next b5))
        have F5 := Lib.hid (FreA.next f4 b5)
        have Z5 := Lib.hid ((b5.block q1 (by have := k4.2.1; have := lt_of_block Z3.out; omega)).trans ((k4.2.2 q1 (lt_of_block Z3.out) (by have := HQQ.out; omega)).trans Z3.out))
        have X5 : Hid (W5.heap[q2]? = some (.cells #[.int .i64 x.k, .int .u64 x.cl.a, .int .u64 x.cl.b, .int .u64 x.cl.c, .int .u64 x.cl.d, .slice ko kn kc, .int .i64 x.mn, .int .i64 x.mx] 28)) := by show _ = _; rw [hW5, hq2]; exact heap_alloc_new _ _
        have HQ2 : Hid (q < q2) := by show _ < _; rw [hq2]; exact lt_of_block r4
        have HB35 : Hid (W3.heap.size ≤ W5.heap.size) := Nat.le_trans k4.2.1 b5.size
        have HW5 := Lib.hid hW5
        have HQ2E := Lib.hid hq2
        clear f4 r4 k4 b5 hW5 hq2
        go_wp2_with fail
        rw [← HW5.out, ← HQ2E.out]
        (with_reducible refine (HOf.out _ R5.out).mono ?_)
        rintro e6 w6 ⟨rfl, r6, k6⟩
        have R6 := Lib.hid r6
        have HB36 : Hid (W3.heap.size ≤ w6.heap.size) := Nat.le_trans HB35.out k6.2.1
        have K6 := Lib.hid (K5.out.trans k6)
        have F6 := Lib.hid (Fre.kx F5.out k6 HQ3.out)
        have Z6 := Lib.hid ((k6.2.2 q1 (lt_of_block Z5.out) (by have := HQQ.out; omega)).trans Z5.out)
        have X6 := (k6.2.2 q2 (lt_of_block X5.out) (by have := HQ2.out; omega)).trans X5.out
        have d0 := boxc X6 0 _ rfl
        have d1 := boxc X6 1 _ rfl
        have d2 := boxc X6 2 _ rfl
        have d3 := boxc X6 3 _ rfl
        have d4 := boxc X6 4 _ rfl
        have d5 := boxc X6 5 _ rfl
        have d6 := boxc X6 6 _ rfl
        have d7 := boxc X6 7 _ rfl
        clear r6 k6 X6
        obtain ⟨g, hg⟩ : ∃ g, g = w6.heap.size := ⟨_, rfl⟩
        obtain ⟨wz, hwz⟩ : ∃ W, W = w6.alloc (.cells #[.int .i64 x.k, .int .u64 x.cl.a, .int .u64 x.cl.b, .int .u64 x.cl.c, .int .u64 x.cl.d, .slice ko kn kc, .int .i64 x.mn, .int .i64 x.mx] 28) := ⟨_, rfl⟩
        have bz : Below w6.heap.size w6 wz := by rw [hwz]; exact below1
        have R9 := Lib.hid (R6.out.next bz)
        have K9 := Lib.hid (K6.out.next bz)
        have ZZ := Lib.hid ((bz.block _ (lt_of_block Z6.out)).trans Z6.out)
        have HS6 := HB36
        have FR : Hid (Fre W3.heap.size wz (fun V => RowsAt 8 (rxR 1) V V.heap.size (.slice (some ⟨g, 0, none⟩) 1 1) [x])) := by
          have h := rows_one (T := 28) F6.out rfl HS6.out
          rw [hg, hwz]; exact h
        have HZW := Lib.hid hwz
        have HGG := Lib.hid hg
        clear bz hwz hg
        go_wp2_with ((with_reducible show wpList _ _ _ (Oper.mk _ (Op.store 28 (.tmp 2) _) _ _ _ _ :: _) _ _); rw [← HZW.out, ← HGG.out]; refine wpList_store_row rfl 28 (.tmp 2) _ rfl (q1) #[.int .i64 5, .int .u64 0, .int .u64 0, .int .u64 0, .int .u64 0, .slice (some ⟨g, 0, none⟩) 1 1, .int .i64 oa, .int .i64 ob] rfl rfl 28 #[.int .i64 0, .int .u64 0, .int .u64 0, .int .u64 0, .int .u64 0, .slice none 0 0, .int .i64 0, .int .i64 0] ZZ.out rsize rfl (by simp [Value.oneCell']) ?_)
        have cc := setRow_heap _ q1 _ #[.int .i64 5, .int .u64 0, .int .u64 0, .int .u64 0, .int .u64 0, .slice (some ⟨g, 0, none⟩) 1 1, .int .i64 oa, .int .i64 ob] _ _ ZZ.out
        have rr : Rd q S _ (World.setRow wz q1 #[.int .i64 5, .int .u64 0, .int .u64 0, .int .u64 0, .int .u64 0, .slice (some ⟨g, 0, none⟩) 1 1, .int .i64 oa, .int .i64 ob]) := R9.out.keep KX.row (by have := HQQ.out; omega)
        have kk : KX q w (World.setRow wz q1 #[.int .i64 5, .int .u64 0, .int .u64 0, .int .u64 0, .int .u64 0, .slice (some ⟨g, 0, none⟩) 1 1, .int .i64 oa, .int .i64 ob]) := K9.out.trans' KX.row (by have := HQ1.out; omega)
        have ff : Fre w.heap.size (World.setRow wz q1 #[.int .i64 5, .int .u64 0, .int .u64 0, .int .u64 0, .int .u64 0, .slice (some ⟨g, 0, none⟩) 1 1, .int .i64 oa, .int .i64 ob]) (fun W => rxR 2 W W.heap.size [.int .i64 5, .int .u64 0, .int .u64 0, .int .u64 0, .int .u64 0, .slice (some ⟨g, 0, none⟩) 1 1, .int .i64 oa, .int .i64 ob] (.mk 5 .zero [x] oa ob)) := FreA.low (Fre.kx (FreA.imp FR.out (fun W h => ⟨_, _, _, rfl, h⟩)) KX.row H13.out) HB3.out
        obtain ⟨w9, h9⟩ : ∃ W, W = World.setRow wz q1 #[.int .i64 5, .int .u64 0, .int .u64 0, .int .u64 0, .int .u64 0, .slice (some ⟨g, 0, none⟩) 1 1, .int .i64 oa, .int .i64 ob] := ⟨_, rfl⟩
        rw [← h9] at cc rr kk ff ⊢
        clear h9
        have k0 := boxc cc 0 _ rfl
        have k1 := boxc cc 1 _ rfl
        have k2 := boxc cc 2 _ rfl
        have k3 := boxc cc 3 _ rfl
        have k4 := boxc cc 4 _ rfl
        have k5 := boxc cc 5 _ rfl
        have k6 := boxc cc 6 _ rfl
        have k7 := boxc cc 7 _ rfl
        refine bodyPost_ret (v := .agg #[.int .i64 5, .int .u64 0, .int .u64 0, .int .u64 0, .int .u64 0, .slice (some ⟨g, 0, none⟩) 1 1, .int .i64 oa, .int .i64 ob]) (by simp [results, Try.results36, go_sem, k0, k1, k2, k3, k4, k5, k6, k7]) rfl ?_
        exact ⟨[.int .i64 5, .int .u64 0, .int .u64 0, .int .u64 0, .int .u64 0, .slice (some ⟨g, 0, none⟩) 1 1, .int .i64 oa, .int .i64 ob], rfl, ff, rr, kk⟩
      · clear HMN g1
        go_enter Try.func36, Try.ntmps36
        go_wp2_with fail
        rw [← HW3.out, ← HQ1.out]
        (with_reducible refine (HOn.out _ R3.out).mono ?_)
        rintro e4 w4 ⟨c, rfl, f4, r4, k4⟩
        obtain ⟨ko, kn, kc, rfl⟩ := rx_form f4.at
        obtain ⟨q2, hq2⟩ : ∃ q2, q2 = w4.heap.size := ⟨_, rfl⟩
        obtain ⟨W5, hW5⟩ : ∃ W, W = w4.alloc (.cells #[.int .i64 x.k, .int .u64 x.cl.a, .int .u64 x.cl.b, .int .u64 x.cl.c, .int .u64 x.cl.d, .slice ko kn kc, .int .i64 x.mn, .int .i64 x.mx] 28) := ⟨_, rfl⟩
        have b5 : Below w4.heap.size w4 W5 := by rw [hW5]; exact below1
        have R5 := Lib.hid (r4.next b5)
        have K5 := Lib.hid (K3.out.trans (k4.next b5))
        have F5 := Lib.hid (FreA.next f4 b5)
        have Z5 := Lib.hid ((b5.block q1 (by have := k4.2.1; have := lt_of_block Z3.out; omega)).trans ((k4.2.2 q1 (lt_of_block Z3.out) (by have := HQQ.out; omega)).trans Z3.out))
        have X5 : Hid (W5.heap[q2]? = some (.cells #[.int .i64 x.k, .int .u64 x.cl.a, .int .u64 x.cl.b, .int .u64 x.cl.c, .int .u64 x.cl.d, .slice ko kn kc, .int .i64 x.mn, .int .i64 x.mx] 28)) := by show _ = _; rw [hW5, hq2]; exact heap_alloc_new _ _
        have HQ2 : Hid (q < q2) := by show _ < _; rw [hq2]; exact lt_of_block r4
        have HB35 : Hid (W3.heap.size ≤ W5.heap.size) := Nat.le_trans k4.2.1 b5.size
        have HW5 := Lib.hid hW5
        have HQ2E := Lib.hid hq2
        clear f4 r4 k4 b5 hW5 hq2
        go_wp2_with fail
        rw [← HW5.out, ← HQ2E.out]
        (with_reducible refine (HOf.out _ R5.out).mono ?_)
        rintro e6 w6 ⟨rfl, r6, k6⟩
        have R6 := Lib.hid r6
        have HB36 : Hid (W3.heap.size ≤ w6.heap.size) := Nat.le_trans HB35.out k6.2.1
        have K6 := Lib.hid (K5.out.trans k6)
        have F6 := Lib.hid (Fre.kx F5.out k6 HQ3.out)
        have Z6 := Lib.hid ((k6.2.2 q1 (lt_of_block Z5.out) (by have := HQQ.out; omega)).trans Z5.out)
        have X6 := (k6.2.2 q2 (lt_of_block X5.out) (by have := HQ2.out; omega)).trans X5.out
        have d0 := boxc X6 0 _ rfl
        have d1 := boxc X6 1 _ rfl
        have d2 := boxc X6 2 _ rfl
        have d3 := boxc X6 3 _ rfl
        have d4 := boxc X6 4 _ rfl
        have d5 := boxc X6 5 _ rfl
        have d6 := boxc X6 6 _ rfl
        have d7 := boxc X6 7 _ rfl
        clear r6 k6 X6
        obtain ⟨g, hg⟩ : ∃ g, g = w6.heap.size := ⟨_, rfl⟩
        obtain ⟨wz, hwz⟩ : ∃ W, W = w6.alloc (.cells #[.int .i64 x.k, .int .u64 x.cl.a, .int .u64 x.cl.b, .int .u64 x.cl.c, .int .u64 x.cl.d, .slice ko kn kc, .int .i64 x.mn, .int .i64 x.mx] 28) := ⟨_, rfl⟩
        have bz : Below w6.heap.size w6 wz := by rw [hwz]; exact below1
        have R9 := Lib.hid (R6.out.next bz)
        have K9 := Lib.hid (K6.out.next bz)
        have ZZ := Lib.hid ((bz.block _ (lt_of_block Z6.out)).trans Z6.out)
        have HS6 := HB36
        have FR : Hid (Fre W3.heap.size wz (fun V => RowsAt 8 (rxR 1) V V.heap.size (.slice (some ⟨g, 0, none⟩) 1 1) [x])) := by
          have h := rows_one (T := 28) F6.out rfl HS6.out
          rw [hg, hwz]; exact h
        have HZW := Lib.hid hwz
        have HGG := Lib.hid hg
        clear bz hwz hg
        go_wp2_with ((with_reducible show wpList _ _ _ (Oper.mk _ (Op.store 28 (.tmp 2) _) _ _ _ _ :: _) _ _); rw [← HZW.out, ← HGG.out]; refine wpList_store_row rfl 28 (.tmp 2) _ rfl (q1) #[.int .i64 5, .int .u64 0, .int .u64 0, .int .u64 0, .int .u64 0, .slice (some ⟨g, 0, none⟩) 1 1, .int .i64 oa, .int .i64 ob] rfl rfl 28 #[.int .i64 0, .int .u64 0, .int .u64 0, .int .u64 0, .int .u64 0, .slice none 0 0, .int .i64 0, .int .i64 0] ZZ.out rsize rfl (by simp [Value.oneCell']) ?_)
        have cc := setRow_heap _ q1 _ #[.int .i64 5, .int .u64 0, .int .u64 0, .int .u64 0, .int .u64 0, .slice (some ⟨g, 0, none⟩) 1 1, .int .i64 oa, .int .i64 ob] _ _ ZZ.out
        have rr : Rd q S _ (World.setRow wz q1 #[.int .i64 5, .int .u64 0, .int .u64 0, .int .u64 0, .int .u64 0, .slice (some ⟨g, 0, none⟩) 1 1, .int .i64 oa, .int .i64 ob]) := R9.out.keep KX.row (by have := HQQ.out; omega)
        have kk : KX q w (World.setRow wz q1 #[.int .i64 5, .int .u64 0, .int .u64 0, .int .u64 0, .int .u64 0, .slice (some ⟨g, 0, none⟩) 1 1, .int .i64 oa, .int .i64 ob]) := K9.out.trans' KX.row (by have := HQ1.out; omega)
        have ff : Fre w.heap.size (World.setRow wz q1 #[.int .i64 5, .int .u64 0, .int .u64 0, .int .u64 0, .int .u64 0, .slice (some ⟨g, 0, none⟩) 1 1, .int .i64 oa, .int .i64 ob]) (fun W => rxR 2 W W.heap.size [.int .i64 5, .int .u64 0, .int .u64 0, .int .u64 0, .int .u64 0, .slice (some ⟨g, 0, none⟩) 1 1, .int .i64 oa, .int .i64 ob] (.mk 5 .zero [x] oa ob)) := FreA.low (Fre.kx (FreA.imp FR.out (fun W h => ⟨_, _, _, rfl, h⟩)) KX.row H13.out) HB3.out
        obtain ⟨w9, h9⟩ : ∃ W, W = World.setRow wz q1 #[.int .i64 5, .int .u64 0, .int .u64 0, .int .u64 0, .int .u64 0, .slice (some ⟨g, 0, none⟩) 1 1, .int .i64 oa, .int .i64 ob] := ⟨_, rfl⟩
        rw [← h9] at cc rr kk ff ⊢
        clear h9
        have k0 := boxc cc 0 _ rfl
        have k1 := boxc cc 1 _ rfl
        have k2 := boxc cc 2 _ rfl
        have k3 := boxc cc 3 _ rfl
        have k4 := boxc cc 4 _ rfl
        have k5 := boxc cc 5 _ rfl
        have k6 := boxc cc 6 _ rfl
        have k7 := boxc cc 7 _ rfl
        refine bodyPost_ret (v := .agg #[.int .i64 5, .int .u64 0, .int .u64 0, .int .u64 0, .int .u64 0, .slice (some ⟨g, 0, none⟩) 1 1, .int .i64 oa, .int .i64 ob]) (by simp [results, Try.results36, go_sem, k0, k1, k2, k3, k4, k5, k6, k7]) rfl ?_
        exact ⟨[.int .i64 5, .int .u64 0, .int .u64 0, .int .u64 0, .int .u64 0, .slice (some ⟨g, 0, none⟩) 1 1, .int .i64 oa, .int .i64 ob], rfl, ff, rr, kk⟩
end Go.Proofs.Ytbccejlemhgioaa
