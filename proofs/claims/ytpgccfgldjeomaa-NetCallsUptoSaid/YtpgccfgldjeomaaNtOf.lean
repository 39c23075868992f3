/- net: how many messages of a kind there are, on both sides. -/
import Derived.Test.YtpgccfgldjeomaaNtAwk
namespace Go.Proofs.Ytpgccfgldjeomaa
open Go Go.RowKit Go.ChangeShapes cl
/-- of the first k messages, how many are of the kind z -/
def cnt (L : List cd.Msg) (z : Int) (k : Nat) : Nat := (L.take k).countP (fun m => m.k == z)
theorem cnt_step {L : List cd.Msg} {z : Int} {k : Nat} (hk : k < L.length) : cnt L z (k + 1) = cnt L z k + if (L.getD k default).k = z then 1 else 0 := by
  unfold cnt
  rw [List.take_succ_eq_append_getElem hk, List.countP_append, List.countP_cons, List.countP_nil, List.getD_eq_getElem?_getD, List.getElem?_eq_getElem hk]
  simp
theorem cnt_le (L : List cd.Msg) (z : Int) (k : Nat) : cnt L z k ≤ k := by
  unfold cnt
  exact Nat.le_trans List.countP_le_length (by rw [List.length_take]; omega)
def busyB (L : List cd.Msg) : Bool := decide (0 < cnt L 1 L.length ∨ 0 < cnt L 3 L.length)
set_option maxHeartbeats 6400000 in
set_option maxRecDepth 100000 in
theorem of_net (L : List cd.Msg) (z : Int) (v : Value) (w : World) (hl : RowsAt 16 msgRel w w.heap.size v L) : Calls Try.prog 19 #[v, .int .i64 z] w (fun e w' => e = .returned (.int .i64 (cnt L z L.length : Int)) ∧ Below w.heap.size w w') := by
  obtain ⟨n, hn⟩ : ∃ n, n = L.length := ⟨_, rfl⟩
  rw [← hn]
  obtain ⟨ao, cap, rfl, hnc, hnm⟩ := hl.form' hn
  unfold maxLen at hnm
  have HL := Lib.hid hl
  have HN := Lib.hid hn
  obtain ⟨a, ha⟩ : ∃ a, a = cnt L z n := ⟨_, rfl⟩
  rw [← ha]
  have HA := Lib.hid ha
  clear hl hn ha
  go_enter Try.func19, Try.ntmps19
  go_wp2
  go_loopw [5, 10, 20] (fun r i _ wr => ∃ k : Nat, i = .int .i64 k ∧ k ≤ n ∧ (∃ q : Nat, r = .int .i64 q ∧ Hid (q = cnt L z k) ∧ q ≤ k) ∧ Below w.heap.size w wr) (fun _ i _ _ => n - (intOf i).toNat)
  case atStart => exact ⟨0, rfl, by omega, ⟨0, rfl, rfl, Nat.le_refl _⟩, Below.refl _ _⟩
  case round =>
    obtain ⟨k, rfl, hk, ⟨q, rfl, HQ, hq⟩, hbl⟩ := hrel
    by_cases hlt : k < n
    · have hkI : (k : Int) < (n : Int) := by omega
      obtain ⟨m, hm⟩ : ∃ x, x = L.getD k default := ⟨_, rfl⟩
      obtain ⟨ba, oa, c, rfl, hR, hC⟩ := rows_cells (HL.out.next msgRel_steady hbl) HN.out hlt hm.symm
      obtain ⟨ae, ne, ce, aa, na, ca, p1, n1, c1, p2, n2, c2, p3, n3, c3, p4, n4, c4, sa, sn, sc, rfl, g⟩ := hR
      have q0 : wr.cell? ⟨ba, oa + k * 16, none⟩ = _ := hC wr (Below.refl _ _) 0 _ rfl
      have q1 := hC wr (Below.refl _ _) 1 _ rfl
      have q2 := hC wr (Below.refl _ _) 2 _ rfl
      have q3 := hC wr (Below.refl _ _) 3 _ rfl
      have q4 := hC wr (Below.refl _ _) 4 _ rfl
      have q5 := hC wr (Below.refl _ _) 5 _ rfl
      have q6 := hC wr (Below.refl _ _) 6 _ rfl
      have q7 := hC wr (Below.refl _ _) 7 _ rfl
      have q8 := hC wr (Below.refl _ _) 8 _ rfl
      have q9 := hC wr (Below.refl _ _) 9 _ rfl
      have q10 := hC wr (Below.refl _ _) 10 _ rfl
      have q11 := hC wr (Below.refl _ _) 11 _ rfl
      have q12 := hC wr (Below.refl _ _) 12 _ rfl
      have q13 := hC wr (Below.refl _ _) 13 _ rfl
      have q14 := hC wr (Below.refl _ _) 14 _ rfl
      have q15 := hC wr (Below.refl _ _) 15 _ rfl
      have hB : Below w.heap.size w (wr.alloc (.cells #[.int .i64 m.k, .int .i64 m.f, .int .i64 m.to, .int .i64 m.g, .int .i64 m.n, .slice ae ne ce, .slice aa na ca, .slice p1 n1 c1, .slice p2 n2 c2, .slice p3 n3 c3, .slice p4 n4 c4, .int .i64 m.ki, .string m.mn, .string m.mv, .slice sa sn sc, .int .i64 m.er] 34)) := hbl.trans (below1.mono hbl.size)
      have HST : Hid (cnt L z (k + 1) = cnt L z k + if m.k = z then 1 else 0) := by
        show _ = _
        rw [hm]; exact cnt_step (by rw [← HN.out]; exact hlt)
      clear g hC hm
      by_cases h1 : m.k = z
      · have HQ' : Hid (q + 1 = cnt L z (k + 1)) := by show _ = _; rw [HST.out, if_pos h1, HQ.out]
        clear HST
        subst h1
        go_wp2
        go_roundw
        case rel => exact ⟨k + 1, by go_num, by omega, ⟨q + 1, by go_num, HQ', by omega⟩, hB⟩
        case measure => simp [intOf]; omega
      · have HQ' : Hid (q = cnt L z (k + 1)) := by show _ = _; rw [HST.out, if_neg h1, HQ.out, Nat.add_zero]
        clear HST
        go_wp2
        go_roundw
        case rel => exact ⟨k + 1, by go_num, by omega, ⟨q, rfl, HQ', by omega⟩, hB⟩
        case measure => simp [intOf]; omega
    · obtain rfl : k = n := by omega
      obtain rfl : a = q := by rw [HA.out, HQ.out]
      go_wp2
      go_ret
      exact ⟨rfl, hbl⟩
set_option maxHeartbeats 6400000 in
set_option maxRecDepth 100000 in
theorem of_ref (L : List cd.Msg) (z : Int) (v : Value) (w : World) (hl : RowsAt 16 msgRel w w.heap.size v L) : Calls Try.prog 20 #[v, .int .i64 z] w (fun e w' => e = .returned (.int .i64 (cnt L z L.length : Int)) ∧ Below w.heap.size w w') := by
  obtain ⟨n, hn⟩ : ∃ n, n = L.length := ⟨_, rfl⟩
  rw [← hn]
  obtain ⟨ao, cap, rfl, hnc, hnm⟩ := hl.form' hn
  unfold maxLen at hnm
  have HL := Lib.hid hl
  have HN := Lib.hid hn
  obtain ⟨a, ha⟩ : ∃ a, a = cnt L z n := ⟨_, rfl⟩
  rw [← ha]
  have HA := Lib.hid ha
  clear hl hn ha
  go_enter Try.func20, Try.ntmps20
  go_wp2
  go_loopw [5, 10, 20] (fun r i _ wr => ∃ k : Nat, i = .int .i64 k ∧ k ≤ n ∧ (∃ q : Nat, r = .int .i64 q ∧ Hid (q = cnt L z k) ∧ q ≤ k) ∧ Below w.heap.size w wr) (fun _ i _ _ => n - (intOf i).toNat)
  case atStart => exact ⟨0, rfl, by omega, ⟨0, rfl, rfl, Nat.le_refl _⟩, Below.refl _ _⟩
  case round =>
    obtain ⟨k, rfl, hk, ⟨q, rfl, HQ, hq⟩, hbl⟩ := hrel
    by_cases hlt : k < n
    · have hkI : (k : Int) < (n : Int) := by omega
      obtain ⟨m, hm⟩ : ∃ x, x = L.getD k default := ⟨_, rfl⟩
      obtain ⟨ba, oa, c, rfl, hR, hC⟩ := rows_cells (HL.out.next msgRel_steady hbl) HN.out hlt hm.symm
      obtain ⟨ae, ne, ce, aa, na, ca, p1, n1, c1, p2, n2, c2, p3, n3, c3, p4, n4, c4, sa, sn, sc, rfl, g⟩ := hR
      have q0 : wr.cell? ⟨ba, oa + k * 16, none⟩ = _ := hC wr (Below.refl _ _) 0 _ rfl
      have q1 := hC wr (Below.refl _ _) 1 _ rfl
      have q2 := hC wr (Below.refl _ _) 2 _ rfl
      have q3 := hC wr (Below.refl _ _) 3 _ rfl
      have q4 := hC wr (Below.refl _ _) 4 _ rfl
      have q5 := hC wr (Below.refl _ _) 5 _ rfl
      have q6 := hC wr (Below.refl _ _) 6 _ rfl
      have q7 := hC wr (Below.refl _ _) 7 _ rfl
      have q8 := hC wr (Below.refl _ _) 8 _ rfl
      have q9 := hC wr (Below.refl _ _) 9 _ rfl
      have q10 := hC wr (Below.refl _ _) 10 _ rfl
      have q11 := hC wr (Below.refl _ _) 11 _ rfl
      have q12 := hC wr (Below.refl _ _) 12 _ rfl
      have q13 := hC wr (Below.refl _ _) 13 _ rfl
      have q14 := hC wr (Below.refl _ _) 14 _ rfl
      have q15 := hC wr (Below.refl _ _) 15 _ rfl
      have hB : Below w.heap.size w (wr.alloc (.cells #[.int .i64 m.k, .int .i64 m.f, .int .i64 m.to, .int .i64 m.g, .int .i64 m.n, .slice ae ne ce, .slice aa na ca, .slice p1 n1 c1, .slice p2 n2 c2, .slice p3 n3 c3, .slice p4 n4 c4, .int .i64 m.ki, .string m.mn, .string m.mv, .slice sa sn sc, .int .i64 m.er] 34)) := hbl.trans (below1.mono hbl.size)
      have HST : Hid (cnt L z (k + 1) = cnt L z k + if m.k = z then 1 else 0) := by
        show _ = _
        rw [hm]; exact cnt_step (by rw [← HN.out]; exact hlt)
      clear g hC hm
      by_cases h1 : m.k = z
      · have HQ' : Hid (q + 1 = cnt L z (k + 1)) := by show _ = _; rw [HST.out, if_pos h1, HQ.out]
        clear HST
        subst h1
        go_wp2
        go_roundw
        case rel => exact ⟨k + 1, by go_num, by omega, ⟨q + 1, by go_num, HQ', by omega⟩, hB⟩
        case measure => simp [intOf]; omega
      · have HQ' : Hid (q = cnt L z (k + 1)) := by show _ = _; rw [HST.out, if_neg h1, HQ.out, Nat.add_zero]
        clear HST
        go_wp2
        go_roundw
        case rel => exact ⟨k + 1, by go_num, by omega, ⟨q, rfl, HQ', by omega⟩, hB⟩
        case measure => simp [intOf]; omega
    · obtain rfl : k = n := by omega
      obtain rfl : a = q := by rw [HA.out, HQ.out]
      go_wp2
      go_ret
      exact ⟨rfl, hbl⟩
set_option maxHeartbeats 1600000 in
set_option maxRecDepth 100000 in
theorem busy_net (L : List cd.Msg) (v : Value) (w : World) (hl : RowsAt 16 msgRel w w.heap.size v L) (h6 : L.length ≤ 600) : Calls Try.prog 21 #[v] w (fun e w' => e = .returned (.bool (busyB L)) ∧ Below w.heap.size w w') := by
  have H1 := Lib.hid (of_net L 1 v w hl)
  have H3 : Hid (∀ W, Below w.heap.size w W → Calls Try.prog 19 #[v, .int .i64 3] W (fun e w' => e = .returned (.int .i64 (cnt L 3 L.length : Int)) ∧ Below W.heap.size W w')) := fun W hW => of_net L 3 v W (hl.next msgRel_steady hW)
  have b1 := cnt_le L 1 L.length
  have b3 := cnt_le L 3 L.length
  unfold busyB
  obtain ⟨a, ha⟩ : ∃ a, a = cnt L 1 L.length := ⟨_, rfl⟩
  obtain ⟨b, hb⟩ : ∃ b, b = cnt L 3 L.length := ⟨_, rfl⟩
  rw [← ha] at b1 H1 ⊢
  rw [← hb] at b3 H3 ⊢
  obtain ⟨n, hn⟩ : ∃ n, n = L.length := ⟨_, rfl⟩
  obtain ⟨ao, cap, rfl, _, _⟩ := hl.form' hn
  rw [← hn] at b1 b3 h6
  clear ha hb hl hn
  by_cases hab : 0 < a ∨ 0 < b
  · rw [decide_eq_true hab]
    have hI : (0 : Int) < (a : Int) + (b : Int) := by omega
    have hw : IntKind.i64.wrap ((a : Int) + (b : Int)) = (a : Int) + (b : Int) := IntWalk.i64_in _ (by omega)
    clear hab
    go_enter Try.func21, Try.ntmps21
    go_wp2_with fail
    (with_reducible refine H1.out.mono ?_)
    rintro e w1 ⟨rfl, B1⟩
    go_wp2_with fail
    (with_reducible refine (H3.out _ B1).mono ?_)
    rintro e w2 ⟨rfl, B2⟩
    go_wp2
    go_ret
    exact ⟨by simp, B1.trans (B2.mono B1.size)⟩
  · rw [decide_eq_false hab]
    have h0 : a = 0 ∧ b = 0 := by omega
    obtain ⟨rfl, rfl⟩ := h0
    clear hab
    go_enter Try.func21, Try.ntmps21
    go_wp2_with fail
    (with_reducible refine H1.out.mono ?_)
    rintro e w1 ⟨rfl, B1⟩
    go_wp2_with fail
    (with_reducible refine (H3.out _ B1).mono ?_)
    rintro e w2 ⟨rfl, B2⟩
    go_wp2
    go_ret
    exact ⟨by simp, B1.trans (B2.mono B1.size)⟩
set_option maxHeartbeats 1600000 in
set_option maxRecDepth 100000 in
theorem busy_ref (L : List cd.Msg) (v : Value) (w : World) (hl : RowsAt 16 msgRel w w.heap.size v L) : Calls Try.prog 22 #[v] w (fun e w' => e = .returned (.bool (busyB L)) ∧ Below w.heap.size w w') := by
  have H1 := Lib.hid (of_ref L 1 v w hl)
  have H3 : Hid (∀ W, Below w.heap.size w W → Calls Try.prog 20 #[v, .int .i64 3] W (fun e w' => e = .returned (.int .i64 (cnt L 3 L.length : Int)) ∧ Below W.heap.size W w')) := fun W hW => of_ref L 3 v W (hl.next msgRel_steady hW)
  have b1 := cnt_le L 1 L.length
  have b3 := cnt_le L 3 L.length
  unfold busyB
  obtain ⟨a, ha⟩ : ∃ a, a = cnt L 1 L.length := ⟨_, rfl⟩
  obtain ⟨b, hb⟩ : ∃ b, b = cnt L 3 L.length := ⟨_, rfl⟩
  rw [← ha] at b1 H1 ⊢
  rw [← hb] at b3 H3 ⊢
  obtain ⟨n, hn⟩ : ∃ n, n = L.length := ⟨_, rfl⟩
  obtain ⟨ao, cap, rfl, _, _⟩ := hl.form' hn
  rw [← hn] at b1 b3
  clear ha hb hl hn
  by_cases ha : 0 < a
  · rw [decide_eq_true (Or.inl ha)]
    have hI : (0 : Int) < (a : Int) := by omega
    clear ha
    go_enter Try.func22, Try.ntmps22
    go_wp2_with fail
    (with_reducible refine H1.out.mono ?_)
    rintro e w1 ⟨rfl, B1⟩
    go_wp2
    go_ret
    exact ⟨by simp, B1⟩
  · have h0 : a = 0 := by omega
    subst h0
    by_cases hb : 0 < b
    · rw [decide_eq_true (Or.inr hb)]
      have hI : (0 : Int) < (b : Int) := by omega
      clear ha hb
      go_enter Try.func22, Try.ntmps22
      go_wp2_with fail
      (with_reducible refine H1.out.mono ?_)
      rintro e w1 ⟨rfl, B1⟩
      go_wp2_with fail
      (with_reducible refine (H3.out _ B1).mono ?_)
      rintro e w2 ⟨rfl, B2⟩
      go_wp2
      go_ret
      exact ⟨by simp; omega, B1.trans (B2.mono B1.size)⟩
    · rw [decide_eq_false (by omega)]
      have h0 : b = 0 := by omega
      subst h0
      clear ha hb
      go_enter Try.func22, Try.ntmps22
      go_wp2_with fail
      (with_reducible refine H1.out.mono ?_)
      rintro e w1 ⟨rfl, B1⟩
      go_wp2_with fail
      (with_reducible refine (H3.out _ B1).mono ?_)
      rintro e w2 ⟨rfl, B2⟩
      go_wp2
      go_ret
      exact ⟨by simp, B1.trans (B2.mono B1.size)⟩
end Go.Proofs.Ytpgccfgldjeomaa
