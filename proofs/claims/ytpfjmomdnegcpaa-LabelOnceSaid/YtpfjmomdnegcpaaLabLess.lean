/- label: Less, the program's and the document's. -/
import Derived.Test.YtpfjmomdnegcpaaLabSame
namespace Go.Proofs.Ytpfjmomdnegcpaa
open Go.RowKit Go.ChangeShapes cl

/-- a text ahead of another -/
def tless (s t : ByteArray) : Bool := Op.bytesLess s.toList t.toList
def lless : List Lab → List Lab → Bool
  | [], b => decide (0 < b.length)
  | _ :: _, [] => false
  | x :: a, y :: b => if x = y then lless a b else if x.1 = y.1 then tless x.2 y.2 else tless x.1 y.1
theorem lless_drop : ∀ (k : Nat) (a b : List Lab), k ≤ a.length → k ≤ b.length → a.take k = b.take k → lless a b = lless (a.drop k) (b.drop k) := by
  intro k
  induction k with
  | zero => intro a b _ _ _; rfl
  | succ k ih =>
    intro a b ha hb h
    cases a with
    | nil => simp at ha
    | cons x a =>
      cases b with
      | nil => simp at hb
      | cons y b =>
        simp only [List.take_succ_cons, List.cons.injEq] at h
        obtain ⟨rfl, h⟩ := h
        show (if x = x then lless a b else _) = _
        rw [if_pos rfl, List.drop_succ_cons, List.drop_succ_cons]
        exact ih a b (by simpa using ha) (by simpa using hb) h
theorem ptake2 {a b : List Lab} {k : Nat} (h1 : k < a.length) (h2 : k < b.length) (h : a.take k = b.take k) (he : a.getD k (.empty, .empty) = b.getD k (.empty, .empty)) : a.take (k + 1) = b.take (k + 1) := by
  rw [List.take_succ_eq_append_getElem h1, List.take_succ_eq_append_getElem h2, h]
  simp only [List.getD, List.getElem?_eq_getElem h1, List.getElem?_eq_getElem h2, Option.getD_some] at he
  rw [he]
theorem lless_at {a b : List Lab} {k : Nat} (ha : k < a.length) (hb : k < b.length) (h : a.take k = b.take k) {x y : Lab} (hx : x = a.getD k (.empty, .empty)) (hy : y = b.getD k (.empty, .empty)) (hne : ¬ x = y) :
    lless a b = if x.1 = y.1 then tless x.2 y.2 else tless x.1 y.1 := by
  rw [lless_drop k a b (by omega) (by omega) h, List.drop_eq_getElem_cons ha, List.drop_eq_getElem_cons hb]
  have e1 : a[k] = x := by rw [hx]; simp [List.getD, ha]
  have e2 : b[k] = y := by rw [hy]; simp [List.getD, hb]
  rw [e1, e2]
  show (if x = y then _ else _) = _
  rw [if_neg hne]
theorem lless_all {a b : List Lab} {k : Nat} (hk : k = min a.length b.length) (h : a.take k = b.take k) : lless a b = decide (a.length < b.length) := by
  rw [lless_drop k a b (by omega) (by omega) h]
  by_cases hl : a.length ≤ b.length
  · rw [show k = a.length by omega, List.drop_length]
    show decide (0 < (b.drop a.length).length) = _
    rw [List.length_drop]
    exact decide_eq_decide.2 (by omega)
  · rw [show k = b.length by omega, List.drop_length, List.drop_eq_getElem_cons (show b.length < a.length by omega)]
    show false = _
    exact (decide_eq_false (by omega)).symm

set_option maxHeartbeats 3200000 in
set_option maxRecDepth 100000 in
theorem less_short (a b : List Lab) (va vb : Value) (w : World) (ha : Labs w w.heap.size va a) (hb : Labs w w.heap.size vb b) (hlen : (b.length : Int) < (a.length : Int)) :
    Calls Try.prog 24 #[va, vb] w (Said (lless a b) w) := by
  obtain ⟨n, hn⟩ : ∃ n, n = a.length := ⟨_, rfl⟩
  obtain ⟨m, hm⟩ : ∃ m, m = b.length := ⟨_, rfl⟩
  obtain ⟨ao, ca, rfl, hn63⟩ : ∃ ao cap, va = .slice ao n cap ∧ n ≤ 9223372036854775807 := by
    obtain ⟨ao, cap, e, _, h9⟩ := ha.form
    unfold maxLen at h9
    exact ⟨ao, cap, by rw [hn]; exact e, by rw [hn]; exact h9⟩
  obtain ⟨bo, cb, rfl, hm63⟩ : ∃ ao cap, vb = .slice ao m cap ∧ m ≤ 9223372036854775807 := by
    obtain ⟨ao, cap, e, _, h9⟩ := hb.form
    unfold maxLen at h9
    exact ⟨ao, cap, by rw [hm]; exact e, by rw [hm]; exact h9⟩
  obtain ⟨R, hR⟩ : ∃ R, R = lless a b := ⟨_, rfl⟩
  rw [← hR]
  have HR := Lib.hid hR
  have HCA := Lib.hid ha
  have HCB := Lib.hid hb
  have HN := Lib.hid hn
  have HM := Lib.hid hm
  have hmn : (m : Int) < (n : Int) := by rw [hn, hm]; exact hlen
  clear ha hb hn hm hR
  go_enter Try.func24, Try.ntmps24
  go_wp2
  go_loopw [5, 11] (fun _ i wr => ∃ k : Nat, i = .int .i64 k ∧ k ≤ m ∧ Hid (a.take k = b.take k) ∧ Below w.heap.size w wr) (fun _ i _ => m - (intOf i).toNat)
  case atStart => exact ⟨0, rfl, by omega, rfl, Below.refl _ _⟩
  case round =>
    obtain ⟨k, rfl, hk, HT, hbl⟩ := hrel
    by_cases hlt : k < m
    · skip
      have HKA : Hid (k < a.length) := by show k < a.length; rw [← HN.out]; omega
      obtain ⟨bba, oa, hao, hBa, p0, p1⟩ := Labs.get HCA.out HN.out (show k < n by omega)
      subst hao
      obtain ⟨bbb, ob, hbo, hBb, r0, r1⟩ := Labs.get HCB.out HM.out (show k < m by omega)
      subst hbo
      have HKB : Hid (k < b.length) := by show k < b.length; rw [← HM.out]; omega
      have c0 := (hbl.cell (p := ⟨bba, oa + k * 2, none⟩) hBa).trans p0
      have c1 := (hbl.cell (p := ⟨bba, oa + k * 2 + 1, none⟩) hBa).trans p1
      have d0 := (hbl.cell (p := ⟨bbb, ob + k * 2, none⟩) hBb).trans r0
      have d1 := (hbl.cell (p := ⟨bbb, ob + k * 2 + 1, none⟩) hBb).trans r1
      have hkI : (k : Int) < (n : Int) := by omega
      have hkJ : (k : Int) < (m : Int) := by omega
      clear p0 p1 r0 r1
      by_cases he : a.getD k (.empty, .empty) = b.getD k (.empty, .empty)
      · have HT' : Hid (a.take (k + 1) = b.take (k + 1)) := ptake2 HKA.out HKB.out HT.out he
        rw [← he] at d0 d1
        obtain ⟨⟨x0, x1⟩, hx⟩ : ∃ x, x = a.getD k (.empty, .empty) := ⟨_, rfl⟩
        rw [← hx] at c0 c1 d0 d1
        simp only at c0 c1 d0 d1
        clear hx he
        go_wp2
        go_quiet (fail)
        go_wp2
        go_roundw
        case rel => exact ⟨k + 1, by go_num, by omega, HT', by simpa using below_drewN hbl _⟩
        case measure => simp [intOf]; omega
      · obtain ⟨⟨x0, x1⟩, hx⟩ : ∃ x, x = a.getD k (.empty, .empty) := ⟨_, rfl⟩
        obtain ⟨⟨y0, y1⟩, hy⟩ : ∃ x, x = b.getD k (.empty, .empty) := ⟨_, rfl⟩
        rw [← hx] at c0 c1
        rw [← hy] at d0 d1
        simp only at c0 c1 d0 d1
        have hne : ¬ ((x0, x1) : Lab) = (y0, y1) := fun e => he (by rw [← hx, ← hy, e])
        have HRR : Hid (R = if x0 = y0 then tless x1 y1 else tless x0 y0) := HR.out.trans (lless_at HKA.out HKB.out HT.out hx hy hne)
        clear hx hy he
        by_cases h0 : x0 = y0
        · subst h0
          have h1 := str_ne (fun e => hne (by rw [e]) : ¬ x1 = y1)
          have h2 : (x1.toList == y1.toList) = false := by simpa using h1
          obtain ⟨q, hq⟩ : ∃ q, q = Op.bytesLess x1.toList y1.toList := ⟨_, rfl⟩
          have HE : Hid (R = q) := by show R = q; rw [HRR.out, if_pos rfl, hq]; rfl
          have hq' : Op.bytesLess x1.toList y1.toList = q := hq.symm
          clear hne hq
          go_wp2
          go_quiet (fail)
          go_wp2
          go_quiet (fail)
          go_wp2
          go_quiet (fail)
          go_wp2
          go_ret
          rw [HE.out]; exact ⟨rfl, by simpa using below_drewN hbl _⟩
        · have h1 := str_ne h0
          have h2 : (x0.toList == y0.toList) = false := by simpa using h1
          obtain ⟨q, hq⟩ : ∃ q, q = Op.bytesLess x0.toList y0.toList := ⟨_, rfl⟩
          have HE : Hid (R = q) := by show R = q; rw [HRR.out, if_neg h0, hq]; rfl
          have hq' : Op.bytesLess x0.toList y0.toList = q := hq.symm
          clear hne hq h0
          go_wp2
          go_quiet (fail)
          go_wp2
          go_quiet (fail)
          go_wp2
          go_quiet (fail)
          go_wp2
          go_ret
          rw [HE.out]; exact ⟨rfl, by simpa using below_drewN hbl _⟩
    · have HE : Hid (R = false) := by
        show R = false
        rw [HR.out, lless_all (k := k) (by rw [← HN.out, ← HM.out]; omega) HT.out]
        exact decide_eq_false (by rw [← HN.out, ← HM.out]; omega)
      have hq4 : ¬ (n : Int) < (m : Int) := by omega
      go_wp2
      go_ret
      rw [HE.out]; exact ⟨rfl, hbl⟩

set_option maxHeartbeats 3200000 in
set_option maxRecDepth 100000 in
theorem less_long (a b : List Lab) (va vb : Value) (w : World) (ha : Labs w w.heap.size va a) (hb : Labs w w.heap.size vb b) (hlen : ¬ (b.length : Int) < (a.length : Int)) :
    Calls Try.prog 24 #[va, vb] w (Said (lless a b) w) := by
  obtain ⟨n, hn⟩ : ∃ n, n = a.length := ⟨_, rfl⟩
  obtain ⟨m, hm⟩ : ∃ m, m = b.length := ⟨_, rfl⟩
  obtain ⟨ao, ca, rfl, hn63⟩ : ∃ ao cap, va = .slice ao n cap ∧ n ≤ 9223372036854775807 := by
    obtain ⟨ao, cap, e, _, h9⟩ := ha.form
    unfold maxLen at h9
    exact ⟨ao, cap, by rw [hn]; exact e, by rw [hn]; exact h9⟩
  obtain ⟨bo, cb, rfl, hm63⟩ : ∃ ao cap, vb = .slice ao m cap ∧ m ≤ 9223372036854775807 := by
    obtain ⟨ao, cap, e, _, h9⟩ := hb.form
    unfold maxLen at h9
    exact ⟨ao, cap, by rw [hm]; exact e, by rw [hm]; exact h9⟩
  obtain ⟨R, hR⟩ : ∃ R, R = lless a b := ⟨_, rfl⟩
  rw [← hR]
  have HR := Lib.hid hR
  have HCA := Lib.hid ha
  have HCB := Lib.hid hb
  have HN := Lib.hid hn
  have HM := Lib.hid hm
  have hmn : ¬ (m : Int) < (n : Int) := by rw [hn, hm]; exact hlen
  clear ha hb hn hm hR
  go_enter Try.func24, Try.ntmps24
  go_wp2
  go_loopw [5, 11] (fun _ i wr => ∃ k : Nat, i = .int .i64 k ∧ k ≤ n ∧ Hid (a.take k = b.take k) ∧ Below w.heap.size w wr) (fun _ i _ => n - (intOf i).toNat)
  case atStart => exact ⟨0, rfl, by omega, rfl, Below.refl _ _⟩
  case round =>
    obtain ⟨k, rfl, hk, HT, hbl⟩ := hrel
    by_cases hlt : k < n
    · skip
      have HKA : Hid (k < a.length) := by show k < a.length; rw [← HN.out]; omega
      obtain ⟨bba, oa, hao, hBa, p0, p1⟩ := Labs.get HCA.out HN.out (show k < n by omega)
      subst hao
      obtain ⟨bbb, ob, hbo, hBb, r0, r1⟩ := Labs.get HCB.out HM.out (show k < m by omega)
      subst hbo
      have HKB : Hid (k < b.length) := by show k < b.length; rw [← HM.out]; omega
      have c0 := (hbl.cell (p := ⟨bba, oa + k * 2, none⟩) hBa).trans p0
      have c1 := (hbl.cell (p := ⟨bba, oa + k * 2 + 1, none⟩) hBa).trans p1
      have d0 := (hbl.cell (p := ⟨bbb, ob + k * 2, none⟩) hBb).trans r0
      have d1 := (hbl.cell (p := ⟨bbb, ob + k * 2 + 1, none⟩) hBb).trans r1
      have hkI : (k : Int) < (n : Int) := by omega
      have hkJ : (k : Int) < (m : Int) := by omega
      clear p0 p1 r0 r1
      by_cases he : a.getD k (.empty, .empty) = b.getD k (.empty, .empty)
      · have HT' : Hid (a.take (k + 1) = b.take (k + 1)) := ptake2 HKA.out HKB.out HT.out he
        rw [← he] at d0 d1
        obtain ⟨⟨x0, x1⟩, hx⟩ : ∃ x, x = a.getD k (.empty, .empty) := ⟨_, rfl⟩
        rw [← hx] at c0 c1 d0 d1
        simp only at c0 c1 d0 d1
        clear hx he
        go_wp2
        go_quiet (fail)
        go_wp2
        go_roundw
        case rel => exact ⟨k + 1, by go_num, by omega, HT', by simpa using below_drewN hbl _⟩
        case measure => simp [intOf]; omega
      · obtain ⟨⟨x0, x1⟩, hx⟩ : ∃ x, x = a.getD k (.empty, .empty) := ⟨_, rfl⟩
        obtain ⟨⟨y0, y1⟩, hy⟩ : ∃ x, x = b.getD k (.empty, .empty) := ⟨_, rfl⟩
        rw [← hx] at c0 c1
        rw [← hy] at d0 d1
        simp only at c0 c1 d0 d1
        have hne : ¬ ((x0, x1) : Lab) = (y0, y1) := fun e => he (by rw [← hx, ← hy, e])
        have HRR : Hid (R = if x0 = y0 then tless x1 y1 else tless x0 y0) := HR.out.trans (lless_at HKA.out HKB.out HT.out hx hy hne)
        clear hx hy he
        by_cases h0 : x0 = y0
        · subst h0
          have h1 := str_ne (fun e => hne (by rw [e]) : ¬ x1 = y1)
          have h2 : (x1.toList == y1.toList) = false := by simpa using h1
          obtain ⟨q, hq⟩ : ∃ q, q = Op.bytesLess x1.toList y1.toList := ⟨_, rfl⟩
          have HE : Hid (R = q) := by show R = q; rw [HRR.out, if_pos rfl, hq]; rfl
          have hq' : Op.bytesLess x1.toList y1.toList = q := hq.symm
          clear hne hq
          go_wp2
          go_quiet (fail)
          go_wp2
          go_quiet (fail)
          go_wp2
          go_quiet (fail)
          go_wp2
          go_ret
          rw [HE.out]; exact ⟨rfl, by simpa using below_drewN hbl _⟩
        · have h1 := str_ne h0
          have h2 : (x0.toList == y0.toList) = false := by simpa using h1
          obtain ⟨q, hq⟩ : ∃ q, q = Op.bytesLess x0.toList y0.toList := ⟨_, rfl⟩
          have HE : Hid (R = q) := by show R = q; rw [HRR.out, if_neg h0, hq]; rfl
          have hq' : Op.bytesLess x0.toList y0.toList = q := hq.symm
          clear hne hq h0
          go_wp2
          go_quiet (fail)
          go_wp2
          go_quiet (fail)
          go_wp2
          go_quiet (fail)
          go_wp2
          go_ret
          rw [HE.out]; exact ⟨rfl, by simpa using below_drewN hbl _⟩
    · obtain ⟨q, hq⟩ : ∃ q, q = decide (n < m) := ⟨_, rfl⟩
      have HE : Hid (R = q) := by
        show R = q
        rw [HR.out, hq, HN.out, HM.out]
        exact lless_all (k := k) (by rw [← HN.out, ← HM.out]; omega) HT.out
      have hq2 : decide (n < m) = q := hq.symm
      have hq3 : decide ((n : Int) < (m : Int)) = q := by rw [hq]; exact decide_eq_decide.2 (by omega)
      clear hq
      go_wp2
      go_ret
      rw [HE.out]; exact ⟨rfl, hbl⟩

theorem less_any (a b : List Lab) (va vb : Value) (w : World) (ha : Labs w w.heap.size va a) (hb : Labs w w.heap.size vb b) :
    Calls Try.prog 24 #[va, vb] w (Said (lless a b) w) := by
  by_cases h : (b.length : Int) < (a.length : Int)
  · exact less_short a b va vb w ha hb h
  · exact less_long a b va vb w ha hb h
end Go.Proofs.Ytpfjmomdnegcpaa
