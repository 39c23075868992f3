/- label: whether two lots of labels are the same: the law's, the document's, slices.Equal. -/
import Derived.Test.YtpfjmomdnegcpaaLabVal
import Derived.Test.YtpfjmomdnegcpaaLabName
namespace Go.Proofs.Ytpfjmomdnegcpaa
open Go.RowKit Go.ChangeShapes cl

theorem str_ne {s t : ByteArray} (h : ¬ s = t) : ¬ s.toList = t.toList := fun e => h (ByteArray.ext (Array.ext' (by rw [← ByteArray.toList_eq, ← ByteArray.toList_eq]; exact e)))
theorem ptake_eq {a b : List Lab} {k : Nat} (hl : a.length = b.length) (hk : k < a.length) (h : a.take k = b.take k) (he : a.getD k (.empty, .empty) = b.getD k (.empty, .empty)) : a.take (k + 1) = b.take (k + 1) := by
  have hb : k < b.length := by omega
  rw [List.take_succ_eq_append_getElem hk, List.take_succ_eq_append_getElem hb, h]
  simp only [List.getD, List.getElem?_eq_getElem hk, List.getElem?_eq_getElem hb, Option.getD_some] at he
  rw [he]

set_option maxHeartbeats 1600000 in
set_option maxRecDepth 100000 in
theorem same_any (a b : List Lab) (va vb : Value) (w : World) (ha : Labs w w.heap.size va a) (hb : Labs w w.heap.size vb b) :
    Calls Try.prog 19 #[va, vb] w (Said (decide (a = b)) w) := by
  obtain ⟨ao, ca, rfl, _, hla⟩ := ha.form
  obtain ⟨bo, cb, rfl, _, hlb⟩ := hb.form
  unfold maxLen at hla hlb
  by_cases hl : a.length = b.length
  · have HL := Lib.hid hl
    have HCA := Lib.hid ha
    have HCB := Lib.hid hb
    obtain ⟨n, hn⟩ : ∃ n, n = a.length := ⟨_, rfl⟩
    have HN := Lib.hid hn
    have HNB : Hid (n = b.length) := hn.trans hl
    rw [← hl]
    rw [← hn] at hla ⊢
    have HCA2 : Hid (Labs w w.heap.size (.slice ao n ca) a) := by show Labs _ _ _ _; rw [HN.out]; exact HCA.out
    have HCB2 : Hid (Labs w w.heap.size (.slice bo n cb) b) := by show Labs _ _ _ _; rw [HNB.out]; exact HCB.out
    clear hlb hl ha hb hn HCA HCB
    go_enter Try.func19, Try.ntmps19
    go_wp2
    go_loopw [5, 13] (fun _ i wr => ∃ k : Nat, i = .int .i64 k ∧ k ≤ n ∧ Hid (a.take k = b.take k) ∧ Below w.heap.size w wr) (fun _ i _ => n - (intOf i).toNat)
    case atStart => exact ⟨0, rfl, by omega, rfl, Below.refl _ _⟩
    case round =>
      obtain ⟨k, rfl, hk, HT, hbl⟩ := hrel
      by_cases hlt : k < n
      · obtain ⟨ba, oa, rfl, hBa, p0, p1⟩ := Labs.get HCA2.out HN.out hlt
        obtain ⟨bb, ob, rfl, hBb, r0, r1⟩ := Labs.get HCB2.out HNB.out hlt
        have c0 := (hbl.cell (p := ⟨ba, oa + k * 2, none⟩) hBa).trans p0
        have c1 := (hbl.cell (p := ⟨ba, oa + k * 2 + 1, none⟩) hBa).trans p1
        have d0 := (hbl.cell (p := ⟨bb, ob + k * 2, none⟩) hBb).trans r0
        have d1 := (hbl.cell (p := ⟨bb, ob + k * 2 + 1, none⟩) hBb).trans r1
        clear p0 p1 r0 r1
        have hkI : (k : Int) < (n : Int) := by omega
        by_cases he : a.getD k (.empty, .empty) = b.getD k (.empty, .empty)
        · have HT' : Hid (a.take (k + 1) = b.take (k + 1)) := ptake_eq HL.out (by rw [← HN.out]; exact hlt) HT.out he
          rw [← he] at d0 d1
          obtain ⟨⟨x0, x1⟩, hx⟩ : ∃ x, x = a.getD k (.empty, .empty) := ⟨_, rfl⟩
          rw [← hx] at c0 c1 d0 d1
          simp only at c0 c1 d0 d1
          clear hx he
          go_wp2
          go_quiet (fail)
          go_wp2
          go_roundw
          case rel => exact ⟨k + 1, by go_num, by omega, HT', below_drewN hbl _⟩
          case measure => simp [intOf]; omega
        · have HE : Hid (decide (a = b) = false) := decide_eq_false (fun e => he (by rw [e]))
          obtain ⟨⟨x0, x1⟩, hx⟩ : ∃ x, x = a.getD k (.empty, .empty) := ⟨_, rfl⟩
          obtain ⟨⟨y0, y1⟩, hy⟩ : ∃ x, x = b.getD k (.empty, .empty) := ⟨_, rfl⟩
          rw [← hx] at c0 c1
          rw [← hy] at d0 d1
          simp only at c0 c1 d0 d1
          have hne : ¬ (x0 = y0 ∧ x1 = y1) := fun ⟨e0, e1⟩ => he (by rw [← hx, ← hy, e0, e1])
          clear hx hy he
          by_cases h0 : x0 = y0
          · subst h0
            have h1 := str_ne (fun e => hne ⟨rfl, e⟩ : ¬ x1 = y1)
            have h2 : (x1.toList == y1.toList) = false := by simpa using h1
            clear hne
            go_wp2
            go_quiet (fail)
            go_wp2
            go_ret
            rw [HE.out]; exact ⟨rfl, below_drewN hbl _⟩
          · have h1 := str_ne h0
            have h2 : (x0.toList == y0.toList) = false := by simpa using h1
            clear h0
            clear hne
            go_wp2
            go_quiet (fail)
            go_wp2
            go_ret
            rw [HE.out]; exact ⟨rfl, below_drewN hbl _⟩
      · have HE : Hid (decide (a = b) = true) := by
          have := HT.out
          rw [List.take_of_length_le (by rw [← HN.out]; omega), List.take_of_length_le (by rw [← HNB.out]; omega)] at this
          exact decide_eq_true this
        go_wp2
        go_ret
        rw [HE.out]; exact ⟨rfl, hbl⟩
  · have HE : Hid (decide (a = b) = false) := decide_eq_false (fun e => hl (by rw [e]))
    have hne : ((a.length : Int) != (b.length : Int)) = true := by simp; omega
    have hne2 : ((a.length : Int) == (b.length : Int)) = false := by simp; omega
    clear hl ha hb
    go_enter Try.func19, Try.ntmps19
    go_wp2
    go_ret
    rw [HE.out]; exact ⟨rfl, Below.refl _ _⟩

set_option maxHeartbeats 1600000 in
set_option maxRecDepth 100000 in
theorem rsame_any (a b : List Lab) (va vb : Value) (w : World) (ha : Labs w w.heap.size va a) (hb : Labs w w.heap.size vb b) :
    Calls Try.prog 32 #[va, vb] w (Said (decide (a = b)) w) := by
  obtain ⟨ao, ca, rfl, _, hla⟩ := ha.form
  obtain ⟨bo, cb, rfl, _, hlb⟩ := hb.form
  unfold maxLen at hla hlb
  by_cases hl : a.length = b.length
  · have HL := Lib.hid hl
    have HCA := Lib.hid ha
    have HCB := Lib.hid hb
    obtain ⟨n, hn⟩ : ∃ n, n = a.length := ⟨_, rfl⟩
    have HN := Lib.hid hn
    have HNB : Hid (n = b.length) := hn.trans hl
    rw [← hl]
    rw [← hn] at hla ⊢
    have HCA2 : Hid (Labs w w.heap.size (.slice ao n ca) a) := by show Labs _ _ _ _; rw [HN.out]; exact HCA.out
    have HCB2 : Hid (Labs w w.heap.size (.slice bo n cb) b) := by show Labs _ _ _ _; rw [HNB.out]; exact HCB.out
    clear hlb hl ha hb hn HCA HCB
    go_enter Try.func32, Try.ntmps32
    go_wp2
    go_loopw [5, 13] (fun _ i wr => ∃ k : Nat, i = .int .i64 k ∧ k ≤ n ∧ Hid (a.take k = b.take k) ∧ Below w.heap.size w wr) (fun _ i _ => n - (intOf i).toNat)
    case atStart => exact ⟨0, rfl, by omega, rfl, Below.refl _ _⟩
    case round =>
      obtain ⟨k, rfl, hk, HT, hbl⟩ := hrel
      by_cases hlt : k < n
      · obtain ⟨ba, oa, rfl, hBa, p0, p1⟩ := Labs.get HCA2.out HN.out hlt
        obtain ⟨bb, ob, rfl, hBb, r0, r1⟩ := Labs.get HCB2.out HNB.out hlt
        have c0 := (hbl.cell (p := ⟨ba, oa + k * 2, none⟩) hBa).trans p0
        have c1 := (hbl.cell (p := ⟨ba, oa + k * 2 + 1, none⟩) hBa).trans p1
        have d0 := (hbl.cell (p := ⟨bb, ob + k * 2, none⟩) hBb).trans r0
        have d1 := (hbl.cell (p := ⟨bb, ob + k * 2 + 1, none⟩) hBb).trans r1
        clear p0 p1 r0 r1
        have hkI : (k : Int) < (n : Int) := by omega
        by_cases he : a.getD k (.empty, .empty) = b.getD k (.empty, .empty)
        · have HT' : Hid (a.take (k + 1) = b.take (k + 1)) := ptake_eq HL.out (by rw [← HN.out]; exact hlt) HT.out he
          rw [← he] at d0 d1
          obtain ⟨⟨x0, x1⟩, hx⟩ : ∃ x, x = a.getD k (.empty, .empty) := ⟨_, rfl⟩
          rw [← hx] at c0 c1 d0 d1
          simp only at c0 c1 d0 d1
          clear hx he
          go_wp2
          go_quiet (fail)
          go_wp2
          go_roundw
          case rel => exact ⟨k + 1, by go_num, by omega, HT', below_drewN hbl _⟩
          case measure => simp [intOf]; omega
        · have HE : Hid (decide (a = b) = false) := decide_eq_false (fun e => he (by rw [e]))
          obtain ⟨⟨x0, x1⟩, hx⟩ : ∃ x, x = a.getD k (.empty, .empty) := ⟨_, rfl⟩
          obtain ⟨⟨y0, y1⟩, hy⟩ : ∃ x, x = b.getD k (.empty, .empty) := ⟨_, rfl⟩
          rw [← hx] at c0 c1
          rw [← hy] at d0 d1
          simp only at c0 c1 d0 d1
          have hne : ¬ (x0 = y0 ∧ x1 = y1) := fun ⟨e0, e1⟩ => he (by rw [← hx, ← hy, e0, e1])
          clear hx hy he
          by_cases h0 : x0 = y0
          · subst h0
            have h1 := str_ne (fun e => hne ⟨rfl, e⟩ : ¬ x1 = y1)
            have h2 : (x1.toList == y1.toList) = false := by simpa using h1
            clear hne
            go_wp2
            go_quiet (fail)
            go_wp2
            go_ret
            rw [HE.out]; exact ⟨rfl, below_drewN hbl _⟩
          · have h1 := str_ne h0
            have h2 : (x0.toList == y0.toList) = false := by simpa using h1
            clear h0
            clear hne
            go_wp2
            go_quiet (fail)
            go_wp2
            go_ret
            rw [HE.out]; exact ⟨rfl, below_drewN hbl _⟩
      · have HE : Hid (decide (a = b) = true) := by
          have := HT.out
          rw [List.take_of_length_le (by rw [← HN.out]; omega), List.take_of_length_le (by rw [← HNB.out]; omega)] at this
          exact decide_eq_true this
        go_wp2
        go_ret
        rw [HE.out]; exact ⟨rfl, hbl⟩
  · have HE : Hid (decide (a = b) = false) := decide_eq_false (fun e => hl (by rw [e]))
    have hne : ((a.length : Int) != (b.length : Int)) = true := by simp; omega
    have hne2 : ((a.length : Int) == (b.length : Int)) = false := by simp; omega
    clear hl ha hb
    go_enter Try.func32, Try.ntmps32
    go_wp2
    go_ret
    rw [HE.out]; exact ⟨rfl, Below.refl _ _⟩

set_option maxHeartbeats 1600000 in
set_option maxRecDepth 100000 in
theorem equal_any (a b : List Lab) (va vb : Value) (w : World) (ha : Labs w w.heap.size va a) (hb : Labs w w.heap.size vb b) :
    Calls Try.prog 30 #[va, vb] w (Said (decide (a = b)) w) := by
  obtain ⟨ao, ca, rfl, _, hla⟩ := ha.form
  obtain ⟨bo, cb, rfl, _, hlb⟩ := hb.form
  unfold maxLen at hla hlb
  by_cases hl : a.length = b.length
  · have HL := Lib.hid hl
    have HCA := Lib.hid ha
    have HCB := Lib.hid hb
    obtain ⟨n, hn⟩ : ∃ n, n = a.length := ⟨_, rfl⟩
    have HN := Lib.hid hn
    have HNB : Hid (n = b.length) := hn.trans hl
    rw [← hl]
    rw [← hn] at hla ⊢
    have HCA2 : Hid (Labs w w.heap.size (.slice ao n ca) a) := by show Labs _ _ _ _; rw [HN.out]; exact HCA.out
    have HCB2 : Hid (Labs w w.heap.size (.slice bo n cb) b) := by show Labs _ _ _ _; rw [HNB.out]; exact HCB.out
    clear hlb hl ha hb hn HCA HCB
    go_enter Try.func30, Try.ntmps30
    go_wp2
    go_loopw [5, 13] (fun _ i wr => ∃ k : Nat, i = .int .i64 k ∧ k ≤ n ∧ Hid (a.take k = b.take k) ∧ Below w.heap.size w wr) (fun _ i _ => n - (intOf i).toNat)
    case atStart => exact ⟨0, rfl, by omega, rfl, Below.refl _ _⟩
    case round =>
      obtain ⟨k, rfl, hk, HT, hbl⟩ := hrel
      by_cases hlt : k < n
      · obtain ⟨ba, oa, rfl, hBa, p0, p1⟩ := Labs.get HCA2.out HN.out hlt
        obtain ⟨bb, ob, rfl, hBb, r0, r1⟩ := Labs.get HCB2.out HNB.out hlt
        have c0 := (hbl.cell (p := ⟨ba, oa + k * 2, none⟩) hBa).trans p0
        have c1 := (hbl.cell (p := ⟨ba, oa + k * 2 + 1, none⟩) hBa).trans p1
        have d0 := (hbl.cell (p := ⟨bb, ob + k * 2, none⟩) hBb).trans r0
        have d1 := (hbl.cell (p := ⟨bb, ob + k * 2 + 1, none⟩) hBb).trans r1
        clear p0 p1 r0 r1
        have hkI : (k : Int) < (n : Int) := by omega
        by_cases he : a.getD k (.empty, .empty) = b.getD k (.empty, .empty)
        · have HT' : Hid (a.take (k + 1) = b.take (k + 1)) := ptake_eq HL.out (by rw [← HN.out]; exact hlt) HT.out he
          rw [← he] at d0 d1
          obtain ⟨⟨x0, x1⟩, hx⟩ : ∃ x, x = a.getD k (.empty, .empty) := ⟨_, rfl⟩
          rw [← hx] at c0 c1 d0 d1
          simp only at c0 c1 d0 d1
          clear hx he
          go_wp2
          go_quiet (fail)
          go_wp2
          go_roundw
          case rel => exact ⟨k + 1, by go_num, by omega, HT', below_drewN hbl _⟩
          case measure => simp [intOf]; omega
        · have HE : Hid (decide (a = b) = false) := decide_eq_false (fun e => he (by rw [e]))
          obtain ⟨⟨x0, x1⟩, hx⟩ : ∃ x, x = a.getD k (.empty, .empty) := ⟨_, rfl⟩
          obtain ⟨⟨y0, y1⟩, hy⟩ : ∃ x, x = b.getD k (.empty, .empty) := ⟨_, rfl⟩
          rw [← hx] at c0 c1
          rw [← hy] at d0 d1
          simp only at c0 c1 d0 d1
          have hne : ¬ (x0 = y0 ∧ x1 = y1) := fun ⟨e0, e1⟩ => he (by rw [← hx, ← hy, e0, e1])
          clear hx hy he
          by_cases h0 : x0 = y0
          · subst h0
            have h1 := str_ne (fun e => hne ⟨rfl, e⟩ : ¬ x1 = y1)
            have h2 : (x1.toList == y1.toList) = false := by simpa using h1
            clear hne
            go_wp2
            go_quiet (fail)
            go_wp2
            go_ret
            rw [HE.out]; exact ⟨rfl, below_drewN hbl _⟩
          · have h1 := str_ne h0
            have h2 : (x0.toList == y0.toList) = false := by simpa using h1
            clear h0
            clear hne
            go_wp2
            go_quiet (fail)
            go_wp2
            go_ret
            rw [HE.out]; exact ⟨rfl, below_drewN hbl _⟩
      · have HE : Hid (decide (a = b) = true) := by
          have := HT.out
          rw [List.take_of_length_le (by rw [← HN.out]; omega), List.take_of_length_le (by rw [← HNB.out]; omega)] at this
          exact decide_eq_true this
        go_wp2
        go_ret
        rw [HE.out]; exact ⟨rfl, hbl⟩
  · have HE : Hid (decide (a = b) = false) := decide_eq_false (fun e => hl (by rw [e]))
    have hne : ((a.length : Int) != (b.length : Int)) = true := by simp; omega
    have hne2 : ((a.length : Int) == (b.length : Int)) = false := by simp; omega
    clear hl ha hb
    go_enter Try.func30, Try.ntmps30
    go_wp2
    go_ret
    rw [HE.out]; exact ⟨rfl, Below.refl _ _⟩
end Go.Proofs.Ytpfjmomdnegcpaa
