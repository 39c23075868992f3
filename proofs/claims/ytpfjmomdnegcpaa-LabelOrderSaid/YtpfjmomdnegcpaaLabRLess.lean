/- label: the document's Less. -/
import Derived.Test.YtpfjmomdnegcpaaLabLess
namespace Go.Proofs.Ytpfjmomdnegcpaa
open Go.RowKit Go.ChangeShapes cl

set_option maxHeartbeats 3200000 in
set_option maxRecDepth 100000 in
theorem rless_any (a b : List Lab) (va vb : Value) (w : World) (ha : Labs w w.heap.size va a) (hb : Labs w w.heap.size vb b) :
    Calls Try.prog 25 #[va, vb] w (Said (lless a b) w) := by
  obtain ⟨n, hn⟩ : ∃ n, n = a.length := ⟨_, rfl⟩
  obtain ⟨m, hm⟩ : ∃ m, m = b.length := ⟨_, rfl⟩
  obtain ⟨ao, ca, rfl, hn63⟩ : ∃ ao cap, va = .slice ao n cap ∧ n ≤ 9223372036854775807 := by
    obtain ⟨ao, cap, e, _, h9⟩ := ha.form
    unfold maxLen at h9
    exact ⟨ao, cap, by rw [hn]; exact e, by rw [hn]; exact h9⟩
  obtain ⟨bo, cb, rfl, hm63⟩ : ∃ ao cap, vb = .slice ao m cap ∧ m ≤ 9223372036854775807 := by
    obtain ⟨ao, cap, e, _, h9⟩ := hb.form
    unfold maxLen at h9
    exact ⟨ao, cap, by rw [hm]; exact e, by rw [hm]; exact h9⟩
  obtain ⟨R, hR⟩ : ∃ R, R = lless a b := ⟨_, rfl⟩
  rw [← hR]
  have HR := Lib.hid hR
  have HCA := Lib.hid ha
  have HCB := Lib.hid hb
  have HN := Lib.hid hn
  have HM := Lib.hid hm
  clear ha hb hn hm hR
  go_enter Try.func25, Try.ntmps25
  go_wp2
  go_loopw [5, 8] (fun _ i wr => ∃ k : Nat, i = .int .i64 k ∧ k ≤ n ∧ k ≤ m ∧ Hid (a.take k = b.take k) ∧ Below w.heap.size w wr) (fun _ i _ => n - (intOf i).toNat)
  case atStart => exact ⟨0, rfl, by omega, by omega, rfl, Below.refl _ _⟩
  case round =>
    obtain ⟨k, rfl, hk, hkm, HT, hbl⟩ := hrel
    by_cases hlt : k < n
    · by_cases hshort : k = m
      · have HE : Hid (R = false) := by
          show R = false
          rw [HR.out, lless_all (k := k) (by rw [← HN.out, ← HM.out]; omega) HT.out]
          exact decide_eq_false (by rw [← HN.out, ← HM.out]; omega)
        have hkI : (k : Int) < (n : Int) := by omega
        subst hshort
        go_wp2
        go_ret
        rw [HE.out]; exact ⟨rfl, hbl⟩
      have hnq : ¬ (k : Int) = (m : Int) := by omega
      have hnqb : ((k : Int) == (m : Int)) = false := by simpa using hnq
      have hkm2 : k < m := by omega
      have HKA : Hid (k < a.length) := by show k < a.length; rw [← HN.out]; omega
      obtain ⟨bba, oa, hao, hBa, p0, p1⟩ := Labs.get HCA.out HN.out (show k < n by omega)
      subst hao
      obtain ⟨bbb, ob, hbo, hBb, r0, r1⟩ := Labs.get HCB.out HM.out (show k < m by omega)
      subst hbo
      have HKB : Hid (k < b.length) := by show k < b.length; rw [← HM.out]; omega
      have c0 := (hbl.cell (p := ⟨bba, oa + k * 2, none⟩) hBa).trans p0
      have c1 := (hbl.cell (p := ⟨bba, oa + k * 2 + 1, none⟩) hBa).trans p1
      have d0 := (hbl.cell (p := ⟨bbb, ob + k * 2, none⟩) hBb).trans r0
      have d1 := (hbl.cell (p := ⟨bbb, ob + k * 2 + 1, none⟩) hBb).trans r1
      have hkI : (k : Int) < (n : Int) := by omega
      have hkJ : (k : Int) < (m : Int) := by omega
      clear p0 p1 r0 r1
      by_cases he : a.getD k (.empty, .empty) = b.getD k (.empty, .empty)
      · have HT' : Hid (a.take (k + 1) = b.take (k + 1)) := ptake2 HKA.out HKB.out HT.out he
        rw [← he] at d0 d1
        obtain ⟨⟨x0, x1⟩, hx⟩ : ∃ x, x = a.getD k (.empty, .empty) := ⟨_, rfl⟩
        rw [← hx] at c0 c1 d0 d1
        simp only at c0 c1 d0 d1
        clear hx he
        go_wp2
        go_quiet (fail)
        go_wp2
        go_quiet (fail)
        go_wp2
        go_roundw
        case rel => exact ⟨k + 1, by go_num, by omega, by omega, HT', by simpa using below_drewN hbl _⟩
        case measure => simp [intOf]; omega
      · obtain ⟨⟨x0, x1⟩, hx⟩ : ∃ x, x = a.getD k (.empty, .empty) := ⟨_, rfl⟩
        obtain ⟨⟨y0, y1⟩, hy⟩ : ∃ x, x = b.getD k (.empty, .empty) := ⟨_, rfl⟩
        rw [← hx] at c0 c1
        rw [← hy] at d0 d1
        simp only at c0 c1 d0 d1
        have hne : ¬ ((x0, x1) : Lab) = (y0, y1) := fun e => he (by rw [← hx, ← hy, e])
        have HRR : Hid (R = if x0 = y0 then tless x1 y1 else tless x0 y0) := HR.out.trans (lless_at HKA.out HKB.out HT.out hx hy hne)
        clear hx hy he
        by_cases h0 : x0 = y0
        · subst h0
          have h1 := str_ne (fun e => hne (by rw [e]) : ¬ x1 = y1)
          have h2 : (x1.toList == y1.toList) = false := by simpa using h1
          obtain ⟨q, hq⟩ : ∃ q, q = Op.bytesLess x1.toList y1.toList := ⟨_, rfl⟩
          have HE : Hid (R = q) := by show R = q; rw [HRR.out, if_pos rfl, hq]; rfl
          have hq' : Op.bytesLess x1.toList y1.toList = q := hq.symm
          clear hne hq
          go_wp2
          go_quiet (fail)
          go_wp2
          go_quiet (fail)
          go_wp2
          go_quiet (fail)
          go_wp2
          go_ret
          rw [HE.out]; exact ⟨rfl, by simpa using below_drewN hbl _⟩
        · have h1 := str_ne h0
          have h2 : (x0.toList == y0.toList) = false := by simpa using h1
          obtain ⟨q, hq⟩ : ∃ q, q = Op.bytesLess x0.toList y0.toList := ⟨_, rfl⟩
          have HE : Hid (R = q) := by show R = q; rw [HRR.out, if_neg h0, hq]; rfl
          have hq' : Op.bytesLess x0.toList y0.toList = q := hq.symm
          clear hne hq h0
          go_wp2
          go_quiet (fail)
          go_wp2
          go_quiet (fail)
          go_wp2
          go_ret
          rw [HE.out]; exact ⟨rfl, by simpa using below_drewN hbl _⟩
    · obtain ⟨q, hq⟩ : ∃ q, q = decide (n < m) := ⟨_, rfl⟩
      have HE : Hid (R = q) := by
        show R = q
        rw [HR.out, hq, HN.out, HM.out]
        exact lless_all (k := k) (by rw [← HN.out, ← HM.out]; omega) HT.out
      have hq2 : decide (n < m) = q := hq.symm
      have hq3 : decide ((n : Int) < (m : Int)) = q := by rw [hq]; exact decide_eq_decide.2 (by omega)
      clear hq
      go_wp2
      go_ret
      rw [HE.out]; exact ⟨rfl, hbl⟩
end Go.Proofs.Ytpfjmomdnegcpaa
