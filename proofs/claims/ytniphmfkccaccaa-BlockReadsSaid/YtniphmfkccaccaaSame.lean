/- The law's same on any two blocks. -/
import Derived.Test.YtniphmfkccaccaaBlkSeek
namespace Go.Proofs.Ytniphmfkccaccaa
open Go.RowKit Go.ChangeShapes at_ cl

set_option maxHeartbeats 1600000 in
set_option maxRecDepth 100000 in
theorem same_any (k1 k2 : Int) (s t : ByteArray) (a b : List (Int × Int)) (va vb : Value) (w : World) (ha : Skps w w.heap.size va a) (hb : Skps w w.heap.size vb b) :
    Calls Try.prog 11 #[.agg #[.int .i64 k1, .string s, va], .agg #[.int .i64 k2, .string t, vb]] w (Said (decide (k1 = k2 ∧ s = t ∧ a = b)) w) := by
  obtain ⟨ao, ca, rfl, _, hla⟩ := ha.form
  obtain ⟨bo, cb, rfl, _, hlb⟩ := hb.form
  unfold maxLen at hla hlb
  have HBX := Lib.hid (boxes w (.int .i64 k1) (.string s) (.slice ao a.length ca) (.int .i64 k2) (.string t) (.slice bo b.length cb) 26)
  obtain ⟨R, hR⟩ : ∃ R, R = decide (k1 = k2 ∧ s = t ∧ a = b) := ⟨_, rfl⟩
  rw [← hR]
  have HRD := Lib.hid hR
  clear hR
  by_cases h1 : k1 = k2
  · subst h1
    by_cases h2 : s = t
    · subst h2
      by_cases hl : a.length = b.length
      · have HL := Lib.hid hl
        have HCA := Lib.hid ha
        have HCB := Lib.hid hb
        obtain ⟨n, hn⟩ : ∃ n, n = a.length := ⟨_, rfl⟩
        have HN := Lib.hid hn
        have HNB : Hid (n = b.length) := hn.trans hl
        rw [← hl] at HBX ⊢
        rw [← hn] at hla HBX ⊢
        have HCA2 : Hid (Skps w w.heap.size (.slice ao n ca) a) := by show Skps _ _ _ _; rw [HN.out]; exact HCA.out
        have HCB2 : Hid (Skps w w.heap.size (.slice bo n cb) b) := by show Skps _ _ _ _; rw [HNB.out]; exact HCB.out
        clear hlb hl ha hb hn HCA HCB
        go_enter Try.func11, Try.ntmps11
        go_wp2
        go_loopw [5, 30] (fun _ i wr => ∃ k : Nat, i = .int .i64 k ∧ k ≤ n ∧ Hid (a.take k = b.take k) ∧ wr.cell? ⟨w.heap.size, 2, none⟩ = some (.slice ao n ca) ∧ wr.cell? ⟨w.heap.size + 1, 2, none⟩ = some (.slice bo n cb) ∧ Below w.heap.size w wr) (fun _ i _ => n - (intOf i).toNat)
        case atStart => exact ⟨0, rfl, by omega, rfl, HBX.out.1, HBX.out.2.1, HBX.out.2.2⟩
        case round =>
          obtain ⟨k, rfl, hk, HT, e0, e1, hbl⟩ := hrel
          by_cases hlt : k < n
          · obtain ⟨ba, oa, rfl, hBa, p0, p1⟩ := Skps.get HCA2.out HN.out hlt
            obtain ⟨bb, ob, rfl, hBb, r0, r1⟩ := Skps.get HCB2.out HNB.out hlt
            have c0 := (hbl.cell (p := ⟨ba, oa + k * 2, none⟩) hBa).trans p0
            have c1 := (hbl.cell (p := ⟨ba, oa + k * 2 + 1, none⟩) hBa).trans p1
            have d0 := (hbl.cell (p := ⟨bb, ob + k * 2, none⟩) hBb).trans r0
            have d1 := (hbl.cell (p := ⟨bb, ob + k * 2 + 1, none⟩) hBb).trans r1
            clear p0 p1 r0 r1
            have hkI : (k : Int) < (n : Int) := by omega
            by_cases he : a.getD k (0, 0) = b.getD k (0, 0)
            · have HT' : Hid (a.take (k + 1) = b.take (k + 1)) := ptake_eq HL.out (by rw [← HN.out]; exact hlt) HT.out he
              rw [← he] at d0 d1
              obtain ⟨⟨x0, x1⟩, hx⟩ : ∃ x, x = a.getD k (0, 0) := ⟨_, rfl⟩
              rw [← hx] at c0 c1 d0 d1
              simp only at c0 c1 d0 d1
              clear hx he
              go_wp2
              go_quiet (fail)
              go_wp2
              go_roundw
              case rel => exact ⟨k + 1, by go_num, by omega, HT', by simpa using e0, by simpa using e1, below_drewN hbl _⟩
              case measure => simp [intOf]; omega
            · have HE : Hid (R = false) := by show R = false; rw [HRD.out]; exact decide_eq_false (fun e => he (by rw [e.2.2]))
              obtain ⟨⟨x0, x1⟩, hx⟩ : ∃ x, x = a.getD k (0, 0) := ⟨_, rfl⟩
              obtain ⟨⟨y0, y1⟩, hy⟩ : ∃ x, x = b.getD k (0, 0) := ⟨_, rfl⟩
              rw [← hx] at c0 c1
              rw [← hy] at d0 d1
              simp only at c0 c1 d0 d1
              have hne : ¬ (x0 = y0 ∧ x1 = y1) := fun ⟨e0, e1⟩ => he (by rw [← hx, ← hy, e0, e1])
              clear hx hy he
              by_cases h0 : x0 = y0
              · subst h0
                have h1 : ¬ x1 = y1 := fun e => hne ⟨rfl, e⟩
                have h2 : (x1 == y1) = false := beq_eq_false_iff_ne.2 h1
                clear hne
                go_wp2
                go_quiet (fail)
                go_wp2
                go_ret
                rw [HE.out]; exact ⟨rfl, below_drewN hbl _⟩
              · have h2 : (x0 == y0) = false := beq_eq_false_iff_ne.2 h0
                clear hne
                go_wp2
                go_quiet (fail)
                go_wp2
                go_ret
                rw [HE.out]; exact ⟨rfl, below_drewN hbl _⟩
          · have HE : Hid (R = true) := by
              show R = true
              rw [HRD.out]
              have := HT.out
              rw [List.take_of_length_le (by rw [← HN.out]; omega), List.take_of_length_le (by rw [← HNB.out]; omega)] at this
              simpa using this
            go_wp2
            go_ret
            rw [HE.out]; exact ⟨rfl, hbl⟩
      · have HE : Hid (R = false) := by show R = false; rw [HRD.out]; exact decide_eq_false (fun e => hl (by rw [e.2.2]))
        have hne : ((a.length : Int) != (b.length : Int)) = true := by simp; omega
        have hne2 : ((a.length : Int) == (b.length : Int)) = false := by simp; omega
        clear hl ha hb
        go_enter Try.func11, Try.ntmps11
        go_wp2
        go_ret
        rw [HE.out]; exact ⟨rfl, HBX.out.2.2⟩
    · have HE : Hid (R = false) := by show R = false; rw [HRD.out]; exact decide_eq_false (fun e => h2 e.2.1)
      have hne : ¬ s.toList = t.toList := fun e => h2 (ByteArray.ext (Array.ext' (by rw [← ByteArray.toList_eq, ← ByteArray.toList_eq]; exact e)))
      clear ha hb
      go_enter Try.func11, Try.ntmps11
      go_wp2
      go_ret
      rw [HE.out]; exact ⟨rfl, HBX.out.2.2⟩
  · have HE : Hid (R = false) := by show R = false; rw [HRD.out]; exact decide_eq_false (fun e => h1 e.1)
    have hne : (k1 != k2) = true := by simpa using h1
    have hne2 : (k1 == k2) = false := by simpa using h1
    clear ha hb
    go_enter Try.func11, Try.ntmps11
    go_wp2
    go_ret
    rw [HE.out]; exact ⟨rfl, HBX.out.2.2⟩
end Go.Proofs.Ytniphmfkccaccaa
