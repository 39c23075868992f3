/- cursors: how big one is, as the law reckons it. -/
import Derived.Test.YtojngbobecdpeaaCurFwd
namespace Go.Proofs.Ytojngbobecdpeaa
open Go Go.RowKit Go.ChangeShapes at_ pm cl
def SzA (x : Cur) (w : World) (e : Ending) (w' : World) : Prop := ∃ (z : Int) (b : Bool), e = .returned (.tuple #[.int .i64 z, .bool b]) ∧ 0 ≤ z ∧ z ≤ 1500 ∧ (b = true → z = (Cur.sz x : Int)) ∧ Below w.heap.size w w'
def szSum (l : List Cur) : Nat := (l.map Cur.sz).sum
theorem szSum_succ {l : List Cur} {k : Nat} (h : k < l.length) : szSum (l.take (k + 1)) = szSum (l.take k) + Cur.sz (l.getD k default) := by
  unfold szSum
  rw [List.take_add_one, List.map_append, List.sum_append, List.getD_eq_getElem?_getD, List.getElem?_eq_getElem h]
  simp
set_option maxHeartbeats 3200000 in
set_option maxRecDepth 100000 in
theorem size_z (e : Nat) (x : Cur) (c : List Value) (w : World) (h : curR e w w.heap.size c x) : Calls Try.prog 8 #[.agg c.toArray, .int .i64 0] w (SzA x w) := by
  obtain ⟨lo, ln, lc, ko, kn, kc, rfl⟩ := cur_form h
  clear h
  go_enter Try.func8, Try.ntmps8
  go_wp2
  go_ret2
  exact ⟨0, false, rfl, by omega, by omega, (fun h => by cases h), below1⟩
set_option maxHeartbeats 6400000 in
set_option maxRecDepth 100000 in
theorem size_of (e : Nat) (z : Int) (hz : 0 < z ∧ z ≤ 1000) (HR : ∀ (x : Cur) (c : List Value) (w : World), curR e w w.heap.size c x → Calls Try.prog 8 #[.agg c.toArray, .int .i64 (z - 1)] w (SzA x w))
    (x : Cur) (c : List Value) (w : World) (h : curR (e + 1) w w.heap.size c x) : Calls Try.prog 8 #[.agg c.toArray, .int .i64 z] w (SzA x w) := by
  cases x with
  | mk xk xl xa l =>
  obtain ⟨lo, ln, lc, kv, hc, hA, hRR⟩ : ∃ (lo : Option Addr) (ln lc : Nat) (kv : Value), c = [.int .i64 xk, .slice lo ln lc, .int .i64 xa, kv] ∧ At w w.heap.size (.slice lo ln lc) xl ∧ RowsAt 4 (curR e) w w.heap.size kv l := by
    obtain ⟨lo, ln, lc, ko, kn, kc, rfl, hA, hR⟩ := h
    exact ⟨lo, ln, lc, _, rfl, hA, hR⟩
  subst hc
  obtain ⟨m, hm⟩ : ∃ m, m = l.length := ⟨_, rfl⟩
  obtain ⟨ao, cap, rfl, hnc, hnm⟩ := hRR.form' hm
  unfold maxLen at hnm
  obtain ⟨hln, _, _⟩ := hA.cells
  have hlnm : ln ≤ 9223372036854775807 := by
    obtain ⟨_, _, _, _, hm, _⟩ := hA
    unfold maxLen at hm
    omega
  obtain ⟨W2, hW2⟩ : ∃ W, W = w.alloc (.cells #[.int .i64 xk, .slice lo ln lc, .int .i64 xa, .slice ao m cap] 25) := ⟨_, rfl⟩
  have b2 : Below w.heap.size w W2 := by rw [hW2]; exact below1
  obtain ⟨q0, hq0⟩ : ∃ q, q = w.heap.size := ⟨_, rfl⟩
  have x2 : W2.heap[q0]? = some (.cells #[.int .i64 xk, .slice lo ln lc, .int .i64 xa, .slice ao m cap] 25) := by
    rw [hW2, hq0]; exact heap_alloc_new _ _
  have hqs : q0 < W2.heap.size := lt_of_block x2
  have HL := Lib.hid (hRR.next (curR_steady e) b2)
  have HM := Lib.hid hm
  have HH := Lib.hid HR
  have X2 := Lib.hid x2
  have B2 := Lib.hid b2
  have HW2 := Lib.hid hW2
  have HLN := Lib.hid hln
  have c1 := boxc x2 1 _ rfl
  have c3 := boxc x2 3 _ rfl
  have z0 : ¬ z = 0 := by omega
  have z1 : (z == 0) = false := by simp [z0]
  obtain ⟨hz0, hzm⟩ := hz
  clear h hA hRR hm HR x2 hln
  by_cases g1 : 30 < m
  · have g1i : (30 : Int) < (m : Int) := by omega
    go_enter Try.func8, Try.ntmps8
    clear b2 hW2 hq0
    go_wp2
    rw [← HW2.out]
    go_ret2
    exact ⟨0, false, rfl, by omega, by omega, (fun h => by cases h), B2.out⟩
  by_cases g2 : 500 < ln
  · have g1i : ¬ (30 : Int) < (m : Int) := by omega
    have g2i : (500 : Int) < (ln : Int) := by omega
    go_enter Try.func8, Try.ntmps8
    clear b2 hW2 hq0
    go_wp2
    rw [← HW2.out]
    go_ret2
    exact ⟨0, false, rfl, by omega, by omega, (fun h => by cases h), B2.out⟩
  have g1i : ¬ (30 : Int) < (m : Int) := by omega
  have g2i : ¬ (500 : Int) < (ln : Int) := by omega
  go_enter Try.func8, Try.ntmps8
  clear b2 hW2 hq0
  go_wp2
  rw [← HW2.out]
  go_loopw [6, 32, 52] (fun n i _ wr => ∃ k : Nat, i = .int .i64 k ∧ k ≤ m ∧ (∃ s : Nat, n = .int .i64 s ∧ s ≤ 1500 ∧ Hid (s = 1 + xl.length + szSum (l.take k))) ∧ Below W2.heap.size W2 wr) (fun _ i _ _ => m - (intOf i).toNat)
  case atStart => exact ⟨0, rfl, Nat.zero_le _, ⟨1 + ln, by go_num, by omega, by show _ = _; rw [HLN.out]; rfl⟩, Below.refl _ _⟩
  case round =>
    obtain ⟨k, rfl, hk, ⟨s, rfl, hs, HS⟩, hbl⟩ := hrel
    by_cases hlt : k < m
    · skip
      have hkI : (k : Int) < (m : Int) := by omega
      obtain ⟨x, hx⟩ : ∃ x, x = l.getD k default := ⟨_, rfl⟩
      obtain ⟨ba, oa, c, rfl, hbB, hcl, hR, hC⟩ := (HL.out.next (curR_steady e) hbl).get HM.out hlt default
      rw [← hx] at hR
      obtain ⟨lo2, ln2, lc2, ko2, kn2, kc2, rfl⟩ := cur_form hR
      have q0 : wr.cell? ⟨ba, oa + k * 4, none⟩ = _ := hC 0 _ rfl
      have q1 := hC 1 _ rfl
      have q2 := hC 2 _ rfl
      have q3 := hC 3 _ rfl
      obtain ⟨W3, hW3⟩ : ∃ W, W = wr.alloc (.cells #[.int .i64 x.k, .slice lo2 ln2 lc2, .int .i64 x.a, .slice ko2 kn2 kc2] 25) := ⟨_, rfl⟩
      have b3 : Below wr.heap.size wr W3 := by rw [hW3]; exact below1
      have B3 := Lib.hid b3
      have HW3 := Lib.hid hW3
      have HBL := Lib.hid hbl
      have HC := Lib.hid (HH.out x _ W3 (curR_steady e _ _ _ _ _ _ hR b3 b3.size))
      have HSS : Hid (szSum (l.take (k + 1)) = szSum (l.take k) + Cur.sz x) := by show _ = _; rw [hx]; exact szSum_succ (by rw [← HM.out]; exact hlt)
      clear hR hC hx hcl hbB b3 hW3 hbl
      go_wp2_with fail
      rw [← HW3.out]
      (with_reducible refine HC.out.mono ?_)
      rintro e w4 ⟨z2, b, rfl, hz2, hz3, hzs, b4⟩
      have B4 := Lib.hid (HBL.out.trans ((B3.out.trans (b4.mono B3.out.size)).mono HBL.out.size))
      have HZ := Lib.hid hzs
      clear b4 hzs
      obtain ⟨zn, rfl⟩ : ∃ n : Nat, z2 = (n : Int) := ⟨z2.toNat, by omega⟩
      cases b with
      | false =>
        go_wp2
        go_ret2
        exact ⟨0, false, rfl, by omega, by omega, (fun h => by cases h), B2.out.trans (B4.out.mono B2.out.size)⟩
      | true =>
        by_cases g3 : 1500 < s + zn
        · have g3i : (1500 : Int) < (s : Int) + (zn : Int) := by omega
          go_wp2
          go_ret2
          exact ⟨0, false, rfl, by omega, by omega, (fun h => by cases h), B2.out.trans (B4.out.mono B2.out.size)⟩
        · have g3i : ¬ (1500 : Int) < (s : Int) + (zn : Int) := by omega
          go_wp2
          go_roundw
          case rel => exact ⟨k + 1, by go_num, by omega, ⟨s + zn, by go_num, by omega, by show _ = _; rw [HSS.out]; have := HS.out; have := HZ.out (by first | trivial | rfl); omega⟩, B4.out⟩
          case measure => simp [intOf]; omega
    · have HBL := Lib.hid hbl
      clear hbl
      have hkI : ¬ (k : Int) < (m : Int) := by omega
      obtain rfl : k = m := by omega
      have HE : Hid ((s : Int) = (Cur.sz (.mk xk xl xa l) : Int)) := by
        show _ = _
        rw [Cur.sz, Cur.szs_eq]
        have h1 := HS.out
        rw [List.take_of_length_le (by rw [HM.out]; exact Nat.le_refl _)] at h1
        unfold szSum at h1
        omega
      go_wp2
      go_ret2
      exact ⟨s, true, rfl, by omega, by omega, (fun _ => HE.out), B2.out.trans (HBL.out.mono B2.out.size)⟩
theorem size_cu : ∀ (r e : Nat) (z : Int) (x : Cur) (c : List Value) (w : World), z = (r : Int) → r ≤ 1000 → curR e w w.heap.size c x → Calls Try.prog 8 #[.agg c.toArray, .int .i64 z] w (SzA x w)
  | 0, e, z, x, c, w, hz, _, h => by
    obtain rfl : z = 0 := by omega
    exact size_z e x c w h
  | r + 1, 0, _, _, _, _, _, _, h => h.elim
  | r + 1, e + 1, z, x, c, w, hz, hd, h => size_of e z (by omega) (fun x c w hx => size_cu r e (z - 1) x c w (by omega) (by omega) hx) x c w h
end Go.Proofs.Ytojngbobecdpeaa
