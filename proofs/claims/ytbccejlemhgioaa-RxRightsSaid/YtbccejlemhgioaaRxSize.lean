/- patterns: how big one is, as the law reckons it. -/
import Derived.Test.YtbccejlemhgioaaRxBase
namespace Go.Proofs.Ytbccejlemhgioaa
open Go Go.RowKit Go.ChangeShapes cl rx
def SzR (w : World) (e : Ending) (w' : World) : Prop := ∃ (z : Int) (b : Bool), e = .returned (.tuple #[.int .i64 z, .bool b]) ∧ 0 ≤ z ∧ z ≤ 2000 ∧ Below w.heap.size w w'
set_option maxHeartbeats 3200000 in
set_option maxRecDepth 100000 in
theorem size_z (e : Nat) (x : Pat) (c : List Value) (w : World) (h : rxR e w w.heap.size c x) : Calls Try.prog 16 #[.agg c.toArray, .int .i64 0] w (SzR w) := by
  obtain ⟨ko, kn, kc, rfl⟩ := rx_form h
  clear h
  go_enter Try.func16, Try.ntmps16
  go_wp2
  go_ret2
  exact ⟨0, false, rfl, by omega, by omega, below1⟩
set_option maxHeartbeats 6400000 in
set_option maxRecDepth 100000 in
theorem size_of (e : Nat) (z : Int) (hz : 0 < z ∧ z ≤ 1000) (HR : ∀ (x : Pat) (c : List Value) (w : World), rxR e w w.heap.size c x → Calls Try.prog 16 #[.agg c.toArray, .int .i64 (z - 1)] w (SzR w))
    (y : Pat) (c : List Value) (w : World) (h0 : rxR (e + 1) w w.heap.size c y) : Calls Try.prog 16 #[.agg c.toArray, .int .i64 z] w (SzR w) := by
  obtain ⟨ao, m, cap, rfl, h⟩ := h0
  obtain ⟨hm, hnc, hnm⟩ : m = y.ks.length ∧ m ≤ cap ∧ m ≤ maxLen := by
    obtain ⟨_, _, e, h1, h2⟩ := h.form
    simp only [Value.slice.injEq] at e
    obtain ⟨rfl, rfl, rfl⟩ := e
    exact ⟨rfl, h1, h2⟩
  unfold maxLen at hnm
  obtain ⟨l, hl⟩ : ∃ l, l = y.ks := ⟨_, rfl⟩
  rw [← hl] at h hm
  obtain ⟨W2, hW2⟩ : ∃ W, W = w.alloc (.cells #[.int .i64 y.k, .int .u64 y.cl.a, .int .u64 y.cl.b, .int .u64 y.cl.c, .int .u64 y.cl.d, .slice ao m cap, .int .i64 y.mn, .int .i64 y.mx] 28) := ⟨_, rfl⟩
  have b2 : Below w.heap.size w W2 := by rw [hW2]; exact below1
  have x2 : W2.heap[w.heap.size]? = some (.cells #[.int .i64 y.k, .int .u64 y.cl.a, .int .u64 y.cl.b, .int .u64 y.cl.c, .int .u64 y.cl.d, .slice ao m cap, .int .i64 y.mn, .int .i64 y.mx] 28) := by rw [hW2]; exact heap_alloc_new _ _
  have c5 := boxc x2 5 _ rfl
  rw [hW2] at c5
  have hzw : IntKind.i64.wrap (z - 1) = z - 1 := IntWalk.i64_in _ (by omega)
  have z0 : ¬ z = 0 := by omega
  have z1 : (z == 0) = false := by simp [z0]
  have B2 := Lib.hid b2
  have HW2 := Lib.hid hW2
  have HL := Lib.hid h
  have HM := Lib.hid hm
  have HH := Lib.hid HR
  clear h hm HR hl b2 x2 hW2
  by_cases g1 : 70 < m
  · have g1i : (70 : Int) < (m : Int) := by omega
    go_enter Try.func16, Try.ntmps16
    go_wp2
    rw [← HW2.out]
    go_ret2
    exact ⟨0, false, rfl, by omega, by omega, B2.out⟩
  have g1i : ¬ (70 : Int) < (m : Int) := by omega
  go_enter Try.func16, Try.ntmps16
  go_wp2
  clear c5
  rw [← HW2.out]
  go_loopw [6, 22, 42] (fun n i _ wr => ∃ k : Nat, i = .int .i64 k ∧ k ≤ m ∧ (∃ s : Nat, n = .int .i64 s ∧ s ≤ 2000) ∧ Below w.heap.size w wr) (fun _ i _ _ => m - (intOf i).toNat)
  case atStart => exact ⟨0, rfl, Nat.zero_le _, ⟨1, rfl, by omega⟩, B2.out⟩
  case round =>
    obtain ⟨k, rfl, hk, ⟨s, rfl, hs⟩, hbl⟩ := hrel
    have HBL := Lib.hid hbl
    by_cases hlt : k < m
    · have hkI : (k : Int) < (m : Int) := by omega
      obtain ⟨x, hx⟩ : ∃ x, x = l.getD k default := ⟨_, rfl⟩
      obtain ⟨ba, oa, c, rfl, hbB, hcl, hR, hC⟩ := (HL.out.next (rxR_steady e) hbl).get HM.out hlt default
      rw [← hx] at hR
      have HLT := Lib.hid hlt
      obtain ⟨ko, kn, kc, rfl⟩ := rx_form hR
      have z0 : wr.cell? ⟨ba, oa + k * 8, none⟩ = _ := hC 0 _ rfl
      have z1 := hC 1 _ rfl
      have z2 := hC 2 _ rfl
      have z3 := hC 3 _ rfl
      have z4 := hC 4 _ rfl
      have z5 := hC 5 _ rfl
      have z6 := hC 6 _ rfl
      have z7 := hC 7 _ rfl
      obtain ⟨W4, hW4⟩ : ∃ W, W = wr.alloc (.cells #[.int .i64 x.k, .int .u64 x.cl.a, .int .u64 x.cl.b, .int .u64 x.cl.c, .int .u64 x.cl.d, .slice ko kn kc, .int .i64 x.mn, .int .i64 x.mx] 28) := ⟨_, rfl⟩
      have b4 : Below wr.heap.size wr W4 := by rw [hW4]; exact below1
      have HRI := Lib.hid (HH.out x _ W4 (rxR_steady e _ _ _ _ _ _ hR b4 b4.size))
      have B4 := Lib.hid (hbl.trans (b4.mono hbl.size))
      have x4 : W4.heap[wr.heap.size]? = some (.cells #[.int .i64 x.k, .int .u64 x.cl.a, .int .u64 x.cl.b, .int .u64 x.cl.c, .int .u64 x.cl.d, .slice ko kn kc, .int .i64 x.mn, .int .i64 x.mx] 28) := by rw [hW4]; exact heap_alloc_new _ _
      have y0 := boxc x4 0 _ rfl
      have y1 := boxc x4 1 _ rfl
      have y2 := boxc x4 2 _ rfl
      have y3 := boxc x4 3 _ rfl
      have y4 := boxc x4 4 _ rfl
      have y5 := boxc x4 5 _ rfl
      have y6 := boxc x4 6 _ rfl
      have y7 := boxc x4 7 _ rfl
      rw [hW4] at y0 y1 y2 y3 y4 y5 y6 y7
      have HW4 := Lib.hid hW4
      clear hR hC hx hcl hbB hbl b4 x4 hW4 hlt
      go_wp2_with fail
      rw [← HW4.out]
      (with_reducible refine HRI.out.mono ?_)
      rintro e6 w6 ⟨zz, b, rfl, hz2, hz3, b6⟩
      have B6 := Lib.hid (B4.out.trans (b6.mono B4.out.size))
      obtain ⟨zn, rfl⟩ : ∃ n : Nat, zz = (n : Int) := ⟨zz.toNat, by omega⟩
      clear b6 y0 y1 y2 y3 y4 y5 y6 y7
      cases b with
      | false =>
        go_wp2
        go_ret2
        exact ⟨0, false, rfl, by omega, by omega, B6.out⟩
      | true =>
        by_cases g3 : 2000 < s + zn
        · have g3i : (2000 : Int) < (s : Int) + (zn : Int) := by omega
          go_wp2
          go_ret2
          exact ⟨0, false, rfl, by omega, by omega, B6.out⟩
        · have g3i : ¬ (2000 : Int) < (s : Int) + (zn : Int) := by omega
          go_wp2
          go_roundw
          case rel => exact ⟨k + 1, by go_num, by have := HLT.out; omega, ⟨s + zn, by go_num, by omega⟩, B6.out⟩
          case measure => simp [intOf]; have := HLT.out; omega
    · obtain rfl : k = m := by omega
      clear hbl
      have hkI : ¬ (k : Int) < (k : Int) := by omega
      go_wp2
      go_ret2
      exact ⟨s, true, rfl, by omega, by omega, HBL.out⟩
theorem size_rx : ∀ (r e : Nat) (z : Int) (x : Pat) (c : List Value) (w : World), z = (r : Int) → r ≤ 1000 → rxR e w w.heap.size c x → Calls Try.prog 16 #[.agg c.toArray, .int .i64 z] w (SzR w)
  | 0, e, z, x, c, w, hz, _, h => by
    obtain rfl : z = 0 := by omega
    exact size_z e x c w h
  | r + 1, 0, _, _, _, _, _, _, h => h.elim
  | r + 1, e + 1, z, x, c, w, hz, hd, h => size_of e z (by omega) (fun x c w hx => size_rx r e (z - 1) x c w (by omega) (by omega) hx) x c w h
end Go.Proofs.Ytbccejlemhgioaa
