/- SymtabCompacts, walked. -/
import Derived.Test.YtagmlpenhogoeaaSymPlays
namespace Go.Proofs.Ytagmlpenhogoeaa
open Go.RowKit Go.ChangeShapes Go.Maps Go.WideMaps cl at_

theorem movs_at {L : List tb.Sym} {n k : Nat} (hk : k < n) : (tb.movs L n n).getD k 0 = tb.mov L k := by simp [tb.movs, List.getD, hk]

set_option maxHeartbeats 6400000 in
set_option maxRecDepth 100000 in
theorem compacts_any (room : Int) (l : List Op3) (v : Value) (w : World) (hlw : ∀ x ∈ l, x.2.2.size ≤ maxLen) (h : Ops w w.heap.size v l) :
    Calls Try.prog 7 #[.int .i64 room, v] w (Said true w) := by
  have HAW : Hid (∀ W, Calls Try.prog 9 #[] W (Said true W)) := fun W => awake_any W
  have HPL := Lib.hid (plays_any room l v w hlw h)
  clear hlw h
  go_enter Try.func7, Try.ntmps7
  go_wp2_with fail
  (with_reducible refine HPL.out.mono ?_)
  intro e w1 hp
  obtain ⟨a, n, cap, c, L, D, mb, N, ok, rfl, hn, hr, ht, _, _, hb1, _, _⟩ := hp
  have HN := Lib.hid hn
  have HR := Lib.hid hr
  have hc4 : n ≤ 24000 := by have := hr.2.2.1; have := hr.2.1; omega
  have hnn : Value.slice none 0 0 = Value.slice none 0 0 := rfl
  by_cases hok : ok = true
  case neg =>
    obtain rfl : ok = false := by simpa using hok
    clear hn hr ht hok
    go_wp2_with fail
    (with_reducible refine (HAW.out _).mono ?_)
    rintro e w9 ⟨rfl, hb9⟩
    have hbf := (hb1.alloc hb1.size (.cells #[.slice a n cap, .int .i64 c] 24)).trans (hb9.mono (by rw [World.size_alloc]; have := hb1.size; omega))
    go_wp2
    go_ret
    exact ⟨rfl, hbf⟩
  subst hok
  have hlt : n ≠ 0 → ∀ b off, a = some ⟨b, off, none⟩ → b < w1.heap.size := fun h0 => Tabs.lt ht (by omega)
  have hB1 : Below w1.heap.size w1 (w1.alloc (.cells #[.slice a n cap, .int .i64 c] 24)) := (Below.refl _ _).alloc (Nat.le_refl _) _
  have HCO := Lib.hid (compact_right c L (.slice a n cap) _ hr (Cells.next ht hB1))
  have HT1 := Lib.hid (Cells.next ht hB1)
  have hb01 := hb1.trans (hB1.mono hb1.size)
  unfold CompP at HCO
  obtain ⟨L2, hL2⟩ : ∃ L2, L2 = tb.keep L L.length := ⟨_, rfl⟩
  rw [← hL2, ← hn] at HCO
  have HL2 := Lib.hid hL2
  obtain ⟨m, hm⟩ : ∃ m, m = L2.length := ⟨_, rfl⟩
  rw [← hm] at HCO
  have HM := Lib.hid hm
  have hml : m ≤ n := by rw [hm, hL2, hn]; exact tb.keep_len L _
  clear hn hr ht hL2 hm hnn hlt
  go_wp2_with fail
  (with_reducible refine HCO.out.mono ?_)
  rintro e w3 ⟨a3, c3, a4, c4, rfl, _, ht3, hm3, hb3⟩
  obtain ⟨x0, x1, _, _, hx2⟩ := two (w := w1) (w2 := w3) (t := 24) hb3
  have hB8 : Below w3.heap.size w3 (w3.alloc (.cells #[.slice a3 m c3, .int .i64 c] 24)) := (Below.refl _ _).alloc (Nat.le_refl _) _
  have HTC := Lib.hid (Cells.next ht3 hB8)
  have HRC : Hid (Calls Try.prog 20 #[.agg #[.slice a3 m c3, .int .i64 c]] (w3.alloc (.cells #[.slice a3 m c3, .int .i64 c] 24)) (Said true (w3.alloc (.cells #[.slice a3 m c3, .int .i64 c] 24)))) := by
    have h1 : tb.Right c L2 := by rw [HL2.out]; exact tb.right_keep HR.out
    have h2 := HTC.out
    exact symright_true c L2 (.slice a3 m c3) _ h1 h2
  have HMV : Hid (At w3 w3.heap.size (.slice a4 n c4) (tb.movs L n n)) := hm3
  have HT3 := Lib.hid (Cells.next HT1.out hb3)
  have hb03 := hb01.trans (hb3.mono hb01.size)
  clear ht3 hm3
  have hne : ¬ w1.heap.size = w3.heap.size := by omega
  go_wp2_with fail
  (with_reducible refine HRC.out.mono ?_)
  rintro e w4 ⟨rfl, hb4⟩
  obtain ⟨y0, y1, _, _, hy2⟩ := two (w := w3) (w2 := w4) (t := 24) hb4
  have hb38 := hB8.trans (hb4.mono hB8.size)
  have z0 := (hb38.cell (p := ⟨w1.heap.size, 0, none⟩) hx2).trans x0
  have z1 := (hb38.cell (p := ⟨w1.heap.size, 1, none⟩) hx2).trans x1
  have HT4 := Lib.hid (Cells.next HT3.out hb38)
  have HTC4 := Lib.hid (Cells.next HTC.out hb4)
  have HMV4 := Lib.hid ((HMV.out.below hb38).mono hb38.size)
  have hb04 := hb03.trans (hb38.mono hb03.size)
  clear x0 x1 hne
  go_wp2
  go_loopw [10, 49] (fun u10 u wr => ∃ k : Nat, u = .int .i64 k ∧ k ≤ n ∧ u10 = .int .i64 (tb.keep L k).length ∧ Below w4.heap.size w4 wr) (fun _ u _ => n - (intOf u).toNat)
  case atStart => exact ⟨0, rfl, by omega, rfl, Below.refl _ _⟩
  case round =>
    obtain ⟨k, rfl, hk, rfl, hbl⟩ := hrel
    have k0 := (hbl.cell (p := ⟨w3.heap.size, 0, none⟩) hy2).trans y0
    have hkl := tb.keep_len L k
    have hz := hbl.size
    by_cases hlt : k < n
    · have hkI : (k : Int) < (n : Int) := by omega
      obtain ⟨b, off, rfl, hB, p0, p1⟩ := Tabs.get HT4.out HN.out hlt
      have e0 := (hbl.cell (p := ⟨b, off + k * 2, none⟩) hB).trans p0
      have e1 := (hbl.cell (p := ⟨b, off + k * 2 + 1, none⟩) hB).trans p1
      have HKP : Hid (tb.keep L (k + 1) = if (tb.at_ L k).2 = 0 then tb.keep L k else tb.keep L k ++ [tb.at_ L k]) := rfl
      have HMK : Hid (tb.mov L k = if (tb.at_ L k).2 = 0 then -1 else ((tb.keep L k).length : Int)) := rfl
      have HKT : Hid (¬ (tb.at_ L k).2 = 0 → (tb.keep L k).length < m ∧ tb.at_ L2 (tb.keep L k).length = tb.at_ L k) := fun h0 => by
        rw [HM.out, HL2.out]; exact tb.keep_to L (by rw [← HN.out]; exact hlt) h0
      obtain ⟨ao', cp', hv, hv1, hv2, hcm⟩ := HMV4.out
      simp only [Value.slice.injEq] at hv
      obtain ⟨rfl, hv3, rfl⟩ := hv
      obtain ⟨bm, om, rfl, hBm, hcell⟩ := hcm (by omega)
      have g00 := hcell k (by omega)
      rw [movs_at hlt] at g00
      have hbm : ¬ bm = wr.heap.size := by omega
      have hw3 : ¬ w3.heap.size = wr.heap.size := by omega
      obtain ⟨mv, hmv⟩ : ∃ z, z = tb.mov L k := ⟨_, rfl⟩
      rw [← hmv] at g00 HMK
      obtain ⟨⟨x, r⟩, hx⟩ : ∃ x, x = tb.at_ L k := ⟨_, rfl⟩
      rw [← hx] at e0 e1 HKP HMK HKT
      simp only at e0 e1 HKP HMK HKT
      obtain ⟨kl, hkl2⟩ : ∃ z, z = (tb.keep L k).length := ⟨_, rfl⟩
      have HKL := Lib.hid hkl2
      rw [← hkl2] at HMK HKT hkl ⊢
      have hbx := hbl.alloc hz (.cells #[.string x, .int .i64 r] 51)
      have g0 := (hbx.cell (p := ⟨bm, om + k, none⟩) hBm).trans g00
      have k1 := (hbx.cell (p := ⟨w3.heap.size, 0, none⟩) hy2).trans y0
      clear g00
      clear p0 p1 hx hmv hcell hcm hv1 hv2 hv3 hkl2
      by_cases hr : r = 0
      · subst hr
        obtain rfl : mv = -1 := by have := HMK.out; rwa [if_pos rfl] at this
        have HK2 : Hid ((tb.keep L (k + 1)).length = kl) := by show _ = _; rw [HKP.out, if_pos rfl, ← HKL.out]
        clear HKT HMK
        go_wp2
        go_roundw
        case rel => exact ⟨k + 1, by go_num, by omega, by rw [HK2.out], hbx⟩
        case measure => simp [intOf]; omega
      · have hrb : (r == 0) = false := by simpa using hr
        obtain rfl : mv = (kl : Int) := by have := HMK.out; rwa [if_neg hr] at this
        obtain ⟨hkm, hat⟩ := HKT.out hr
        obtain ⟨b2, off2, rfl, hB2, s0, s1⟩ := Tabs.get HTC4.out HM.out hkm
        have d0 := (hbx.cell (p := ⟨b2, off2 + kl * 2, none⟩) hB2).trans s0
        have d1 := (hbx.cell (p := ⟨b2, off2 + kl * 2 + 1, none⟩) hB2).trans s1
        rw [hat] at d0 d1
        simp only at d0 d1
        have HK2 : Hid ((tb.keep L (k + 1)).length = kl + 1) := by show _ = _; rw [HKP.out, if_neg hr, List.length_append, ← HKL.out]; rfl
        have hb2 : ¬ b2 = wr.heap.size := by omega
        have hkmI : (kl : Int) < (m : Int) := by omega
        have hw1 : IntKind.i64.wrap (kl : Int) = (kl : Int) := IntWalk.i64_in _ (by omega)
        have hw2 : IntKind.i64.wrap (k : Int) = (k : Int) := IntWalk.i64_in _ (by omega)
        have hk0 : (0 : Int) ≤ (k : Int) := by omega
        have hkl0 : (0 : Int) ≤ (kl : Int) := by omega
        have hwx : wr.heap.size < (wr.alloc (.cells #[.string x, .int .i64 r] 51)).heap.size := by rw [World.size_alloc]; omega
        clear s0 s1 hat HKT HMK hr
        go_wp2
        go_quiet (fail)
        go_wp2
        go_roundw
        case rel => exact ⟨k + 1, by go_num, by omega, by rw [HK2.out]; go_num, below_drewN hbx _⟩
        case measure => simp [intOf]; omega
    · obtain rfl : k = n := by omega
      have HKM : Hid ((tb.keep L k).length = m) := by show _ = _; rw [HM.out, HL2.out, HN.out]
      obtain ⟨kl, hkl2⟩ : ∃ z, z = (tb.keep L k).length := ⟨_, rfl⟩
      rw [← hkl2] at HKM hkl ⊢
      clear hkl2
      obtain rfl := HKM.out
      have hfin := hb04.trans (hbl.mono hb04.size)
      go_wp2_with fail
      (with_reducible refine (HAW.out _).mono ?_)
      rintro e w9 ⟨rfl, hb9⟩
      have hbf := hfin.trans (hb9.mono hfin.size)
      go_wp2
      go_ret
      exact ⟨rfl, hbf⟩
end Go.Proofs.Ytagmlpenhogoeaa
