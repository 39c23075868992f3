/- dot.Has: whether a context knows a dot, right or not. -/
import Derived.Test.YtdcmoeklldkccaaDotLay
import Derived.Deep.RegionWith
namespace Go.Proofs.Ytdcmoeklldkccaa
open Go Go.RowKit Go.ChangeShapes cl Go.Sort

set_option maxHeartbeats 800000 in
set_option maxRecDepth 100000 in
/-- the closure of Has: is it of this node -/
theorem has1_any (x : Dot) (a : Int) (B : Nat) (w : World) (hB : B < w.heap.size) (hc : w.cell? ⟨B, 0, none⟩ = some (.int .i64 a)) :
    Calls Try.prog 32 #[.agg #[.int .i64 x.1, .int .i64 x.2], .pointer (some ⟨B, 0, none⟩)] w (Said (decide (x.1 = a)) w) := by
  obtain ⟨p, q⟩ := x
  have hA : Below w.heap.size w (w.alloc (.cells #[.int .i64 p, .int .i64 q] 26)) := (Below.refl _ _).alloc (Nat.le_refl _) _
  have hc2 : (w.alloc (.cells #[.int .i64 p, .int .i64 q] 26)).cell? ⟨B, 0, none⟩ = some (.int .i64 a) := (hA.cell (p := ⟨B, 0, none⟩) hB).trans hc
  have hne : ¬ B = w.heap.size := by omega
  have hne2 : ¬ w.heap.size = B := by omega
  by_cases h : p = a
  · have hb : (p == a) = true := by simpa using h
    subst h
    go_enter Try.func32, Try.ntmps32
    go_wp2
    go_ret
    exact ⟨by simp, hA⟩
  · have hb : (p == a) = false := beq_eq_false_iff_ne.2 h
    go_enter Try.func32, Try.ntmps32
    go_wp2
    go_ret
    exact ⟨by simp [h], hA⟩

/-- the first place of a node, or -1 -/
def Fst (l : List Dot) (a : Int) (r : Int) : Prop := (r = -1 ∧ ∀ j, j < l.length → ¬ (l.getD j (0, 0)).1 = a) ∨ ∃ i : Nat, i < l.length ∧ r = (i : Int) ∧ (l.getD i (0, 0)).1 = a ∧ ∀ j, j < i → ¬ (l.getD j (0, 0)).1 = a
theorem fst_some {l : List Dot} {a r : Int} (h : Fst l a r) {k : Nat} (hk : k < l.length) (he : (l.getD k (0, 0)).1 = a) (hno : ∀ j, j < k → ¬ (l.getD j (0, 0)).1 = a) : r = (k : Int) := by
  rcases h with ⟨_, h⟩ | ⟨i, hi, rfl, h1, h2⟩
  · exact absurd he (h k hk)
  · rcases (by omega : i < k ∨ i = k ∨ k < i) with e | e | e
    · exact absurd h1 (hno i e)
    · rw [e]
    · exact absurd he (h2 k e)
theorem fst_none {l : List Dot} {a r : Int} (h : Fst l a r) (hno : ∀ j, j < l.length → ¬ (l.getD j (0, 0)).1 = a) : r = -1 := by
  rcases h with ⟨h, _⟩ | ⟨i, hi, _, h1, _⟩
  · exact h
  · exact absurd h1 (hno i hi)
theorem getD_at {l : List Dot} {j : Nat} (hj : j < l.length) : l.getD j (0, 0) = l[j] := by simp [List.getD, hj]
theorem fst_any (l : List Dot) (a : Int) : ∃ r, Fst l a r := by
  rcases dm.first_or l a with h | ⟨i, hi, h1, h2⟩
  · exact ⟨-1, Or.inl ⟨rfl, fun j hj => by rw [getD_at hj]; exact h j hj⟩⟩
  · exact ⟨i, Or.inr ⟨i, hi, rfl, by rw [getD_at hi]; exact h1, fun j hj => by rw [getD_at (by omega)]; exact h2 j hj⟩⟩
theorem fst_kn {l : List Dot} {a r : Int} (h : Fst l a r) : (r = -1 ∧ dm.kn l a = 0) ∨ ∃ i : Nat, i < l.length ∧ r = (i : Int) ∧ dm.kn l a = (l.getD i (0, 0)).2 := by
  rcases h with ⟨h, h1⟩ | ⟨i, hi, hr, h1, h2⟩
  · refine Or.inl ⟨h, dm.kn_none fun d hd => ?_⟩
    obtain ⟨j, hj, e⟩ := dm.mem_getD hd
    rw [← e]; exact h1 j hj
  · refine Or.inr ⟨i, hi, hr, ?_⟩
    rw [getD_at hi] at h1 ⊢
    exact dm.kn_first l i a hi h1 fun j hj => by have := h2 j hj; rw [getD_at (by omega)] at this; exact this

set_option maxHeartbeats 1600000 in
set_option maxRecDepth 100000 in
theorem idx_any (l : List Dot) (a : Int) (B : Nat) (v : Value) (r : Int) (w : World) (h : Dots w w.heap.size v l) (hB : B < w.heap.size) (hc : w.cell? ⟨B, 0, none⟩ = some (.int .i64 a)) (hr : Fst l a r) :
    Calls Try.prog 31 #[v, .func (.func 32) #[] #[.pointer (some ⟨B, 0, none⟩)]] w fun e w' => e = .returned (.int .i64 r) ∧ Below w.heap.size w w' := by
  obtain ⟨n, hn⟩ : ∃ n, n = l.length := ⟨_, rfl⟩
  have HN := Lib.hid hn
  obtain ⟨ao, cap, rfl, hn63⟩ : ∃ ao cap, v = .slice ao n cap ∧ n ≤ 9223372036854775807 := by
    obtain ⟨ao, cap, e, _, h9⟩ := h.form
    unfold maxLen at h9
    exact ⟨ao, cap, by rw [hn]; exact e, by rw [hn]; exact h9⟩
  have HC := Lib.hid h
  have HF := Lib.hid hr
  have eg : ∀ args w, (callFunc 32 args).run Try.prog w = .ok (.enter 32 args) w := enters_of Try.func32 (by kernel_rfl) rfl
  have HP : Hid (∀ (x : Dot) (W : World), Below w.heap.size w W → Calls Try.prog 32 #[.agg #[.int .i64 x.1, .int .i64 x.2], .pointer (some ⟨B, 0, none⟩)] W (Said (decide (x.1 = a)) W)) := fun x W hW =>
    has1_any x a B W (by have := hW.size; omega) ((hW.cell (p := ⟨B, 0, none⟩) hB).trans hc)
  clear h hr hn hc
  go_enter Try.func31, Try.ntmps31
  go_wp2
  go_loopw [5, 8] (fun _ i wr => ∃ k : Nat, i = .int .i64 k ∧ k ≤ n ∧ Hid (∀ j, j < k → ¬ (l.getD j (0, 0)).1 = a) ∧ Below w.heap.size w wr) (fun _ i _ => n - (intOf i).toNat)
  case atStart => exact ⟨0, rfl, Nat.zero_le _, fun j hj => absurd hj (Nat.not_lt_zero _), Below.refl _ _⟩
  case round =>
    obtain ⟨k, rfl, hk, HNO, hbl⟩ := hrel
    by_cases hlt : k < n
    · obtain ⟨b0, off, rfl, hB0, p0, p1⟩ := Dots.get HC.out HN.out hlt
      have HKL : Hid (k < l.length) := by show k < l.length; rw [← HN.out]; exact hlt
      obtain ⟨⟨p, q⟩, hx⟩ : ∃ x, x = l.getD k (0, 0) := ⟨_, rfl⟩
      rw [← hx] at p0 p1
      simp only at p0 p1
      have e0 := (hbl.cell (p := ⟨b0, off + k * 2, none⟩) hB0).trans p0
      have e1 := (hbl.cell (p := ⟨b0, off + k * 2 + 1, none⟩) hB0).trans p1
      have HXE := Lib.hid hx
      have hkI : (k : Int) < (n : Int) := by omega
      have HPC := Lib.hid (HP.out (p, q) wr hbl)
      simp only at HPC
      clear p0 p1 hx
      by_cases hpa : p = a
      · have HR : Hid (r = (k : Int)) := fst_some HF.out HKL.out (by rw [← HXE.out]; exact hpa) HNO.out
        rw [decide_eq_true hpa] at HPC
        clear hpa
        go_wp2_with fail
        (with_reducible refine HPC.out.mono ?_)
        rintro e w' ⟨rfl, hb'⟩
        have hb2 := hbl.trans (hb'.mono hbl.size)
        go_wp2
        go_ret
        rw [HR.out]; exact ⟨rfl, hb2⟩
      · have HN2 : Hid (∀ j, j < k + 1 → ¬ (l.getD j (0, 0)).1 = a) := fun j hj => by
          by_cases e : j = k
          · subst e; rw [← HXE.out]; exact hpa
          · exact HNO.out j (by omega)
        rw [decide_eq_false hpa] at HPC
        go_wp2_with fail
        (with_reducible refine HPC.out.mono ?_)
        rintro e w' ⟨rfl, hb'⟩
        have hb2 := hbl.trans (hb'.mono hbl.size)
        clear hb'
        go_wp2
        go_roundw
        case rel => exact ⟨k + 1, by go_num, by omega, HN2, hb2⟩
        case measure => simp [intOf]; omega
    · obtain rfl : k = n := by omega
      have HR : Hid (r = -1) := fst_none HF.out fun j hj => HNO.out j (by rw [HN.out]; exact hj)
      go_wp2
      go_ret
      rw [HR.out]; exact ⟨rfl, hbl⟩

namespace dm
/-- whether c knows d -/
def hasF (c : Ctx) (d : Dot) : Bool := valid d && (decide (d.2 ≤ kn c.1 d.1) || decide (d ∈ c.2))
theorem hasF_iff {c : Ctx} {d : Dot} : hasF c d = true ↔ Knows c d := by
  unfold hasF Knows
  simp
end dm

set_option maxHeartbeats 3200000 in
set_option maxRecDepth 100000 in
theorem has_any (c : dm.Ctx) (d : Dot) (v : Value) (w : World) (h : CtxAt w w.heap.size v c) : Calls Try.prog 16 #[v, .agg #[.int .i64 d.1, .int .i64 d.2]] w (Said (dm.hasF c d) w) := by
  obtain ⟨v1, v2, rfl, p1, p2⟩ := h
  obtain ⟨l, q⟩ := c
  obtain ⟨a, b⟩ := d
  simp only at p1 p2
  have HVA : Hid (∀ W, Calls Try.prog 12 #[.agg #[.int .i64 a, .int .i64 b]] W (Said (valid (a, b)) W)) := fun W => valid_any (a, b) W
  have HF1 : Hid (valid (a, b) = false → dm.hasF (l, q) (a, b) = false) := fun h => by unfold dm.hasF; rw [h]; rfl
  have HF2 : Hid (valid (a, b) = true → b ≤ dm.kn l a → dm.hasF (l, q) (a, b) = true) := fun h1 h2 => by unfold dm.hasF; simp [h1, h2]
  have HF3 : Hid (valid (a, b) = true → (a, b) ∈ q → dm.hasF (l, q) (a, b) = true) := fun h1 h2 => by unfold dm.hasF; simp [h1, h2]
  have HF4 : Hid (¬ b ≤ dm.kn l a → ¬ (a, b) ∈ q → dm.hasF (l, q) (a, b) = false) := fun h1 h2 => by unfold dm.hasF; simp [h1, h2]
  obtain ⟨R, hR⟩ : ∃ R, R = dm.hasF (l, q) (a, b) := ⟨_, rfl⟩
  rw [← hR] at HF1 HF2 HF3 HF4 ⊢
  obtain ⟨n, hn⟩ : ∃ n, n = l.length := ⟨_, rfl⟩
  have HN := Lib.hid hn
  obtain ⟨m, hm⟩ : ∃ m, m = q.length := ⟨_, rfl⟩
  have HM := Lib.hid hm
  obtain ⟨ao, cap, rfl, hn63⟩ : ∃ ao cap, v1 = .slice ao n cap ∧ n ≤ 9223372036854775807 := by
    obtain ⟨ao, cap, e, _, h9⟩ := p1.form
    unfold maxLen at h9
    exact ⟨ao, cap, by rw [hn]; exact e, by rw [hn]; exact h9⟩
  obtain ⟨bo, bcap, rfl, hm63⟩ : ∃ ao cap, v2 = .slice ao m cap ∧ m ≤ 9223372036854775807 := by
    obtain ⟨ao, cap, e, _, h9⟩ := p2.form
    unfold maxLen at h9
    exact ⟨ao, cap, by rw [hm]; exact e, by rw [hm]; exact h9⟩
  have HC := Lib.hid p1
  have HD := Lib.hid p2
  have hA1 : Below w.heap.size w (w.alloc (.cells #[.slice ao n cap, .slice bo m bcap] 24)) := (Below.refl _ _).alloc (Nat.le_refl _) _
  have hs1 : (w.alloc (.cells #[.slice ao n cap, .slice bo m bcap] 24)).heap.size = w.heap.size + 1 := World.size_alloc _ _
  have hA2 : Below (w.heap.size + 1) (w.alloc (.cells #[.slice ao n cap, .slice bo m bcap] 24)) ((w.alloc (.cells #[.slice ao n cap, .slice bo m bcap] 24)).alloc (.cells #[.int .i64 a, .int .i64 b] 26)) := (Below.refl _ _).alloc (by rw [hs1]; exact Nat.le_refl _) _
  have hs2 : ((w.alloc (.cells #[.slice ao n cap, .slice bo m bcap] 24)).alloc (.cells #[.int .i64 a, .int .i64 b] 26)).heap.size = w.heap.size + 2 := by rw [World.size_alloc, hs1]
  have HX2 : Hid (((w.alloc (.cells #[.slice ao n cap, .slice bo m bcap] 24)).alloc (.cells #[.int .i64 a, .int .i64 b] 26)).cell? ⟨w.heap.size, 0, none⟩ = some (.slice ao n cap) ∧ ((w.alloc (.cells #[.slice ao n cap, .slice bo m bcap] 24)).alloc (.cells #[.int .i64 a, .int .i64 b] 26)).cell? ⟨w.heap.size, 1, none⟩ = some (.slice bo m bcap) ∧ ((w.alloc (.cells #[.slice ao n cap, .slice bo m bcap] 24)).alloc (.cells #[.int .i64 a, .int .i64 b] 26)).cell? ⟨w.heap.size + 1, 0, none⟩ = some (.int .i64 a) ∧ ((w.alloc (.cells #[.slice ao n cap, .slice bo m bcap] 24)).alloc (.cells #[.int .i64 a, .int .i64 b] 26)).cell? ⟨w.heap.size + 1, 1, none⟩ = some (.int .i64 b)) := by
    refine ⟨(hA2.cell (p := ⟨w.heap.size, 0, none⟩) (Nat.lt_succ_self _)).trans (World.cell?_alloc_at _ _ _ _ rfl), (hA2.cell (p := ⟨w.heap.size, 1, none⟩) (Nat.lt_succ_self _)).trans (World.cell?_alloc_at _ _ _ _ rfl), ?_, ?_⟩
    · rw [← hs1]; exact World.cell?_alloc_at _ _ _ _ rfl
    · rw [← hs1]; exact World.cell?_alloc_at _ _ _ _ rfl
  have hA : Below w.heap.size w ((w.alloc (.cells #[.slice ao n cap, .slice bo m bcap] 24)).alloc (.cells #[.int .i64 a, .int .i64 b] 26)) := hA1.trans (hA2.mono (by omega))
  clear p1 p2 hR hn hm hA1 hA2 hs1
  by_cases hv : valid (a, b) = true
  · rw [hv] at HVA
    have HF2 := Lib.hid (HF2.out hv)
    have HF3 := Lib.hid (HF3.out hv)
    have hva := (dm.valid_iff (a, b)).1 hv
    simp only at hva
    have hb1 : 1 ≤ b := hva.2.2.1
    clear HF1 hv hva
    go_enter Try.func16, Try.ntmps16
    go_wp2_with fail
    generalize ((w.alloc (.cells #[.slice ao n cap, .slice bo m bcap] 24)).alloc (.cells #[.int .i64 a, .int .i64 b] 26)) = w2 at hA HX2 hs2 ⊢
    (with_reducible refine (HVA.out _).mono ?_)
    rintro e w3 ⟨rfl, g3⟩
    have hA3 := hA.trans (g3.mono hA.size)
    have hs3 : w.heap.size + 2 ≤ w3.heap.size := by have := g3.size; omega
    have x0 := (g3.cell (p := ⟨w.heap.size, 0, none⟩) (by show w.heap.size < _; omega)).trans HX2.out.1
    have x1 := (g3.cell (p := ⟨w.heap.size, 1, none⟩) (by show w.heap.size < _; omega)).trans HX2.out.2.1
    have y0 := (g3.cell (p := ⟨w.heap.size + 1, 0, none⟩) (by show w.heap.size + 1 < _; omega)).trans HX2.out.2.2.1
    have y1 := (g3.cell (p := ⟨w.heap.size + 1, 1, none⟩) (by show w.heap.size + 1 < _; omega)).trans HX2.out.2.2.2
    obtain ⟨r, hr⟩ := fst_any l a
    have HKN := Lib.hid (fst_kn hr)
    have HIX := Lib.hid (idx_any l a (w.heap.size + 1) (.slice ao n cap) r w3 (Cells.next HC.out hA3) (by omega) y0 hr)
    have HX3 := Lib.hid (And.intro x0 (And.intro x1 (And.intro y0 y1)))
    clear hr g3 hs2 HX2 hA HVA
    clear x1 y0 y1
    go_wp2_with fail
    (with_reducible refine HIX.out.mono ?_)
    rintro e w4 ⟨rfl, g4⟩
    have hA4 := hA3.trans (g4.mono hA3.size)
    have hs4 : w.heap.size + 2 ≤ w4.heap.size := by have := g4.size; omega
    have x0 := (g4.cell (p := ⟨w.heap.size, 0, none⟩) (by show w.heap.size < _; omega)).trans HX3.out.1
    have x1 := (g4.cell (p := ⟨w.heap.size, 1, none⟩) (by show w.heap.size < _; omega)).trans HX3.out.2.1
    have y0 := (g4.cell (p := ⟨w.heap.size + 1, 0, none⟩) (by show w.heap.size + 1 < _; omega)).trans HX3.out.2.2.1
    have y1 := (g4.cell (p := ⟨w.heap.size + 1, 1, none⟩) (by show w.heap.size + 1 < _; omega)).trans HX3.out.2.2.2
    clear g4 HIX HX3 hA3 hs3
    obtain ⟨ku, hku⟩ : ∃ ku, ku = dm.kn l a := ⟨_, rfl⟩
    rw [← hku] at HKN HF2 HF4
    clear hku
    rcases HKN.out with ⟨rfl, hk0⟩ | ⟨i, hi, rfl, hke⟩
    · have HKU : Hid (¬ b ≤ ku) := by show ¬ _; omega
      clear hk0 HKN
      go_wp2_with fail
      refine wp_region_plan [false, false, false, false, false, false, false, false, false, false, false, false, false] (fun w' => w'.cell? ⟨w.heap.size + 1, 1, none⟩ = some (.int .i64 b)) (by kernel_rfl) (by kernel_rfl) ?_ (fun hS0 => ?_)
      · exact y1
      try dsimp only at hS0
      refine HW.take ?_ (by rfl) (fun w hSw => ?_) ?_
      rotate_left
      · (try dsimp only at hSw); go_simp; try with_reducible rfl
      try simp only [Act.put, List.setIfInBounds_toArray, List.set_cons_zero, List.set_cons_succ]
      refine HW.take ?_ (by rfl) (fun w hSw => ?_) ?_
      rotate_left
      · (try dsimp only at hSw); go_simp; try with_reducible rfl
      try simp only [Act.put, List.setIfInBounds_toArray, List.set_cons_zero, List.set_cons_succ]
      refine HW.take ?_ (by rfl) (fun w hSw => ?_) ?_
      rotate_left
      · (try dsimp only at hSw); go_simp; try with_reducible rfl
      try simp only [Act.put, List.setIfInBounds_toArray, List.set_cons_zero, List.set_cons_succ]
      refine HW.skip (by rfl) ?_
      try simp only [Act.put, List.setIfInBounds_toArray, List.set_cons_zero, List.set_cons_succ]
      refine HW.skip (by rfl) ?_
      try simp only [Act.put, List.setIfInBounds_toArray, List.set_cons_zero, List.set_cons_succ]
      refine HW.skip (by rfl) ?_
      try simp only [Act.put, List.setIfInBounds_toArray, List.set_cons_zero, List.set_cons_succ]
      refine HW.skip (by rfl) ?_
      try simp only [Act.put, List.setIfInBounds_toArray, List.set_cons_zero, List.set_cons_succ]
      refine HW.skip (by rfl) ?_
      try simp only [Act.put, List.setIfInBounds_toArray, List.set_cons_zero, List.set_cons_succ]
      refine HW.skip (by rfl) ?_
      try simp only [Act.put, List.setIfInBounds_toArray, List.set_cons_zero, List.set_cons_succ]
      refine HW.skip (by rfl) ?_
      try simp only [Act.put, List.setIfInBounds_toArray, List.set_cons_zero, List.set_cons_succ]
      refine HW.skip (by rfl) ?_
      try simp only [Act.put, List.setIfInBounds_toArray, List.set_cons_zero, List.set_cons_succ]
      refine HW.skip (by rfl) ?_
      try simp only [Act.put, List.setIfInBounds_toArray, List.set_cons_zero, List.set_cons_succ]
      refine HW.take ?_ (by rfl) (fun w hSw => ?_) ?_
      rotate_left
      · (try dsimp only at hSw); go_simp; try with_reducible rfl
      try simp only [Act.put, List.setIfInBounds_toArray, List.set_cons_zero, List.set_cons_succ]
      refine HW.done ?_
      have hA4 : Below w.heap.size w w4.drew := below_drewN hA4 1
      have hs4 : w.heap.size + 2 ≤ w4.drew.heap.size := hs4
      have x0 : w4.drew.cell? ⟨w.heap.size, 0, none⟩ = some (.slice ao n cap) := x0
      have x1 : w4.drew.cell? ⟨w.heap.size, 1, none⟩ = some (.slice bo m bcap) := x1
      have y0 : w4.drew.cell? ⟨w.heap.size + 1, 0, none⟩ = some (.int .i64 a) := y0
      have y1 : w4.drew.cell? ⟨w.heap.size + 1, 1, none⟩ = some (.int .i64 b) := y1
      generalize w4.drew = w4 at hA4 hs4 x0 x1 y0 y1 ⊢
      have HY := Lib.hid (And.intro y0 y1)
      clear x0 y0 y1
      go_wp2
      go_loopw [7, 31] (fun _ i wr => ∃ k : Nat, i = .int .i64 k ∧ k ≤ m ∧ Hid (∀ j, j < k → ¬ q.getD j (0, 0) = (a, b)) ∧ Below w4.heap.size w4 wr) (fun _ i _ => m - (intOf i).toNat)
      case atStart => exact ⟨0, rfl, Nat.zero_le _, fun j hj => absurd hj (Nat.not_lt_zero _), by first | exact Below.refl _ _ | exact below_drewN (Below.refl _ _) 1⟩
      case round =>
        obtain ⟨k, rfl, hk, HNO, hbl⟩ := hrel
        have hbw := hA4.trans (hbl.mono hA4.size)
        have y0 := (hbl.cell (p := ⟨w.heap.size + 1, 0, none⟩) (by show w.heap.size + 1 < _; omega)).trans HY.out.1
        have y1 := (hbl.cell (p := ⟨w.heap.size + 1, 1, none⟩) (by show w.heap.size + 1 < _; omega)).trans HY.out.2
        have hz := hbl.size
        by_cases hlt : k < m
        · obtain ⟨b1, off1, rfl, hB1, p0, p1⟩ := Dots.get HD.out HM.out hlt
          have HKL : Hid (k < q.length) := by show k < q.length; rw [← HM.out]; exact hlt
          obtain ⟨⟨p, t⟩, hx⟩ : ∃ x, x = q.getD k (0, 0) := ⟨_, rfl⟩
          rw [← hx] at p0 p1
          simp only at p0 p1
          have e0 := (hbw.cell (p := ⟨b1, off1 + k * 2, none⟩) hB1).trans p0
          have e1 := (hbw.cell (p := ⟨b1, off1 + k * 2 + 1, none⟩) hB1).trans p1
          have HXE := Lib.hid hx
          have hkI : (k : Int) < (m : Int) := by omega
          have hAL : Below wr.heap.size wr (wr.alloc (.cells #[.int .i64 p, .int .i64 t] 26)) := (Below.refl _ _).alloc (Nat.le_refl _) _
          have y0' := (hAL.cell (p := ⟨w.heap.size + 1, 0, none⟩) (by show w.heap.size + 1 < _; omega)).trans y0
          have y1' := (hAL.cell (p := ⟨w.heap.size + 1, 1, none⟩) (by show w.heap.size + 1 < _; omega)).trans y1
          have hbl2 := hbl.trans (hAL.mono hbl.size)
          have hbw2 := hbw.trans (hAL.mono hbw.size)
          clear p0 p1 hx y0 y1
          by_cases hp : p = a
          · by_cases ht : t = b
            · subst hp
              subst ht
              have HRT := Lib.hid (HF3.out (by rw [HXE.out]; exact dm.getD_mem HKL.out))
              go_wp2
              go_ret
              rw [HRT.out]; exact ⟨rfl, hbw2⟩
            · subst hp
              have HN2 : Hid (∀ j, j < k + 1 → ¬ q.getD j (0, 0) = (p, b)) := fun j hj => by
                by_cases e : j = k
                · subst e; rw [← HXE.out]; exact fun e => ht (Prod.ext_iff.1 e).2
                · exact HNO.out j (by omega)
              have h1 : (t == b) = false := beq_eq_false_iff_ne.2 ht
              go_wp2
              go_roundw
              case rel => exact ⟨k + 1, by go_num, by omega, HN2, hbl2⟩
              case measure => simp [intOf]; omega
          · have HN2 : Hid (∀ j, j < k + 1 → ¬ q.getD j (0, 0) = (a, b)) := fun j hj => by
              by_cases e : j = k
              · subst e; rw [← HXE.out]; exact fun e => hp (Prod.ext_iff.1 e).1
              · exact HNO.out j (by omega)
            have h1 : (p == a) = false := beq_eq_false_iff_ne.2 hp
            go_wp2
            go_roundw
            case rel => exact ⟨k + 1, by go_num, by omega, HN2, hbl2⟩
            case measure => simp [intOf]; omega
        · obtain rfl : k = m := by omega
          have HRF := Lib.hid (HF4.out HKU.out (fun hm => by
            obtain ⟨j, hj, e⟩ := dm.mem_getD hm
            exact HNO.out j (by rw [HM.out]; exact hj) e))
          go_wp2
          go_ret
          rw [HRF.out]; exact ⟨rfl, hbw⟩
    · have hin : i < n := by rw [HN.out]; exact hi
      obtain ⟨b0, off, rfl, hB0, r0, r1⟩ := Dots.get HC.out HN.out hin
      rw [← hke] at r1
      have e1 := (hA4.cell (p := ⟨b0, off + i * 2 + 1, none⟩) hB0).trans r1
      have hi1 : (0 : Int) ≤ (i : Int) := by omega
      have hi2 : (i : Int) < (n : Int) := by omega
      have hg1 : decide ((0 : Int) ≤ (i : Int)) = true := decide_eq_true hi1
      obtain ⟨u, hu⟩ : ∃ u, u = ku := ⟨_, rfl⟩
      rw [← hu] at e1 HF2 HF4
      clear HKN hke r0 r1 hu hi
      by_cases hub : b ≤ u
      · have HRT := Lib.hid (HF2.out hub)
        have hd1 : decide (b ≤ u) = true := decide_eq_true hub
        go_wp2_with fail
        refine wp_region_plan [false, false, false, false, false, false, false, false, false, false, false, false, false] (fun w' => w'.cell? ⟨w.heap.size, 0, none⟩ = some (.slice (some ⟨b0, off, none⟩) n cap) ∧ w'.cell? ⟨w.heap.size + 1, 1, none⟩ = some (.int .i64 b) ∧ w'.cell? ⟨b0, off + i * 2 + 1, none⟩ = some (.int .i64 u)) (by kernel_rfl) (by kernel_rfl) ?_ (fun hS0 => ?_)
        · exact ⟨x0, y1, e1⟩
        try dsimp only at hS0
        refine HW.take ?_ (by rfl) (fun w hSw => ?_) ?_
        rotate_left
        · (try dsimp only at hSw); go_simp; try with_reducible rfl
        try simp only [Act.put, List.setIfInBounds_toArray, List.set_cons_zero, List.set_cons_succ]
        refine HW.take ?_ (by rfl) (fun w hSw => ?_) ?_
        rotate_left
        · (try dsimp only at hSw); go_simp; try with_reducible rfl
        try simp only [Act.put, List.setIfInBounds_toArray, List.set_cons_zero, List.set_cons_succ]
        refine HW.take ?_ (by rfl) (fun w hSw => ?_) ?_
        rotate_left
        · (try dsimp only at hSw); go_simp; try with_reducible rfl
        try simp only [Act.put, List.setIfInBounds_toArray, List.set_cons_zero, List.set_cons_succ]
        refine HW.take ?_ (by rfl) (fun w hSw => ?_) ?_
        rotate_left
        · (try dsimp only at hSw); go_simp; try with_reducible rfl
        try simp only [Act.put, List.setIfInBounds_toArray, List.set_cons_zero, List.set_cons_succ]
        refine HW.take ?_ (by rfl) (fun w hSw => ?_) ?_
        rotate_left
        · (try dsimp only at hSw); go_simp; try with_reducible rfl
        try simp only [Act.put, List.setIfInBounds_toArray, List.set_cons_zero, List.set_cons_succ]
        refine HW.take ?_ (by rfl) (fun w hSw => ?_) ?_
        rotate_left
        · (try dsimp only at hSw); go_simp; try with_reducible rfl
        try simp only [Act.put, List.setIfInBounds_toArray, List.set_cons_zero, List.set_cons_succ]
        refine HW.take ?_ (by rfl) (fun w hSw => ?_) ?_
        rotate_left
        · (try dsimp only at hSw); go_simp; try with_reducible rfl
        try simp only [Act.put, List.setIfInBounds_toArray, List.set_cons_zero, List.set_cons_succ]
        refine HW.take ?_ (by rfl) (fun w hSw => ?_) ?_
        rotate_left
        · (try dsimp only at hSw); go_simp; try with_reducible rfl
        try simp only [Act.put, List.setIfInBounds_toArray, List.set_cons_zero, List.set_cons_succ]
        refine HW.take ?_ (by rfl) (fun w hSw => ?_) ?_
        rotate_left
        · (try dsimp only at hSw); go_simp; try with_reducible rfl
        try simp only [Act.put, List.setIfInBounds_toArray, List.set_cons_zero, List.set_cons_succ]
        refine HW.take ?_ (by rfl) (fun w hSw => ?_) ?_
        rotate_left
        · (try dsimp only at hSw); go_simp; try with_reducible rfl
        try simp only [Act.put, List.setIfInBounds_toArray, List.set_cons_zero, List.set_cons_succ]
        refine HW.take ?_ (by rfl) (fun w hSw => ?_) ?_
        rotate_left
        · (try dsimp only at hSw); go_simp; try with_reducible rfl
        try simp only [Act.put, List.setIfInBounds_toArray, List.set_cons_zero, List.set_cons_succ]
        refine HW.take ?_ (by rfl) (fun w hSw => ?_) ?_
        rotate_left
        · (try dsimp only at hSw); go_simp; try with_reducible rfl
        try simp only [Act.put, List.setIfInBounds_toArray, List.set_cons_zero, List.set_cons_succ]
        refine HW.take ?_ (by rfl) (fun w hSw => ?_) ?_
        rotate_left
        · (try dsimp only at hSw); go_simp; try with_reducible rfl
        try simp only [Act.put, List.setIfInBounds_toArray, List.set_cons_zero, List.set_cons_succ]
        refine HW.done ?_
        have hA4 : Below w.heap.size w w4.drew := below_drewN hA4 1
        have hs4 : w.heap.size + 2 ≤ w4.drew.heap.size := hs4
        have x0 : w4.drew.cell? ⟨w.heap.size, 0, none⟩ = some (.slice (some ⟨b0, off, none⟩) n cap) := x0
        have x1 : w4.drew.cell? ⟨w.heap.size, 1, none⟩ = some (.slice bo m bcap) := x1
        have y0 : w4.drew.cell? ⟨w.heap.size + 1, 0, none⟩ = some (.int .i64 a) := y0
        have y1 : w4.drew.cell? ⟨w.heap.size + 1, 1, none⟩ = some (.int .i64 b) := y1
        generalize w4.drew = w4 at hA4 hs4 x0 x1 y0 y1 ⊢
        go_wp2
        go_ret
        rw [HRT.out]; exact ⟨rfl, hA4⟩
      · have HKU : Hid (¬ b ≤ u) := hub
        have hd1 : decide (b ≤ u) = false := decide_eq_false hub
        go_wp2_with fail
        refine wp_region_plan [false, false, false, false, false, false, false, false, false, false, false, false, false] (fun w' => w'.cell? ⟨w.heap.size, 0, none⟩ = some (.slice (some ⟨b0, off, none⟩) n cap) ∧ w'.cell? ⟨w.heap.size + 1, 1, none⟩ = some (.int .i64 b) ∧ w'.cell? ⟨b0, off + i * 2 + 1, none⟩ = some (.int .i64 u)) (by kernel_rfl) (by kernel_rfl) ?_ (fun hS0 => ?_)
        · exact ⟨x0, y1, e1⟩
        try dsimp only at hS0
        refine HW.take ?_ (by rfl) (fun w hSw => ?_) ?_
        rotate_left
        · (try dsimp only at hSw); go_simp; try with_reducible rfl
        try simp only [Act.put, List.setIfInBounds_toArray, List.set_cons_zero, List.set_cons_succ]
        refine HW.take ?_ (by rfl) (fun w hSw => ?_) ?_
        rotate_left
        · (try dsimp only at hSw); go_simp; try with_reducible rfl
        try simp only [Act.put, List.setIfInBounds_toArray, List.set_cons_zero, List.set_cons_succ]
        refine HW.take ?_ (by rfl) (fun w hSw => ?_) ?_
        rotate_left
        · (try dsimp only at hSw); go_simp; try with_reducible rfl
        try simp only [Act.put, List.setIfInBounds_toArray, List.set_cons_zero, List.set_cons_succ]
        refine HW.take ?_ (by rfl) (fun w hSw => ?_) ?_
        rotate_left
        · (try dsimp only at hSw); go_simp; try with_reducible rfl
        try simp only [Act.put, List.setIfInBounds_toArray, List.set_cons_zero, List.set_cons_succ]
        refine HW.take ?_ (by rfl) (fun w hSw => ?_) ?_
        rotate_left
        · (try dsimp only at hSw); go_simp; try with_reducible rfl
        try simp only [Act.put, List.setIfInBounds_toArray, List.set_cons_zero, List.set_cons_succ]
        refine HW.take ?_ (by rfl) (fun w hSw => ?_) ?_
        rotate_left
        · (try dsimp only at hSw); go_simp; try with_reducible rfl
        try simp only [Act.put, List.setIfInBounds_toArray, List.set_cons_zero, List.set_cons_succ]
        refine HW.take ?_ (by rfl) (fun w hSw => ?_) ?_
        rotate_left
        · (try dsimp only at hSw); go_simp; try with_reducible rfl
        try simp only [Act.put, List.setIfInBounds_toArray, List.set_cons_zero, List.set_cons_succ]
        refine HW.take ?_ (by rfl) (fun w hSw => ?_) ?_
        rotate_left
        · (try dsimp only at hSw); go_simp; try with_reducible rfl
        try simp only [Act.put, List.setIfInBounds_toArray, List.set_cons_zero, List.set_cons_succ]
        refine HW.take ?_ (by rfl) (fun w hSw => ?_) ?_
        rotate_left
        · (try dsimp only at hSw); go_simp; try with_reducible rfl
        try simp only [Act.put, List.setIfInBounds_toArray, List.set_cons_zero, List.set_cons_succ]
        refine HW.take ?_ (by rfl) (fun w hSw => ?_) ?_
        rotate_left
        · (try dsimp only at hSw); go_simp; try with_reducible rfl
        try simp only [Act.put, List.setIfInBounds_toArray, List.set_cons_zero, List.set_cons_succ]
        refine HW.take ?_ (by rfl) (fun w hSw => ?_) ?_
        rotate_left
        · (try dsimp only at hSw); go_simp; try with_reducible rfl
        try simp only [Act.put, List.setIfInBounds_toArray, List.set_cons_zero, List.set_cons_succ]
        refine HW.take ?_ (by rfl) (fun w hSw => ?_) ?_
        rotate_left
        · (try dsimp only at hSw); go_simp; try with_reducible rfl
        try simp only [Act.put, List.setIfInBounds_toArray, List.set_cons_zero, List.set_cons_succ]
        refine HW.take ?_ (by rfl) (fun w hSw => ?_) ?_
        rotate_left
        · (try dsimp only at hSw); go_simp; try with_reducible rfl
        try simp only [Act.put, List.setIfInBounds_toArray, List.set_cons_zero, List.set_cons_succ]
        refine HW.done ?_
        have hA4 : Below w.heap.size w w4.drew := below_drewN hA4 1
        have hs4 : w.heap.size + 2 ≤ w4.drew.heap.size := hs4
        have x0 : w4.drew.cell? ⟨w.heap.size, 0, none⟩ = some (.slice (some ⟨b0, off, none⟩) n cap) := x0
        have x1 : w4.drew.cell? ⟨w.heap.size, 1, none⟩ = some (.slice bo m bcap) := x1
        have y0 : w4.drew.cell? ⟨w.heap.size + 1, 0, none⟩ = some (.int .i64 a) := y0
        have y1 : w4.drew.cell? ⟨w.heap.size + 1, 1, none⟩ = some (.int .i64 b) := y1
        generalize w4.drew = w4 at hA4 hs4 x0 x1 y0 y1 ⊢
        clear e1
        have HY := Lib.hid (And.intro y0 y1)
        clear x0 y0 y1
        go_wp2
        go_loopw [7, 31] (fun _ i wr => ∃ k : Nat, i = .int .i64 k ∧ k ≤ m ∧ Hid (∀ j, j < k → ¬ q.getD j (0, 0) = (a, b)) ∧ Below w4.heap.size w4 wr) (fun _ i _ => m - (intOf i).toNat)
        case atStart => exact ⟨0, rfl, Nat.zero_le _, fun j hj => absurd hj (Nat.not_lt_zero _), by first | exact Below.refl _ _ | exact below_drewN (Below.refl _ _) 1⟩
        case round =>
          obtain ⟨k, rfl, hk, HNO, hbl⟩ := hrel
          have hbw := hA4.trans (hbl.mono hA4.size)
          have y0 := (hbl.cell (p := ⟨w.heap.size + 1, 0, none⟩) (by show w.heap.size + 1 < _; omega)).trans HY.out.1
          have y1 := (hbl.cell (p := ⟨w.heap.size + 1, 1, none⟩) (by show w.heap.size + 1 < _; omega)).trans HY.out.2
          have hz := hbl.size
          by_cases hlt : k < m
          · obtain ⟨b1, off1, rfl, hB1, p0, p1⟩ := Dots.get HD.out HM.out hlt
            have HKL : Hid (k < q.length) := by show k < q.length; rw [← HM.out]; exact hlt
            obtain ⟨⟨p, t⟩, hx⟩ : ∃ x, x = q.getD k (0, 0) := ⟨_, rfl⟩
            rw [← hx] at p0 p1
            simp only at p0 p1
            have e0 := (hbw.cell (p := ⟨b1, off1 + k * 2, none⟩) hB1).trans p0
            have e1 := (hbw.cell (p := ⟨b1, off1 + k * 2 + 1, none⟩) hB1).trans p1
            have HXE := Lib.hid hx
            have hkI : (k : Int) < (m : Int) := by omega
            have hAL : Below wr.heap.size wr (wr.alloc (.cells #[.int .i64 p, .int .i64 t] 26)) := (Below.refl _ _).alloc (Nat.le_refl _) _
            have y0' := (hAL.cell (p := ⟨w.heap.size + 1, 0, none⟩) (by show w.heap.size + 1 < _; omega)).trans y0
            have y1' := (hAL.cell (p := ⟨w.heap.size + 1, 1, none⟩) (by show w.heap.size + 1 < _; omega)).trans y1
            have hbl2 := hbl.trans (hAL.mono hbl.size)
            have hbw2 := hbw.trans (hAL.mono hbw.size)
            clear p0 p1 hx y0 y1
            by_cases hp : p = a
            · by_cases ht : t = b
              · subst hp
                subst ht
                have HRT := Lib.hid (HF3.out (by rw [HXE.out]; exact dm.getD_mem HKL.out))
                go_wp2
                go_ret
                rw [HRT.out]; exact ⟨rfl, hbw2⟩
              · subst hp
                have HN2 : Hid (∀ j, j < k + 1 → ¬ q.getD j (0, 0) = (p, b)) := fun j hj => by
                  by_cases e : j = k
                  · subst e; rw [← HXE.out]; exact fun e => ht (Prod.ext_iff.1 e).2
                  · exact HNO.out j (by omega)
                have h1 : (t == b) = false := beq_eq_false_iff_ne.2 ht
                go_wp2
                go_roundw
                case rel => exact ⟨k + 1, by go_num, by omega, HN2, hbl2⟩
                case measure => simp [intOf]; omega
            · have HN2 : Hid (∀ j, j < k + 1 → ¬ q.getD j (0, 0) = (a, b)) := fun j hj => by
                by_cases e : j = k
                · subst e; rw [← HXE.out]; exact fun e => hp (Prod.ext_iff.1 e).1
                · exact HNO.out j (by omega)
              have h1 : (p == a) = false := beq_eq_false_iff_ne.2 hp
              go_wp2
              go_roundw
              case rel => exact ⟨k + 1, by go_num, by omega, HN2, hbl2⟩
              case measure => simp [intOf]; omega
          · obtain rfl : k = m := by omega
            have HRF := Lib.hid (HF4.out HKU.out (fun hm => by
              obtain ⟨j, hj, e⟩ := dm.mem_getD hm
              exact HNO.out j (by rw [HM.out]; exact hj) e))
            go_wp2
            go_ret
            rw [HRF.out]; exact ⟨rfl, hbw⟩
  · have hv2 : valid (a, b) = false := by simpa using hv
    rw [hv2] at HVA
    have HRF := Lib.hid (HF1.out hv2)
    go_enter Try.func16, Try.ntmps16
    go_wp2_with fail
    generalize ((w.alloc (.cells #[.slice ao n cap, .slice bo m bcap] 24)).alloc (.cells #[.int .i64 a, .int .i64 b] 26)) = w2 at hA HX2 hs2 ⊢
    (with_reducible refine (HVA.out _).mono ?_)
    rintro e w3 ⟨rfl, g3⟩
    have hA3 := hA.trans (g3.mono hA.size)
    go_wp2
    go_ret
    rw [HRF.out]; exact ⟨rfl, hA3⟩
end Go.Proofs.Ytdcmoeklldkccaa
