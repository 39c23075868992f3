/- symtab: Find, free, used, Text, New by their contracts; the law's same on equal tables. -/
import Derived.Test.YtagmlpenhogoeaaSymRight
import Derived.WalkMore
namespace Go.Proofs.Ytagmlpenhogoeaa
open Go.RowKit Go.ChangeShapes cl

theorem str_ne {s t : ByteArray} (h : ¬ s = t) : ¬ s.toList = t.toList := fun e => h (ByteArray.ext (Array.ext' (by rw [← ByteArray.toList_eq, ← ByteArray.toList_eq]; exact e)))
def FindP (L : List tb.Sym) (s : ByteArray) (w : World) (e : Ending) (w' : World) : Prop :=
  e = .returned (.tuple #[.int .i64 (if tb.find L s < L.length then (tb.find L s : Int) else 0), .bool (decide (tb.find L s < L.length))]) ∧ Below w.heap.size w w'

set_option maxHeartbeats 1600000 in
set_option maxRecDepth 100000 in
theorem find_any (c : Int) (L : List tb.Sym) (s : ByteArray) (vs : Value) (w : World) (h : Tabs w w.heap.size vs L) :
    Calls Try.prog 22 #[.agg #[vs, .int .i64 c], .string s] w (FindP L s w) := by
  have HY : Hid (∀ k W', k < L.length → 0 < (tb.at_ L k).2 → (tb.at_ L k).1 = s → (∀ j, j < k → ¬ (0 < (tb.at_ L j).2 ∧ (tb.at_ L j).1 = s)) → Below w.heap.size w W' → FindP L s w (.returned (.tuple #[.int .i64 (k : Int), .bool true])) W') := fun k W' h1 h2 h3 h4 hb => by
    have := tb.find_eq h1 ⟨h2, h3⟩ h4
    unfold FindP
    rw [this, if_pos h1, decide_eq_true h1]
    exact ⟨rfl, hb⟩
  have HN : Hid (∀ W', (∀ j, j < L.length → ¬ (0 < (tb.at_ L j).2 ∧ (tb.at_ L j).1 = s)) → Below w.heap.size w W' → FindP L s w (.returned (.tuple #[.int .i64 0, .bool false])) W') := fun W' h4 hb => by
    have := tb.find_none h4
    unfold FindP
    rw [this, if_neg (Nat.lt_irrefl _), decide_eq_false (Nat.lt_irrefl _)]
    exact ⟨rfl, hb⟩
  obtain ⟨q0, hq0⟩ : ∃ q, q = L.length := ⟨_, rfl⟩
  obtain ⟨ao, cap, rfl, hqm⟩ : ∃ ao cap, vs = .slice ao q0 cap ∧ q0 ≤ maxLen := by
    obtain ⟨ao, cap, e, _, hm⟩ := h.form
    exact ⟨ao, cap, by rw [hq0]; exact e, by rw [hq0]; exact hm⟩
  unfold maxLen at hqm
  have HC := Lib.hid h
  have HQ := Lib.hid hq0
  rw [← hq0] at HY HN
  have hA : Below w.heap.size w (w.alloc (.cells #[.slice ao q0 cap, .int .i64 c] 24)) := (Below.refl _ _).alloc (Nat.le_refl _) _
  clear h hq0
  go_enter Try.func22, Try.ntmps22
  go_wp2
  go_step3
  go_wp2
  go_step3
  go_wp2
  go_loopw [6, 7, 11] (fun _ _ i wr => ∃ k : Nat, i = .int .i64 k ∧ k ≤ q0 ∧ Hid (∀ j, j < k → ¬ (0 < (tb.at_ L j).2 ∧ (tb.at_ L j).1 = s)) ∧ Below w.heap.size w wr) (fun _ _ i _ => q0 - (intOf i).toNat)
  case atStart => exact ⟨0, rfl, by omega, fun j hj => absurd hj (Nat.not_lt_zero _), hA⟩
  case round =>
    obtain ⟨k, rfl, hk, HT, hbl⟩ := hrel
    have hz := hbl.size
    by_cases hlt : k < q0
    · have hkI : (k : Int) < (q0 : Int) := by omega
      obtain ⟨b, off, rfl, hB, p0, p1⟩ := Tabs.get HC.out HQ.out hlt
      have e0 := (hbl.cell (p := ⟨b, off + k * 2, none⟩) hB).trans p0
      have e1 := (hbl.cell (p := ⟨b, off + k * 2 + 1, none⟩) hB).trans p1
      have HT2 : Hid (¬ (0 < (tb.at_ L k).2 ∧ (tb.at_ L k).1 = s) → ∀ j, j < k + 1 → ¬ (0 < (tb.at_ L j).2 ∧ (tb.at_ L j).1 = s)) := fun hn j hj => by
        by_cases e : j = k
        · subst e; exact hn
        · exact HT.out j (by omega)
      have HYK := Lib.hid (HY.out k · hlt)
      obtain ⟨⟨x, r⟩, hx⟩ : ∃ x, x = tb.at_ L k := ⟨_, rfl⟩
      rw [← hx] at e0 e1 HT2
      simp only at e0 e1 HT2
      have HX := Lib.hid hx
      clear p0 p1 hx
      have hbx := hbl.alloc hz (.cells #[.string x, .int .i64 r] 51)
      by_cases hr : r ≤ 0
      · have HT3 := Lib.hid (HT2.out (fun h => by omega))
        go_wp2
        go_roundw
        case rel => exact ⟨k + 1, by go_num, by omega, HT3.out, hbx⟩
        case measure => simp [intOf]; omega
      · by_cases hxs : x = s
        · subst hxs
          have HYF : Hid (∀ W', Below w.heap.size w W' → FindP L x w (.returned (.tuple #[.int .i64 (k : Int), .bool true])) W') := fun W' hb => HYK.out W' (by rw [← HX.out]; show 0 < r; omega) (by rw [← HX.out]) HT.out hb
          go_wp2
          go_ret2
          exact HYF.out _ hbx
        · have HT3 := Lib.hid (HT2.out (fun h => hxs h.2))
          have hne := str_ne hxs
          have hneb : (x.toList == s.toList) = false := by simpa using hne
          clear hxs
          go_wp2
          go_roundw
          case rel => exact ⟨k + 1, by go_num, by omega, HT3.out, hbx⟩
          case measure => simp [intOf]; omega
    · obtain rfl : k = q0 := by omega
      go_wp2
      go_ret2
      exact HN.out _ HT.out hbl

def NatP (n : Nat) (w : World) (e : Ending) (w' : World) : Prop := e = .returned (.int .i64 (n : Int)) ∧ Below w.heap.size w w'
set_option maxHeartbeats 1600000 in
set_option maxRecDepth 100000 in
theorem free_any (c : Int) (L : List tb.Sym) (vs : Value) (w : World) (h : Tabs w w.heap.size vs L) :
    Calls Try.prog 29 #[.agg #[vs, .int .i64 c]] w (NatP (tb.free L) w) := by
  have HY : Hid (∀ k, k < L.length → (tb.at_ L k).2 = 0 → (∀ j, j < k → ¬ (tb.at_ L j).2 = 0) → tb.free L = k) := fun k h1 h2 h3 => tb.free_eq h1 h2 h3
  have HN : Hid ((∀ j, j < L.length → ¬ (tb.at_ L j).2 = 0) → tb.free L = L.length) := fun h => tb.free_none h
  obtain ⟨F, hF⟩ : ∃ F, F = tb.free L := ⟨_, rfl⟩
  rw [← hF] at HY HN ⊢
  clear hF
  obtain ⟨q0, hq0⟩ : ∃ q, q = L.length := ⟨_, rfl⟩
  obtain ⟨ao, cap, rfl, hqm⟩ : ∃ ao cap, vs = .slice ao q0 cap ∧ q0 ≤ maxLen := by
    obtain ⟨ao, cap, e, _, hm⟩ := h.form
    exact ⟨ao, cap, by rw [hq0]; exact e, by rw [hq0]; exact hm⟩
  unfold maxLen at hqm
  have HC := Lib.hid h
  have HQ := Lib.hid hq0
  rw [← hq0] at HY HN
  have hA : Below w.heap.size w (w.alloc (.cells #[.slice ao q0 cap, .int .i64 c] 24)) := (Below.refl _ _).alloc (Nat.le_refl _) _
  clear h hq0
  go_enter Try.func29, Try.ntmps29
  go_wp2
  go_loopw [3, 4, 8] (fun _ _ i wr => ∃ k : Nat, i = .int .i64 k ∧ k ≤ q0 ∧ Hid (∀ j, j < k → ¬ (tb.at_ L j).2 = 0) ∧ Below (w.heap.size + 1) (w.alloc (.cells #[.slice ao q0 cap, .int .i64 c] 24)) wr) (fun _ _ i _ => q0 - (intOf i).toNat)
  case atStart => exact ⟨0, rfl, by omega, fun j hj => absurd hj (Nat.not_lt_zero _), Below.refl _ _⟩
  case round =>
    obtain ⟨k, rfl, hk, HT, hbl⟩ := hrel
    have hb0 : Below w.heap.size w wr := hA.trans (hbl.mono (by omega))
    obtain ⟨d0, d1, _, _, hz⟩ := two (w := w) (w2 := wr) (t := 24) (by rw [World.size_alloc]; exact hbl)
    have hz1 : w.heap.size + 1 ≤ wr.heap.size := hz
    by_cases hlt : k < q0
    · have hkI : (k : Int) < (q0 : Int) := by omega
      obtain ⟨b, off, rfl, hB, p0, p1⟩ := Tabs.get HC.out HQ.out hlt
      have e0 := (hb0.cell (p := ⟨b, off + k * 2, none⟩) hB).trans p0
      have e1 := (hb0.cell (p := ⟨b, off + k * 2 + 1, none⟩) hB).trans p1
      have HT2 : Hid (¬ (tb.at_ L k).2 = 0 → ∀ j, j < k + 1 → ¬ (tb.at_ L j).2 = 0) := fun hn j hj => by
        by_cases e : j = k
        · subst e; exact hn
        · exact HT.out j (by omega)
      have HYK : Hid ((tb.at_ L k).2 = 0 → F = k) := fun h => HY.out k hlt h HT.out
      obtain ⟨⟨x, r⟩, hx⟩ : ∃ x, x = tb.at_ L k := ⟨_, rfl⟩
      rw [← hx] at e0 e1 HT2 HYK
      simp only at e0 e1 HT2 HYK
      clear p0 p1 hx
      have hbx := hbl.alloc hz1 (.cells #[.string x, .int .i64 r] 51)
      have hb0x := hb0.alloc (by omega) (.cells #[.string x, .int .i64 r] 51)
      by_cases hr : r = 0
      · obtain rfl := HYK.out hr
        subst hr
        go_wp2
        go_ret
        exact ⟨rfl, hb0x⟩
      · have HT3 := Lib.hid (HT2.out hr)
        have hrb : (r == 0) = false := by simpa using hr
        clear hr
        go_wp2
        go_roundw
        case rel => exact ⟨k + 1, by go_num, by omega, HT3.out, hbx⟩
        case measure => simp [intOf]; omega
    · obtain rfl : k = q0 := by omega
      obtain rfl := HN.out HT.out
      go_wp2
      go_ret
      exact ⟨rfl, hb0⟩

set_option maxHeartbeats 1600000 in
set_option maxRecDepth 100000 in
theorem used_any (c id : Int) (L : List tb.Sym) (vs : Value) (w : World) (h : Tabs w w.heap.size vs L) :
    Calls Try.prog 32 #[.agg #[vs, .int .i64 c], .int .i64 id] w (Said (tb.used L id) w) := by
  have HU : Hid (tb.used L id = decide (0 ≤ id ∧ id < (L.length : Int) ∧ 0 < (tb.at_ L id.toNat).2)) := rfl
  obtain ⟨F, hF⟩ : ∃ F, F = tb.used L id := ⟨_, rfl⟩
  rw [← hF] at HU ⊢
  clear hF
  obtain ⟨q0, hq0⟩ : ∃ q, q = L.length := ⟨_, rfl⟩
  obtain ⟨ao, cap, rfl, hqm⟩ : ∃ ao cap, vs = .slice ao q0 cap ∧ q0 ≤ maxLen := by
    obtain ⟨ao, cap, e, _, hm⟩ := h.form
    exact ⟨ao, cap, by rw [hq0]; exact e, by rw [hq0]; exact hm⟩
  unfold maxLen at hqm
  have HC := Lib.hid h
  have HQ := Lib.hid hq0
  rw [← hq0] at HU
  have hA : Below w.heap.size w (w.alloc (.cells #[.slice ao q0 cap, .int .i64 c] 24)) := (Below.refl _ _).alloc (Nat.le_refl _) _
  clear h hq0
  by_cases h0 : id < 0
  · have HF : Hid (F = false) := by show _ = _; rw [HU.out]; exact decide_eq_false (fun h => by omega)
    have h0b : ¬ 0 ≤ id := by omega
    go_enter Try.func32, Try.ntmps32
    go_wp2
    go_ret
    rw [HF.out]; exact ⟨rfl, hA⟩
  obtain ⟨k, rfl⟩ : ∃ k : Nat, id = (k : Int) := ⟨id.toNat, by omega⟩
  rw [Int.toNat_natCast] at HU
  by_cases hlt : k < q0
  · have hkI : (k : Int) < (q0 : Int) := by omega
    have hk0 : (0 : Int) ≤ (k : Int) := by omega
    obtain ⟨b, off, rfl, hB, p0, p1⟩ := Tabs.get HC.out HQ.out hlt
    have e0 := (hA.cell (p := ⟨b, off + k * 2, none⟩) hB).trans p0
    have e1 := (hA.cell (p := ⟨b, off + k * 2 + 1, none⟩) hB).trans p1
    obtain ⟨⟨x, r⟩, hx⟩ : ∃ x, x = tb.at_ L k := ⟨_, rfl⟩
    rw [← hx] at p0 p1 e0 e1 HU
    simp only at p0 p1 e0 e1 HU
    clear hx h0
    have hne : ¬ b = w.heap.size := by omega
    by_cases hr : 0 < r
    · have HF : Hid (F = true) := by show _ = _; rw [HU.out]; exact decide_eq_true ⟨by omega, by omega, hr⟩
      go_enter Try.func32, Try.ntmps32
      go_wp2
      go_ret
      rw [HF.out]; exact ⟨rfl, hA⟩
    · have HF : Hid (F = false) := by show _ = _; rw [HU.out]; exact decide_eq_false (fun h => hr h.2.2)
      go_enter Try.func32, Try.ntmps32
      go_wp2
      go_ret
      rw [HF.out]; exact ⟨rfl, hA⟩
  · have HF : Hid (F = false) := by show _ = _; rw [HU.out]; exact decide_eq_false (fun h => by omega)
    have hkI : ¬ (k : Int) < (q0 : Int) := by omega
    have hk0 : (0 : Int) ≤ (k : Int) := by omega
    go_enter Try.func32, Try.ntmps32
    go_wp2
    go_ret
    rw [HF.out]; exact ⟨rfl, hA⟩

def TextP (L : List tb.Sym) (id : Int) (w : World) (e : Ending) (w' : World) : Prop :=
  e = .returned (.tuple #[.string (if tb.used L id = true then (tb.at_ L id.toNat).1 else .empty), .bool (tb.used L id)]) ∧ Below w.heap.size w w'
set_option maxHeartbeats 1600000 in
set_option maxRecDepth 100000 in
theorem text_any (c id : Int) (L : List tb.Sym) (vs : Value) (w : World) (h : Tabs w w.heap.size vs L) :
    Calls Try.prog 24 #[.agg #[vs, .int .i64 c], .int .i64 id] w (TextP L id w) := by
  have hA : Below w.heap.size w (w.alloc (.cells #[vs, .int .i64 c] 24)) := (Below.refl _ _).alloc (Nat.le_refl _) _
  have HU := Lib.hid (used_any c id L vs _ (h.next hA))
  have HD : Hid (tb.used L id = true → 0 ≤ id ∧ id < (L.length : Int)) := fun hu => by
    unfold tb.used at hu
    obtain ⟨h0, h1, _⟩ := of_decide_eq_true hu
    exact ⟨h0, h1⟩
  have HP : Hid (∀ e w', (e = .returned (.tuple #[.string (if tb.used L id = true then (tb.at_ L id.toNat).1 else .empty), .bool (tb.used L id)]) ∧ Below w.heap.size w w') → TextP L id w e w') := fun _ _ h => h
  obtain ⟨F, hF⟩ : ∃ F, F = tb.used L id := ⟨_, rfl⟩
  rw [← hF] at HU HD HP
  clear hF
  obtain ⟨q0, hq0⟩ : ∃ q, q = L.length := ⟨_, rfl⟩
  obtain ⟨ao, cap, rfl, hqm⟩ : ∃ ao cap, vs = .slice ao q0 cap ∧ q0 ≤ maxLen := by
    obtain ⟨ao, cap, e, _, hm⟩ := h.form
    exact ⟨ao, cap, by rw [hq0]; exact e, by rw [hq0]; exact hm⟩
  unfold maxLen at hqm
  have HC := Lib.hid h
  have HQ := Lib.hid hq0
  rw [← hq0] at HD
  clear h hq0
  by_cases hu : F = true
  · subst hu
    obtain ⟨h0, h1⟩ := HD.out rfl
    obtain ⟨k, rfl⟩ : ∃ k : Nat, id = (k : Int) := ⟨id.toNat, by omega⟩
    have hlt : k < q0 := by omega
    obtain ⟨b, off, rfl, hB, p0, p1⟩ := Tabs.get HC.out HQ.out hlt
    obtain ⟨⟨x, r⟩, hx⟩ : ∃ x, x = tb.at_ L k := ⟨_, rfl⟩
    have HP2 : Hid (∀ w', Below w.heap.size w w' → TextP L (k : Int) w (.returned (.tuple #[.string x, .bool true])) w') := fun w' hb => HP.out _ _ ⟨by rw [if_pos rfl, Int.toNat_natCast, ← hx], hb⟩
    rw [← hx] at p0 p1
    simp only at p0 p1
    clear hx HP
    go_enter Try.func24, Try.ntmps24
    go_wp2_with fail
    (with_reducible refine HU.out.mono ?_)
    rintro e w1 ⟨rfl, hb1⟩
    obtain ⟨d0, d1, _, _, _⟩ := two (w := w) (w2 := w1) (t := 24) hb1
    have hb := hA.trans (hb1.mono hA.size)
    have e0 := (hb.cell (p := ⟨b, off + k * 2, none⟩) hB).trans p0
    have e1 := (hb.cell (p := ⟨b, off + k * 2 + 1, none⟩) hB).trans p1
    clear p0 p1
    go_wp2
    go_ret2
    exact HP2.out _ hb
  · obtain rfl : F = false := by simpa using hu
    have HP2 : Hid (∀ w', Below w.heap.size w w' → TextP L id w (.returned (.tuple #[.string ⟨#[]⟩, .bool false])) w') := fun w' hb => HP.out _ _ ⟨rfl, hb⟩
    clear HP hu
    go_enter Try.func24, Try.ntmps24
    go_wp2_with fail
    (with_reducible refine HU.out.mono ?_)
    rintro e w1 ⟨rfl, hb1⟩
    have hb := hA.trans (hb1.mono hA.size)
    go_wp2
    go_ret2
    exact HP2.out _ hb

set_option maxHeartbeats 400000 in
theorem new_20 (w : World) : Calls Try.prog 26 #[.int .i64 20] w fun e w' => e = .returned (.agg #[.slice none 0 0, .int .i64 20]) ∧ Below w.heap.size w w' := by
  go_enter Try.func26, Try.ntmps26
  go_wp2
  exact bodyPost_ret (v := .agg #[.slice none 0 0, .int .i64 20]) (by simp [results, Try.results26, go_sem]) rfl ⟨rfl, ((Below.refl _ _).alloc (Nat.le_refl _) _)⟩
end Go.Proofs.Ytagmlpenhogoeaa
