/- texts put together: SymFind, SymPut. -/
import Derived.Test.YtegjpiggjcfoaaaPd02
import Derived.Lib.SmallJoins
import Derived.OwnWalk
import Derived.WalkMore
namespace Go.Proofs.Ytegjpiggjcfoaaa
open Go.RowKit Go.ChangeShapes cl
theorem str_neT {s t : ByteArray} (h : ¬ s = t) : ¬ s.toList = t.toList := fun e => h (ByteArray.ext (Array.ext' (by rw [← ByteArray.toList_eq, ← ByteArray.toList_eq]; exact e)))
def FindP (L : List tb.Sym) (s : ByteArray) (w : World) (e : Ending) (w' : World) : Prop :=
 e = .returned (.tuple #[.int .i64 (if tb.find L s < L.length then (tb.find L s : Int) else 0), .bool (decide (tb.find L s < L.length))]) ∧ Below w.heap.size w w'
set_option maxHeartbeats 1600000 in
set_option maxRecDepth 100000 in
theorem find_any (c : Int) (L : List tb.Sym) (s : ByteArray) (vs : Value) (w : World) (h : Tabs w w.heap.size vs L) :
  Calls Try.prog 37 #[.agg #[vs, .int .i64 c], .string s] w (FindP L s w) := by
 have HY : Hid (∀ k W', k < L.length → 0 < (tb.at_ L k).2 → (tb.at_ L k).1 = s → (∀ j, j < k → ¬ (0 < (tb.at_ L j).2 ∧ (tb.at_ L j).1 = s)) → Below w.heap.size w W' → FindP L s w (.returned (.tuple #[.int .i64 (k : Int), .bool true])) W') := fun k W' h1 h2 h3 h4 hb => by
  have := tb.find_eq h1 ⟨h2, h3⟩ h4
  unfold FindP
  rw [this, if_pos h1, decide_eq_true h1]
  exact ⟨rfl, hb⟩
 have HN : Hid (∀ W', (∀ j, j < L.length → ¬ (0 < (tb.at_ L j).2 ∧ (tb.at_ L j).1 = s)) → Below w.heap.size w W' → FindP L s w (.returned (.tuple #[.int .i64 0, .bool false])) W') := fun W' h4 hb => by
  have := tb.find_none h4
  unfold FindP
  rw [this, if_neg (Nat.lt_irrefl _), decide_eq_false (Nat.lt_irrefl _)]
  exact ⟨rfl, hb⟩
 obtain ⟨q0, hq0⟩ : ∃ q, q = L.length := ⟨_, rfl⟩
 obtain ⟨ao, cap, rfl, hqm⟩ : ∃ ao cap, vs = .slice ao q0 cap ∧ q0 ≤ maxLen := by
  obtain ⟨ao, cap, e, _, hm⟩ := h.form
  exact ⟨ao, cap, by rw [hq0]; exact e, by rw [hq0]; exact hm⟩
 unfold maxLen at hqm
 have HC := Lib.hid h
 have HQ := Lib.hid hq0
 rw [← hq0] at HY HN
 have hA : Below w.heap.size w (w.alloc (.cells #[.slice ao q0 cap, .int .i64 c] 25)) := (Below.refl _ _).alloc (Nat.le_refl _) _
 clear h hq0
 go_enter Try.func37, Try.ntmps37
 go_wp2
 go_step3
 go_wp2
 go_step3
 go_wp2
 go_loopw [6, 7, 11] (fun _ _ i wr => ∃ k : Nat, i = .int .i64 k ∧ k ≤ q0 ∧ Hid (∀ j, j < k → ¬ (0 < (tb.at_ L j).2 ∧ (tb.at_ L j).1 = s)) ∧ Below w.heap.size w wr) (fun _ _ i _ => q0 - (intOf i).toNat)
 case atStart => exact ⟨0, rfl, by omega, fun j hj => absurd hj (Nat.not_lt_zero _), hA⟩
 case round =>
  obtain ⟨k, rfl, hk, HT, hbl⟩ := hrel
  have hz := hbl.size
  by_cases hlt : k < q0
  ·
   have hkI : (k : Int) < (q0 : Int) := by omega
   obtain ⟨b, off, rfl, hB, p0, p1⟩ := Tabs.get HC.out HQ.out hlt
   have e0 := (hbl.cell (p := ⟨b, off + k * 2, none⟩) hB).trans p0
   have e1 := (hbl.cell (p := ⟨b, off + k * 2 + 1, none⟩) hB).trans p1
   have HT2 : Hid (¬ (0 < (tb.at_ L k).2 ∧ (tb.at_ L k).1 = s) → ∀ j, j < k + 1 → ¬ (0 < (tb.at_ L j).2 ∧ (tb.at_ L j).1 = s)) := fun hn j hj => by
    by_cases e : j = k
    ·
     subst e; exact hn
    ·
     exact HT.out j (by omega)
   have HYK := Lib.hid (HY.out k · hlt)
   obtain ⟨⟨x, r⟩, hx⟩ : ∃ x, x = tb.at_ L k := ⟨_, rfl⟩
   rw [← hx] at e0 e1 HT2
   simp only at e0 e1 HT2
   have HX := Lib.hid hx
   clear p0 p1 hx
   have hbx := hbl.alloc hz (.cells #[.string x, .int .i64 r] 52)
   by_cases hr : r ≤ 0
   ·
    have HT3 := Lib.hid (HT2.out (fun h => by omega))
    go_wp2
    go_roundw
    case rel => exact ⟨k + 1, by go_num, by omega, HT3.out, hbx⟩
    case measure => simp [intOf]; omega
   ·
    by_cases hxs : x = s
    ·
     subst hxs
     have HYF : Hid (∀ W', Below w.heap.size w W' → FindP L x w (.returned (.tuple #[.int .i64 (k : Int), .bool true])) W') := fun W' hb => HYK.out W' (by rw [← HX.out]; show 0 < r; omega) (by rw [← HX.out]) HT.out hb
     go_wp2
     go_ret2
     exact HYF.out _ hbx
    ·
     have HT3 := Lib.hid (HT2.out (fun h => hxs h.2))
     have hne := str_neT hxs
     have hneb : (x.toList == s.toList) = false := by simpa using hne
     clear hxs
     go_wp2
     go_roundw
     case rel => exact ⟨k + 1, by go_num, by omega, HT3.out, hbx⟩
     case measure => simp [intOf]; omega
  ·
   obtain rfl : k = q0 := by omega
   go_wp2
   go_ret2
   exact HN.out _ HT.out hbl
def NatP (n : Nat) (w : World) (e : Ending) (w' : World) : Prop := e = .returned (.int .i64 (n : Int)) ∧ Below w.heap.size w w'
set_option maxHeartbeats 1600000 in
set_option maxRecDepth 100000 in
theorem free_any (c : Int) (L : List tb.Sym) (vs : Value) (w : World) (h : Tabs w w.heap.size vs L) :
  Calls Try.prog 38 #[.agg #[vs, .int .i64 c]] w (NatP (tb.free L) w) := by
 have HY : Hid (∀ k, k < L.length → (tb.at_ L k).2 = 0 → (∀ j, j < k → ¬ (tb.at_ L j).2 = 0) → tb.free L = k) := fun k h1 h2 h3 => tb.free_eq h1 h2 h3
 have HN : Hid ((∀ j, j < L.length → ¬ (tb.at_ L j).2 = 0) → tb.free L = L.length) := fun h => tb.free_none h
 obtain ⟨F, hF⟩ : ∃ F, F = tb.free L := ⟨_, rfl⟩
 rw [← hF] at HY HN ⊢
 clear hF
 obtain ⟨q0, hq0⟩ : ∃ q, q = L.length := ⟨_, rfl⟩
 obtain ⟨ao, cap, rfl, hqm⟩ : ∃ ao cap, vs = .slice ao q0 cap ∧ q0 ≤ maxLen := by
  obtain ⟨ao, cap, e, _, hm⟩ := h.form
  exact ⟨ao, cap, by rw [hq0]; exact e, by rw [hq0]; exact hm⟩
 unfold maxLen at hqm
 have HC := Lib.hid h
 have HQ := Lib.hid hq0
 rw [← hq0] at HY HN
 have hA : Below w.heap.size w (w.alloc (.cells #[.slice ao q0 cap, .int .i64 c] 25)) := (Below.refl _ _).alloc (Nat.le_refl _) _
 clear h hq0
 go_enter Try.func38, Try.ntmps38
 go_wp2
 go_loopw [3, 4, 8] (fun _ _ i wr => ∃ k : Nat, i = .int .i64 k ∧ k ≤ q0 ∧ Hid (∀ j, j < k → ¬ (tb.at_ L j).2 = 0) ∧ Below (w.heap.size + 1) (w.alloc (.cells #[.slice ao q0 cap, .int .i64 c] 25)) wr) (fun _ _ i _ => q0 - (intOf i).toNat)
 case atStart => exact ⟨0, rfl, by omega, fun j hj => absurd hj (Nat.not_lt_zero _), Below.refl _ _⟩
 case round =>
  obtain ⟨k, rfl, hk, HT, hbl⟩ := hrel
  have hb0 : Below w.heap.size w wr := hA.trans (hbl.mono (by omega))
  obtain ⟨d0, d1, _, _, hz⟩ := twoT (w := w) (w2 := wr) (t := 25) (by rw [World.size_alloc]; exact hbl)
  have hz1 : w.heap.size + 1 ≤ wr.heap.size := hz
  by_cases hlt : k < q0
  ·
   have hkI : (k : Int) < (q0 : Int) := by omega
   obtain ⟨b, off, rfl, hB, p0, p1⟩ := Tabs.get HC.out HQ.out hlt
   have e0 := (hb0.cell (p := ⟨b, off + k * 2, none⟩) hB).trans p0
   have e1 := (hb0.cell (p := ⟨b, off + k * 2 + 1, none⟩) hB).trans p1
   have HT2 : Hid (¬ (tb.at_ L k).2 = 0 → ∀ j, j < k + 1 → ¬ (tb.at_ L j).2 = 0) := fun hn j hj => by
    by_cases e : j = k
    ·
     subst e; exact hn
    ·
     exact HT.out j (by omega)
   have HYK : Hid ((tb.at_ L k).2 = 0 → F = k) := fun h => HY.out k hlt h HT.out
   obtain ⟨⟨x, r⟩, hx⟩ : ∃ x, x = tb.at_ L k := ⟨_, rfl⟩
   rw [← hx] at e0 e1 HT2 HYK
   simp only at e0 e1 HT2 HYK
   clear p0 p1 hx
   have hbx := hbl.alloc hz1 (.cells #[.string x, .int .i64 r] 52)
   have hb0x := hb0.alloc (by omega) (.cells #[.string x, .int .i64 r] 52)
   by_cases hr : r = 0
   ·
    obtain rfl := HYK.out hr
    subst hr
    go_wp2
    go_ret
    exact ⟨rfl, hb0x⟩
   ·
    have HT3 := Lib.hid (HT2.out hr)
    have hrb : (r == 0) = false := by simpa using hr
    clear hr
    go_wp2
    go_roundw
    case rel => exact ⟨k + 1, by go_num, by omega, HT3.out, hbx⟩
    case measure => simp [intOf]; omega
  ·
   obtain rfl : k = q0 := by omega
   obtain rfl := HN.out HT.out
   go_wp2
   go_ret
   exact ⟨rfl, hb0⟩
set_option maxHeartbeats 1600000 in
set_option maxRecDepth 100000 in
theorem used_any (c id : Int) (L : List tb.Sym) (vs : Value) (w : World) (h : Tabs w w.heap.size vs L) :
  Calls Try.prog 34 #[.agg #[vs, .int .i64 c], .int .i64 id] w (SaidT (tb.used L id) w) := by
 have HU : Hid (tb.used L id = decide (0 ≤ id ∧ id < (L.length : Int) ∧ 0 < (tb.at_ L id.toNat).2)) := rfl
 obtain ⟨F, hF⟩ : ∃ F, F = tb.used L id := ⟨_, rfl⟩
 rw [← hF] at HU ⊢
 clear hF
 obtain ⟨q0, hq0⟩ : ∃ q, q = L.length := ⟨_, rfl⟩
 obtain ⟨ao, cap, rfl, hqm⟩ : ∃ ao cap, vs = .slice ao q0 cap ∧ q0 ≤ maxLen := by
  obtain ⟨ao, cap, e, _, hm⟩ := h.form
  exact ⟨ao, cap, by rw [hq0]; exact e, by rw [hq0]; exact hm⟩
 unfold maxLen at hqm
 have HC := Lib.hid h
 have HQ := Lib.hid hq0
 rw [← hq0] at HU
 have hA : Below w.heap.size w (w.alloc (.cells #[.slice ao q0 cap, .int .i64 c] 25)) := (Below.refl _ _).alloc (Nat.le_refl _) _
 clear h hq0
 by_cases h0 : id < 0
 ·
  have HF : Hid (F = false) := by show _ = _; rw [HU.out]; exact decide_eq_false (fun h => by omega)
  have h0b : ¬ 0 ≤ id := by omega
  go_enter Try.func34, Try.ntmps34
  go_wp2
  go_ret
  rw [HF.out]; exact ⟨rfl, hA⟩
 obtain ⟨k, rfl⟩ : ∃ k : Nat, id = (k : Int) := ⟨id.toNat, by omega⟩
 rw [Int.toNat_natCast] at HU
 by_cases hlt : k < q0
 ·
  have hkI : (k : Int) < (q0 : Int) := by omega
  have hk0 : (0 : Int) ≤ (k : Int) := by omega
  obtain ⟨b, off, rfl, hB, p0, p1⟩ := Tabs.get HC.out HQ.out hlt
  have e0 := (hA.cell (p := ⟨b, off + k * 2, none⟩) hB).trans p0
  have e1 := (hA.cell (p := ⟨b, off + k * 2 + 1, none⟩) hB).trans p1
  obtain ⟨⟨x, r⟩, hx⟩ : ∃ x, x = tb.at_ L k := ⟨_, rfl⟩
  rw [← hx] at p0 p1 e0 e1 HU
  simp only at p0 p1 e0 e1 HU
  clear hx h0
  have hne : ¬ b = w.heap.size := by omega
  by_cases hr : 0 < r
  ·
   have HF : Hid (F = true) := by show _ = _; rw [HU.out]; exact decide_eq_true ⟨by omega, by omega, hr⟩
   go_enter Try.func34, Try.ntmps34
   go_wp2
   go_ret
   rw [HF.out]; exact ⟨rfl, hA⟩
  ·
   have HF : Hid (F = false) := by show _ = _; rw [HU.out]; exact decide_eq_false (fun h => hr h.2.2)
   go_enter Try.func34, Try.ntmps34
   go_wp2
   go_ret
   rw [HF.out]; exact ⟨rfl, hA⟩
 ·
  have HF : Hid (F = false) := by show _ = _; rw [HU.out]; exact decide_eq_false (fun h => by omega)
  have hkI : ¬ (k : Int) < (q0 : Int) := by omega
  have hk0 : (0 : Int) ≤ (k : Int) := by omega
  go_enter Try.func34, Try.ntmps34
  go_wp2
  go_ret
  rw [HF.out]; exact ⟨rfl, hA⟩
def TextPT (L : List tb.Sym) (id : Int) (w : World) (e : Ending) (w' : World) : Prop :=
 e = .returned (.tuple #[.string (if tb.used L id = true then (tb.at_ L id.toNat).1 else .empty), .bool (tb.used L id)]) ∧ Below w.heap.size w w'
set_option maxHeartbeats 1600000 in
set_option maxRecDepth 100000 in
theorem text_anyT (c id : Int) (L : List tb.Sym) (vs : Value) (w : World) (h : Tabs w w.heap.size vs L) :
  Calls Try.prog 23 #[.agg #[vs, .int .i64 c], .int .i64 id] w (TextPT L id w) := by
 have hA : Below w.heap.size w (w.alloc (.cells #[vs, .int .i64 c] 25)) := (Below.refl _ _).alloc (Nat.le_refl _) _
 have HU := Lib.hid (used_any c id L vs _ (h.next hA))
 have HD : Hid (tb.used L id = true → 0 ≤ id ∧ id < (L.length : Int)) := fun hu => by
  unfold tb.used at hu
  obtain ⟨h0, h1, _⟩ := of_decide_eq_true hu
  exact ⟨h0, h1⟩
 have HP : Hid (∀ e w', (e = .returned (.tuple #[.string (if tb.used L id = true then (tb.at_ L id.toNat).1 else .empty), .bool (tb.used L id)]) ∧ Below w.heap.size w w') → TextPT L id w e w') := fun _ _ h => h
 obtain ⟨F, hF⟩ : ∃ F, F = tb.used L id := ⟨_, rfl⟩
 rw [← hF] at HU HD HP
 clear hF
 obtain ⟨q0, hq0⟩ : ∃ q, q = L.length := ⟨_, rfl⟩
 obtain ⟨ao, cap, rfl, hqm⟩ : ∃ ao cap, vs = .slice ao q0 cap ∧ q0 ≤ maxLen := by
  obtain ⟨ao, cap, e, _, hm⟩ := h.form
  exact ⟨ao, cap, by rw [hq0]; exact e, by rw [hq0]; exact hm⟩
 unfold maxLen at hqm
 have HC := Lib.hid h
 have HQ := Lib.hid hq0
 rw [← hq0] at HD
 clear h hq0
 by_cases hu : F = true
 ·
  subst hu
  obtain ⟨h0, h1⟩ := HD.out rfl
  obtain ⟨k, rfl⟩ : ∃ k : Nat, id = (k : Int) := ⟨id.toNat, by omega⟩
  have hlt : k < q0 := by omega
  obtain ⟨b, off, rfl, hB, p0, p1⟩ := Tabs.get HC.out HQ.out hlt
  obtain ⟨⟨x, r⟩, hx⟩ : ∃ x, x = tb.at_ L k := ⟨_, rfl⟩
  have HP2 : Hid (∀ w', Below w.heap.size w w' → TextPT L (k : Int) w (.returned (.tuple #[.string x, .bool true])) w') := fun w' hb => HP.out _ _ ⟨by rw [if_pos rfl, Int.toNat_natCast, ← hx], hb⟩
  rw [← hx] at p0 p1
  simp only at p0 p1
  clear hx HP
  go_enter Try.func23, Try.ntmps23
  go_wp2_with fail
  (with_reducible refine HU.out.mono ?_)
  rintro e w1 ⟨rfl, hb1⟩
  obtain ⟨d0, d1, _, _, _⟩ := twoT (w := w) (w2 := w1) (t := 25) hb1
  have hb := hA.trans (hb1.mono hA.size)
  have e0 := (hb.cell (p := ⟨b, off + k * 2, none⟩) hB).trans p0
  have e1 := (hb.cell (p := ⟨b, off + k * 2 + 1, none⟩) hB).trans p1
  clear p0 p1
  go_wp2
  go_ret2
  exact HP2.out _ hb
 ·
  obtain rfl : F = false := by simpa using hu
  have HP2 : Hid (∀ w', Below w.heap.size w w' → TextPT L id w (.returned (.tuple #[.string ⟨#[]⟩, .bool false])) w') := fun w' hb => HP.out _ _ ⟨rfl, hb⟩
  clear HP hu
  go_enter Try.func23, Try.ntmps23
  go_wp2_with fail
  (with_reducible refine HU.out.mono ?_)
  rintro e w1 ⟨rfl, hb1⟩
  have hb := hA.trans (hb1.mono hA.size)
  go_wp2
  go_ret2
  exact HP2.out _ hb
end Go.Proofs.Ytegjpiggjcfoaaa
namespace Go.Proofs.Ytegjpiggjcfoaaa
open Go.RowKit Go.ChangeShapes cl
theorem infoSym : (Try.prog.info? 52).map (fun i => (i.zero, i.size, i.bytes)) = some (some (.agg #[.string ⟨#[]⟩, .int .i64 0]), 2, 24) := by kernel_rfl
theorem sizeSym : (Try.prog.info? 52).map (·.size) = some 2 := by kernel_rfl
theorem boxes2 {w w2 : World} {x0 x1 y0 y1 : Value} {t : TypeId} (hb : Below (w.heap.size + 2) ((w.alloc (.cells #[x0, x1] t)).alloc (.cells #[y0, y1] t)) w2) :
  w2.cell? ⟨w.heap.size, 0, none⟩ = some x0 ∧ w2.cell? ⟨w.heap.size, 1, none⟩ = some x1 ∧ w2.cell? ⟨w.heap.size + 1, 0, none⟩ = some y0 ∧ w2.cell? ⟨w.heap.size + 1, 1, none⟩ = some y1 ∧
  w2.frozen? ⟨w.heap.size + 1, 0, none⟩ = false ∧ w2.frozen? ⟨w.heap.size + 1, 1, none⟩ = false ∧ w.heap.size + 2 ≤ w2.heap.size ∧ Below w.heap.size w w2 := by
 have hs1 : (w.alloc (.cells #[x0, x1] t)).heap.size = w.heap.size + 1 := by rw [World.size_alloc]
 have hs2 : ((w.alloc (.cells #[x0, x1] t)).alloc (.cells #[y0, y1] t)).heap.size = w.heap.size + 2 := by rw [World.size_alloc, hs1]
 have hb1 : Below (w.heap.size + 1) (w.alloc (.cells #[x0, x1] t)) ((w.alloc (.cells #[x0, x1] t)).alloc (.cells #[y0, y1] t)) := (Below.refl _ _).alloc (by rw [hs1]; exact Nat.le_refl _) _
 have hb2 := hb1.trans (hb.mono (by omega))
 obtain ⟨a0, a1, _, _, _⟩ := twoT (w := w) (w2 := w2) (t := t) (by rw [hs1]; exact hb2)
 obtain ⟨b0, b1, f0, f1, _⟩ := twoT (w := w.alloc (.cells #[x0, x1] t)) (w2 := w2) (x := y0) (y := y1) (t := t) (by rw [hs2]; exact hb)
 rw [hs1] at b0 b1 f0 f1
 exact ⟨a0, a1, b0, b1, f0, f1, by have := hb.size; rw [hs2] at this; exact this, ((Below.refl _ _).alloc (Nat.le_refl _) _).trans (hb2.mono (by omega))⟩
theorem made_drop (q : Nat) (z : Array Value) (a b : Value) (hz : z = #[a, b]) : (madeCells z (q * 2)).toList.drop (q * 2) = [] ∧ (madeCells z ((q + 1) * 2)).toList.drop (q * 2) = [a, b] := by
 subst hz
 refine ⟨List.drop_eq_nil_of_le (by rw [Array.length_toList, size_madeCells]; exact Nat.le_refl _), ?_⟩
 have hl : (madeCells #[a, b] ((q + 1) * 2)).toList.length = q * 2 + 2 := by rw [Array.length_toList, size_madeCells]; omega
 refine List.ext_getElem (by rw [List.length_drop, hl]; simp) fun i h1 h2 => ?_
 simp only [List.length_cons, List.length_nil] at h2
 rw [List.getElem_drop]
 simp only [madeCells, Array.getElem_toList, Array.getElem_map, Array.getElem_range]
 rcases (by omega : i = 0 ∨ i = 1) with rfl | rfl
 ·
  simp
 ·
  simp
theorem set2 {w W : World} (hb : Below w.heap.size w W) (u v : Value) : Below w.heap.size w ((W.setCell ⟨w.heap.size + 1, 0, none⟩ u).setCell ⟨w.heap.size + 1, 1, none⟩ v) :=
 (hb.setCell (Nat.le_succ _) _).setCell (Nat.le_succ _) _
def PutP (c : Int) (vs : Value) (r : List tb.Sym × Int × Int) (w : World) (e : Ending) (w' : World) : Prop :=
 ∃ (ao : Option Addr) (cap : Nat), e = .returned (.tuple #[.agg #[.slice ao r.1.length cap, .int .i64 c], .int .i64 r.2.1, .int .i64 r.2.2]) ∧ (vs = .slice ao r.1.length cap ∨ ∃ g, ao = some ⟨g, 0, none⟩ ∧ w.heap.size ≤ g) ∧ Tabs w' w'.heap.size (.slice ao r.1.length cap) r.1 ∧ Below w.heap.size w w'
theorem Tabs.addrs {w : World} {B n c : Nat} {ao : Option Addr} {l : List tb.Sym} (h : Tabs w B (.slice ao n c) l) : (ao = none → n = 0) ∧ (∀ ad, ao = some ad → ∀ j u, (tcells l)[j]? = some u → w.cell? (ad.add j) = some u) := by
 have h2 := Cells.news' h
 exact ⟨fun e => (h2.1 e).1, h2.2⟩
theorem own_spot {w : World} {base n g cap : Nat} {e : TypeId} {l : List tb.Sym} (h : w.ownsRow base e 2 (.slice (some ⟨g, 0, none⟩) n cap) n (tcells l)) {k : Nat} (hk : k < l.length) :
  w.cell? ⟨g, k * 2, none⟩ = some (.string (tb.at_ l k).1) ∧ w.cell? ⟨g, k * 2 + 1, none⟩ = some (.int .i64 (tb.at_ l k).2) ∧ w.frozen? ⟨g, k * 2, none⟩ = false ∧ w.frozen? ⟨g, k * 2 + 1, none⟩ = false ∧ base ≤ g := by
 obtain ⟨g0, g1⟩ := tcells_get l k hk
 have c0 := h.cells (g := g) rfl _ _ g0
 have c1 := h.cells (g := g) rfl _ _ g1
 rw [Addr.add_lit, Nat.zero_add] at c0 c1
 rcases h.2 with ⟨hv, _⟩ | ⟨g', cap', cur, hv, hbg, hg, _⟩
 ·
  cases hv
 ·
  simp only [Value.slice.injEq, Option.some.injEq, Addr.mk.injEq] at hv
  obtain ⟨⟨rfl, _, _⟩, _, _⟩ := hv
  exact ⟨c0, c1, by simp [World.frozen?, hg], by simp [World.frozen?, hg], hbg⟩
theorem put_end {w w4 : World} {g n K : Nat} {e : TypeId} {s : ByteArray} {r c : Int} {L2 : List tb.Sym} (hown : w4.ownsRow (w.heap.size + 2) e 2 (.slice (some ⟨g, 0, none⟩) n n) n (tcells L2)) (hb : Below w.heap.size w w4) :
  Tabs (((((w4.setCell ⟨g, K * 2, none⟩ (.string s)).setCell ⟨g, K * 2 + 1, none⟩ (.int .i64 r)).setCell ⟨w.heap.size + 1, 0, none⟩ (.slice (some ⟨g, 0, none⟩) n n)).setCell ⟨w.heap.size + 1, 1, none⟩ (.int .i64 c)))
   (((((w4.setCell ⟨g, K * 2, none⟩ (.string s)).setCell ⟨g, K * 2 + 1, none⟩ (.int .i64 r)).setCell ⟨w.heap.size + 1, 0, none⟩ (.slice (some ⟨g, 0, none⟩) n n)).setCell ⟨w.heap.size + 1, 1, none⟩ (.int .i64 c))).heap.size (.slice (some ⟨g, 0, none⟩) n n) (L2.set K (s, r)) ∧
  Below w.heap.size w (((((w4.setCell ⟨g, K * 2, none⟩ (.string s)).setCell ⟨g, K * 2 + 1, none⟩ (.int .i64 r)).setCell ⟨w.heap.size + 1, 0, none⟩ (.slice (some ⟨g, 0, none⟩) n n)).setCell ⟨w.heap.size + 1, 1, none⟩ (.int .i64 c))) := by
 obtain ⟨o1, b1⟩ := kit.own_set (j := K * 2) (u := .string s) hown
 obtain ⟨o2, b2⟩ := kit.own_set (j := K * 2 + 1) (u := .int .i64 r) o1
 rw [tcells_set L2 K (s, r)] at o2
 have o3 := ownsRow_setCell_below o2 (a := ⟨w.heap.size + 1, 0, none⟩) (show w.heap.size + 1 < w.heap.size + 2 by omega) (.slice (some ⟨g, 0, none⟩) n n)
 have o4 := ownsRow_setCell_below o3 (a := ⟨w.heap.size + 1, 1, none⟩) (show w.heap.size + 1 < w.heap.size + 2 by omega) (.int .i64 c)
 have hn : n = (L2.set K (s, r)).length := by
  have := o4.1
  rw [tcells_len] at this; omega
 refine ⟨?_, ?_⟩
 ·
  have := Cells.own o4
  unfold Tabs
  rw [← hn]; exact this
 ·
  exact (((hb.trans (b1.mono (by omega))).trans (b2.mono (by omega))).setCell (show w.heap.size ≤ w.heap.size + 1 by omega) _).setCell (show w.heap.size ≤ w.heap.size + 1 by omega) _
set_option maxHeartbeats 6400000 in
set_option maxRecDepth 100000 in
theorem put_right (c : Int) (L : List tb.Sym) (s : ByteArray) (vs : Value) (w : World) (hr : tb.Right c L) (hsm : s.size ≤ maxLen) (h : Tabs w w.heap.size vs L) :
  Calls Try.prog 27 #[.agg #[vs, .int .i64 c], .string s] w (PutP c vs (tb.put c L s) w) := by
 unfold maxLen at hsm
 have HRT : Hid (∀ W, Below w.heap.size w W → Calls Try.prog 18 #[.agg #[vs, .int .i64 c]] W (SaidT true W)) := fun W hW => symright_true c L vs W hr ((h.below hW).mono hW.size)
 have HFI : Hid (∀ W, Below w.heap.size w W → Calls Try.prog 37 #[.agg #[vs, .int .i64 c], .string s] W (FindP L s W)) := fun W hW => find_any c L s vs W ((h.below hW).mono hW.size)
 have HFR : Hid (∀ W, Below w.heap.size w W → Calls Try.prog 38 #[.agg #[vs, .int .i64 c]] W (NatP (tb.free L) W)) := fun W hW => free_any c L vs W ((h.below hW).mono hW.size)
 have HPUT : Hid (∀ r, r = tb.put c L s → tb.put c L s = r) := fun r h => h.symm
 obtain ⟨q0, hq0⟩ : ∃ q, q = L.length := ⟨_, rfl⟩
 obtain ⟨ao, cap, rfl⟩ : ∃ ao cap, vs = .slice ao q0 cap := by
  obtain ⟨ao, cap, e, _⟩ := h.form
  exact ⟨ao, cap, by rw [hq0]; exact e⟩
 have HC : Hid (∀ W, Below w.heap.size w W → Tabs W W.heap.size (.slice ao q0 cap) L) := fun W hW => (h.below hW).mono hW.size
 have HSAM : Hid (∀ W, Below w.heap.size w W → ∀ e2 : Int, tb.put c L s = (L, 0, e2) → PutP c (.slice ao q0 cap) (tb.put c L s) w (.returned (.tuple #[.agg #[.slice ao q0 cap, .int .i64 c], .int .i64 0, .int .i64 e2])) W) := fun W hW e2 he => by
  rw [he]
  exact ⟨ao, cap, by rw [← hq0], Or.inl (by rw [← hq0]), by show Tabs _ _ _ _; rw [← hq0]; exact HC.out W hW, hW⟩
 have HQ := Lib.hid hq0
 have HR := Lib.hid hr
 have hA0 : Below (w.heap.size + 2) ((w.alloc (.cells #[.slice ao q0 cap, .int .i64 c] 25)).alloc (.cells #[.slice none 0 0, .int .i64 0] 25)) ((w.alloc (.cells #[.slice ao q0 cap, .int .i64 c] 25)).alloc (.cells #[.slice none 0 0, .int .i64 0] 25)) := Below.refl _ _
 obtain ⟨_, _, _, _, _, _, _, hA⟩ := boxes2 hA0
 obtain ⟨hc0, hc1, hlc, _, _⟩ := hr
 rw [← hq0] at hlc
 have HR1 := Lib.hid (HRT.out _ hA)
 obtain ⟨PT, hPT⟩ : ∃ P, P = tb.put c L s := ⟨_, rfl⟩
 have HPT := Lib.hid hPT
 rw [← hPT] at HSAM ⊢
 obtain ⟨i0, hi, hz0, hz1, hz2⟩ := info_parts infoSym
 have HI := Lib.hid (And.intro hi (And.intro hz0 (And.intro hz1 hz2)))
 clear h hq0 hA0 hPT HRT hi hz0 hz1 hz2 HPUT
 go_enter Try.func27, Try.ntmps27
 go_wp2_with fail
 (with_reducible refine HR1.out.mono ?_)
 rintro e w1 ⟨rfl, hb1⟩
 have hbW1 : Below (w.heap.size + 2) ((w.alloc (.cells #[.slice ao q0 cap, .int .i64 c] 25)).alloc (.cells #[.slice none 0 0, .int .i64 0] 25)) w1 := hb1.mono (by simp)
 obtain ⟨a0, a1, b0, b1, f0, f1, hz, hbl1⟩ := boxes2 hbW1
 by_cases hs6 : 600 < s.size
 ·
  have hsI : (600 : Int) < (s.size : Int) := by omega
  have HS : Hid (PT = (L, 0, 4)) := by show _ = _; rw [HPT.out, tb.put, if_pos hs6]
  have HSA := Lib.hid (HSAM.out _ (set2 hbl1 (.slice ao q0 cap) (.int .i64 c)) 4 HS.out)
  go_wp2
  exact bodyPost_ret (v := .tuple #[.agg #[.slice ao q0 cap, .int .i64 c], .int .i64 0, .int .i64 4]) (by simp [results, Try.results27, go_sem, b0, b1]) rfl HSA.out
 have hsI : ¬ (600 : Int) < (s.size : Int) := by omega
 have HF1 := Lib.hid (HFI.out _ hbl1)
 unfold FindP at HF1
 have HLE : Hid (tb.find L s ≤ q0 ∧ tb.free L ≤ q0) := by rw [HQ.out]; exact ⟨tb.find_le L s, tb.free_le L⟩
 rw [← HQ.out] at HF1
 by_cases hfl : tb.find L s < q0
 ·
  have HRI := Lib.hid (HR.out.2.2.2.1 (tb.find L s) (by rw [← HQ.out]; exact hfl))
  have HPC : Hid (PT = if (tb.at_ L (tb.find L s)).2 = 1099511627776 then (L, 0, 7) else (L.set (tb.find L s) (s, (tb.at_ L (tb.find L s)).2 + 1), (tb.find L s : Int), 0)) := by show _ = _; rw [HPT.out, tb.put, if_neg hs6, if_pos (by rw [← HQ.out]; exact hfl)]
  rw [if_pos hfl, decide_eq_true hfl] at HF1
  obtain ⟨K, hK⟩ : ∃ K, K = tb.find L s := ⟨_, rfl⟩
  rw [← hK] at HF1 HRI HPC hfl
  clear hK HLE
  obtain ⟨⟨x, r⟩, hx⟩ : ∃ x, x = tb.at_ L K := ⟨_, rfl⟩
  rw [← hx] at HRI HPC
  obtain ⟨hr0, hr1, _, _⟩ := HRI.out
  simp only at hr0 hr1 HPC
  have HX := Lib.hid hx
  clear hx
  go_wp2_with fail
  (with_reducible refine HF1.out.mono ?_)
  rintro e w2 ⟨rfl, hb2⟩
  have hbW2 := hbW1.trans (hb2.mono (by omega))
  obtain ⟨a0, a1, b0, b1, f0, f1, hz, hbl2⟩ := boxes2 hbW2
  obtain ⟨b, off, rfl, hB, p0, p1⟩ := Tabs.get (HC.out _ hbl2) HQ.out hfl
  rw [← HX.out] at p0 p1
  simp only at p0 p1
  by_cases hmax : r = 1099511627776
  ·
   subst hmax
   have HS : Hid (PT = (L, 0, 7)) := by show _ = _; rw [HPC.out, if_pos rfl]
   have HSA := Lib.hid (HSAM.out _ (set2 hbl2 (.slice (some ⟨b, off, none⟩) q0 cap) (.int .i64 c)) 7 HS.out)
   go_wp2
   exact bodyPost_ret (v := .tuple #[.agg #[.slice (some ⟨b, off, none⟩) q0 cap, .int .i64 c], .int .i64 0, .int .i64 7]) (by simp [results, Try.results27, go_sem, b0, b1]) rfl HSA.out
  have hmb : (r == 1099511627776) = false := by simpa using hmax
  have HPF : Hid (PT = (L.set K (s, r + 1), (K : Int), 0)) := by show _ = _; rw [HPC.out, if_neg hmax]
  obtain ⟨n, hn⟩ : ∃ n, n = q0 := ⟨_, rfl⟩
  have HL2 : Hid (∃ L2, L2.length = n ∧ L2.set K (s, r + 1) = L.set K (s, r + 1) ∧ tb.at_ L2 K = (x, r) ∧ tcells L ++ (madeCells (#[.string ⟨#[]⟩, .int .i64 0] : Array Value) (n * 2)).toList.drop (q0 * 2) = tcells L2) := ⟨L, by rw [hn]; exact HQ.out.symm, rfl, HX.out.symm, by rw [hn, (made_drop q0 (#[.string ⟨#[]⟩, .int .i64 0] : Array Value) (.string ⟨#[]⟩) (.int .i64 0) rfl).1, List.append_nil]⟩
  have hKn : K < n := by omega
  have hnq : q0 ≤ n := by omega
  have hn4 : n ≤ 24000 := by omega
  have hnq2 : n ≤ q0 := by omega
  clear hmax hn
  go_wp2_with (at_make; refine wpList_make_full _ rfl _ _ 23 rfl (w.heap.size + 2) 52 i0 (.agg #[.string ⟨#[]⟩, .int .i64 0]) 2 Try.underlying23 HI.out.1 HI.out.2.1 HI.out.2.2.1 .i64 .i64 _ _ n rfl rfl (by omega) (by omega) (by rw [HI.out.2.2.2]; omega) (by unfold maxLen; omega) (by omega) ?_)
  intro w3 hown3 hgrow3
  have HO3 := Lib.hid hown3
  have hb3 : Below (w.heap.size + 2) w2 w3 := (Below.refl _ _).grown hgrow3 (by omega) (fun j hj => by cases hj)
  have hbW3 := hbW2.trans hb3
  obtain ⟨a0, a1, b0, b1, f0, f1, hz, hbl3⟩ := boxes2 hbW3
  have HAD := Lib.hid (Tabs.addrs (HC.out _ hbl3))
  have HTL : Hid ((tcells L).length = q0 * 2) := by show _ = _; rw [tcells_len, HQ.out]
  obtain ⟨g, hg⟩ : ∃ g, g = w2.heap.size := ⟨_, rfl⟩
  rw [← hg] at HO3 ⊢
  clear hown3 hgrow3 hg
  go_wp2_with (with_reducible refine kit.copy_own_k (.tmp 50) (.tmp 52) 23 23 rfl rfl (w.heap.size + 2) Try.underlying23 sizeSym (ys := tcells L) HO3.out rfl rfl HTL.out hnq HAD.out.1 HAD.out.2 tcells_one ?_)
  intro w4 hown4 hb4 hz4
  obtain ⟨L2, hL2n, hL2s, hL2x, hL2t⟩ := HL2.out
  rw [hL2t] at hown4
  have HO4 := Lib.hid hown4
  obtain ⟨s0, s1, t0, t1, hbg⟩ := own_spot hown4 (by rw [hL2n]; exact hKn)
  rw [hL2x] at s0 s1
  simp only at s0 s1
  have hbW4 := hbW3.trans hb4
  obtain ⟨a0, a1, b0, b1, f0, f1, hz, hbl4⟩ := boxes2 hbW4
  obtain ⟨hT, hBE⟩ := put_end (K := K) (s := s) (r := r + 1) (c := c) HO4.out hbl4
  have HLN : Hid (PT.1 = L2.set K (s, r + 1) ∧ PT.1.length = n ∧ PT.2.1 = (K : Int) ∧ PT.2.2 = 0) := ⟨by rw [HPF.out, hL2s], by rw [HPF.out]; show (_ : List tb.Sym).length = n; rw [← hL2s, List.length_set, hL2n], by rw [HPF.out], by rw [HPF.out]⟩
  have HT := Lib.hid hT
  have HBE := Lib.hid hBE
  have HGE : Hid (w.heap.size ≤ g) := by show _ ≤ _; omega
  have hgne : ¬ g = w.heap.size + 1 := by omega
  have hgne2 : ¬ w.heap.size + 1 = g := by omega
  have hKI : (K : Int) < (n : Int) := by omega
  clear hT hBE hown4 hL2n hL2s hL2x hL2t
  go_wp2
  refine bodyPost_ret (v := .tuple #[.agg #[.slice (some ⟨g, 0, none⟩) n n, .int .i64 c], .int .i64 K, .int .i64 0]) (by simp [results, Try.results27, go_sem, b0, b1]) rfl ⟨some ⟨g, 0, none⟩, n, by rw [HLN.out.2.1, HLN.out.2.2.1, HLN.out.2.2.2], Or.inr ⟨g, rfl, HGE.out⟩, ?_, HBE.out⟩
  show Tabs _ _ _ _
  rw [HLN.out.2.1, HLN.out.1]
  exact HT.out
 ·
  rw [if_neg hfl, decide_eq_false hfl] at HF1
  have HPC : Hid (PT = if (tb.free L : Int) = c then (L, 0, 7) else if tb.free L < q0 then (L.set (tb.free L) (s, 1), (tb.free L : Int), 0) else (L ++ [(s, 1)], (tb.free L : Int), 0)) := by show _ = _; rw [HPT.out, tb.put, if_neg hs6, if_neg (by rw [← HQ.out]; exact hfl), HQ.out]
  have HFZ : Hid (tb.free L < q0 → (tb.at_ L (tb.free L)).2 = 0) := fun h => tb.free_yes (by rw [← HQ.out]; exact h)
  have hFle := HLE.out.2
  obtain ⟨K, hK⟩ : ∃ K, K = tb.free L := ⟨_, rfl⟩
  rw [← hK] at HPC HFZ hFle HFR
  clear hK HLE hfl
  go_wp2_with fail
  (with_reducible refine HF1.out.mono ?_)
  rintro e w2 ⟨rfl, hb2⟩
  have hbW2 := hbW1.trans (hb2.mono (by omega))
  obtain ⟨a0, a1, b0, b1, f0, f1, hz, hbl2⟩ := boxes2 hbW2
  have HF2 := Lib.hid (HFR.out _ hbl2)
  unfold NatP at HF2
  go_wp2_with fail
  (with_reducible refine HF2.out.mono ?_)
  rintro e w9 ⟨rfl, hb9⟩
  have hbW9 := hbW2.trans (hb9.mono (by omega))
  obtain ⟨a0, a1, b0, b1, f0, f1, hz, hbl9⟩ := boxes2 hbW9
  by_cases hFc : (K : Int) = c
  ·
   have HS : Hid (PT = (L, 0, 7)) := by show _ = _; rw [HPC.out, if_pos hFc]
   have HSA := Lib.hid (HSAM.out _ (set2 hbl9 (.slice ao q0 cap) (.int .i64 c)) 7 HS.out)
   have hFcb : ((K : Int) == c) = true := by simpa using hFc
   clear hFc
   go_wp2
   exact bodyPost_ret (v := .tuple #[.agg #[.slice ao q0 cap, .int .i64 c], .int .i64 0, .int .i64 7]) (by simp [results, Try.results27, go_sem, b0, b1]) rfl HSA.out
  have hFcb : ((K : Int) == c) = false := by simpa using hFc
  have HPD : Hid (PT = if K < q0 then (L.set K (s, 1), (K : Int), 0) else (L ++ [(s, 1)], (K : Int), 0)) := by show _ = _; rw [HPC.out, if_neg hFc]
  have hz9 := hbW9.size
  clear hFc HPC HFR
  by_cases hKq : K < q0
  ·
   have HPF : Hid (PT = (L.set K (s, 1), (K : Int), 0)) := by show _ = _; rw [HPD.out, if_pos hKq]
   have hr0 := HFZ.out hKq
   obtain ⟨x, hx⟩ : ∃ x, x = (tb.at_ L K).1 := ⟨_, rfl⟩
   obtain ⟨n, hn⟩ : ∃ n, n = q0 := ⟨_, rfl⟩
   have HL2 : Hid (∃ L2, L2.length = n ∧ L2.set K (s, 1) = L.set K (s, 1) ∧ tb.at_ L2 K = (x, 0) ∧ tcells L ++ (madeCells (#[.string ⟨#[]⟩, .int .i64 0] : Array Value) (n * 2)).toList.drop (q0 * 2) = tcells L2) := ⟨L, by rw [hn]; exact HQ.out.symm, rfl, Prod.ext hx.symm hr0, by rw [hn, (made_drop q0 (#[.string ⟨#[]⟩, .int .i64 0] : Array Value) (.string ⟨#[]⟩) (.int .i64 0) rfl).1, List.append_nil]⟩
   have hKn : K < n := by omega
   have hnq : q0 ≤ n := by omega
   have hn4 : n ≤ 24000 := by omega
   have hnq2 : n ≤ q0 := by omega
   clear hr0 hx hn HPD HFZ
   go_wp2_with (at_make; refine wpList_make_full _ rfl _ _ 23 rfl (w.heap.size + 2) 52 i0 (.agg #[.string ⟨#[]⟩, .int .i64 0]) 2 Try.underlying23 HI.out.1 HI.out.2.1 HI.out.2.2.1 .i64 .i64 _ _ n rfl rfl (by omega) (by omega) (by rw [HI.out.2.2.2]; omega) (by unfold maxLen; omega) (by omega) ?_)
   intro w3 hown3 hgrow3
   have HO3 := Lib.hid hown3
   have hb3 : Below (w.heap.size + 2) w9 w3 := (Below.refl _ _).grown hgrow3 (by omega) (fun j hj => by cases hj)
   have hbW3 := hbW9.trans hb3
   obtain ⟨a0, a1, b0, b1, f0, f1, hz, hbl3⟩ := boxes2 hbW3
   have HAD := Lib.hid (Tabs.addrs (HC.out _ hbl3))
   have HTL : Hid ((tcells L).length = q0 * 2) := by show _ = _; rw [tcells_len, HQ.out]
   obtain ⟨g, hg⟩ : ∃ g, g = w9.heap.size := ⟨_, rfl⟩
   rw [← hg] at HO3 ⊢
   clear hown3 hgrow3 hg
   go_wp2_with (with_reducible refine kit.copy_own_k (.tmp 50) (.tmp 52) 23 23 rfl rfl (w.heap.size + 2) Try.underlying23 sizeSym (ys := tcells L) HO3.out rfl rfl HTL.out hnq HAD.out.1 HAD.out.2 tcells_one ?_)
   intro w4 hown4 hb4 hz4
   obtain ⟨L2, hL2n, hL2s, hL2x, hL2t⟩ := HL2.out
   rw [hL2t] at hown4
   have HO4 := Lib.hid hown4
   obtain ⟨s0, s1, t0, t1, hbg⟩ := own_spot hown4 (by rw [hL2n]; exact hKn)
   rw [hL2x] at s0 s1
   simp only at s0 s1
   have hbW4 := hbW3.trans hb4
   obtain ⟨a0, a1, b0, b1, f0, f1, hz, hbl4⟩ := boxes2 hbW4
   obtain ⟨hT, hBE⟩ := put_end (K := K) (s := s) (r := 1) (c := c) HO4.out hbl4
   have HLN : Hid (PT.1 = L2.set K (s, 1) ∧ PT.1.length = n ∧ PT.2.1 = (K : Int) ∧ PT.2.2 = 0) := ⟨by rw [HPF.out, hL2s], by rw [HPF.out]; show (_ : List tb.Sym).length = n; rw [← hL2s, List.length_set, hL2n], by rw [HPF.out], by rw [HPF.out]⟩
   have HT := Lib.hid hT
   have HBE := Lib.hid hBE
   have HGE : Hid (w.heap.size ≤ g) := by show _ ≤ _; omega
   have hgne : ¬ g = w.heap.size + 1 := by omega
   have hgne2 : ¬ w.heap.size + 1 = g := by omega
   have hKI : (K : Int) < (n : Int) := by omega
   clear hT hBE hown4 hL2n hL2s hL2x hL2t
   go_wp2
   refine bodyPost_ret (v := .tuple #[.agg #[.slice (some ⟨g, 0, none⟩) n n, .int .i64 c], .int .i64 K, .int .i64 0]) (by simp [results, Try.results27, go_sem, b0, b1]) rfl ⟨some ⟨g, 0, none⟩, n, by rw [HLN.out.2.1, HLN.out.2.2.1, HLN.out.2.2.2], Or.inr ⟨g, rfl, HGE.out⟩, ?_, HBE.out⟩
   show Tabs _ _ _ _
   rw [HLN.out.2.1, HLN.out.1]
   exact HT.out
  ·
   obtain rfl : K = q0 := by omega
   have HPF : Hid (PT = (L ++ [(s, 1)], (K : Int), 0)) := by show _ = _; rw [HPD.out, if_neg (Nat.lt_irrefl _)]
   obtain ⟨n, hn⟩ : ∃ n, n = K + 1 := ⟨_, rfl⟩
   have HL2 : Hid (∃ L2, L2.length = n ∧ L2.set K (s, 1) = L ++ [(s, 1)] ∧ tb.at_ L2 K = (⟨#[]⟩, 0) ∧ tcells L ++ (madeCells (#[.string ⟨#[]⟩, .int .i64 0] : Array Value) (n * 2)).toList.drop (K * 2) = tcells L2) := by
    refine ⟨L ++ [(⟨#[]⟩, 0)], by rw [List.length_append, ← HQ.out, hn]; rfl, ?_, ?_, ?_⟩
    ·
     rw [HQ.out, List.set_append_right _ _ (Nat.le_refl _), Nat.sub_self]; rfl
    ·
     rw [tb.at_snoc, HQ.out, if_neg (Nat.lt_irrefl _), if_pos rfl]
    ·
     rw [hn, (made_drop K (#[.string ⟨#[]⟩, .int .i64 0] : Array Value) (.string ⟨#[]⟩) (.int .i64 0) rfl).2, tcells_app]; rfl
   have hcK : (K : Int) < c := by have := hlc; simp at hFcb; omega
   have hKn : K < n := by omega
   have hnq : K ≤ n := by omega
   have hn4 : n ≤ 24001 := by omega
   have hnq2 : n ≤ K + 1 := by omega
   clear hn HPD HFZ
   go_wp2_with (at_make; refine wpList_make_full _ rfl _ _ 23 rfl (w.heap.size + 2) 52 i0 (.agg #[.string ⟨#[]⟩, .int .i64 0]) 2 Try.underlying23 HI.out.1 HI.out.2.1 HI.out.2.2.1 .i64 .i64 _ _ n rfl rfl (by omega) (by omega) (by rw [HI.out.2.2.2]; omega) (by unfold maxLen; omega) (by omega) ?_)
   intro w3 hown3 hgrow3
   have HO3 := Lib.hid hown3
   have hb3 : Below (w.heap.size + 2) w9 w3 := (Below.refl _ _).grown hgrow3 (by omega) (fun j hj => by cases hj)
   have hbW3 := hbW9.trans hb3
   obtain ⟨a0, a1, b0, b1, f0, f1, hz, hbl3⟩ := boxes2 hbW3
   have HAD := Lib.hid (Tabs.addrs (HC.out _ hbl3))
   have HTL : Hid ((tcells L).length = K * 2) := by show _ = _; rw [tcells_len, HQ.out]
   obtain ⟨g, hg⟩ : ∃ g, g = w9.heap.size := ⟨_, rfl⟩
   rw [← hg] at HO3 ⊢
   clear hown3 hgrow3 hg
   go_wp2_with (with_reducible refine kit.copy_own_k (.tmp 50) (.tmp 52) 23 23 rfl rfl (w.heap.size + 2) Try.underlying23 sizeSym (ys := tcells L) HO3.out rfl rfl HTL.out hnq HAD.out.1 HAD.out.2 tcells_one ?_)
   intro w4 hown4 hb4 hz4
   obtain ⟨L2, hL2n, hL2s, hL2x, hL2t⟩ := HL2.out
   rw [hL2t] at hown4
   have HO4 := Lib.hid hown4
   obtain ⟨s0, s1, t0, t1, hbg⟩ := own_spot hown4 (by rw [hL2n]; exact hKn)
   rw [hL2x] at s0 s1
   simp only at s0 s1
   have hbW4 := hbW3.trans hb4
   obtain ⟨a0, a1, b0, b1, f0, f1, hz, hbl4⟩ := boxes2 hbW4
   obtain ⟨hT, hBE⟩ := put_end (K := K) (s := s) (r := 1) (c := c) HO4.out hbl4
   have HLN : Hid (PT.1 = L2.set K (s, 1) ∧ PT.1.length = n ∧ PT.2.1 = (K : Int) ∧ PT.2.2 = 0) := ⟨by rw [HPF.out, hL2s], by rw [HPF.out]; show (_ : List tb.Sym).length = n; rw [← hL2s, List.length_set, hL2n], by rw [HPF.out], by rw [HPF.out]⟩
   have HT := Lib.hid hT
   have HBE := Lib.hid hBE
   have HGE : Hid (w.heap.size ≤ g) := by show _ ≤ _; omega
   have hgne : ¬ g = w.heap.size + 1 := by omega
   have hgne2 : ¬ w.heap.size + 1 = g := by omega
   have hKI : (K : Int) < (n : Int) := by omega
   clear hT hBE hown4 hL2n hL2s hL2x hL2t
   go_wp2
   refine bodyPost_ret (v := .tuple #[.agg #[.slice (some ⟨g, 0, none⟩) n n, .int .i64 c], .int .i64 K, .int .i64 0]) (by simp [results, Try.results27, go_sem, b0, b1]) rfl ⟨some ⟨g, 0, none⟩, n, by rw [HLN.out.2.1, HLN.out.2.2.1, HLN.out.2.2.2], Or.inr ⟨g, rfl, HGE.out⟩, ?_, HBE.out⟩
   show Tabs _ _ _ _
   rw [HLN.out.2.1, HLN.out.1]
   exact HT.out
end Go.Proofs.Ytegjpiggjcfoaaa
