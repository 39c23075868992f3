/- PagesTokens, walked. -/
import Derived.Test.YtilnmfbimfmacaaAwk34
import Derived.Deep.RegionHeld3
namespace Go.Proofs.Ytilnmfbimfmacaa
open Go.RowKit Go.ChangeShapes Go.Joins cl pg

theorem rtok_eq (lv : Value) (a : ByteArray) (m : Bool) (W : World) (hs : a.size ≤ 3000) {T : ByteArray} (hT : T = kit.str (tk.token (kit.bytes a) m)) :
    Calls Try.prog 20 #[.agg #[lv, .string a, .bool m]] W (fun e W' => e = .returned (.string T) ∧ Below W.heap.size W W') := by
  subst hT; exact rtoken_any lv a m W hs
theorem tok_eq (lv : Value) (a : ByteArray) (m : Bool) (W : World) (hs : a.size ≤ 3000) {T : ByteArray} (hT : T = kit.str (tk.token (kit.bytes a) m)) :
    Calls Try.prog 19 #[.agg #[lv, .string a, .bool m]] W (fun e W' => e = .returned (.string T) ∧ Below W.heap.size W W') := by
  subst hT; exact token_any lv a m W hs

abbrev Box (w : World) (v0 : Value) (a : ByteArray) (m : Bool) (w' : World) : Prop := w'.cell? ⟨w.heap.size, 0, none⟩ = some v0 ∧ w'.cell? ⟨w.heap.size, 1, none⟩ = some (.string a) ∧ w'.cell? ⟨w.heap.size, 2, none⟩ = some (.bool m) ∧ Below w.heap.size w w' ∧ w.heap.size + 1 ≤ w'.heap.size
theorem Box.drew {w : World} {v0 : Value} {a : ByteArray} {m : Bool} {W : World} (h : Box w v0 a m W) : Box w v0 a m W.drew := ⟨h.1, h.2.1, h.2.2.1, h.2.2.2.1.drew, h.2.2.2.2⟩
theorem Box.step {w : World} {v0 : Value} {a : ByteArray} {m : Bool} {W W' : World} (h : Box w v0 a m W) (hb : Below W.heap.size W W') : Box w v0 a m W' := by
  obtain ⟨h0, h1, h2, h3, h4⟩ := h
  have hs := hb.size
  exact ⟨(hb.cell (p := ⟨w.heap.size, 0, none⟩) (show w.heap.size < _ by omega)).trans h0, (hb.cell (p := ⟨w.heap.size, 1, none⟩) (show w.heap.size < _ by omega)).trans h1, (hb.cell (p := ⟨w.heap.size, 2, none⟩) (show w.heap.size < _ by omega)).trans h2, h3.trans (hb.mono (by omega)), by omega⟩

set_option maxHeartbeats 6400000 in
set_option maxRecDepth 100000 in
theorem tokens_any (ao : Option Addr) (n c : Nat) (a : ByteArray) (m : Bool) (s : ByteArray) (w : World) (ha : a.size ≤ 9223372036854775807) (hs : s.size ≤ 9223372036854775807) (hn : n ≤ 9223372036854775807) :
    Calls Try.prog 4 #[.agg #[.slice ao n c, .string a, .bool m], .string s] w (Said true w) := by
  have hA : Below w.heap.size w (w.alloc (.cells #[.slice ao n c, .string a, .bool m] 26)) := (Below.refl _ _).alloc (Nat.le_refl _) _
  by_cases hsmall : a.size ≤ 3000 ∧ s.size ≤ 3000 ∧ n ≤ 100
  · obtain ⟨h1, h2, h3⟩ := hsmall
    obtain ⟨T, hT⟩ : ∃ T, T = kit.str (tk.token (kit.bytes a) m) := ⟨_, rfl⟩
    obtain ⟨r, hr⟩ : ∃ r, r = tk.read (kit.bytes s) := ⟨_, rfl⟩
    obtain ⟨x, q⟩ := r
    obtain ⟨X, hX⟩ : ∃ X, X = kit.str x := ⟨_, rfl⟩
    have R1 : Hid (∀ W : World, Calls Try.prog 17 #[.string s] W (fun e W' => e = .returned (.tuple #[.string X, .int .i64 (q : Int)]) ∧ Below W.heap.size W W')) := fun W => by
      have := read_any s W h2
      rw [← hr] at this
      rw [hX]; exact this
    have R2 : Hid (∀ W : World, Calls Try.prog 18 #[.string s] W (fun e W' => e = .returned (.tuple #[.string X, .int .i64 (q : Int)]) ∧ Below W.heap.size W W')) := fun W => by
      have := rread_any s W h2
      rw [← hr] at this
      rw [hX]; exact this
    have T1 : Hid (∀ W : World, Calls Try.prog 19 #[.agg #[.slice ao n c, .string a, .bool m]] W (fun e W' => e = .returned (.string T) ∧ Below W.heap.size W W')) := fun W => tok_eq _ a m W h1 hT
    have T2 : Hid (∀ W : World, Calls Try.prog 20 #[.agg #[.slice ao n c, .string a, .bool m]] W (fun e W' => e = .returned (.string T) ∧ Below W.heap.size W W')) := fun W => rtok_eq _ a m W h1 hT
    clear hr hX hT
    go_enter Try.func4, Try.ntmps4
    go_wp2_with fail
    refine (R1.out _).mono ?_
    rintro e w1 ⟨rfl, hb1⟩
    go_wp2_with fail
    refine (R2.out _).mono ?_
    rintro e w2 ⟨rfl, hb2⟩
    have hb12 := hb1.trans (hb2.mono hb1.size)
    have hbw2 : Below w.heap.size w w2 := hA.trans (hb12.mono hA.size)
    obtain ⟨p0, p1, p2⟩ : w2.cell? ⟨w.heap.size, 0, none⟩ = some (.slice ao n c) ∧ w2.cell? ⟨w.heap.size, 1, none⟩ = some (.string a) ∧ w2.cell? ⟨w.heap.size, 2, none⟩ = some (.bool m) := by
      have hb' : Below (w.heap.size + 1) (w.alloc (.cells #[.slice ao n c, .string a, .bool m] 26)) w2 := hb12.mono (by simp)
      exact ⟨later hb' rfl, later hb' rfl, later hb' rfl⟩
    have hz : w.heap.size < w2.heap.size := by have := hb12.size; simp at this; omega
    have HB2 := Lib.hid (show Box w (.slice ao n c) a m w2 from ⟨p0, p1, p2, hbw2, hz⟩)
    clear hb1 hb2 hb12 hA hbw2
    go_wp2_with fail
    go_region_held3 (fun w' => w'.cell? ⟨w.heap.size, 0, none⟩ = some (.slice ao n c) ∧ w'.cell? ⟨w.heap.size, 1, none⟩ = some (.string a) ∧ w'.cell? ⟨w.heap.size, 2, none⟩ = some (.bool m) ∧ Below w.heap.size w w' ∧ w.heap.size + 1 ≤ w'.heap.size)
      (first
        | exact Box.drew HB2.out
        | exact Box.step (by assumption) hbK
        | assumption)
      (first
        | (go_at_call 19; (with_reducible refine (T1.out _).mono ?_); rintro e wK ⟨rfl, hbK⟩)
        | (go_at_call 20; (with_reducible refine (T2.out _).mono ?_); rintro e wK ⟨rfl, hbK⟩)
        | (go_at_call 9; refine (awake_any _).mono ?_; rintro e wK ⟨rfl, hbK⟩)
        | fail)
    go_wp2
    go_ret
    exact ⟨rfl, (by assumption : Box w (.slice ao n c) a m _).2.2.2.1⟩
  · have HN : Hid ¬(a.size ≤ 3000 ∧ s.size ≤ 3000 ∧ n ≤ 100) := hsmall
    clear hsmall
    by_cases h1 : a.size ≤ 3000
    · by_cases h2 : s.size ≤ 3000
      · have h3 : 100 < n := by
          by_cases h3 : n ≤ 100
          · exact absurd ⟨h1, h2, h3⟩ HN.out
          · omega
        go_enter Try.func4, Try.ntmps4
        go_wp2_with fail
        refine (awake_any _).mono ?_
        rintro e w1 ⟨rfl, hb⟩
        go_wp2
        go_ret
        exact ⟨rfl, hA.trans (hb.mono hA.size)⟩
      · go_enter Try.func4, Try.ntmps4
        go_wp2_with fail
        refine (awake_any _).mono ?_
        rintro e w1 ⟨rfl, hb⟩
        go_wp2
        go_ret
        exact ⟨rfl, hA.trans (hb.mono hA.size)⟩
    · go_enter Try.func4, Try.ntmps4
      go_wp2_with fail
      refine (awake_any _).mono ?_
      rintro e w1 ⟨rfl, hb⟩
      go_wp2
      go_ret
      exact ⟨rfl, hA.trans (hb.mono hA.size)⟩
end Go.Proofs.Ytilnmfbimfmacaa
