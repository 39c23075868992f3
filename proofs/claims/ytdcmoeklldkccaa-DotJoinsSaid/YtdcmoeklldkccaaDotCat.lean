/- slices.Grow, slices.Concat at dots. -/
import Derived.Test.YtdcmoeklldkccaaDotClone
import Derived.Test.YtdcmoeklldkccaaDotLay
namespace Go.Proofs.Ytdcmoeklldkccaa
open Go Go.RowKit Go.ChangeShapes cl Go.Sort

theorem made_zero (w : World) (n : Nat) (h0 : 0 < n) (hn : n ≤ 1000000) (t : TypeId) : ((w.alloc (.cells (Builtin.zeroCells #[.int .i64 0, .int .i64 0] n ++ Builtin.zeroCells #[.int .i64 0, .int .i64 0] (grownCap w n 0 t - n)) t)).drew).ownsRow w.heap.size t 2 (.slice (some ⟨w.heap.size, 0, none⟩) 0 (grownCap w n 0 t)) 0 [] := by
  have h1 := grownCap_ge w n 0 t
  have h2 := grownCap_le_maxLen w n 0 t (by unfold maxLen; omega)
  refine World.ownsRow.drew (World.ownsRow_made w _ _ (Nat.le_refl _) h2 ?_)
  simp only [Array.size_append, size_zeroCells]
  show n * 2 + (grownCap w n 0 t - n) * 2 = _
  omega
set_option maxHeartbeats 1600000 in
set_option maxRecDepth 100000 in
/-- Grow of a nil slice -/
theorem grow_any (n : Nat) (w : World) (hn : n ≤ 1000000) : Calls Try.prog 45 #[.slice none 0 0, .int .i64 (n : Int)] w fun e w' => ∃ v, e = .returned v ∧ w'.ownsRow w.heap.size 26 2 v 0 [] ∧ Below w.heap.size w w' := by
  by_cases h0 : 0 < n
  · have h1 : (0 : Int) < (n : Int) := by omega
    have h2 : ¬ (n : Int) < 0 := by omega
    have hd : decide ((0 : Int) < (n : Int)) = true := decide_eq_true h1
    have hd2 : decide ((n : Int) < 0) = false := decide_eq_false h2
    have hm := Lib.hid (made_zero w n h0 hn 26)
    have q1 : ¬ n = 0 := by omega
    have q2 : ¬ n * 2 = 0 := by omega
    have q3 : Builtin.nextslicecap n 0 = n := nextslicecap_zero h0
    have q4 : ¬ 281474976710656 < Builtin.nextslicecap n 0 * Try.t26.bytes := by
      rw [q3]
      show ¬ 281474976710656 < n * 16
      omega
    have q5 : (n : Int) * (Try.t26.bytes : Int) ≤ 281474976710656 := by
      show (n : Int) * 16 ≤ 281474976710656
      omega
    have q6 : (n : Int) ≤ 9223372036854775807 := by omega
    have q7 : (0 : Int) ≤ (n : Int) := by omega
    have q8 : ¬ 281474976710656 < n * Try.t26.bytes := by rw [q3] at q4; exact q4
    clear q3
    go_enter Try.func45, Try.ntmps45
    go_wp2
    go_ret
    exact ⟨_, rfl, hm.out, below_drewN ((Below.refl _ _).alloc (Nat.le_refl _) _) 1⟩
  · obtain rfl : n = 0 := by omega
    go_enter Try.func45, Try.ntmps45
    go_wp2
    go_ret
    exact ⟨_, rfl, World.ownsRow_nil _ _ _ _, Below.refl _ _⟩

set_option maxHeartbeats 3200000 in
set_option maxRecDepth 100000 in
/-- Concat of two -/
theorem concat_any (a b : List Dot) (va vb : Value) (g : Nat) (w : World) (ha : Dots w w.heap.size va a) (hb : Dots w w.heap.size vb b) (hla : a.length ≤ 400000) (hlb : b.length ≤ 400000)
    (c0 : w.cell? ⟨g, 0, none⟩ = some va) (c1 : w.cell? ⟨g, 1, none⟩ = some vb) (hg : g < w.heap.size) :
    Calls Try.prog 40 #[.slice (some ⟨g, 0, none⟩) 2 2] w fun e w' => ∃ v, e = .returned v ∧ w'.ownsRow w.heap.size 26 2 v (a ++ b).length (dcells (a ++ b)) ∧ Below w.heap.size w w' := by
  obtain ⟨n, hn⟩ : ∃ n, n = a.length := ⟨_, rfl⟩
  obtain ⟨m, hm⟩ : ∃ m, m = b.length := ⟨_, rfl⟩
  have HNM : Hid ((a ++ b).length = n + m) := by show _ = _; rw [List.length_append, hn, hm]
  have HN := Lib.hid hn
  have HM := Lib.hid hm
  obtain ⟨ao, ac, rfl⟩ : ∃ ao ac, va = .slice ao n ac := by
    obtain ⟨ao, cap, e, _⟩ := ha.form
    exact ⟨ao, cap, by rw [hn]; exact e⟩
  obtain ⟨bo, bc, rfl⟩ : ∃ ao ac, vb = .slice ao m ac := by
    obtain ⟨ao, cap, e, _⟩ := hb.form
    exact ⟨ao, cap, by rw [hm]; exact e⟩
  have hn4 : n ≤ 400000 := by omega
  have hm4 : m ≤ 400000 := by omega
  have HA := Lib.hid ha
  have HB := Lib.hid hb
  have hw1 : IntKind.i64.wrap ((0 : Int) + (n : Int)) = (n : Int) := by rw [Int.zero_add]; exact IntWalk.i64_in _ (by omega)
  have hw2 : IntKind.i64.wrap ((n : Int) + (m : Int)) = ((n + m : Nat) : Int) := by rw [IntWalk.i64_in _ (by omega)]; push_cast; rfl
  have HGR : Hid (∀ W, Calls Try.prog 45 #[.slice none 0 0, .int .i64 ((n : Int) + (m : Int))] W fun e w' => ∃ v, e = .returned v ∧ w'.ownsRow W.heap.size 26 2 v 0 [] ∧ Below W.heap.size W w') := fun W => by
    have := grow_any (n + m) W (by omega)
    push_cast at this
    exact this
  have HC := Lib.hid (And.intro c0 c1)
  have hlt1 : ¬ (n : Int) < 0 := by omega
  have hlt2 : ¬ ((n + m : Nat) : Int) < 0 := by omega
  have hlt3 : ¬ (n : Int) + (m : Int) < 0 := by omega
  have hpp : Hid (∀ (v : Value) (W : World), W.ownsRow w.heap.size 26 2 v (n + m) (dcells a ++ dcells b) → W.ownsRow w.heap.size 26 2 v (a ++ b).length (dcells (a ++ b))) := fun v W h => by rw [HNM.out, dcells_app]; exact h
  clear ha hb hn hm hla hlb
  go_enter Try.func40, Try.ntmps40
  go_wp2
  go_loop [3, 5, 11] (fun s _ i => ∃ k : Nat, i = .int .i64 k ∧ k ≤ 2 ∧ (k = 0 ∧ s = .int .i64 0 ∨ k = 1 ∧ s = .int .i64 (n : Int) ∨ k = 2 ∧ s = .int .i64 ((n + m : Nat) : Int))) (fun _ _ i => 2 - (intOf i).toNat)
  case atStart => exact ⟨0, rfl, by omega, Or.inl ⟨rfl, rfl⟩⟩
  case round =>
    obtain ⟨k, rfl, hk, hs⟩ := hrel
    rcases hs with ⟨rfl, rfl⟩ | ⟨rfl, rfl⟩ | ⟨rfl, rfl⟩
    · go_wp2
      go_round
      case rel => exact ⟨1, by go_num, by omega, Or.inr (Or.inl ⟨rfl, by first | rfl | (go_num)⟩)⟩
      case measure => simp [intOf]
    · go_wp2
      go_round
      case rel => exact ⟨2, by go_num, by omega, Or.inr (Or.inr ⟨rfl, by first | rfl | (push_cast; go_num)⟩)⟩
      case measure => simp [intOf]
    · go_wp2_with fail
      (with_reducible refine (HGR.out _).mono ?_)
      rintro e w1 ⟨v0, rfl, hown0, hb1⟩
      obtain ⟨o0, k0, rfl⟩ := own_form hown0
      have HO0 : Hid (w1.ownsRow w.heap.size 26 2 (.slice o0 0 k0) 0 []) := hown0
      have hNA := (Cells.news' HA.out)
      clear hown0 c0 c1
      go_wp2
      go_loopw [6, 8, 27] (fun s _ i wr => ∃ (k : Nat) (so : Option Addr) (sn sc : Nat) (L : List Dot), i = .int .i64 k ∧ s = .slice so sn sc ∧ Hid (wr.ownsRow w.heap.size 26 2 (.slice so sn sc) sn (dcells L)) ∧ Below w.heap.size w wr ∧ (k = 0 ∧ sn = 0 ∧ L = [] ∨ k = 1 ∧ sn = n ∧ L = a ∨ k = 2 ∧ sn = n + m ∧ L = a ++ b)) (fun _ _ i _ => 2 - (intOf i).toNat)
      case atStart => exact ⟨0, o0, 0, k0, [], rfl, rfl, HO0.out, hb1, Or.inl ⟨rfl, rfl, rfl⟩⟩
      case round =>
        obtain ⟨k, so, sn, sc, L, rfl, rfl, HO, hbl, hs⟩ := hrel
        have hz := hbl.size
        have c0 := (hbl.cell (p := ⟨g, 0, none⟩) hg).trans HC.out.1
        have c1 := (hbl.cell (p := ⟨g, 1, none⟩) hg).trans HC.out.2
        rcases hs with ⟨rfl, rfl, rfl⟩ | ⟨rfl, rfl, rfl⟩ | ⟨rfl, rfl, rfl⟩
        · have HNA := Lib.hid (Cells.news' (HA.out.below hbl))
          have HLN : Hid ((dcells a).length = n * 2) := by show _ = _; rw [dcells_len, HN.out]
          go_wp2_with (at_builtin; refine kit.appN (.tmp 31) (.tmp 32) 22 rfl rfl w.heap.size Try.underlying22 infoDot rfl (by decide) (by decide) HO.out rfl (dcells a) rfl HLN.out HNA.out.1 HNA.out.2 dcells_one (by omega) hz ?_)
          intro v5 w5 hown5 hb5
          obtain ⟨o5, k5, rfl⟩ := own_form hown5
          have HO5 : Hid (w5.ownsRow w.heap.size 26 2 (.slice o5 n k5) n (dcells a)) := hown5
          have hb6 := hbl.trans hb5
          clear hown5 hb5
          go_wp2
          go_roundw
          case rel => exact ⟨1, _, _, _, a, by go_num, rfl, HO5, hb6, Or.inr (Or.inl ⟨rfl, rfl, rfl⟩)⟩
          case measure => simp [intOf]
        · have HNB := Lib.hid (Cells.news' (HB.out.below hbl))
          have HLN : Hid ((dcells b).length = m * 2) := by show _ = _; rw [dcells_len, HM.out]
          go_wp2_with (at_builtin; refine kit.appN (.tmp 31) (.tmp 32) 22 rfl rfl w.heap.size Try.underlying22 infoDot rfl (by decide) (by decide) HO.out rfl (dcells b) rfl HLN.out HNB.out.1 HNB.out.2 dcells_one (by omega) hz ?_)
          intro v5 w5 hown5 hb5
          obtain ⟨o5, k5, rfl⟩ := own_form hown5
          have HO5 : Hid (w5.ownsRow w.heap.size 26 2 (.slice o5 (sn + m) k5) (sn + m) (dcells (L ++ b))) := by
            show World.ownsRow _ _ _ _ _ _ _
            rw [dcells_app]
            exact hown5
          have hb6 := hbl.trans hb5
          clear hown5 hb5
          go_wp2
          go_roundw
          case rel => exact ⟨2, _, _, _, _, by go_num, rfl, HO5, hb6, Or.inr (Or.inr ⟨rfl, rfl, rfl⟩)⟩
          case measure => simp [intOf]
        · have HFIN := Lib.hid (hpp.out _ _ (by have := HO.out; rw [dcells_app] at this; exact this))
          go_wp2
          go_ret
          exact ⟨_, rfl, HFIN.out, hbl⟩
end Go.Proofs.Ytdcmoeklldkccaa
