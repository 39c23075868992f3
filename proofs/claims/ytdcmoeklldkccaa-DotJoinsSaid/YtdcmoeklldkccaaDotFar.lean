/- the law's far. -/
import Derived.Test.YtdcmoeklldkccaaDotBox
import Derived.Test.YtdcmoeklldkccaaDotRef2
namespace Go.Proofs.Ytdcmoeklldkccaa
open Go Go.RowKit Go.ChangeShapes cl Go.Sort

set_option maxHeartbeats 3200000 in
set_option maxRecDepth 100000 in
theorem far_any (n g : Nat) (a1 a2 : Nat → Option Addr) (m1 m2 c1 c2 : Nat → Nat) (R : Bool) (w : World) (hc : ∀ j, j < n → w.cell? ⟨g, j * 2, none⟩ = some (.slice (a1 j) (m1 j) (c1 j)) ∧ w.cell? ⟨g, j * 2 + 1, none⟩ = some (.slice (a2 j) (m2 j) (c2 j)))
    (hg : g < w.heap.size) (hn : n ≤ 10) (hR1 : ∀ j, j < n → 40 < m1 j ∨ 60 < m2 j → R = true) (hR0 : (∀ j, j < n → ¬ (40 < m1 j) ∧ ¬ (60 < m2 j)) → R = false) :
    Calls Try.prog 10 #[.slice (some ⟨g, 0, none⟩) n n] w (Said R w) := by
  have HC := Lib.hid hc
  have H1 := Lib.hid hR1
  have H0 := Lib.hid hR0
  clear hc hR1 hR0
  go_enter Try.func10, Try.ntmps10
  go_wp2
  go_loopw [7, 21] (fun i _ wr => ∃ k : Nat, i = .int .i64 k ∧ k ≤ n ∧ Hid (∀ j, j < k → ¬ (40 < m1 j) ∧ ¬ (60 < m2 j)) ∧ Below w.heap.size w wr) (fun i _ _ => n - (intOf i).toNat)
  case atStart => exact ⟨0, rfl, Nat.zero_le _, fun j hj => absurd hj (Nat.not_lt_zero _), Below.refl _ _⟩
  case round =>
    obtain ⟨k, rfl, hk, HO, D⟩ := hrel
    by_cases hlt : k < n
    · have p0 := (D.cell (p := ⟨g, k * 2, none⟩) hg).trans (HC.out k hlt).1
      have p1 := (D.cell (p := ⟨g, k * 2 + 1, none⟩) hg).trans (HC.out k hlt).2
      have HF := Lib.hid (H1.out k hlt)
      obtain ⟨x1, hx1⟩ : ∃ x, x = a1 k := ⟨_, rfl⟩
      obtain ⟨x2, hx2⟩ : ∃ x, x = a2 k := ⟨_, rfl⟩
      obtain ⟨y1, hy1⟩ : ∃ x, x = m1 k := ⟨_, rfl⟩
      obtain ⟨y2, hy2⟩ : ∃ x, x = m2 k := ⟨_, rfl⟩
      obtain ⟨z1, hz1⟩ : ∃ x, x = c1 k := ⟨_, rfl⟩
      obtain ⟨z2, hz2⟩ : ∃ x, x = c2 k := ⟨_, rfl⟩
      rw [← hx1, ← hy1, ← hz1] at p0
      rw [← hx2, ← hy2, ← hz2] at p1
      rw [← hy1, ← hy2] at HF
      have HY1 := Lib.hid hy1
      have HY2 := Lib.hid hy2
      have hkI : (k : Int) < (n : Int) := by omega
      have D1 : Below w.heap.size w (wr.alloc (.cells #[.slice x1 y1 z1, .slice x2 y2 z2] 24)) := D.trans (ctx_below.mono D.size)
      clear hx1 hx2 hy1 hy2 hz1 hz2
      by_cases h1 : 40 < y1
      · obtain rfl : R = true := HF.out (Or.inl h1)
        have hd : decide ((40 : Int) < (y1 : Int)) = true := decide_eq_true (by omega)
        have hd' : (40 : Int) < (y1 : Int) := by omega
        go_wp2
        go_ret
        exact ⟨rfl, D1⟩
      · have hd : decide ((40 : Int) < (y1 : Int)) = false := decide_eq_false (by omega)
        have hd' : ¬ (40 : Int) < (y1 : Int) := by omega
        by_cases h2 : 60 < y2
        · obtain rfl : R = true := HF.out (Or.inr h2)
          have he : decide ((60 : Int) < (y2 : Int)) = true := decide_eq_true (by omega)
          have he' : (60 : Int) < (y2 : Int) := by omega
          go_wp2
          go_ret
          exact ⟨rfl, D1⟩
        · have he : decide ((60 : Int) < (y2 : Int)) = false := decide_eq_false (by omega)
          have he' : ¬ (60 : Int) < (y2 : Int) := by omega
          have HO2 : Hid (∀ j, j < k + 1 → ¬ (40 < m1 j) ∧ ¬ (60 < m2 j)) := fun j hj => by
            by_cases e : j = k
            · subst e; rw [← HY1.out, ← HY2.out]; exact ⟨h1, h2⟩
            · exact HO.out j (by omega)
          go_wp2
          go_roundw
          case rel => exact ⟨k + 1, by go_num, by omega, HO2, D1⟩
          case measure => simp [intOf]; omega
    · obtain rfl : k = n := by omega
      obtain rfl : R = false := H0.out HO.out
      go_wp2
      go_ret
      exact ⟨rfl, D⟩
end Go.Proofs.Ytdcmoeklldkccaa
