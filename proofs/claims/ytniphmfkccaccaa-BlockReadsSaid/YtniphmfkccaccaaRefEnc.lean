/- the document's Encode by its contract. -/
import Derived.Test.YtniphmfkccaccaaEnc
import Derived.Test.YtniphmfkccaccaaRefPut
namespace Go.Proofs.Ytniphmfkccaccaa
open Go.RowKit Go.ChangeShapes at_

set_option maxHeartbeats 3200000 in
set_option maxRecDepth 100000 in
theorem rising_any (l : List Int) (v : Value) (w : World) (h : At w w.heap.size v l) :
    Calls Try.prog 22 #[v] w fun e w' => e = .returned (.bool (decide (bm.Rise l l.length))) ∧ w = w' := by
  obtain ⟨ao, ca, rfl, _, hla, hca⟩ := h
  unfold maxLen at hla
  obtain ⟨n, hn⟩ : ∃ n, n = l.length := ⟨_, rfl⟩
  have HN := Lib.hid hn
  rw [← hn] at hla hca ⊢
  have HC := Lib.hid hca
  clear hca hn
  obtain ⟨R, hR⟩ : ∃ R, R = decide (bm.Rise l n) := ⟨_, rfl⟩
  have HRD := Lib.hid hR
  rw [← hR]
  clear hR
  have HF : Hid (∀ k, k < n → (l.getD k 0 < 0 ∨ 1099511627776 < l.getD k 0 ∨ (0 < k ∧ l.getD k 0 ≤ l.getD (k - 1) 0)) → R = false) := fun k hk hx => by
    rw [HRD.out]
    refine decide_eq_false ?_
    rw [HN.out]
    exact bm.rise_not (by rw [← HN.out]; exact hk) hx
  go_enter Try.func22, Try.ntmps22
  go_wp2
  go_loop [3, 4, 7] (fun _ _ i => ∃ k : Nat, i = .int .i64 k ∧ k ≤ n ∧ Hid (bm.Rise l k)) (fun _ _ i => n - (intOf i).toNat)
  case atStart => exact ⟨0, rfl, by omega, bm.rise_zero l⟩
  case round =>
    obtain ⟨k, rfl, hk, HR⟩ := hrel
    by_cases hlt : k < n
    · obtain ⟨b, off, rfl, hB, hcell⟩ := HC.out (by omega)
      have HCL := Lib.hid hcell
      clear hcell
      have hkI : (k : Int) < (n : Int) := by omega
      have ck := HCL.out k hlt
      obtain ⟨r, hr⟩ : ∃ r, r = l.getD k 0 := ⟨_, rfl⟩
      rw [← hr] at ck
      have HRR := Lib.hid hr
      clear hr
      by_cases hr0 : r < 0
      · have HE := Lib.hid (HF.out k hlt (by rw [← HRR.out]; exact Or.inl hr0))
        go_wp2
        go_ret
        rw [HE.out]; exact ⟨rfl, rfl⟩
      · by_cases hr1 : 1099511627776 < r
        · have HE := Lib.hid (HF.out k hlt (by rw [← HRR.out]; exact Or.inr (Or.inl hr1)))
          go_wp2
          go_ret
          rw [HE.out]; exact ⟨rfl, rfl⟩
        · by_cases hk0 : k = 0
          · subst hk0
            have HRn : Hid (bm.Rise l (0 + 1)) := bm.rise_succ HR.out (by rw [← HRR.out]; omega) (by rw [← HRR.out]; omega) (fun h => absurd h (by omega))
            have ck0 : w.cell? ⟨b, off, none⟩ = some (.int .i64 r) := ck
            go_wp2
            go_round
            case rel => exact ⟨0 + 1, by go_num, by omega, HRn⟩
            case measure => simp [intOf]; omega
          · obtain ⟨p, rfl⟩ : ∃ p, k = p + 1 := ⟨k - 1, by omega⟩
            have hpl : p < n := by omega
            have hpI : (p : Int) < (n : Int) := by omega
            have cp := HCL.out p hpl
            obtain ⟨q, hq⟩ : ∃ q, q = l.getD p 0 := ⟨_, rfl⟩
            rw [← hq] at cp
            have HQ := Lib.hid hq
            clear hq
            by_cases hrq : r ≤ q
            · have HE := Lib.hid (HF.out (p + 1) hlt (by rw [← HRR.out]; exact Or.inr (Or.inr ⟨by omega, by rw [Nat.add_sub_cancel, ← HQ.out]; exact hrq⟩)))
              go_wp2
              go_ret
              rw [HE.out]; exact ⟨rfl, rfl⟩
            · have HRn : Hid (bm.Rise l (p + 1 + 1)) := bm.rise_succ HR.out (by rw [← HRR.out]; omega) (by rw [← HRR.out]; omega) (fun h => by rw [← HRR.out, Nat.add_sub_cancel, ← HQ.out]; omega)
              go_wp2
              go_round
              case rel => exact ⟨p + 1 + 1, by go_num, by omega, HRn⟩
              case measure => simp [intOf]; omega
    · obtain rfl : k = n := by omega
      have HE : Hid (R = true) := by
        show _ = _
        rw [HRD.out]; exact decide_eq_true HR.out
      go_wp2
      go_ret
      rw [HE.out]; exact ⟨rfl, rfl⟩

/-- the answer's block under way: its own cells, those of the result, and nothing older written -/
def Bx (w wr : World) (c0 c1 c2 : Value) : Prop :=
  (wr.cell? ⟨w.heap.size + 1, 0, none⟩ = some c0 ∧ wr.cell? ⟨w.heap.size + 1, 1, none⟩ = some c1 ∧ wr.cell? ⟨w.heap.size + 1, 2, none⟩ = some c2 ∧ wr.frozen? ⟨w.heap.size + 1, 0, none⟩ = false ∧ wr.frozen? ⟨w.heap.size + 1, 1, none⟩ = false ∧ wr.frozen? ⟨w.heap.size + 1, 2, none⟩ = false) ∧
  (wr.cell? ⟨w.heap.size, 0, none⟩ = some (.int .i64 0) ∧ wr.cell? ⟨w.heap.size, 1, none⟩ = some (.string ⟨#[]⟩) ∧ wr.cell? ⟨w.heap.size, 2, none⟩ = some (.slice none 0 0) ∧ wr.frozen? ⟨w.heap.size, 0, none⟩ = false ∧ wr.frozen? ⟨w.heap.size, 1, none⟩ = false ∧ wr.frozen? ⟨w.heap.size, 2, none⟩ = false) ∧
  w.heap.size + 2 ≤ wr.heap.size ∧ Below w.heap.size w wr
theorem Bx.next {w wr w' : World} {c0 c1 c2 : Value} (h : Bx w wr c0 c1 c2) (hb : Below (w.heap.size + 2) wr w') : Bx w w' c0 c1 c2 := by
  obtain ⟨⟨a0, a1, a2, a3, a4, a5⟩, ⟨b0, b1, b2, b3, b4, b5⟩, hz, hb0⟩ := h
  have k1 : w.heap.size + 1 < w.heap.size + 2 := by omega
  have k0 : w.heap.size < w.heap.size + 2 := by omega
  exact ⟨⟨(hb.cell (p := ⟨_, _, none⟩) k1).trans a0, (hb.cell (p := ⟨_, _, none⟩) k1).trans a1, (hb.cell (p := ⟨_, _, none⟩) k1).trans a2, (hb.frozen (p := ⟨_, _, none⟩) k1).trans a3, (hb.frozen (p := ⟨_, _, none⟩) k1).trans a4, (hb.frozen (p := ⟨_, _, none⟩) k1).trans a5⟩,
    ⟨(hb.cell (p := ⟨_, _, none⟩) k0).trans b0, (hb.cell (p := ⟨_, _, none⟩) k0).trans b1, (hb.cell (p := ⟨_, _, none⟩) k0).trans b2, (hb.frozen (p := ⟨_, _, none⟩) k0).trans b3, (hb.frozen (p := ⟨_, _, none⟩) k0).trans b4, (hb.frozen (p := ⟨_, _, none⟩) k0).trans b5⟩,
    Nat.le_trans hz hb.size, hb0.trans (hb.mono (by omega))⟩
theorem Bx.start (w : World) (c0 c1 c2 : Value) (t t' : TypeId) : Bx w ((w.alloc (.cells #[.int .i64 0, .string ⟨#[]⟩, .slice none 0 0] t)).alloc (.cells #[c0, c1, c2] t')) c0 c1 c2 := by
  have hb1 : Below (w.heap.size + 1) (w.alloc (.cells #[.int .i64 0, .string ⟨#[]⟩, .slice none 0 0] t)) ((w.alloc (.cells #[.int .i64 0, .string ⟨#[]⟩, .slice none 0 0] t)).alloc (.cells #[c0, c1, c2] t')) := (Below.refl _ _).alloc (by rw [World.size_alloc]; omega) _
  have hb : Below w.heap.size w (w.alloc (.cells #[.int .i64 0, .string ⟨#[]⟩, .slice none 0 0] t)) := (Below.refl _ _).alloc (Nat.le_refl _) _
  obtain ⟨q0, q1, q2, f0, f1, f2, _⟩ := cl.three (w := w) (t := t) (by rw [World.size_alloc]; exact hb1)
  obtain ⟨r0, r1, r2, g0, g1, g2, _⟩ := cl.three (w := w.alloc (.cells #[.int .i64 0, .string ⟨#[]⟩, .slice none 0 0] t)) (x := c0) (y := c1) (z := c2) (t := t') (Below.refl _ _)
  rw [World.size_alloc] at r0 r1 r2 g0 g1 g2
  exact ⟨⟨r0, r1, r2, g0, g1, g2⟩, ⟨q0, q1, q2, f0, f1, f2⟩, by rw [World.size_alloc, World.size_alloc]; omega, hb.trans (hb1.mono (by omega))⟩
theorem cell_ne {w : World} {p q : Addr} {u : Value} (h : p ≠ q) : (w.setCell p u).cell? q = w.cell? q := World.cell?_setCell_other w p q u h
end Go.Proofs.Ytniphmfkccaccaa
