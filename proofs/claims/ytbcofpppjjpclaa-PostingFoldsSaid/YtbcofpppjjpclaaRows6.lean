/- The law's own right: lists of lists. -/
import Derived.Test.YtbcofpppjjpclaaHas
import Derived.Test.YtbcofpppjjpclaaRefMinus
namespace Go.Proofs.Ytbcofpppjjpclaa
open Go.RowKit Go.ChangeShapes at_ pm

def rowsOk (ls : List (List Int)) : Bool := (ls.all fun l => decide (l.length ≤ 2000) && rightOf l) && decide (ls.length ≤ 30)
/-- v is a slice of slices that hold ls -/
def LRows (w : World) (B : Nat) (v : Value) (ls : List (List Int)) : Prop :=
  ∃ (ao : Option Addr) (cap : Nat), v = .slice ao ls.length cap ∧ ((ao = none → cap = 0) ∧ ls.length ≤ cap) ∧ ls.length ≤ maxLen ∧
    (0 < ls.length → ∃ b off, ao = some ⟨b, off, none⟩ ∧ b < B ∧ ∀ j, j < ls.length → ∃ x, w.cell? ⟨b, off + j, none⟩ = some x ∧ At w B x (ls.getD j []))
theorem LRows.below {w w' : World} {B : Nat} {v : Value} {ls : List (List Int)} (h : LRows w B v ls) (hb : Below B w w') : LRows w' B v ls := by
  obtain ⟨ao, cap, rfl, h1, h3, h2⟩ := h
  refine ⟨ao, cap, rfl, h1, h3, fun hp => ?_⟩
  obtain ⟨b, off, e, hB, hc⟩ := h2 hp
  refine ⟨b, off, e, hB, fun j hj => ?_⟩
  obtain ⟨x, h4, h5⟩ := hc j hj
  exact ⟨x, by rw [hb.cell (p := ⟨b, off + j, none⟩) hB]; exact h4, h5.below hb⟩
theorem LRows.mono {w : World} {B B' : Nat} {v : Value} {ls : List (List Int)} (h : LRows w B v ls) (hb : B ≤ B') : LRows w B' v ls := by
  obtain ⟨ao, cap, rfl, h1, h3, h2⟩ := h
  refine ⟨ao, cap, rfl, h1, h3, fun hp => ?_⟩
  obtain ⟨b, off, e, hB, hc⟩ := h2 hp
  refine ⟨b, off, e, by omega, fun j hj => ?_⟩
  obtain ⟨x, h4, h5⟩ := hc j hj
  exact ⟨x, h4, h5.mono hb⟩
theorem rowsOk_no {ls : List (List Int)} {k : Nat} (hk : k < ls.length) (h : (decide ((ls.getD k []).length ≤ 2000) && rightOf (ls.getD k [])) = false) : rowsOk ls = false := by
  rw [← Bool.not_eq_true]
  intro h2
  have h3 := List.all_eq_true.1 (Bool.and_eq_true_iff.1 h2).1 (ls.getD k []) (by simp [List.getD, hk])
  rw [h] at h3
  cases h3
theorem rowsOk_yes {ls : List (List Int)} (h : ∀ k, k < ls.length → (ls.getD k []).length ≤ 2000 ∧ rightOf (ls.getD k []) = true) : rowsOk ls = decide (ls.length ≤ 30) := by
  have h3 : (ls.all fun l => decide (l.length ≤ 2000) && rightOf l) = true := by
    refine List.all_eq_true.2 fun l hl => ?_
    obtain ⟨k, hk, rfl⟩ := List.getElem_of_mem hl
    have := h k hk
    simp only [List.getD, List.getElem?_eq_getElem hk, Option.getD_some] at this
    simp [this.1, this.2]
  unfold rowsOk
  rw [h3, Bool.true_and]
theorem rowsOk_get {ls : List (List Int)} (h : rowsOk ls = true) {l : List Int} (hl : l ∈ ls) : l.length ≤ 2000 ∧ rightOf l = true := by
  have h3 := List.all_eq_true.1 (Bool.and_eq_true_iff.1 h).1 l hl
  simpa using h3

set_option maxHeartbeats 1600000 in
set_option maxRecDepth 100000 in
theorem right_any (ls : List (List Int)) (v : Value) (w : World) (ha : LRows w w.heap.size v ls) :
    Calls Try.prog 12 #[v] w (Said (rowsOk ls) w) := by
  obtain ⟨ao, ca, rfl, _, hla, hca⟩ := ha
  unfold maxLen at hla
  have KA := Lib.hid hca; clear hca
  go_enter Try.func12, Try.ntmps12
  go_wp2
  go_loopw [7, 19] (fun i _ wr => ∃ k : Nat, i = .int .i64 k ∧ k ≤ ls.length ∧ Hid (∀ j, j < k → (ls.getD j []).length ≤ 2000 ∧ rightOf (ls.getD j []) = true) ∧ Below w.heap.size w wr) (fun i _ _ => ls.length - (intOf i).toNat)
  case atStart => exact ⟨0, rfl, by omega, (fun j hj => absurd hj (Nat.not_lt_zero _)), Below.refl _ _⟩
  case round =>
    obtain ⟨k, rfl, hk, HT, hbl⟩ := hrel
    by_cases hlt : k < ls.length
    · obtain ⟨ba, oa, hao, hBa, hcell⟩ := KA.out (by omega)
      subst hao
      obtain ⟨x, hx, hA⟩ := hcell k hlt
      obtain ⟨l, hl⟩ : ∃ l, l = ls.getD k [] := ⟨_, rfl⟩
      rw [← hl] at hA
      have HL := Lib.hid hl
      have HA := Lib.hid ((hA.below hbl).mono hbl.size)
      have c1 : wr.cell? ⟨ba, oa + k, none⟩ = some x := (hbl.cell (p := ⟨ba, _, none⟩) hBa).trans hx
      have hkI : (k : Int) < (ls.length : Int) := by omega
      obtain ⟨a1, cc, rfl, _, hmx, _⟩ := hA
      unfold maxLen at hmx
      clear hx hcell hl
      by_cases h1 : 2000 < l.length
      · have HE : Hid (rowsOk ls = false) := rowsOk_no hlt (by rw [← HL.out, decide_eq_false (by omega)]; rfl)
        have h1I : (2000 : Int) < (l.length : Int) := by omega
        go_wp2
        go_ret
        rw [HE.out]; exact ⟨rfl, hbl⟩
      · have h1I : ¬ (2000 : Int) < (l.length : Int) := by omega
        have H := rright_any l _ wr HA.out
        cases hr : rightOf l with
        | false =>
          rw [hr] at H
          have HE : Hid (rowsOk ls = false) := rowsOk_no hlt (by rw [← HL.out, hr, Bool.and_false])
          go_wp2_with fail
          refine H.mono ?_
          rintro e w1 ⟨rfl, hb1⟩
          go_wp2
          go_ret
          rw [HE.out]; exact ⟨rfl, hbl.trans (hb1.mono hbl.size)⟩
        | true =>
          rw [hr] at H
          have HT' : Hid (∀ j, j < k + 1 → (ls.getD j []).length ≤ 2000 ∧ rightOf (ls.getD j []) = true) := fun j hj => by
            by_cases e : j = k
            · rw [e, ← HL.out]; exact ⟨by omega, hr⟩
            · exact HT.out j (by omega)
          go_wp2_with fail
          refine H.mono ?_
          rintro e w1 ⟨rfl, hb1⟩
          have hbl1 := hbl.trans (hb1.mono hbl.size)
          go_wp2
          go_roundw
          case rel => exact ⟨k + 1, by go_num, by omega, HT', hbl1⟩
          case measure => simp [intOf]; omega
    · have HE : Hid (rowsOk ls = decide (ls.length ≤ 30)) := rowsOk_yes fun j hj => HT.out j (by omega)
      by_cases h30 : ls.length ≤ 30
      · have h30I : (ls.length : Int) ≤ 30 := by omega
        have HE : Hid (rowsOk ls = true) := HE.out.trans (decide_eq_true h30)
        go_wp2
        go_ret
        rw [HE.out]; exact ⟨rfl, hbl⟩
      · have h30I : ¬ (ls.length : Int) ≤ 30 := by omega
        have HE : Hid (rowsOk ls = false) := HE.out.trans (decide_eq_false h30)
        go_wp2
        go_ret
        rw [HE.out]; exact ⟨rfl, hbl⟩
end Go.Proofs.Ytbcofpppjjpclaa
