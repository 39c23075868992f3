/- The law's ints: whether two lists are the same. -/
import Derived.Test.YtojngbobecdpeaaRows
import Derived.Test.YtojngbobecdpeaaAt
namespace Go.Proofs.Ytojngbobecdpeaa
open Go.RowKit Go.ChangeShapes at_

def Said (x : Bool) (w : World) (e : Ending) (w' : World) : Prop := e = .returned (.bool x) ∧ Below w.heap.size w w'

theorem getD_ne {a b : List Int} {k : Nat} (h : a.getD k 0 ≠ b.getD k 0) : decide (a = b) = false := decide_eq_false (fun e => h (by rw [e]))
theorem take_eq {a b : List Int} {k : Nat} (hl : a.length = b.length) (hk : k < a.length) (h : a.take k = b.take k) (he : a.getD k 0 = b.getD k 0) : a.take (k + 1) = b.take (k + 1) := by
  have hb : k < b.length := by omega
  rw [List.take_succ_eq_append_getElem hk, List.take_succ_eq_append_getElem hb, h]
  simp only [List.getD, List.getElem?_eq_getElem hk, List.getElem?_eq_getElem hb, Option.getD_some] at he
  rw [he]

set_option maxHeartbeats 800000 in
set_option maxRecDepth 100000 in
theorem ints_any (a b : List Int) (va vb : Value) (w : World) (ha : At w w.heap.size va a) (hb : At w w.heap.size vb b) :
    Calls Try.prog 19 #[va, vb] w (Said (decide (a = b)) w) := by
  obtain ⟨ao, ca, rfl, _, hla, hca⟩ := ha
  obtain ⟨bo, cb, rfl, _, hlb, hcb⟩ := hb
  unfold maxLen at hla hlb
  by_cases hl : a.length = b.length
  · by_cases h0 : a.length = 0
    · have h0b : b.length = 0 := by omega
      have HE : Hid (decide (a = b) = true) := by
        rw [List.eq_nil_of_length_eq_zero h0, List.eq_nil_of_length_eq_zero h0b]; rfl
      rw [h0, h0b]
      clear hl h0 h0b hca hcb hla hlb
      go_enter Try.func19, Try.ntmps19
      go_wp2
      go_loop [5, 13] (fun _ i => i = .int .i64 0) (fun _ _ => 0)
      case atStart => rfl
      case round =>
        subst hrel
        go_wp2
        go_ret
        rw [HE.out]; exact ⟨rfl, Below.refl _ _⟩
    · obtain ⟨ba, oa, rfl, hBa, hca⟩ := hca (by omega)
      obtain ⟨bb, ob, rfl, hBb, hcb⟩ := hcb (by omega)
      have HL : Hid (a.length = b.length) := hl
      rw [← hl] at hcb ⊢
      have HCA := Lib.hid hca; clear hca
      have HCB := Lib.hid hcb; clear hcb
      clear hlb h0 hl
      go_enter Try.func19, Try.ntmps19
      go_wp2
      go_loopw [5, 13] (fun _ i wr => ∃ k : Nat, i = .int .i64 k ∧ k ≤ a.length ∧ Hid (a.take k = b.take k) ∧ Below w.heap.size w wr) (fun _ i _ => a.length - (intOf i).toNat)
      case atStart => exact ⟨0, rfl, by omega, rfl, Below.refl _ _⟩
      case round =>
        obtain ⟨k, rfl, hk, HT, hbl⟩ := hrel
        by_cases hlt : k < a.length
        · have c1 : wr.cell? ⟨ba, oa + k, none⟩ = some (.int .i64 (a.getD k 0)) := (hbl.cell (by exact hBa)).trans (HCA.out k hlt)
          have c2 : wr.cell? ⟨bb, ob + k, none⟩ = some (.int .i64 (b.getD k 0)) := (hbl.cell (by exact hBb)).trans (HCB.out k hlt)
          have hkI : (k : Int) < (a.length : Int) := by omega
          by_cases he : a.getD k 0 = b.getD k 0
          · have HT' : Hid (a.take (k + 1) = b.take (k + 1)) := take_eq HL.out hlt HT.out he
            rw [← he] at c2
            obtain ⟨x, hx⟩ : ∃ x, x = a.getD k 0 := ⟨_, rfl⟩
            rw [← hx] at c1 c2
            clear hx he
            go_wp2
            go_quiet (fail)
            go_wp2
            go_roundw
            case rel => exact ⟨k + 1, by go_num, by omega, HT', below_drewN hbl _⟩
            case measure => simp [intOf]; omega
          · have HE : Hid (decide (a = b) = false) := getD_ne he
            obtain ⟨x, hx⟩ : ∃ x, x = a.getD k 0 := ⟨_, rfl⟩
            obtain ⟨y, hy⟩ : ∃ y, y = b.getD k 0 := ⟨_, rfl⟩
            rw [← hx] at c1
            rw [← hy] at c2
            have hne : (x != y) = true := by rw [hx, hy]; simpa using he
            clear hx hy he
            go_wp2
            go_quiet (fail)
            go_wp2
            go_ret
            rw [HE.out]; exact ⟨rfl, below_drewN hbl _⟩
        · have HE : Hid (decide (a = b) = true) := by
            have := HT.out
            rw [List.take_of_length_le (by omega), List.take_of_length_le (by have := HL.out; omega)] at this
            exact decide_eq_true this
          go_wp2
          go_ret
          rw [HE.out]; exact ⟨rfl, hbl⟩
  · have HE : Hid (decide (a = b) = false) := decide_eq_false (fun e => hl (by rw [e]))
    have hne : ((a.length : Int) != (b.length : Int)) = true := by simp; omega
    have hne2 : ((a.length : Int) == (b.length : Int)) = false := by simp; omega
    clear hca hcb hl
    go_enter Try.func19, Try.ntmps19
    go_wp2
    go_ret
    rw [HE.out]; exact ⟨rfl, Below.refl _ _⟩
end Go.Proofs.Ytojngbobecdpeaa
