/- Right: whether a list is a rising one of numbers, by contract (the program's and the document's). -/
import Derived.Test.YtojngbobecdpeaaBoth
namespace Go.Proofs.Ytojngbobecdpeaa
open Go.RowKit Go.ChangeShapes at_ pm

def okAt (l : List Int) (i : Nat) : Bool := decide (0 ≤ l.getD i 0) && decide (l.getD i 0 ≤ 1099511627776) && (decide (i = 0) || decide (l.getD (i - 1) 0 < l.getD i 0))
def rightOf (l : List Int) : Bool := (List.range l.length).all (okAt l)
theorem right_no {l : List Int} {i : Nat} (hi : i < l.length) (h : okAt l i = false) : rightOf l = false := by
  rw [← Bool.not_eq_true]
  intro h2
  rw [List.all_eq_true.1 h2 i (List.mem_range.2 hi)] at h
  cases h
theorem right_yes {l : List Int} (h : ∀ i, i < l.length → okAt l i = true) : rightOf l = true := List.all_eq_true.2 fun i hi => h i (List.mem_range.1 hi)
theorem ok_at {l : List Int} (h : rightOf l = true) {i : Nat} (hi : i < l.length) : okAt l i = true := List.all_eq_true.1 h i (List.mem_range.2 hi)
theorem right_bound {l : List Int} (h : rightOf l = true) {i : Nat} (hi : i < l.length) : 0 ≤ l.getD i 0 ∧ l.getD i 0 ≤ 1099511627776 := by
  have := ok_at h hi
  simp only [okAt, Bool.and_eq_true, decide_eq_true_eq] at this
  exact this.1
theorem right_step {l : List Int} (h : rightOf l = true) {i : Nat} (hi : i + 1 < l.length) : l.getD i 0 < l.getD (i + 1) 0 := by
  have := ok_at h hi
  simp only [okAt, Bool.and_eq_true, Bool.or_eq_true, decide_eq_true_eq] at this
  rcases this.2 with e | e
  · omega
  · exact e
theorem right_inc {l : List Int} (h : rightOf l = true) : Inc l := by
  refine List.pairwise_iff_getElem.2 fun i j hi hj hij => ?_
  have key : ∀ d i, i + d + 1 < l.length → l.getD i 0 < l.getD (i + d + 1) 0 := by
    intro d
    induction d with
    | zero => intro i hi; exact right_step h hi
    | succ d ih =>
      intro i hi
      have h1 := ih i (by omega)
      have h2 := right_step h (i := i + d + 1) hi
      rw [show i + (d + 1) + 1 = i + d + 1 + 1 by omega]
      omega
  have := key (j - i - 1) i (by omega)
  rw [show i + (j - i - 1) + 1 = j by omega] at this
  simpa [List.getD, hi, hj] using this
theorem inc_right {l : List Int} (h : Inc l) (hb : ∀ x ∈ l, 0 ≤ x ∧ x ≤ 1099511627776) : rightOf l = true := by
  refine right_yes fun i hi => ?_
  have h1 := hb _ (mem_get hi)
  simp only [okAt, Bool.and_eq_true, Bool.or_eq_true, decide_eq_true_eq]
  refine ⟨h1, ?_⟩
  by_cases h0 : i = 0
  · exact Or.inl h0
  · exact Or.inr (inc_get h (by omega) hi)
theorem right_mem {l : List Int} (h : rightOf l = true) : ∀ x ∈ l, 0 ≤ x ∧ x ≤ 1099511627776 := by
  intro x hx
  obtain ⟨j, hj, rfl⟩ := get_mem hx
  exact right_bound h hj

set_option maxHeartbeats 1600000 in
set_option maxRecDepth 100000 in
theorem pright_any (l : List Int) (va : Value) (w : World) (ha : At w w.heap.size va l) :
    Calls Try.prog 26 #[va] w (Said (rightOf l) w) := by
  obtain ⟨ao, ca, rfl, _, hla, hca⟩ := ha
  unfold maxLen at hla
  have KA := Lib.hid hca; clear hca
  go_enter Try.func26, Try.ntmps26
  go_wp2
  go_loopw [7, 31] (fun i _ wr => ∃ k : Nat, i = .int .i64 k ∧ k ≤ l.length ∧ Hid (∀ j, j < k → okAt l j = true) ∧ Below w.heap.size w wr) (fun i _ _ => l.length - (intOf i).toNat)
  case atStart => exact ⟨0, rfl, by omega, (fun j hj => absurd hj (Nat.not_lt_zero _)), Below.refl _ _⟩
  case round =>
    obtain ⟨k, rfl, hk, HT, hbl⟩ := hrel
    by_cases hlt : k < l.length
    · obtain ⟨ba, oa, hao, hBa, hcell⟩ := KA.out (by omega)
      subst hao
      have c1 : wr.cell? ⟨ba, oa + k, none⟩ = some (.int .i64 (l.getD k 0)) := (hbl.cell (p := ⟨ba, _, none⟩) hBa).trans (hcell k hlt)
      have hkI : (k : Int) < (l.length : Int) := by omega
      obtain ⟨x, hx⟩ : ∃ x, x = l.getD k 0 := ⟨_, rfl⟩
      by_cases h1 : x < 0
      · have HE : Hid (rightOf l = false) := right_no hlt (by simp only [okAt]; rw [← hx, decide_eq_false (show ¬ 0 ≤ x by omega)]; rfl)
        rw [← hx] at c1
        clear hx hcell
        go_wp2
        go_ret
        rw [HE.out]; exact ⟨rfl, hbl⟩
      · by_cases h2 : 1099511627776 < x
        · have HE : Hid (rightOf l = false) := right_no hlt (by simp only [okAt]; rw [← hx, decide_eq_false (show ¬ x ≤ 1099511627776 by omega), Bool.and_false]; rfl)
          rw [← hx] at c1
          clear hx hcell
          go_wp2
          go_ret
          rw [HE.out]; exact ⟨rfl, hbl⟩
        · by_cases h0 : k = 0
          · have HN : Hid (∀ j, j < 1 → okAt l j = true) := fun j hj => by
              obtain rfl : j = 0 := by omega
              subst h0
              simp only [okAt]; rw [← hx, decide_eq_true (show 0 ≤ x by omega), decide_eq_true (show x ≤ 1099511627776 by omega)]; rfl
            rw [← hx] at c1
            subst h0
            have c1 : wr.cell? ⟨ba, oa, none⟩ = some (.int .i64 x) := c1
            clear hx hcell
            go_wp2
            go_roundw
            case rel => exact ⟨1, by go_num, by omega, HN, hbl⟩
            case measure => simp [intOf]; omega
          · obtain ⟨m, rfl⟩ : ∃ m, k = m + 1 := ⟨k - 1, by omega⟩
            have c2 : wr.cell? ⟨ba, oa + m, none⟩ = some (.int .i64 (l.getD m 0)) := (hbl.cell (p := ⟨ba, _, none⟩) hBa).trans (hcell m (by omega))
            obtain ⟨y, hy⟩ : ∃ y, y = l.getD m 0 := ⟨_, rfl⟩
            have hm1 : ((m + 1 : Nat) : Int) - 1 = (m : Int) := by omega
            have hmp : (0 : Int) < ((m + 1 : Nat) : Int) := by omega
            by_cases h3 : y < x
            · have HN : Hid (∀ j, j < m + 1 + 1 → okAt l j = true) := fun j hj => by
                by_cases hjm : j < m + 1
                · exact HT.out j hjm
                · obtain rfl : j = m + 1 := by omega
                  simp only [okAt]; rw [Nat.add_sub_cancel, ← hx, ← hy, decide_eq_true (show 0 ≤ x by omega), decide_eq_true (show x ≤ 1099511627776 by omega), decide_eq_true h3, Bool.or_true]; rfl
              rw [← hx] at c1
              rw [← hy] at c2
              clear hx hy hcell
              go_wp2
              go_roundw
              case rel => exact ⟨m + 1 + 1, by go_num, by omega, HN, hbl⟩
              case measure => simp [intOf]; omega
            · have HE : Hid (rightOf l = false) := right_no hlt (by simp only [okAt]; rw [Nat.add_sub_cancel, ← hx, ← hy, decide_eq_false h3, decide_eq_false (show ¬ m + 1 = 0 by omega), Bool.or_false, Bool.and_false])
              rw [← hx] at c1
              rw [← hy] at c2
              clear hx hy hcell
              go_wp2
              go_ret
              rw [HE.out]; exact ⟨rfl, hbl⟩
    · have HE : Hid (rightOf l = true) := right_yes fun j hj => HT.out j (by omega)
      go_wp2
      go_ret
      rw [HE.out]; exact ⟨rfl, hbl⟩
set_option maxHeartbeats 1600000 in
set_option maxRecDepth 100000 in
theorem rright_any (l : List Int) (va : Value) (w : World) (ha : At w w.heap.size va l) :
    Calls Try.prog 51 #[va] w (Said (rightOf l) w) := by
  obtain ⟨ao, ca, rfl, _, hla, hca⟩ := ha
  unfold maxLen at hla
  have KA := Lib.hid hca; clear hca
  go_enter Try.func51, Try.ntmps51
  go_wp2
  go_loopw [7, 31] (fun i _ wr => ∃ k : Nat, i = .int .i64 k ∧ k ≤ l.length ∧ Hid (∀ j, j < k → okAt l j = true) ∧ Below w.heap.size w wr) (fun i _ _ => l.length - (intOf i).toNat)
  case atStart => exact ⟨0, rfl, by omega, (fun j hj => absurd hj (Nat.not_lt_zero _)), Below.refl _ _⟩
  case round =>
    obtain ⟨k, rfl, hk, HT, hbl⟩ := hrel
    by_cases hlt : k < l.length
    · obtain ⟨ba, oa, hao, hBa, hcell⟩ := KA.out (by omega)
      subst hao
      have c1 : wr.cell? ⟨ba, oa + k, none⟩ = some (.int .i64 (l.getD k 0)) := (hbl.cell (p := ⟨ba, _, none⟩) hBa).trans (hcell k hlt)
      have hkI : (k : Int) < (l.length : Int) := by omega
      obtain ⟨x, hx⟩ : ∃ x, x = l.getD k 0 := ⟨_, rfl⟩
      by_cases h1 : x < 0
      · have HE : Hid (rightOf l = false) := right_no hlt (by simp only [okAt]; rw [← hx, decide_eq_false (show ¬ 0 ≤ x by omega)]; rfl)
        rw [← hx] at c1
        clear hx hcell
        go_wp2
        go_ret
        rw [HE.out]; exact ⟨rfl, hbl⟩
      · by_cases h2 : 1099511627776 < x
        · have HE : Hid (rightOf l = false) := right_no hlt (by simp only [okAt]; rw [← hx, decide_eq_false (show ¬ x ≤ 1099511627776 by omega), Bool.and_false]; rfl)
          rw [← hx] at c1
          clear hx hcell
          go_wp2
          go_ret
          rw [HE.out]; exact ⟨rfl, hbl⟩
        · by_cases h0 : k = 0
          · have HN : Hid (∀ j, j < 1 → okAt l j = true) := fun j hj => by
              obtain rfl : j = 0 := by omega
              subst h0
              simp only [okAt]; rw [← hx, decide_eq_true (show 0 ≤ x by omega), decide_eq_true (show x ≤ 1099511627776 by omega)]; rfl
            rw [← hx] at c1
            subst h0
            have c1 : wr.cell? ⟨ba, oa, none⟩ = some (.int .i64 x) := c1
            clear hx hcell
            go_wp2
            go_roundw
            case rel => exact ⟨1, by go_num, by omega, HN, hbl⟩
            case measure => simp [intOf]; omega
          · obtain ⟨m, rfl⟩ : ∃ m, k = m + 1 := ⟨k - 1, by omega⟩
            have c2 : wr.cell? ⟨ba, oa + m, none⟩ = some (.int .i64 (l.getD m 0)) := (hbl.cell (p := ⟨ba, _, none⟩) hBa).trans (hcell m (by omega))
            obtain ⟨y, hy⟩ : ∃ y, y = l.getD m 0 := ⟨_, rfl⟩
            have hm1 : ((m + 1 : Nat) : Int) - 1 = (m : Int) := by omega
            have hmp : (0 : Int) < ((m + 1 : Nat) : Int) := by omega
            by_cases h3 : y < x
            · have HN : Hid (∀ j, j < m + 1 + 1 → okAt l j = true) := fun j hj => by
                by_cases hjm : j < m + 1
                · exact HT.out j hjm
                · obtain rfl : j = m + 1 := by omega
                  simp only [okAt]; rw [Nat.add_sub_cancel, ← hx, ← hy, decide_eq_true (show 0 ≤ x by omega), decide_eq_true (show x ≤ 1099511627776 by omega), decide_eq_true h3, Bool.or_true]; rfl
              rw [← hx] at c1
              rw [← hy] at c2
              clear hx hy hcell
              go_wp2
              go_roundw
              case rel => exact ⟨m + 1 + 1, by go_num, by omega, HN, hbl⟩
              case measure => simp [intOf]; omega
            · have HE : Hid (rightOf l = false) := right_no hlt (by simp only [okAt]; rw [Nat.add_sub_cancel, ← hx, ← hy, decide_eq_false h3, decide_eq_false (show ¬ m + 1 = 0 by omega), Bool.or_false, Bool.and_false])
              rw [← hx] at c1
              rw [← hy] at c2
              clear hx hy hcell
              go_wp2
              go_ret
              rw [HE.out]; exact ⟨rfl, hbl⟩
    · have HE : Hid (rightOf l = true) := right_yes fun j hj => HT.out j (by omega)
      go_wp2
      go_ret
      rw [HE.out]; exact ⟨rfl, hbl⟩
end Go.Proofs.Ytojngbobecdpeaa
