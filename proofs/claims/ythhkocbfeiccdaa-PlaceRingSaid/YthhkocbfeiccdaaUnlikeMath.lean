/- What is to be known of replicas: plainly. -/
import Derived.Test.YthhkocbfeiccdaaLawNodes
namespace Go.Proofs.Ythhkocbfeiccdaa
open Go.RowKit Go.ChangeShapes at_

/-- the replicas as natural numbers; what is asked of them, over all configs -/
def repsN (n c gr : Nat) : List Nat := (List.range c).map fun i => (gr + i) % n
def fine (n c gr : Nat) : Bool := (repsN n c gr).length == c && (repsN n c gr).all (fun x => decide (x < n)) && decide ((repsN n c gr).Nodup) && (((List.range n).filter fun k => (repsN n c gr).contains k).length == c) && !((repsN n c gr).contains n)
theorem fine_all : ∀ n : Fin 17, ∀ c : Fin 17, ∀ gr : Fin 8, 1 ≤ c.val → c.val ≤ n.val → fine n.val c.val gr.val = true := by decide +kernel
theorem reps_nat (n c gr : Nat) : reps (n : Int) (c : Int) (gr : Int) = (repsN n c gr).map fun x : Nat => (x : Int) := by
  simp only [reps, repsN, List.map_map, Int.toNat_natCast]
  apply List.map_congr_left
  intro i _
  simp
theorem has_nat (l : List Nat) (k : Nat) : hasB (l.map fun x : Nat => (x : Int)) (k : Int) = l.contains k := by
  unfold hasB
  rw [Bool.eq_iff_iff, List.contains_iff_mem, List.contains_iff_mem, List.mem_map]
  constructor
  · rintro ⟨x, hx, e⟩
    obtain rfl : x = k := by omega
    exact hx
  · exact fun h => ⟨k, h, rfl⟩
/-- how many of the first k nodes keep -/
def cnt (zs : List Int) (k : Nat) : Nat := ((List.range k).filter fun j : Nat => hasB zs (j : Int)).length
theorem cnt_le (zs : List Int) (k : Nat) : cnt zs k ≤ k := by
  have := List.length_filter_le (fun j : Nat => hasB zs (j : Int)) (List.range k)
  simpa [cnt] using this
theorem cnt_yes {zs : List Int} {k : Nat} (h : hasB zs (k : Int) = true) : cnt zs (k + 1) = cnt zs k + 1 := by
  simp [cnt, List.range_succ, List.filter_append, h]
theorem cnt_no {zs : List Int} {k : Nat} (h : hasB zs (k : Int) = false) : cnt zs (k + 1) = cnt zs k := by
  simp [cnt, List.range_succ, List.filter_append, h]

theorem unlike_facts {n g c l gr : Int} (h : okC n g c l) (h1 : 0 ≤ gr) (h2 : gr < g) (zs : List Int) (hz : zs = reps n c gr) :
    (zs.length : Int) = c ∧ (∀ j, j < zs.length → 0 ≤ zs.getD j 0 ∧ zs.getD j 0 < n) ∧ (∀ i j, i < j → j < zs.length → zs.getD i 0 ≠ zs.getD j 0) ∧ (cnt zs n.toNat : Int) = c ∧ hasB zs n = false := by
  obtain ⟨a1, a2, a3, a4, a5, a6, _, _⟩ := h
  obtain ⟨N, rfl⟩ : ∃ k : Nat, n = (k : Int) := ⟨n.toNat, by omega⟩
  obtain ⟨C, rfl⟩ : ∃ k : Nat, c = (k : Int) := ⟨c.toNat, by omega⟩
  obtain ⟨G, rfl⟩ : ∃ k : Nat, gr = (k : Int) := ⟨gr.toNat, by omega⟩
  have hf := fine_all ⟨N, by omega⟩ ⟨C, by omega⟩ ⟨G, by omega⟩ (by simp only; omega) (by simp only; omega)
  rw [reps_nat] at hz
  simp only [fine, Bool.and_eq_true, beq_iff_eq, List.all_eq_true, decide_eq_true_eq, Bool.not_eq_true'] at hf
  obtain ⟨⟨⟨⟨f1, f2⟩, f3⟩, f4⟩, f5⟩ := hf
  have hlen : zs.length = (repsN N C G).length := by rw [hz, List.length_map]
  have hget : ∀ j (hj : j < zs.length), zs.getD j 0 = (((repsN N C G)[j]'(by omega) : Nat) : Int) := by
    intro j hj
    have hj2 : j < (repsN N C G).length := by omega
    subst hz
    simp [List.getD, hj2]
  refine ⟨by omega, fun j hj => ?_, fun i j hij hj => ?_, ?_, ?_⟩
  · rw [hget j hj]
    have := f2 _ (List.getElem_mem (l := repsN N C G) (n := j) (by omega))
    omega
  · rw [hget j hj, hget i (by omega)]
    intro e
    have e2 : (repsN N C G)[i]'(by omega) = (repsN N C G)[j]'(by omega) := by omega
    exact (List.pairwise_iff_getElem.1 f3) i j (by omega) (by omega) hij e2
  · have : cnt zs N = C := by
      unfold cnt
      rw [hz]
      simp only [has_nat]
      exact f4
    rw [Int.toNat_natCast, this]
  · rw [hz, has_nat]; exact f5
end Go.Proofs.Ythhkocbfeiccdaa
