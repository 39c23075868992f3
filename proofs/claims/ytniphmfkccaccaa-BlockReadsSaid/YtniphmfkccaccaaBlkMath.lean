/- Plain facts on blocks: the bytes and the skips of rising numbers; nothing of the program. -/
import Derived.Test.YtniphmfkccaccaaPutMath
namespace Go.Proofs.Ytniphmfkccaccaa.bm

/-- the numbers from 0 on, each above the one ahead, as far as k -/
def Rise (l : List Int) (k : Nat) : Prop := ∀ j, j < k → 0 ≤ l.getD j 0 ∧ l.getD j 0 ≤ 1099511627776 ∧ (0 < j → l.getD (j - 1) 0 < l.getD j 0)
instance (l : List Int) (k : Nat) : Decidable (Rise l k) := inferInstanceAs (Decidable (∀ j, j < k → 0 ≤ l.getD j 0 ∧ l.getD j 0 ≤ 1099511627776 ∧ (0 < j → l.getD (j - 1) 0 < l.getD j 0)))
theorem rise_zero (l : List Int) : Rise l 0 := fun _ h => absurd h (Nat.not_lt_zero _)
theorem rise_succ {l : List Int} {k : Nat} (h : Rise l k) (h0 : 0 ≤ l.getD k 0) (h1 : l.getD k 0 ≤ 1099511627776) (h2 : 0 < k → l.getD (k - 1) 0 < l.getD k 0) : Rise l (k + 1) := by
  intro j hj
  by_cases e : j = k
  · subst e; exact ⟨h0, h1, h2⟩
  · exact h j (by omega)
theorem rise_le {l : List Int} {k k' : Nat} (h : Rise l k') (hk : k ≤ k') : Rise l k := fun j hj => h j (by omega)
/-- how far the k-th number is behind the one ahead -/
def gap (l : List Int) (k : Nat) : Nat := (l.getD k 0 - l.getD (k - 1) 0 - 1).toNat
/-- the bytes of the first k numbers -/
def dat (l : List Int) : Nat → List Nat
  | 0 => []
  | k + 1 => if k % 16 = 0 then dat l k else dat l k ++ vm.enc (gap l k)
/-- the skips of the first k numbers -/
def skp (l : List Int) : Nat → List (Int × Int)
  | 0 => []
  | k + 1 => if k % 16 = 0 then skp l k ++ [(l.getD k 0, ((dat l k).length : Int))] else skp l k
theorem gap_le {l : List Int} {k : Nat} (h : Rise l (k + 1)) (h0 : 0 < k) : gap l k ≤ 1099511627776 ∧ ((gap l k : Nat) : Int) = l.getD k 0 - l.getD (k - 1) 0 - 1 := by
  have a := h k (by omega)
  have b := h (k - 1) (by omega)
  unfold gap
  have := a.2.2 h0
  omega
theorem dat_head {l : List Int} {k : Nat} (h : k % 16 = 0) : dat l (k + 1) = dat l k := by rw [dat, if_pos h]
theorem dat_next {l : List Int} {k : Nat} (h : ¬ k % 16 = 0) : dat l (k + 1) = dat l k ++ vm.enc (gap l k) := by rw [dat, if_neg h]
theorem skp_head {l : List Int} {k : Nat} (h : k % 16 = 0) : skp l (k + 1) = skp l k ++ [(l.getD k 0, ((dat l k).length : Int))] := by rw [skp, if_pos h]
theorem skp_next {l : List Int} {k : Nat} (h : ¬ k % 16 = 0) : skp l (k + 1) = skp l k := by rw [skp, if_neg h]
theorem skp_len (l : List Int) : ∀ k, (skp l k).length = (k + 15) / 16 := by
  intro k
  induction k with
  | zero => rfl
  | succ k ih =>
    by_cases h : k % 16 = 0
    · rw [skp_head h, List.length_append, ih, List.length_singleton]; omega
    · rw [skp_next h, ih]; omega
theorem dat_len {l : List Int} : ∀ {k : Nat}, Rise l k → (dat l k).length ≤ 6 * k := by
  intro k
  induction k with
  | zero => intro _; exact Nat.le_refl _
  | succ k ih =>
    intro h
    have h1 := ih (rise_le h (by omega))
    by_cases e : k % 16 = 0
    · rw [dat_head e]; omega
    · rw [dat_next e, List.length_append]
      have := vm.enc_six (gap_le h (by omega)).1
      omega
theorem dat_byte (l : List Int) : ∀ k, ∀ x ∈ dat l k, x < 256 := by
  intro k
  induction k with
  | zero => intro x hx; cases hx
  | succ k ih =>
    intro x hx
    by_cases e : k % 16 = 0
    · rw [dat_head e] at hx; exact ih x hx
    · rw [dat_next e] at hx
      rcases List.mem_append.1 hx with h | h
      · exact ih x h
      · exact vm.enc_byte _ x h
/-- what laying numbers says: why not, how many, the bytes, the skips -/
def code (l : List Int) : Int := if 4000 < l.length then 4 else if Rise l l.length then 0 else 1
def cnt (l : List Int) : Int := if code l = 0 then (l.length : Int) else 0
def dats (l : List Int) : List Nat := if code l = 0 then dat l l.length else []
def skps (l : List Int) : List (Int × Int) := if code l = 0 then skp l l.length else []
theorem said_long {l : List Int} (h : 4000 < l.length) : code l = 4 ∧ cnt l = 0 ∧ dats l = [] ∧ skps l = [] := by
  have : code l = 4 := by unfold code; rw [if_pos h]
  unfold cnt dats skps
  rw [this]; exact ⟨rfl, rfl, rfl, rfl⟩
theorem said_bad {l : List Int} (h : l.length ≤ 4000) (hr : ¬ Rise l l.length) : code l = 1 ∧ cnt l = 0 ∧ dats l = [] ∧ skps l = [] := by
  have : code l = 1 := by unfold code; rw [if_neg (by omega), if_neg hr]
  unfold cnt dats skps
  rw [this]; exact ⟨rfl, rfl, rfl, rfl⟩
theorem said_good {l : List Int} (h : l.length ≤ 4000) (hr : Rise l l.length) : code l = 0 ∧ cnt l = (l.length : Int) ∧ dats l = dat l l.length ∧ skps l = skp l l.length := by
  have : code l = 0 := by unfold code; rw [if_neg (by omega), if_pos hr]
  unfold cnt dats skps
  rw [this]; exact ⟨rfl, rfl, rfl, rfl⟩
theorem rise_not {l : List Int} {k : Nat} (hk : k < l.length) (h : l.getD k 0 < 0 ∨ 1099511627776 < l.getD k 0 ∨ (0 < k ∧ l.getD k 0 ≤ l.getD (k - 1) 0)) : ¬ Rise l l.length := by
  intro hr
  have := hr k hk
  rcases h with h | h | ⟨h0, h⟩
  · omega
  · omega
  · have := this.2.2 h0; omega

end Go.Proofs.Ytniphmfkccaccaa.bm
