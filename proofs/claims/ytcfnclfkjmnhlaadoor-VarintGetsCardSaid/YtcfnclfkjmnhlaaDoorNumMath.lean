/- Decimal digits and numbers, plainly; nothing of the program. -/
import Derived.Test.YtcfnclfkjmnhlaaDoorKit
import Derived.Lib.ItoaNum
import Derived.Lib.ItoaLen
namespace Go.Proofs.YtcfnclfkjmnhlaaDoor.nm

def okDigit (b : Nat) : Bool := 48 ≤ b && b ≤ 57
/-- the number that decimal digits say -/
def val (l : List Nat) : Nat := l.foldl (fun n b => 10 * n + (b - 48)) 0
def number (l : List Nat) : Nat × Nat :=
  if l = [] ∨ (l.head? = some 48 ∧ 1 < l.length) then (0, 3)
  else if ¬ l.all okDigit then (0, 3)
  else if 13 < l.length then (0, 4)
  else if 1099511627776 < val l then (0, 4) else (val l, 0)
theorem val_snoc (l : List Nat) (b : Nat) : val (l ++ [b]) = 10 * val l + (b - 48) := by simp [val]
theorem fold_lt (l : List Nat) : ∀ a, l.all okDigit = true → l.foldl (fun n b => 10 * n + (b - 48)) a < (a + 1) * 10 ^ l.length := by
  induction l with
  | nil => intro a _; simp
  | cons b l ih =>
    intro a h
    simp only [List.all_cons, Bool.and_eq_true] at h
    have hb := h.1
    simp only [okDigit, Bool.and_eq_true, decide_eq_true_eq] at hb
    have h2 := ih (10 * a + (b - 48)) h.2
    simp only [List.foldl_cons, List.length_cons, Nat.pow_succ]
    have h3 : (10 * a + (b - 48) + 1) * 10 ^ l.length ≤ ((a + 1) * 10) * 10 ^ l.length := Nat.mul_le_mul_right _ (by omega)
    have h4 : ((a + 1) * 10) * 10 ^ l.length = (a + 1) * (10 ^ l.length * 10) := by rw [Nat.mul_assoc, Nat.mul_comm 10]
    omega
theorem val_lt (l : List Nat) (h : l.all okDigit = true) : val l < 10 ^ l.length := by
  have := fold_lt l 0 h
  simpa [val] using this

theorem number_form {l : List Nat} (h : l = [] ∨ (l.head? = some 48 ∧ 1 < l.length)) : number l = (0, 3) := by unfold number; rw [if_pos h]
theorem number_digit {l : List Nat} (h : ¬ l.all okDigit = true) : number l = (0, 3) := by
  unfold number
  by_cases h1 : l = [] ∨ (l.head? = some 48 ∧ 1 < l.length)
  · rw [if_pos h1]
  · rw [if_neg h1, if_pos h]
theorem number_long {l : List Nat} (h1 : ¬ (l = [] ∨ (l.head? = some 48 ∧ 1 < l.length))) (h2 : l.all okDigit = true) (h3 : 13 < l.length) : number l = (0, 4) := by
  unfold number; rw [if_neg h1, if_neg (by simp [h2]), if_pos h3]
theorem number_great {l : List Nat} (h1 : ¬ (l = [] ∨ (l.head? = some 48 ∧ 1 < l.length))) (h2 : l.all okDigit = true) (h3 : ¬ 13 < l.length) (h4 : 1099511627776 < val l) : number l = (0, 4) := by
  unfold number; rw [if_neg h1, if_neg (by simp [h2]), if_neg h3, if_pos h4]
theorem number_ok {l : List Nat} (h1 : ¬ (l = [] ∨ (l.head? = some 48 ∧ 1 < l.length))) (h2 : l.all okDigit = true) (h3 : ¬ 13 < l.length) (h4 : ¬ 1099511627776 < val l) : number l = (val l, 0) := by
  unfold number; rw [if_neg h1, if_neg (by simp [h2]), if_neg h3, if_neg h4]
theorem take_snoc (s : ByteArray) (k : Nat) (h : k < s.size) : (kit.bytes s).take (k + 1) = (kit.bytes s).take k ++ [s[k].toNat] := by
  rw [List.take_add_one, kit.bytes_get s k h]; rfl
theorem all_take (s : ByteArray) (k : Nat) (h : k < s.size) (ha : ((kit.bytes s).take k).all okDigit = true) (h1 : 48 ≤ s[k].toNat) (h2 : s[k].toNat ≤ 57) : ((kit.bytes s).take (k + 1)).all okDigit = true := by
  rw [take_snoc s k h, List.all_append, ha]; simp [okDigit, h1, h2]
theorem all_not (s : ByteArray) (k : Nat) (h : k < s.size) (h1 : s[k].toNat < 48 ∨ 57 < s[k].toNat) : ¬ (kit.bytes s).all okDigit = true := by
  intro ha
  have := List.all_eq_true.1 ha s[k].toNat (List.mem_of_getElem? (kit.bytes_get s k h))
  simp [okDigit] at this; omega
theorem digit_at (s : ByteArray) (k : Nat) (h : k < s.size) (ha : (kit.bytes s).all okDigit = true) : 48 ≤ s[k].toNat ∧ s[k].toNat ≤ 57 := by
  have := List.all_eq_true.1 ha s[k].toNat (List.mem_of_getElem? (kit.bytes_get s k h))
  simpa [okDigit] using this
theorem val_take_lt (s : ByteArray) (k : Nat) (h : k ≤ 13) (ha : (kit.bytes s).all okDigit = true) : val ((kit.bytes s).take k) < 10000000000000 := by
  have h1 := val_lt ((kit.bytes s).take k) (by rw [List.all_eq_true] at ha ⊢; exact fun x hx => ha x (List.mem_of_mem_take hx))
  have h2 : ((kit.bytes s).take k).length ≤ 13 := by simp; omega
  exact Nat.lt_of_lt_of_le h1 (Nat.le_trans (Nat.pow_le_pow_right (by omega) h2) (by decide))
theorem val_take (s : ByteArray) (k : Nat) (h : k < s.size) : val ((kit.bytes s).take (k + 1)) = 10 * val ((kit.bytes s).take k) + (s[k].toNat - 48) := by
  rw [take_snoc s k h, val_snoc]
end Go.Proofs.YtcfnclfkjmnhlaaDoor.nm
