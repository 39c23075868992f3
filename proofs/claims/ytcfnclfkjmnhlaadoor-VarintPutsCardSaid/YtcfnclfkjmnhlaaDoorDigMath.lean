/- Decimal digits are read as the number that they were written for, and the other way round: plainly. -/
import Derived.Test.YtcfnclfkjmnhlaaDoorNumMath
namespace Go.Proofs.YtcfnclfkjmnhlaaDoor.nm

theorem head_app {r : List Nat} (s : List Nat) (h : r ≠ []) : (r ++ s).head? = r.head? := by
  cases r with
  | nil => exact absurd rfl h
  | cons x r => rfl

/-- a number's decimal digits as numbers -/
def dd (u : Nat) : List Nat := (Lib.decDigits u).map UInt8.toNat
theorem dd_lt {u : Nat} (h : u < 10) : dd u = [48 + u] := by
  unfold dd; rw [Lib.decDigits, dif_pos h]
  simp; omega
theorem dd_ge {u : Nat} (h : ¬ u < 10) : dd u = dd (u / 10) ++ [48 + u % 10] := by
  unfold dd; rw [Lib.decDigits, dif_neg h, List.map_append]
  congr 1
  simp; omega
theorem dd_all (u : Nat) : (dd u).all okDigit = true := by
  induction u using Nat.strongRecOn with
  | ind u ih =>
    by_cases h : u < 10
    · rw [dd_lt h]; simp [okDigit]; omega
    · rw [dd_ge h, List.all_append, ih (u / 10) (by omega)]; simp [okDigit]; omega
theorem dd_val (u : Nat) : val (dd u) = u := by
  induction u using Nat.strongRecOn with
  | ind u ih =>
    by_cases h : u < 10
    · rw [dd_lt h]; simp [val]
    · rw [dd_ge h, val_snoc, ih (u / 10) (by omega)]; omega
theorem dd_ne (u : Nat) : dd u ≠ [] := by
  by_cases h : u < 10
  · rw [dd_lt h]; simp
  · rw [dd_ge h]; simp
theorem dd_head (u : Nat) (h0 : 0 < u) : (dd u).head? ≠ some 48 := by
  induction u using Nat.strongRecOn with
  | ind u ih =>
    by_cases h : u < 10
    · rw [dd_lt h]; simp; omega
    · rw [dd_ge h, head_app _ (dd_ne _)]
      exact ih (u / 10) (by omega) (by omega)
theorem dd_len (k : Nat) : ∀ u, u < 10 ^ k → 1 ≤ k → (dd u).length ≤ k := by
  induction k with
  | zero => intro u _ h; omega
  | succ k ih =>
    intro u h _
    by_cases h1 : u < 10
    · rw [dd_lt h1]; simp
    · rw [dd_ge h1]
      have hk : 1 ≤ k := by
        cases k with
        | zero => simp at h; omega
        | succ k => omega
      have h2 : u / 10 < 10 ^ k := by rw [Nat.pow_succ] at h; omega
      have := ih (u / 10) h2 hk
      simp; omega
/-- digits that stand for a number are that number's digits -/
theorem dd_back (l : List Nat) (hn : l ≠ []) (ha : l.all okDigit = true) (hz : ¬ (l.head? = some 48 ∧ 1 < l.length)) : dd (val l) = l := by
  obtain ⟨k, hk⟩ : ∃ k, k = l.length := ⟨_, rfl⟩
  induction k generalizing l with
  | zero => exact absurd (List.eq_nil_of_length_eq_zero hk.symm) hn
  | succ k ih =>
    obtain ⟨r, b, rfl⟩ : ∃ r b, l = r ++ [b] := ⟨l.dropLast, l.getLast hn, (List.dropLast_concat_getLast hn).symm⟩
    simp only [List.all_append, List.all_cons, List.all_nil, Bool.and_true, Bool.and_eq_true] at ha
    have hb := ha.2
    simp only [okDigit, Bool.and_eq_true, decide_eq_true_eq] at hb
    have hl : r.length = k := by simp at hk; omega
    rw [val_snoc]
    by_cases hr : r = []
    · subst hr
      have h1 : (10 * val [] + (b - 48)) < 10 := by simp [val]; omega
      rw [dd_lt h1]; simp [val]; omega
    · have hz' : ¬ (r.head? = some 48 ∧ 1 < r.length) := by
        rintro ⟨h1, h2⟩
        exact hz ⟨by rw [head_app _ hr]; exact h1, by simp; omega⟩
      have hv := ih r hr ha.1 hz' hl.symm
      have h0 : 0 < val r := by
        rcases Nat.eq_zero_or_pos (val r) with h | h
        · rw [h, dd_lt (by omega)] at hv
          exfalso; apply hz
          rw [head_app _ hr, ← hv]
          exact ⟨rfl, by simp⟩
        · exact h
      rw [dd_ge (by omega), show (10 * val r + (b - 48)) / 10 = val r by omega, hv, show (10 * val r + (b - 48)) % 10 = b - 48 by omega]
      congr 2; omega

/-- the digits of a whole number, with its sign -/
def di (n : Int) : List Nat := (Lib.itoa n).map UInt8.toNat
theorem di_neg {n : Int} (h : n < 0) : di n = 45 :: dd n.natAbs := by unfold di dd; rw [Lib.itoa, if_pos h]; rfl
theorem di_nat (n : Nat) : di (n : Int) = dd n := by unfold di dd; rw [Lib.itoa, if_neg (by omega)]; rfl
theorem number_di_neg {n : Int} (h : n < 0) : number (di n) = (0, 3) := by
  refine number_digit ?_
  rw [di_neg h]; simp [okDigit]
theorem form_dd (u : Nat) : ¬ (dd u = [] ∨ ((dd u).head? = some 48 ∧ 1 < (dd u).length)) := by
  rintro (h | ⟨h, h1⟩)
  · exact dd_ne u h
  · by_cases hu : u < 10
    · rw [dd_lt hu] at h1; simp at h1
    · exact dd_head u (by omega) h
theorem number_dd {u : Nat} (h : u ≤ 1099511627776) : number (dd u) = (u, 0) := by
  have h13 : (dd u).length ≤ 13 := dd_len 13 u (by omega) (by omega)
  have := number_ok (form_dd u) (dd_all u) (by omega) (by rw [dd_val]; omega)
  rw [dd_val] at this
  exact this
/-- a text that says a number is that number's digits -/
theorem number_back {l : List Nat} (h : (number l).2 = 0) : di ((number l).1 : Int) = l ∧ (number l).1 ≤ 1099511627776 := by
  by_cases h1 : l = [] ∨ (l.head? = some 48 ∧ 1 < l.length)
  · rw [number_form h1] at h; simp at h
  by_cases h2 : l.all okDigit = true
  · by_cases h3 : 13 < l.length
    · rw [number_long h1 h2 h3] at h; simp at h
    by_cases h4 : 1099511627776 < val l
    · rw [number_great h1 h2 h3 h4] at h; simp at h
    · rw [number_ok h1 h2 h3 h4]
      refine ⟨?_, by omega⟩
      rw [di_nat]
      exact dd_back l (fun e => h1 (Or.inl e)) h2 (fun e => h1 (Or.inr e))
  · rw [number_digit h2] at h; simp at h
theorem number_err (l : List Nat) : (number l).2 = 0 ∨ (number l).2 = 3 ∨ (number l).2 = 4 := by
  unfold number
  split <;> try simp
  split <;> try simp
  split <;> try simp
  split <;> simp
theorem number_none {l : List Nat} (h : (number l).2 ≠ 0) : (number l).1 = 0 := by
  by_cases h1 : l = [] ∨ (l.head? = some 48 ∧ 1 < l.length)
  · rw [number_form h1]
  by_cases h2 : l.all okDigit = true
  · by_cases h3 : 13 < l.length
    · rw [number_long h1 h2 h3]
    by_cases h4 : 1099511627776 < val l
    · rw [number_great h1 h2 h3 h4]
    · rw [number_ok h1 h2 h3 h4] at h; simp at h
  · rw [number_digit h2]
end Go.Proofs.YtcfnclfkjmnhlaaDoor.nm
