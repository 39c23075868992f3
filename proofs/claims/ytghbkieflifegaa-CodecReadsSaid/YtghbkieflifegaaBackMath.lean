/- What is written is read, what is read is what is written, what is cut off is too short: plain facts on bytes; nothing of the program. -/
import Derived.Test.YtghbkieflifegaaGetMath
namespace Go.Proofs.Ytghbkieflifegaa.vm

theorem pow128 (i : Nat) : 2 ^ (7 * (i + 1)) = 128 * 2 ^ (7 * i) := by
  have h := Nat.pow_add 2 7 (7 * i)
  rw [show 7 + 7 * i = 7 * (i + 1) by omega] at h
  exact h.trans (congrArg (· * 2 ^ (7 * i)) (by decide : 2 ^ 7 = 128))

theorem enc_pos' {m : Nat} (h : 0 < m) (r : List Nat) : ¬ (∃ t, enc m ++ r = 0 :: t) ∨ ∃ b, 0 < b ∧ ∃ t, enc m ++ r = b :: t := by
  right
  by_cases h1 : m < 128
  · rw [enc_lt h1]; exact ⟨m, h, r, rfl⟩
  · rw [enc_ge h1]; exact ⟨m % 128 + 128, by omega, enc (m / 128) ++ r, rfl⟩

theorem getL_enc (f : Nat) : ∀ (m i n : Nat) (r : List Nat), (enc m).length ≤ f → i + (enc m).length ≤ 6 → (0 < m ∨ i = 0) → n + m * 2 ^ (7 * i) ≤ 1099511627776 →
    getL (enc m ++ r) i n = (n + m * 2 ^ (7 * i), i + (enc m).length, 0) := by
  induction f with
  | zero => intro m i n r h; have := enc_pos m; omega
  | succ f ih =>
    intro m i n r hf hi hm hn
    have hp := enc_pos m
    by_cases h1 : m < 128
    · rw [enc_lt h1] at hi ⊢
      simp only [List.length_cons, List.length_nil] at hi
      rw [List.cons_append, List.nil_append, getL_ok m r i n _ rfl (by omega) h1 (by omega) hn]
      simp
    · rw [enc_ge h1] at hi hf ⊢
      simp only [List.length_cons] at hi hf
      have e : (m % 128 + 128 - 128) * 2 ^ (7 * i) + m / 128 * 2 ^ (7 * (i + 1)) = m * 2 ^ (7 * i) := by
        rw [pow128, ← Nat.mul_assoc, ← Nat.add_mul]; congr 1; omega
      rw [List.cons_append, getL_more _ _ _ _ (by omega) (by omega), ih (m / 128) (i + 1) _ r (by omega) (by omega) (Or.inl (by omega)) (by omega)]
      simp only [List.length_cons]
      refine Prod.ext (by simp only; omega) (Prod.ext (by simp only; omega) rfl)

theorem getL_back (f : Nat) : ∀ (l : List Nat) (i n v k : Nat), (∀ x ∈ l, x < 256) → 6 - i ≤ f → getL l i n = (v, k, 0) →
    ∃ m, v = n + m * 2 ^ (7 * i) ∧ k = i + (enc m).length ∧ l.take (k - i) = enc m ∧ k - i ≤ l.length ∧ (0 < m ∨ i = 0) ∧ v ≤ 1099511627776 ∧ k ≤ 6 := by
  induction f with
  | zero => intro l i n v k _ h e; rw [getL_six _ _ _ (by omega)] at e; simp at e
  | succ f ih =>
    intro l i n v k hl h e
    by_cases h6 : 6 ≤ i
    · rw [getL_six _ _ _ h6] at e; simp at e
    · cases l with
      | nil => rw [getL_nil _ _ (by omega)] at e; simp at e
      | cons b r =>
        have hb256 := hl b (List.mem_cons_self ..)
        by_cases hb : b < 128
        · by_cases h0 : b = 0 ∧ 0 < i
          · obtain ⟨rfl, h0⟩ := h0
            rw [getL_zero _ _ _ (by omega) h0] at e; simp at e
          · by_cases hn : 1099511627776 < n + b * 2 ^ (7 * i)
            · rw [getL_long b r i n _ rfl (by omega) hb h0 hn] at e; simp at e
            · rw [getL_ok b r i n _ rfl (by omega) hb h0 (by omega)] at e
              simp only [Prod.mk.injEq, and_true] at e
              obtain ⟨rfl, rfl⟩ := e
              refine ⟨b, rfl, ?_, ?_, ?_, ?_, ?_, ?_⟩
              · rw [enc_lt hb]; rfl
              · rw [enc_lt hb, Nat.add_sub_cancel_left]; rfl
              · simp
              · omega
              · omega
              · omega
        · rw [getL_more _ _ _ _ (by omega) hb] at e
          obtain ⟨m, hv, hk, ht, hle, hm, hx, h6'⟩ := ih r (i + 1) _ v k (fun x hx => hl x (List.mem_cons_of_mem _ hx)) (by omega) e
          have hm0 : 0 < m := by omega
          have hge : ¬ (b - 128 + 128 * m) < 128 := by omega
          have hen : enc (b - 128 + 128 * m) = b :: enc m := by
            rw [enc_ge hge]
            congr 1
            · omega
            · congr 1; omega
          have hp := enc_pos m
          refine ⟨b - 128 + 128 * m, ?_, ?_, ?_, ?_, ?_, hx, h6'⟩
          · rw [hv]
            rw [pow128, ← Nat.mul_assoc, Nat.add_assoc, ← Nat.add_mul]; congr 2; omega
          · rw [hen]; simp only [List.length_cons]; omega
          · rw [hen]
            have : k - i = (k - (i + 1)) + 1 := by omega
            rw [this, List.take_succ_cons, ht]
          · simp only [List.length_cons]; omega
          · omega

theorem getL_cut (f : Nat) : ∀ (m i n j : Nat), (enc m).length ≤ f → i + (enc m).length ≤ 6 → j < (enc m).length → getL ((enc m).take j) i n = (0, 0, 2) := by
  induction f with
  | zero => intro m i n j h; have := enc_pos m; omega
  | succ f ih =>
    intro m i n j hf hi hj
    cases j with
    | zero => rw [List.take_zero, getL_nil _ _ (by omega)]
    | succ j =>
      by_cases h1 : m < 128
      · rw [enc_lt h1] at hj; simp at hj
      · rw [enc_ge h1] at hj hi hf ⊢
        simp only [List.length_cons] at hj hi hf
        rw [List.take_succ_cons, getL_more _ _ _ _ (by omega) (by omega)]
        exact ih _ _ _ _ (by omega) (by omega) (by omega)

/-- all that reading tells -/
theorem getL_err (f : Nat) : ∀ (l : List Nat) (i n : Nat), 6 - i ≤ f → (getL l i n).2.2 ≠ 0 → (getL l i n = (0, 0, 2) ∨ getL l i n = (0, 0, 3) ∨ getL l i n = (0, 0, 4)) := by
  induction f with
  | zero => intro l i n h _; rw [getL_six _ _ _ (by omega)]; simp
  | succ f ih =>
    intro l i n h he
    by_cases h6 : 6 ≤ i
    · rw [getL_six _ _ _ h6]; simp
    · cases l with
      | nil => rw [getL_nil _ _ (by omega)]; simp
      | cons b r =>
        by_cases hb : b < 128
        · by_cases h0 : b = 0 ∧ 0 < i
          · obtain ⟨rfl, h0⟩ := h0
            rw [getL_zero _ _ _ (by omega) h0]; simp
          · by_cases hn : 1099511627776 < n + b * 2 ^ (7 * i)
            · rw [getL_long b r i n _ rfl (by omega) hb h0 hn]; simp
            · rw [getL_ok b r i n _ rfl (by omega) hb h0 (by omega)] at he; simp at he
        · rw [getL_more _ _ _ _ (by omega) hb] at he ⊢
          exact ih _ _ _ (by omega) he

/-- get: an error, or the number whose bytes stand there -/
theorem get_cases (l : List Nat) (a : Int) (hl : ∀ x ∈ l, x < 256) :
    (∃ e, get l a = (0, 0, e) ∧ 1 ≤ e ∧ e ≤ 4) ∨ (∃ n, ∃ a' : Nat, a = (a' : Int) ∧ get l a = (n, a' + (enc n).length, 0) ∧ n ≤ 1099511627776 ∧ (l.drop a').take (enc n).length = enc n ∧ a' + (enc n).length ≤ l.length) := by
  by_cases h : a < 0 ∨ (l.length : Int) < a
  · exact .inl ⟨1, get_bad h, by omega, by omega⟩
  · obtain ⟨a', rfl⟩ : ∃ k : Nat, a = (k : Int) := ⟨a.toNat, by omega⟩
    rw [get_in (by omega)]
    by_cases he : (getL (l.drop a') 0 0).2.2 = 0
    · right
      obtain ⟨v, k, e⟩ : ∃ v k, getL (l.drop a') 0 0 = (v, k, 0) := ⟨_, _, Prod.ext rfl (Prod.ext rfl he)⟩
      obtain ⟨m, hv, hk, ht, hle, _, hx, _⟩ := getL_back 6 _ 0 0 v k (fun x hx => hl x (List.mem_of_mem_drop hx)) (by omega) e
      simp only [Nat.mul_zero, Nat.pow_zero, Nat.mul_one, Nat.zero_add] at hv hk
      subst hv; subst hk
      refine ⟨v, a', rfl, ?_, hx, by simpa using ht, ?_⟩
      · rw [e]; simp [place]
      · simp only [Nat.sub_zero, List.length_drop] at hle; omega
    · left
      rcases getL_err 6 _ 0 0 (by omega) he with h1 | h1 | h1
      · exact ⟨2, by rw [h1]; rfl, by omega, by omega⟩
      · exact ⟨3, by rw [h1]; rfl, by omega, by omega⟩
      · exact ⟨4, by rw [h1]; rfl, by omega, by omega⟩

/-- a number that was written there is read -/
theorem get_back (l : List Nat) (a n : Nat) (r : List Nat) (h : l.drop a = enc n ++ r) (hn : n ≤ 1099511627776) (ha : a ≤ l.length) : get l (a : Int) = (n, a + (enc n).length, 0) := by
  rw [get_in ha, h, getL_enc 6 n 0 0 r (enc_six hn) (by have := enc_six hn; omega) (Or.inr rfl) (by simpa using hn)]
  simp [place]
theorem get_short (n j : Nat) (hn : n ≤ 1099511627776) (hj : j < (enc n).length) : get ((enc n).take j) 0 = (0, 0, 2) := by
  have := get_in (l := (enc n).take j) (a := 0) (Nat.zero_le _)
  rw [show ((0 : Nat) : Int) = 0 from rfl] at this
  rw [this, List.drop_zero, getL_cut 6 n 0 0 j (enc_six hn) (by have := enc_six hn; omega) hj]; rfl

/-- texts: how long, and the text -/
def getText (l : List Nat) (a : Int) : List Nat × Nat × Nat :=
  let r := get l a
  if r.2.2 ≠ 0 then ([], 0, r.2.2) else if 4000 < r.1 then ([], 0, 4) else if l.length < r.2.1 + r.1 then ([], 0, 2) else ((l.drop r.2.1).take r.1, r.2.1 + r.1, 0)
theorem getText_err {l : List Nat} {a : Int} {e : Nat} (h : get l a = (0, 0, e)) (he : 1 ≤ e) : getText l a = ([], 0, e) := by
  simp only [getText, h]; rw [if_pos (by simp; omega)]
theorem getText_long {l : List Nat} {a : Int} {n k : Nat} (h : get l a = (n, k, 0)) (he : 4000 < n) : getText l a = ([], 0, 4) := by
  simp only [getText, h]; rw [if_neg (by simp), if_pos he]
theorem getText_short {l : List Nat} {a : Int} {n k : Nat} (h : get l a = (n, k, 0)) (he : ¬ 4000 < n) (hk : l.length < k + n) : getText l a = ([], 0, 2) := by
  simp only [getText, h]; rw [if_neg (by simp), if_neg he, if_pos hk]
theorem getText_ok {l : List Nat} {a : Int} {n k : Nat} (h : get l a = (n, k, 0)) (he : ¬ 4000 < n) (hk : ¬ l.length < k + n) : getText l a = ((l.drop k).take n, k + n, 0) := by
  simp only [getText, h]; rw [if_neg (by simp), if_neg he, if_neg hk]
end Go.Proofs.Ytghbkieflifegaa.vm
