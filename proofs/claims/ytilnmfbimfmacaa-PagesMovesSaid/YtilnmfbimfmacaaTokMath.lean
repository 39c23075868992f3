/- Tokens: plainly; nothing of the program. -/
import Derived.Test.YtilnmfbimfmacaaKit
namespace Go.Proofs.Ytilnmfbimfmacaa.tk

def hexd (n : Nat) : Nat := if n < 10 then 48 + n else 87 + n
def undig (c : Nat) : Option Nat := if 48 ≤ c ∧ c ≤ 57 then some (c - 48) else if 97 ≤ c ∧ c ≤ 102 then some (c - 87) else none
theorem hexd_lt {n : Nat} (h : n < 16) : hexd n < 256 := by unfold hexd; split <;> omega
theorem undig_hexd {n : Nat} (h : n < 16) : undig (hexd n) = some n := by
  unfold undig hexd
  by_cases h1 : n < 10
  · rw [if_pos h1, if_pos (by omega)]; congr 1; omega
  · rw [if_neg h1, if_neg (by omega), if_pos (by omega)]; congr 1; omega
theorem hexd_undig {c n : Nat} (h : undig c = some n) : hexd n = c ∧ n < 16 := by
  unfold undig at h
  unfold hexd
  split at h
  · obtain rfl := Option.some.inj h
    rw [if_pos (by omega)]; omega
  · split at h
    · obtain rfl := Option.some.inj h
      rw [if_neg (by omega)]; omega
    · cases h
def two (b : Nat) : List Nat := [hexd (b / 16), hexd (b % 16)]
def enc (l : List Nat) : List Nat := l.flatMap two
theorem enc_snoc (l : List Nat) (b : Nat) : enc (l ++ [b]) = enc l ++ two b := by simp [enc]
theorem enc_len : ∀ l : List Nat, (enc l).length = 2 * l.length := by
  intro l
  induction l with
  | nil => rfl
  | cons b l ih => simp only [enc, List.flatMap_cons, List.length_append, List.length_cons] at ih ⊢; rw [ih]; simp [two]; omega
theorem enc_lt {l : List Nat} (h : ∀ x ∈ l, x < 256) : ∀ x ∈ enc l, x < 256 := by
  intro x hx
  obtain ⟨b, hb, hx⟩ := List.mem_flatMap.1 hx
  have := h b hb
  simp only [two, List.mem_cons, List.not_mem_nil, or_false] at hx
  rcases hx with rfl | rfl
  · exact hexd_lt (by omega)
  · exact hexd_lt (by omega)
def dec : List Nat → Option (List Nat)
  | [] => some []
  | [_] => none
  | a :: b :: r => match undig a, undig b with
    | some x, some y => (dec r).map ((16 * x + y) :: ·)
    | _, _ => none
theorem dec_enc : ∀ l : List Nat, (∀ x ∈ l, x < 256) → dec (enc l) = some l := by
  intro l
  induction l with
  | nil => intro _; rfl
  | cons b l ih =>
    intro h
    have hb := h b (List.mem_cons_self ..)
    show dec (hexd (b / 16) :: hexd (b % 16) :: enc l) = _
    rw [dec, undig_hexd (by omega), undig_hexd (by omega), ih fun x hx => h x (List.mem_cons_of_mem _ hx)]
    simp only [Option.map_some]
    congr 2; omega
theorem enc_dec : ∀ (n : Nat) (l r : List Nat), l.length ≤ n → dec l = some r → enc r = l ∧ ∀ x ∈ r, x < 256 := by
  intro n
  induction n with
  | zero =>
    intro l r h hd
    obtain rfl : l = [] := List.eq_nil_of_length_eq_zero (by omega)
    obtain rfl := Option.some.inj hd
    exact ⟨rfl, fun x hx => by cases hx⟩
  | succ n ih =>
    intro l r h hd
    match l, h, hd with
    | [], _, hd =>
      obtain rfl := Option.some.inj hd
      exact ⟨rfl, fun x hx => by cases hx⟩
    | [_], _, hd => cases hd
    | a :: b :: l, h, hd =>
      rw [dec] at hd
      cases hx : undig a with
      | none => rw [hx] at hd; cases hd
      | some x =>
        cases hy : undig b with
        | none => rw [hx, hy] at hd; cases hd
        | some y =>
          rw [hx, hy] at hd
          cases hr : dec l with
          | none => rw [hr] at hd; cases hd
          | some r' =>
            rw [hr] at hd
            obtain rfl := Option.some.inj hd
            simp only [List.length_cons] at h
            obtain ⟨h1, h2⟩ := ih l r' (by omega) hr
            obtain ⟨ea, la⟩ := hexd_undig hx
            obtain ⟨eb, lb⟩ := hexd_undig hy
            refine ⟨?_, fun z hz => ?_⟩
            · show hexd ((16 * x + y) / 16) :: hexd ((16 * x + y) % 16) :: enc r' = _
              rw [show (16 * x + y) / 16 = x by omega, show (16 * x + y) % 16 = y by omega, ea, eb, h1]
            · rcases List.mem_cons.1 hz with rfl | hz
              · omega
              · exact h2 z hz
/-- the token of a page -/
def token (after : List Nat) (more : Bool) : List Nat := if more then 112 :: enc after else []
/-- what a text says as a token: the text, and the error's number -/
def read (l : List Nat) : List Nat × Nat :=
  if 1201 < l.length then ([], 4) else if l.length % 2 = 0 ∨ l.getD 0 0 ≠ 112 then ([], 3) else
    match dec (l.drop 1) with
    | none => ([], 3)
    | some r => (r, 0)
theorem read_long {l : List Nat} (h : 1201 < l.length) : read l = ([], 4) := by unfold read; rw [if_pos h]
theorem read_form {l : List Nat} (h : ¬ 1201 < l.length) (h2 : l.length % 2 = 0 ∨ l.getD 0 0 ≠ 112) : read l = ([], 3) := by unfold read; rw [if_neg h, if_pos h2]
theorem read_bad {l : List Nat} (h : ¬ 1201 < l.length) (h2 : ¬ (l.length % 2 = 0 ∨ l.getD 0 0 ≠ 112)) (h3 : dec (l.drop 1) = none) : read l = ([], 3) := by unfold read; rw [if_neg h, if_neg h2, h3]
theorem read_good {l r : List Nat} (h : ¬ 1201 < l.length) (h2 : ¬ (l.length % 2 = 0 ∨ l.getD 0 0 ≠ 112)) (h3 : dec (l.drop 1) = some r) : read l = (r, 0) := by unfold read; rw [if_neg h, if_neg h2, h3]
theorem read_token {l : List Nat} (h : ∀ x ∈ l, x < 256) (hl : l.length ≤ 600) : read (token l true) = (l, 0) := by
  have e := enc_len l
  refine read_good ?_ ?_ ?_
  · simp [token]; omega
  · simp [token]; omega
  · simpa [token] using dec_enc l h
theorem token_read {s r : List Nat} (h : read s = (r, 0)) : token r true = s := by
  unfold read at h
  split at h
  · cases h
  · split at h
    · cases h
    · rename_i h1 h2
      split at h
      · cases h
      · rename_i r' hr
        obtain rfl : r' = r := by simpa using h
        have := (enc_dec _ _ _ (Nat.le_refl _) hr).1
        have hp : 0 < s.length := by
          rcases Nat.eq_zero_or_pos s.length with e | e
          · exact absurd (Or.inl (by omega)) h2
          · exact e
        match s, hp with
        | x :: s, _ =>
          have hx : x = 112 := by
            by_cases e : x = 112
            · exact e
            · exact absurd (Or.inr (by simpa using e)) h2
          subst hx
          unfold token
          rw [if_pos rfl, this]; rfl
theorem read_lt {s : List Nat} : ∀ x ∈ (read s).1, x < 256 := by
  unfold read
  split
  · simp
  · split
    · simp
    · split
      · simp
      · rename_i r hr
        exact (enc_dec _ _ _ (Nat.le_refl _) hr).2
theorem dec_odd : ∀ (n : Nat) (l : List Nat), l.length ≤ n → l.length % 2 = 1 → dec l = none := by
  intro n
  induction n with
  | zero => intro l h h1; omega
  | succ n ih =>
    intro l h h1
    match l, h, h1 with
    | [_], _, _ => rfl
    | a :: b :: l, h, h1 =>
      simp only [List.length_cons] at h h1
      rw [dec, ih l (by omega) (by omega)]
      split <;> rfl
/-- a round of the reading -/
theorem dec_step {l acc : List Nat} {a b x y : Nat} {r : List Nat} (h : dec l = (dec (a :: b :: r)).map (acc ++ ·)) (hx : undig a = some x) (hy : undig b = some y) : dec l = (dec r).map ((acc ++ [16 * x + y]) ++ ·) := by
  rw [h, dec, hx, hy]
  simp only [Option.map_map]
  congr 1
  funext z; simp
theorem dec_no {l acc : List Nat} {a b : Nat} {r : List Nat} (h : dec l = (dec (a :: b :: r)).map (acc ++ ·)) (hn : undig a = none ∨ undig b = none) : dec l = none := by
  rw [h, dec]
  rcases hn with h | h
  · rw [h]; simp
  · rw [h]; cases undig a <;> simp
end Go.Proofs.Ytilnmfbimfmacaa.tk
