/- Symbol tables: plain facts, and how a list of symbols lies in memory. -/
import Derived.Test.YtagmlpenhogoeaaCells
import Derived.Test.YtagmlpenhogoeaaCopy
namespace Go.Proofs.Ytagmlpenhogoeaa.tb

abbrev Sym := ByteArray × Int
def at_ (L : List Sym) (i : Nat) : Sym := L.getD i (.empty, 0)
/-- as the calls make it -/
def Right (c : Int) (L : List Sym) : Prop := 0 ≤ c ∧ c ≤ 24000 ∧ (L.length : Int) ≤ c ∧ (∀ i, i < L.length → 0 ≤ (at_ L i).2 ∧ (at_ L i).2 ≤ 1099511627776 ∧ (at_ L i).1.size ≤ 600 ∧ ((at_ L i).2 = 0 → (at_ L i).1 = .empty)) ∧
  (∀ i j, i < j → j < L.length → 0 < (at_ L i).2 → 0 < (at_ L j).2 → (at_ L i).1 ≠ (at_ L j).1)
theorem at_set {L : List Sym} {i j : Nat} {x : Sym} (hi : i < L.length) : at_ (L.set i x) j = if i = j then x else at_ L j := by
  unfold at_
  simp only [List.getD, List.getElem?_set]
  by_cases h : i = j
  · subst h; simp [hi]
  · simp [h]
theorem at_snoc {L : List Sym} {j : Nat} {x : Sym} : at_ (L ++ [x]) j = if j < L.length then at_ L j else if j = L.length then x else (.empty, 0) := by
  unfold at_
  simp only [List.getD]
  by_cases h : j < L.length
  · rw [List.getElem?_append_left h, if_pos h]
  · rw [List.getElem?_append_right (by omega), if_neg h]
    by_cases h2 : j = L.length
    · subst h2; simp
    · rw [if_neg h2, List.getElem?_eq_none (by simp; omega)]; rfl
theorem right_nil {c : Int} (h0 : 0 ≤ c) (h1 : c ≤ 24000) : Right c [] := ⟨h0, h1, by simpa using h0, fun i h => absurd h (Nat.not_lt_zero _), fun i j _ h => absurd h (Nat.not_lt_zero _)⟩
theorem right_set {c : Int} {L : List Sym} {k : Nat} {x : Sym} (h : Right c L) (hk : k < L.length) (h0 : 0 ≤ x.2) (h1 : x.2 ≤ 1099511627776) (h2 : x.1.size ≤ 600) (h3 : x.2 = 0 → x.1 = .empty)
    (h4 : 0 < x.2 → ∀ j, j < L.length → j ≠ k → 0 < (at_ L j).2 → (at_ L j).1 ≠ x.1) : Right c (L.set k x) := by
  obtain ⟨a, b, d, e, f⟩ := h
  refine ⟨a, b, by rw [List.length_set]; exact d, fun i hi => ?_, fun i j hij hj hi0 hj0 => ?_⟩
  · rw [List.length_set] at hi
    rw [at_set hk]
    split
    · exact ⟨h0, h1, h2, h3⟩
    · exact e i hi
  · rw [List.length_set] at hj
    rw [at_set hk] at hi0 hj0
    rw [at_set hk, at_set hk]
    by_cases hi : k = i
    · rw [if_pos hi] at hi0 ⊢
      by_cases hjk : k = j
      · omega
      · rw [if_neg hjk] at hj0 ⊢
        exact (h4 hi0 j hj (by omega) hj0).symm
    · rw [if_neg hi] at hi0 ⊢
      by_cases hjk : k = j
      · rw [if_pos hjk] at hj0 ⊢
        exact h4 hj0 i (by omega) (by omega) hi0
      · rw [if_neg hjk] at hj0 ⊢
        exact f i j hij hj hi0 hj0
theorem right_snoc {c : Int} {L : List Sym} {x : Sym} (h : Right c L) (hc : (L.length : Int) < c) (h0 : 0 ≤ x.2) (h1 : x.2 ≤ 1099511627776) (h2 : x.1.size ≤ 600) (h3 : x.2 = 0 → x.1 = .empty)
    (h4 : 0 < x.2 → ∀ j, j < L.length → 0 < (at_ L j).2 → (at_ L j).1 ≠ x.1) : Right c (L ++ [x]) := by
  obtain ⟨a, b, d, e, f⟩ := h
  have hl : (L ++ [x]).length = L.length + 1 := by rw [List.length_append]; rfl
  refine ⟨a, b, by rw [hl]; omega, fun i hi => ?_, fun i j hij hj hi0 hj0 => ?_⟩
  · rw [hl] at hi
    rw [at_snoc]
    by_cases hi2 : i < L.length
    · rw [if_pos hi2]; exact e i hi2
    · rw [if_neg hi2, if_pos (by omega)]; exact ⟨h0, h1, h2, h3⟩
  · rw [hl] at hj
    have ei : at_ (L ++ [x]) i = at_ L i := by rw [at_snoc, if_pos (by omega)]
    rw [ei] at hi0 ⊢
    by_cases hj2 : j < L.length
    · have ej : at_ (L ++ [x]) j = at_ L j := by rw [at_snoc, if_pos hj2]
      rw [ej] at hj0 ⊢; exact f i j hij hj2 hi0 hj0
    · have ej : at_ (L ++ [x]) j = x := by rw [at_snoc, if_neg hj2, if_pos (by omega)]
      rw [ej] at hj0 ⊢
      exact h4 hj0 i (by omega) hi0
/-- the place of s among the used ones; the length: none -/
def find (L : List Sym) (s : ByteArray) : Nat := L.findIdx fun x => decide (0 < x.2 ∧ x.1 = s)
/-- the first free place; the length: none -/
def free (L : List Sym) : Nat := L.findIdx fun x => decide (x.2 = 0)
theorem at_get {L : List Sym} {i : Nat} (h : i < L.length) : L[i] = at_ L i := by simp [at_, List.getD, h]
theorem find_le (L : List Sym) (s : ByteArray) : find L s ≤ L.length := List.findIdx_le_length
theorem free_le (L : List Sym) : free L ≤ L.length := List.findIdx_le_length
theorem idx_yes {L : List Sym} (p : Sym → Bool) (h : L.findIdx p < L.length) : p (at_ L (L.findIdx p)) = true := by
  have h2 := List.findIdx_getElem (w := h)
  rwa [at_get h] at h2
theorem find_yes {L : List Sym} {s : ByteArray} (h : find L s < L.length) : 0 < (at_ L (find L s)).2 ∧ (at_ L (find L s)).1 = s := by
  exact of_decide_eq_true (idx_yes (fun x : Sym => decide (0 < x.2 ∧ x.1 = s)) h)
theorem find_no {L : List Sym} {s : ByteArray} {j : Nat} (h : j < find L s) : ¬ (0 < (at_ L j).2 ∧ (at_ L j).1 = s) := by
  have hl : j < L.length := Nat.lt_of_lt_of_le h (find_le L s)
  have := List.not_of_lt_findIdx h
  rw [at_get hl] at this
  simpa using this
theorem find_eq {L : List Sym} {s : ByteArray} {k : Nat} (hk : k < L.length) (h : 0 < (at_ L k).2 ∧ (at_ L k).1 = s) (h2 : ∀ j, j < k → ¬ (0 < (at_ L j).2 ∧ (at_ L j).1 = s)) : find L s = k := by
  rcases Nat.lt_trichotomy (find L s) k with h3 | h3 | h3
  · exact absurd (find_yes (Nat.lt_trans h3 hk)) (h2 _ h3)
  · exact h3
  · exact absurd h (find_no h3)
theorem find_none {L : List Sym} {s : ByteArray} (h2 : ∀ j, j < L.length → ¬ (0 < (at_ L j).2 ∧ (at_ L j).1 = s)) : find L s = L.length := by
  rcases Nat.lt_or_ge (find L s) L.length with h3 | h3
  · exact absurd (find_yes h3) (h2 _ h3)
  · have := find_le L s; omega
theorem find_right {c : Int} {L : List Sym} {s : ByteArray} {k : Nat} (hr : Right c L) (hk : k < L.length) (h : 0 < (at_ L k).2 ∧ (at_ L k).1 = s) : find L s = k := by
  refine find_eq hk h fun j hj hh => ?_
  exact hr.2.2.2.2 j k hj hk hh.1 h.1 (by rw [hh.2, h.2])
theorem free_yes {L : List Sym} (h : free L < L.length) : (at_ L (free L)).2 = 0 := by
  exact of_decide_eq_true (idx_yes (fun x : Sym => decide (x.2 = 0)) h)
theorem free_no {L : List Sym} {j : Nat} (h : j < free L) : ¬ (at_ L j).2 = 0 := by
  have hl : j < L.length := Nat.lt_of_lt_of_le h (free_le L)
  have := List.not_of_lt_findIdx h
  rw [at_get hl] at this
  simpa using this
theorem free_eq {L : List Sym} {k : Nat} (hk : k < L.length) (h : (at_ L k).2 = 0) (h2 : ∀ j, j < k → ¬ (at_ L j).2 = 0) : free L = k := by
  rcases Nat.lt_trichotomy (free L) k with h3 | h3 | h3
  · exact absurd (free_yes (Nat.lt_trans h3 hk)) (h2 _ h3)
  · exact h3
  · exact absurd h (free_no h3)
theorem free_none {L : List Sym} (h2 : ∀ j, j < L.length → ¬ (at_ L j).2 = 0) : free L = L.length := by
  rcases Nat.lt_or_ge (free L) L.length with h3 | h3
  · exact absurd (free_yes h3) (h2 _ h3)
  · have := free_le L; omega
/-- Put: the symbols, the number, the error -/
def put (c : Int) (L : List Sym) (s : ByteArray) : List Sym × Int × Int :=
  if 600 < s.size then (L, 0, 4)
  else if find L s < L.length then (if (at_ L (find L s)).2 = 1099511627776 then (L, 0, 7) else (L.set (find L s) (s, (at_ L (find L s)).2 + 1), (find L s : Int), 0))
  else if (free L : Int) = c then (L, 0, 7)
  else if free L < L.length then (L.set (free L) (s, 1), (free L : Int), 0)
  else (L ++ [(s, 1)], (free L : Int), 0)
def used (L : List Sym) (id : Int) : Bool := decide (0 ≤ id ∧ id < (L.length : Int) ∧ 0 < (at_ L id.toNat).2)
/-- Drop: the symbols, the error -/
def drop (L : List Sym) (id : Int) : List Sym × Int :=
  if used L id = true then (L.set id.toNat (if (at_ L id.toNat).2 = 1 then .empty else (at_ L id.toNat).1, (at_ L id.toNat).2 - 1), 0) else (L, 5)
theorem right_put {c : Int} {L : List Sym} {s : ByteArray} (h : Right c L) : Right c (put c L s).1 := by
  unfold put
  by_cases h6 : 600 < s.size
  · rw [if_pos h6]; exact h
  rw [if_neg h6]
  by_cases hf : find L s < L.length
  · rw [if_pos hf]
    obtain ⟨g1, g2⟩ := find_yes hf
    have hb := h.2.2.2.1 _ hf
    by_cases hm : (at_ L (find L s)).2 = 1099511627776
    · rw [if_pos hm]; exact h
    · rw [if_neg hm]
      refine right_set h hf (by show 0 ≤ _ + 1; omega) (by show _ + 1 ≤ _; omega) (by show s.size ≤ 600; omega) (fun e => by have : (at_ L (find L s)).2 + 1 = 0 := e; omega) fun _ j hj hjk hj0 he => ?_
      have h1 : (at_ L j).1 = s := he
      rcases Nat.lt_trichotomy j (find L s) with hlt | heq | hgt
      · exact h.2.2.2.2 j _ hlt hf hj0 g1 (by rw [h1, g2])
      · exact hjk heq
      · exact h.2.2.2.2 _ j hgt hj g1 hj0 (by rw [h1, g2])
  rw [if_neg hf]
  have hno : ∀ j, j < L.length → 0 < (at_ L j).2 → (at_ L j).1 ≠ s := fun j hj h0 he => find_no (by have := find_le L s; omega : j < find L s) ⟨h0, he⟩
  by_cases hc : (free L : Int) = c
  · rw [if_pos hc]; exact h
  rw [if_neg hc]
  by_cases hfr : free L < L.length
  · rw [if_pos hfr]
    exact right_set h hfr (by show (0 : Int) ≤ 1; omega) (by show (1 : Int) ≤ _; omega) (by show s.size ≤ 600; omega) (fun e => by cases e) fun _ j hj _ hj0 => hno j hj hj0
  · rw [if_neg hfr]
    have hle := free_le L
    exact right_snoc h (by have := h.2.2.1; omega) (by show (0 : Int) ≤ 1; omega) (by show (1 : Int) ≤ _; omega) (by show s.size ≤ 600; omega) (fun e => by cases e) (fun _ => hno)
theorem right_drop {c : Int} {L : List Sym} {id : Int} (h : Right c L) : Right c (drop L id).1 := by
  unfold drop
  by_cases hu : used L id = true
  · rw [if_pos hu]
    unfold used at hu
    obtain ⟨h0, h1, h2⟩ := of_decide_eq_true hu
    have hl : id.toNat < L.length := by omega
    have hb := h.2.2.2.1 _ hl
    refine right_set h hl (by show 0 ≤ _ - 1; omega) (by show _ - 1 ≤ _; omega) ?_ (fun e => ?_) fun hp j hj hjk hj0 he => ?_
    · show (if _ then _ else _ : ByteArray).size ≤ 600
      split
      · exact Nat.zero_le _
      · exact hb.2.2.1
    · have e1 : (at_ L id.toNat).2 - 1 = 0 := e
      show (if _ then _ else _ : ByteArray) = _
      rw [if_pos (by omega)]
    · have hp1 : 0 < (at_ L id.toNat).2 - 1 := hp
      have he1 : (at_ L j).1 = (if (at_ L id.toNat).2 = 1 then ByteArray.empty else (at_ L id.toNat).1) := he
      rw [if_neg (by omega)] at he1
      rcases Nat.lt_trichotomy j id.toNat with hlt | heq | hgt
      · exact h.2.2.2.2 j _ hlt hl hj0 h2 he1
      · exact hjk heq
      · exact h.2.2.2.2 _ j hgt hj h2 hj0 he1.symm
  · rw [if_neg hu]; exact h
end Go.Proofs.Ytagmlpenhogoeaa.tb
namespace Go.Proofs.Ytagmlpenhogoeaa
open Go.RowKit cl
abbrev Sym := ByteArray × Int
def tcells (l : List Sym) : List Value := l.flatMap fun x => [.string x.1, .int .i64 x.2]
theorem tcells_cons (x : Sym) (l : List Sym) : tcells (x :: l) = .string x.1 :: .int .i64 x.2 :: tcells l := rfl
theorem tcells_len : ∀ l : List Sym, (tcells l).length = l.length * 2 := by
  intro l
  induction l with
  | nil => rfl
  | cons x l ih => rw [tcells_cons, List.length_cons, List.length_cons, ih, List.length_cons]; omega
theorem tcells_app (a b : List Sym) : tcells (a ++ b) = tcells a ++ tcells b := by simp [tcells]
theorem tcells_one {l : List Sym} : ∀ u ∈ tcells l, u.oneCell' = true := by
  intro u hu
  simp only [tcells, List.mem_flatMap] at hu
  obtain ⟨x, _, hx⟩ := hu
  simp only [List.mem_cons, List.not_mem_nil, or_false] at hx
  rcases hx with rfl | rfl <;> rfl
theorem tcells_get : ∀ (l : List Sym) (j : Nat), j < l.length → (tcells l)[j * 2]? = some (.string (tb.at_ l j).1) ∧ (tcells l)[j * 2 + 1]? = some (.int .i64 (tb.at_ l j).2) := by
  intro l
  induction l with
  | nil => intro j h; simp at h
  | cons x l ih =>
    intro j h
    rw [tcells_cons]
    cases j with
    | zero => exact ⟨rfl, rfl⟩
    | succ j =>
      have := ih j (by simpa using h)
      rw [Nat.succ_mul]
      simpa [tb.at_] using this
theorem tcells_set : ∀ (l : List Sym) (j : Nat) (x : Sym), ((tcells l).set (j * 2) (.string x.1)).set (j * 2 + 1) (.int .i64 x.2) = tcells (l.set j x) := by
  intro l
  induction l with
  | nil => intro j x; rfl
  | cons y l ih =>
    intro j x
    cases j with
    | zero => rfl
    | succ j =>
      have := ih j x
      rw [List.set_cons_succ, tcells_cons, tcells_cons, ← this, Nat.succ_mul]
      rfl
abbrev Tabs (w : World) (B : Nat) (v : Value) (l : List Sym) : Prop := Cells w B v l.length 2 (tcells l)
theorem Tabs.get {w : World} {B n c : Nat} {ao : Option Addr} {l : List Sym} (h : Tabs w B (.slice ao n c) l) (hn : n = l.length) {j : Nat} (hj : j < n) : ∃ b off, ao = some ⟨b, off, none⟩ ∧ b < B ∧
    w.cell? ⟨b, off + j * 2, none⟩ = some (.string (tb.at_ l j).1) ∧ w.cell? ⟨b, off + j * 2 + 1, none⟩ = some (.int .i64 (tb.at_ l j).2) := by
  subst hn
  obtain ⟨_, ao', c', e, _, _, h4⟩ := h
  simp only [Value.slice.injEq] at e
  obtain ⟨rfl, _, rfl⟩ := e
  obtain ⟨b, off, rfl, hB, hc⟩ := h4 (by omega)
  obtain ⟨g0, g1⟩ := tcells_get l j hj
  exact ⟨b, off, rfl, hB, hc _ _ g0, hc _ _ g1⟩
end Go.Proofs.Ytagmlpenhogoeaa
