/- Rising lists of texts, cut into pages: plainly; nothing of the program. -/
import Derived.Test.YtilnmfbimfmacaaKit
import Derived.Sort.Walk0
import Derived.Shelf.Spec.SearchS
namespace Go.Proofs.Ytilnmfbimfmacaa.pg
open Go.Sort

/-- the order of texts, byte by byte -/
def lt (a b : ByteArray) : Bool := Op.bytesLess a.toList b.toList
theorem lt_iff {a b : ByteArray} : lt a b = true ↔ a.toList < b.toList := by unfold lt; rw [bytesLess_eq]; simp
theorem lt_not {a b : ByteArray} : lt a b = false ↔ b.toList ≤ a.toList := by
  rw [← Bool.not_eq_true, lt_iff]; exact List.not_lt
theorem toList_inj {a b : ByteArray} (h : a.toList = b.toList) : a = b := by
  rw [ByteArray.toList_eq, ByteArray.toList_eq] at h
  exact ByteArray.ext (Array.toList_inj.1 h)
theorem lt_irrefl (a : ByteArray) : lt a a = false := lt_not.2 (List.le_refl _)
theorem lt_trans {a b c : ByteArray} (h : lt a b = true) (g : lt b c = true) : lt a c = true := lt_iff.2 (List.lt_trans (lt_iff.1 h) (lt_iff.1 g))
theorem le_lt {a b c : ByteArray} (h : lt b a = false) (g : lt b c = true) : lt a c = true := lt_iff.2 (List.lt_of_le_of_lt (lt_not.1 h) (lt_iff.1 g))
theorem lt_le {a b c : ByteArray} (h : lt a b = true) (g : lt c b = false) : lt a c = true := by
  cases h1 : lt a c with
  | true => rfl
  | false => have := lt_iff.2 (List.lt_of_le_of_lt (lt_not.1 h1) (lt_iff.1 h)); rw [g] at this; cases this
theorem lt_asymm {a b : ByteArray} (h : lt a b = true) : lt b a = false := by
  cases h2 : lt b a with
  | false => rfl
  | true => have := lt_trans h h2; rw [lt_irrefl] at this; cases this
theorem eq_of_not {a b : ByteArray} (h : lt a b = false) (g : lt b a = false) : a = b := toList_inj (List.le_antisymm (lt_not.1 g) (lt_not.1 h))
theorem lt_ne {a b : ByteArray} (h : lt a b = true) : a ≠ b := fun e => by rw [e, lt_irrefl] at h; cases h
theorem lt_empty (a : ByteArray) : lt a .empty = false := by
  apply lt_not.2
  rw [ByteArray.toList_eq]
  exact List.nil_le _
theorem empty_lt {a : ByteArray} (h : a ≠ .empty) : lt .empty a = true := by
  cases h1 : lt .empty a with
  | true => rfl
  | false => exact absurd (eq_of_not (lt_empty a) h1) h

def Ris (l : List ByteArray) : Prop := l.Pairwise (fun a b => lt a b = true)
theorem ris_get {l : List ByteArray} (h : Ris l) {i j : Nat} (hij : i < j) (hj : j < l.length) : lt (l.getD i .empty) (l.getD j .empty) = true := by
  have := (List.pairwise_iff_getElem.1 h) i j (by omega) hj hij
  simpa [List.getD, hj, show i < l.length by omega] using this
theorem mem_get {l : List ByteArray} {j : Nat} (hj : j < l.length) : l.getD j .empty ∈ l := by
  simp only [List.getD, List.getElem?_eq_getElem hj, Option.getD_some]
  exact List.getElem_mem hj
theorem get_mem {l : List ByteArray} {x : ByteArray} (h : x ∈ l) : ∃ j, j < l.length ∧ l.getD j .empty = x := by
  obtain ⟨j, hj, e⟩ := List.getElem_of_mem h
  exact ⟨j, hj, by simp [List.getD, hj, e]⟩

/-- the first k are not above a, the others are -/
def Split (l : List ByteArray) (a : ByteArray) (k : Nat) : Prop := k ≤ l.length ∧ (∀ j, j < k → lt a (l.getD j .empty) = false) ∧ ∀ j, k ≤ j → j < l.length → lt a (l.getD j .empty) = true
theorem Split.uniq {l : List ByteArray} {a : ByteArray} {k m : Nat} (h : Split l a k) (g : Split l a m) : k = m := by
  rcases Nat.lt_trichotomy k m with e | e | e
  · have h1 := h.2.2 k (Nat.le_refl _) (by have := g.1; omega)
    have h2 := g.2.1 k e
    rw [h1] at h2; cases h2
  · exact e
  · have h1 := g.2.2 m (Nat.le_refl _) (by have := h.1; omega)
    have h2 := h.2.1 m e
    rw [h1] at h2; cases h2
/-- how many are not above a -/
def beh (l : List ByteArray) (a : ByteArray) : Nat := (l.takeWhile fun s => !lt a s).length
theorem takeWhile_get {p : ByteArray → Bool} : ∀ (l : List ByteArray) (j : Nat), j < (l.takeWhile p).length → p (l.getD j .empty) = true := by
  intro l
  induction l with
  | nil => intro j h; simp at h
  | cons x l ih =>
    intro j h
    cases hp : p x with
    | false => rw [List.takeWhile_cons_of_neg (by rw [hp]; decide)] at h; simp at h
    | true =>
      rw [List.takeWhile_cons_of_pos hp] at h
      cases j with
      | zero => simpa using hp
      | succ j => simpa using ih j (by simpa using h)
theorem takeWhile_le {p : ByteArray → Bool} : ∀ (l : List ByteArray), (l.takeWhile p).length ≤ l.length := by
  intro l
  induction l with
  | nil => simp
  | cons x l ih =>
    cases hp : p x with
    | false => rw [List.takeWhile_cons_of_neg (by rw [hp]; decide)]; simp
    | true => rw [List.takeWhile_cons_of_pos hp]; simpa using ih
theorem takeWhile_stop {p : ByteArray → Bool} : ∀ (l : List ByteArray), (l.takeWhile p).length < l.length → p (l.getD (l.takeWhile p).length .empty) = false := by
  intro l
  induction l with
  | nil => intro h; simp at h
  | cons x l ih =>
    intro h
    cases hp : p x with
    | false => rw [List.takeWhile_cons_of_neg (by rw [hp]; decide)]; simpa using hp
    | true =>
      rw [List.takeWhile_cons_of_pos hp] at h ⊢
      simpa using ih (by simpa using h)
theorem split_beh {l : List ByteArray} (hr : Ris l) (a : ByteArray) : Split l a (beh l a) := by
  refine ⟨takeWhile_le l, fun j hj => ?_, fun j hj hl => ?_⟩
  · have := takeWhile_get l j hj
    simpa using this
  · have h0 := takeWhile_stop (p := fun s => !lt a s) l (by unfold beh at hj; omega)
    have h1 : lt a (l.getD (beh l a) .empty) = true := by
      unfold beh; simpa using h0
    by_cases e : j = beh l a
    · rw [e]; exact h1
    · exact lt_trans h1 (ris_get hr (by omega) hl)
theorem beh_of {l : List ByteArray} (hr : Ris l) {a : ByteArray} {k : Nat} (h : Split l a k) : beh l a = k := (split_beh hr a).uniq h
theorem beh_le (l : List ByteArray) (a : ByteArray) : beh l a ≤ l.length := takeWhile_le l

/-- the halving's place -/
theorem bs_place {l : List ByteArray} (hr : Ris l) (a : ByteArray) : ∃ m, Lib.bsGo (fun t => Op.bytesLess (l.getD t .empty).toList a.toList) l.length 0 l.length = m ∧ m ≤ l.length ∧
    ((m < l.length ∧ l.getD m .empty = a ∧ beh l a = m + 1) ∨ (¬ (m < l.length ∧ l.getD m .empty = a) ∧ beh l a = m)) := by
  have hs := split_beh hr a
  have hle := hs.1
  by_cases h : 0 < beh l a ∧ l.getD (beh l a - 1) .empty = a
  · refine ⟨beh l a - 1, ?_, by omega, Or.inl ⟨by omega, h.2, by omega⟩⟩
    have h1 : ∀ t, t < beh l a - 1 → (fun t => Op.bytesLess (l.getD t .empty).toList a.toList) t = true := fun t ht => by
      have := ris_get hr ht (by omega)
      rw [h.2] at this; exact this
    -- above the place the halving is asked only within the list
    exact bsGo_in _ (beh l a - 1) h1 (fun t ht hl => by
      show lt (l.getD t .empty) a = false
      by_cases e : t = beh l a - 1
      · rw [e, h.2]; exact lt_irrefl _
      · exact lt_asymm (hs.2.2 t (by omega) hl)) _ _ _ (by omega) (Nat.zero_le _) (by omega) (Nat.le_refl _)
  · have hb : ∀ j, j < beh l a → l.getD j .empty ≠ a := fun j hj e => by
      by_cases e2 : j = beh l a - 1
      · exact h ⟨by omega, by rw [← e2]; exact e⟩
      · have h1 := ris_get hr (show j < beh l a - 1 by omega) (by omega)
        rw [e] at h1
        have h2 := hs.2.1 (beh l a - 1) (by omega)
        rw [h1] at h2; cases h2
    refine ⟨beh l a, ?_, hle, Or.inr ⟨fun h2 => ?_, rfl⟩⟩
    · refine bsGo_in _ (beh l a) (fun t ht => ?_) (fun t ht hl => lt_asymm (hs.2.2 t ht hl)) _ _ _ (by omega) (Nat.zero_le _) (by omega) (Nat.le_refl _)
      show lt (l.getD t .empty) a = true
      cases h3 : lt (l.getD t .empty) a with
      | true => rfl
      | false => exact absurd (eq_of_not h3 (hs.2.1 t ht)) (hb t ht)
    · have := hs.2.2 _ (Nat.le_refl _) h2.1
      rw [h2.2, lt_irrefl] at this; cases this
where
  bsGo_in (less : Nat → Bool) (k : Nat) {n : Nat} (h1 : ∀ t, t < k → less t = true) (h2 : ∀ t, k ≤ t → t < n → less t = false) : ∀ (f lo hi : Nat), hi - lo ≤ f → lo ≤ k → k ≤ hi → hi ≤ n → Lib.bsGo less f lo hi = k
    | 0, lo, hi, hf, a, b, _ => by simp [Lib.bsGo]; omega
    | f + 1, lo, hi, hf, a, b, c => by
      unfold Lib.bsGo
      by_cases h : lo < hi
      · rw [if_pos h]
        by_cases hm : (lo + hi) / 2 < k
        · rw [h1 _ hm, if_pos rfl]; exact bsGo_in less k h1 h2 f _ _ (by omega) (by omega) b c
        · rw [h2 _ (by omega) (by omega)]; exact bsGo_in less k h1 h2 f _ _ (by omega) a (by omega) (by omega)
      · rw [if_neg h]; omega

/-- what fits into most -/
def clamp (most : Int) (n : Nat) : Nat := if most < 1 then 0 else if most < n then most.toNat else n
theorem clamp_le (most : Int) (n : Nat) : clamp most n ≤ n := by
  unfold clamp; split
  · omega
  · split <;> omega
structure Pg where
  list : List ByteArray
  after : ByteArray
  more : Bool
def cutTo (l : List ByteArray) (a : ByteArray) (most : Int) : Nat := beh l a + clamp most (l.length - beh l a)
/-- the page behind a -/
def cut (l : List ByteArray) (a : ByteArray) (most : Int) : Pg :=
  ⟨(l.drop (beh l a)).take (clamp most (l.length - beh l a)), if clamp most (l.length - beh l a) = 0 then a else l.getD (cutTo l a most - 1) .empty, decide (cutTo l a most < l.length)⟩
def okL (l : List ByteArray) : Prop := Ris l ∧ (∀ s ∈ l, s ≠ .empty) ∧ l.length ≤ 200 ∧ ∀ s ∈ l, s.size ≤ 700
/-- page i of a list, at m texts a page -/
def page (l : List ByteArray) (m i : Nat) : Pg :=
  ⟨(l.drop (i * m)).take m, l.getD (min ((i + 1) * m) l.length - 1) .empty, decide ((i + 1) * m < l.length)⟩
/-- from behind which text page i goes on -/
def ahead (l : List ByteArray) (m i : Nat) : ByteArray := if i = 0 then .empty else l.getD (i * m - 1) .empty
theorem split_ahead {l : List ByteArray} (h : okL l) {m i : Nat} (hm : 0 < m) (hi : i * m ≤ l.length) : Split l (ahead l m i) (i * m) := by
  unfold ahead
  by_cases h0 : i = 0
  · subst h0
    rw [if_pos rfl, Nat.zero_mul]
    refine ⟨Nat.zero_le _, fun j hj => absurd hj (Nat.not_lt_zero _), fun j _ hj => empty_lt (h.2.1 _ (mem_get hj))⟩
  · have hp : 0 < i * m := Nat.mul_pos (by omega) hm
    rw [if_neg h0]
    refine ⟨hi, fun j hj => ?_, fun j hj hl => ris_get h.1 (by omega) hl⟩
    by_cases e : j = i * m - 1
    · rw [e]; exact lt_irrefl _
    · exact lt_asymm (ris_get h.1 (show j < i * m - 1 by omega) (by omega))
theorem beh_ahead {l : List ByteArray} (h : okL l) {m i : Nat} (hm : 0 < m) (hi : i * m ≤ l.length) : beh l (ahead l m i) = i * m := beh_of h.1 (split_ahead h hm hi)
theorem clamp_pos {most : Int} {m n : Nat} (hm : most = (m : Int)) (h1 : 0 < m) : clamp most n = min m n := by
  subst hm; unfold clamp
  rw [if_neg (by omega)]
  split <;> omega
/-- cut from behind page i - 1 is page i -/
theorem cut_page {l : List ByteArray} (h : okL l) {most : Int} {m i : Nat} (he : most = (m : Int)) (hm : 0 < m) (hi : i * m < l.length) : cut l (ahead l m i) most = page l m i := by
  have hs : (i + 1) * m = i * m + m := by rw [Nat.add_mul, Nat.one_mul]
  unfold cut cutTo page
  rw [beh_ahead h hm (by omega), clamp_pos he hm, hs]
  have h1 : min m (l.length - i * m) ≠ 0 := by omega
  rw [if_neg h1]
  congr 1
  · rw [← List.length_drop, ← List.take_eq_take_min]
  · congr 1; omega
  · congr 1
    by_cases hb : m ≤ l.length - i * m
    · rw [Nat.min_eq_left hb]
    · rw [Nat.min_eq_right (by omega)]
      have e1 : ¬ (i * m + (l.length - i * m) < l.length) := by omega
      have e2 : ¬ (i * m + m < l.length) := by omega
      simp only [e1, e2]
theorem page_after {l : List ByteArray} {m i : Nat} (hi : (i + 1) * m ≤ l.length) : (page l m i).after = ahead l m (i + 1) := by
  unfold page ahead
  rw [if_neg (by omega), Nat.min_eq_left hi]
theorem cut_end {l : List ByteArray} {most : Int} {a : ByteArray} (hb : beh l a = l.length) : (cut l a most).list = [] ∧ (cut l a most).after = a ∧ (cut l a most).more = false := by
  have hc : clamp most (l.length - l.length) = 0 := by have := clamp_le most (l.length - l.length); omega
  unfold cut cutTo
  rw [hb, hc]
  simp
/-- how many pages -/
def count (n m : Nat) : Nat := (n + m - 1) / m
theorem count_lt {n m i : Nat} (hm : 0 < m) : i < count n m ↔ i * m < n := by
  unfold count
  rw [Nat.lt_iff_add_one_le, Nat.le_div_iff_mul_le hm, Nat.add_mul, Nat.one_mul]
  omega
def all (l : List ByteArray) (most : Int) : List Pg := if most < 1 then [] else (List.range (count l.length most.toNat)).map (page l most.toNat)
end Go.Proofs.Ytilnmfbimfmacaa.pg
