/- texts put together: SerMath, RowsAt, SymRight. -/
import Derived.Test.YtegjpiggjcfoaaaPd00
import Derived.Test.YtegjpiggjcfoaaaPd01
import Derived.ChangeArms
import Derived.Deep.SlicePairs
import Derived.Lib.SmallJoins
import Derived.Maps.OwnSet
import Derived.Test.YtegjpiggjcfoaaaRows
import Derived.WideShapes
namespace Go.Proofs.Ytegjpiggjcfoaaa.tb
theorem find_put {c : Int} {L : List Sym} {s x : ByteArray} (hr : Right c L) (hx : find L x < L.length) : find (put c L s).1 x = find L x ∧ find (put c L s).1 x < (put c L s).1.length := by
 obtain ⟨g1, g2⟩ := find_yes hx
 have hr' := right_put (s := s) hr
 have key : ∀ L' : List Sym, Right c L' → find L x < L'.length → 0 < (at_ L' (find L x)).2 → (at_ L' (find L x)).1 = x → find L' x = find L x ∧ find L' x < L'.length := fun L' h1 h2 h3 h4 => by
  have e := find_right h1 h2 ⟨h3, h4⟩
  exact ⟨e, by rw [e]; exact h2⟩
 unfold put at hr' ⊢
 by_cases h6 : 600 < s.size
 ·
  rw [if_pos h6]; exact ⟨rfl, hx⟩
 rw [if_neg h6] at hr' ⊢
 by_cases hf : find L s < L.length
 ·
  rw [if_pos hf] at hr' ⊢
  by_cases hm : (at_ L (find L s)).2 = 1099511627776
  ·
   rw [if_pos hm]; exact ⟨rfl, hx⟩
  rw [if_neg hm] at hr' ⊢
  refine key _ hr' (by rw [List.length_set]; exact hx) ?_ ?_
  ·
   rw [at_set hf]; split
   ·
    have := (hr.2.2.2.1 _ hf).1; show 0 < _ + 1; omega
   ·
    exact g1
  ·
   rw [at_set hf]; split
   ·
    rename_i e; show s = x; rw [← g2, ← e]; exact (find_yes hf).2.symm
   ·
    exact g2
 rw [if_neg hf] at hr' ⊢
 by_cases hc : (free L : Int) = c
 ·
  rw [if_pos hc]; exact ⟨rfl, hx⟩
 rw [if_neg hc] at hr' ⊢
 by_cases hfr : free L < L.length
 ·
  rw [if_pos hfr] at hr' ⊢
  have hne : ¬ free L = find L x := fun e => by have := free_yes hfr; rw [e] at this; omega
  refine key _ hr' (by rw [List.length_set]; exact hx) ?_ ?_
  ·
   rw [at_set hfr, if_neg hne]; exact g1
  ·
   rw [at_set hfr, if_neg hne]; exact g2
 ·
  rw [if_neg hfr] at hr' ⊢
  refine key _ hr' (by rw [List.length_append]; exact Nat.lt_of_lt_of_le hx (Nat.le_add_right _ _)) ?_ ?_
  ·
   rw [at_snoc, if_pos hx]; exact g1
  ·
   rw [at_snoc, if_pos hx]; exact g2
theorem put_num {c : Int} {L : List Sym} {s : ByteArray} (hr : Right c L) (h0 : (put c L s).2.2 = 0) : (put c L s).2.1 = (find (put c L s).1 s : Int) ∧ find (put c L s).1 s < (put c L s).1.length := by
 have hr' := right_put (s := s) hr
 have key : ∀ (L' : List Sym) (k : Nat), Right c L' → k < L'.length → 0 < (at_ L' k).2 → (at_ L' k).1 = s → (k : Int) = (find L' s : Int) ∧ find L' s < L'.length := fun L' k h1 h2 h3 h4 => by
  have e := find_right h1 h2 ⟨h3, h4⟩
  exact ⟨by rw [e], by rw [e]; exact h2⟩
 unfold put at h0 hr' ⊢
 by_cases h6 : 600 < s.size
 ·
  rw [if_pos h6] at h0; cases h0
 rw [if_neg h6] at h0 hr' ⊢
 by_cases hf : find L s < L.length
 ·
  rw [if_pos hf] at h0 hr' ⊢
  by_cases hm : (at_ L (find L s)).2 = 1099511627776
  ·
   rw [if_pos hm] at h0; cases h0
  rw [if_neg hm] at hr' ⊢
  refine key _ _ hr' (by rw [List.length_set]; exact hf) ?_ ?_
  ·
   rw [at_set hf, if_pos rfl]; have := (hr.2.2.2.1 _ hf).1; show 0 < _ + 1; omega
  ·
   rw [at_set hf, if_pos rfl]
 rw [if_neg hf] at h0 hr' ⊢
 by_cases hc : (free L : Int) = c
 ·
  rw [if_pos hc] at h0; cases h0
 rw [if_neg hc] at hr' ⊢
 by_cases hfr : free L < L.length
 ·
  rw [if_pos hfr] at hr' ⊢
  exact key _ _ hr' (by rw [List.length_set]; exact hfr) (by rw [at_set hfr, if_pos rfl]; show (0 : Int) < 1; omega) (by rw [at_set hfr, if_pos rfl])
 ·
  rw [if_neg hfr] at hr' ⊢
  have e : free L = L.length := by have := free_le L; omega
  refine key _ _ hr' (by rw [List.length_append, e]; exact Nat.lt_succ_self _) ?_ ?_
  ·
   rw [at_snoc, if_neg hfr, if_pos e]; show (0 : Int) < 1; omega
  ·
   rw [at_snoc, if_neg hfr, if_pos e]
theorem find_drop {c : Int} {L : List Sym} {id : Int} {x : ByteArray} (hr : Right c L) (hx : find L x < L.length) (hp : 0 < cnt (drop L id).1 x) : find (drop L id).1 x = find L x ∧ find (drop L id).1 x < (drop L id).1.length := by
 obtain ⟨g1, g2⟩ := find_yes hx
 have hr' := right_drop (id := id) hr
 by_cases hu : used L id = true
 ·
  have hc := cnt_drop (s' := x) hr hu
  unfold used at hu
  obtain ⟨h0, h1, h2⟩ := of_decide_eq_true hu
  have hk : id.toNat < L.length := by omega
  have hu' : used L id = true := decide_eq_true ⟨h0, h1, h2⟩
  unfold drop at hr' hp hc ⊢
  rw [if_pos hu'] at hr' hp hc ⊢
  have key : 0 < (at_ (L.set id.toNat (if (at_ L id.toNat).2 = 1 then ByteArray.empty else (at_ L id.toNat).1, (at_ L id.toNat).2 - 1)) (find L x)).2 ∧ (at_ (L.set id.toNat (if (at_ L id.toNat).2 = 1 then ByteArray.empty else (at_ L id.toNat).1, (at_ L id.toNat).2 - 1)) (find L x)).1 = x := by
   rw [at_set hk]
   by_cases e : id.toNat = find L x
   ·
    rw [if_pos e]
    have ex : x = (at_ L id.toNat).1 := by rw [e]; exact g2.symm
    rw [if_pos ex] at hc
    have hci : cnt L x = (at_ L id.toNat).2 := by rw [e]; unfold cnt; rw [if_pos hx]
    have : 1 < (at_ L id.toNat).2 := by simp only at hp hc; omega
    exact ⟨by show 0 < _ - 1; omega, by show (if _ then _ else _) = _; rw [if_neg (by omega)]; exact ex.symm⟩
   ·
    rw [if_neg e]; exact ⟨g1, g2⟩
  have e := find_right hr' (k := find L x) (by rw [List.length_set]; exact hx) key
  exact ⟨e, by show find (L.set _ _) x < (L.set _ _).length; rw [e, List.length_set]; exact hx⟩
 ·
  unfold drop
  rw [if_neg hu]; exact ⟨rfl, hx⟩
theorem cnt_find {L : List Sym} {x : ByteArray} (h : 0 < cnt L x) : find L x < L.length := by
 have := cnt_pos (L := L) (s := x)
 rw [decide_eq_true h] at this
 exact of_decide_eq_true this
theorem used_find {L : List Sym} {x : ByteArray} (h : find L x < L.length) : used L (find L x : Int) = true := decide_eq_true ⟨by omega, by omega, by simpa using (find_yes h).1⟩
end Go.Proofs.Ytegjpiggjcfoaaa.tb
namespace Go.Proofs.Ytegjpiggjcfoaaa.se
open Go.RowKit
abbrev Row := List Lab × Int
def ct (l : List ByteArray) (x : ByteArray) : Nat := l.countP fun y => decide (y = x)
theorem ct_cons (a x : ByteArray) (l : List ByteArray) : ct (a :: l) x = ct l x + if x = a then 1 else 0 := by
 unfold ct
 rw [List.countP_cons]
 by_cases h : x = a
 ·
  subst h; simp
 ·
  rw [if_neg h, if_neg (by simpa using fun e => h e.symm)]
theorem ct_app (a b : List ByteArray) (x : ByteArray) : ct (a ++ b) x = ct a x + ct b x := List.countP_append
theorem ct_pos {l : List ByteArray} {x : ByteArray} (h : x ∈ l) : 0 < ct l x := List.countP_pos_iff.2 ⟨x, h, by simp⟩
def texts (l : List Lab) : List ByteArray := l.flatMap fun x => [x.1, x.2]
def all (R : List Row) : List ByteArray := R.flatMap fun r => texts r.1
def at_ (R : List Row) (k : Nat) : Row := R.getD k ([], 0)
def find (R : List Row) (l : List Lab) : Nat := R.findIdx fun r => decide (0 < r.2 ∧ r.1 = l)
def free (R : List Row) : Nat := R.findIdx fun r => decide (r.2 < 1)
def used (R : List Row) (id : Int) : Bool := decide (0 ≤ id ∧ id < (R.length : Int) ∧ 1 ≤ (at_ R id.toNat).2)
structure Ok (S : List tb.Sym) (R : List Row) : Prop where
 right : tb.Right 24000 S
 len : R.length ≤ 4000
 row : ∀ k, k < R.length → 0 ≤ (at_ R k).2 ∧ (at_ R k).2 ≤ 1099511627776 ∧ ((at_ R k).2 = 0 → (at_ R k).1 = []) ∧ (0 < (at_ R k).2 → lm.canonF (at_ R k).1 = (0, (at_ R k).1))
 cnt : ∀ x, tb.cnt S x = (ct (all R) x : Int)
 one : ∀ i j, i < j → j < R.length → 0 < (at_ R i).2 → 0 < (at_ R j).2 → (at_ R i).1 ≠ (at_ R j).1
theorem texts_len (l : List Lab) : (texts l).length = l.length * 2 := by
 induction l with
 | nil => rfl
 | cons x l ih => simp only [texts, List.flatMap_cons, List.length_append, List.length_cons, List.length_nil] at ih ⊢; omega
theorem texts_get : ∀ (l : List Lab) (j : Nat), j < l.length → (texts l)[j * 2]? = some (l.getD j (.empty, .empty)).1 ∧ (texts l)[j * 2 + 1]? = some (l.getD j (.empty, .empty)).2 := by
 intro l
 induction l with
 | nil => intro j h; simp at h
 | cons x l ih =>
  intro j h
  have e : texts (x :: l) = x.1 :: x.2 :: texts l := rfl
  rw [e]
  cases j with
  | zero => exact ⟨rfl, rfl⟩
  | succ j =>
   have := ih j (by simpa using h)
   rw [Nat.succ_mul]
   simpa using this
theorem at_get {R : List Row} {i : Nat} (h : i < R.length) : R[i] = at_ R i := by simp [at_, List.getD, h]
theorem at_set {R : List Row} {i j : Nat} {x : Row} (hi : i < R.length) : at_ (R.set i x) j = if i = j then x else at_ R j := by
 unfold at_
 simp only [List.getD, List.getElem?_set]
 by_cases h : i = j
 ·
  subst h; simp [hi]
 ·
  simp [h]
theorem at_snoc {R : List Row} {j : Nat} {x : Row} : at_ (R ++ [x]) j = if j < R.length then at_ R j else if j = R.length then x else ([], 0) := by
 unfold at_
 simp only [List.getD]
 by_cases h : j < R.length
 ·
  rw [List.getElem?_append_left h, if_pos h]
 ·
  rw [List.getElem?_append_right (by omega), if_neg h]
  by_cases h2 : j = R.length
  ·
   subst h2; simp
  ·
   rw [if_neg h2, List.getElem?_eq_none (by simp; omega)]; rfl
theorem all_set (x : ByteArray) (r : Row) : ∀ (R : List Row) (k : Nat), k < R.length → ct (all (R.set k r)) x + ct (texts (at_ R k).1) x = ct (all R) x + ct (texts r.1) x := by
 intro R
 induction R with
 | nil => intro k h; simp at h
 | cons a R ih =>
  intro k h
  cases k with
  | zero => simp only [all, List.set_cons_zero, List.flatMap_cons, ct_app, at_, List.getD_cons_zero]; omega
  | succ k =>
   have := ih k (by simpa using h)
   simp only [all, at_, List.set_cons_succ, List.flatMap_cons, ct_app, List.getD_cons_succ] at this ⊢; omega
theorem all_snoc (x : ByteArray) (r : Row) (R : List Row) : ct (all (R ++ [r])) x = ct (all R) x + ct (texts r.1) x := by
 simp only [all, List.flatMap_append, ct_app, List.flatMap_cons, List.flatMap_nil, List.append_nil]
theorem all_at {x : ByteArray} : ∀ {R : List Row} {k : Nat}, k < R.length → ct (texts (at_ R k).1) x ≤ ct (all R) x := by
 intro R
 induction R with
 | nil => intro k h; simp at h
 | cons a R ih =>
  intro k h
  simp only [all, List.flatMap_cons, ct_app]
  cases k with
  | zero => simp only [at_, List.getD_cons_zero]; omega
  | succ k =>
   have := ih (k := k) (by simpa using h)
   simp only [all, at_, List.getD_cons_succ] at this ⊢; omega
theorem find_le (R : List Row) (l : List Lab) : find R l ≤ R.length := List.findIdx_le_length
theorem free_le (R : List Row) : free R ≤ R.length := List.findIdx_le_length
theorem idx_yes {R : List Row} (p : Row → Bool) (h : R.findIdx p < R.length) : p (at_ R (R.findIdx p)) = true := by
 have h2 := List.findIdx_getElem (w := h)
 rwa [at_get h] at h2
theorem find_yes {R : List Row} {l : List Lab} (h : find R l < R.length) : 0 < (at_ R (find R l)).2 ∧ (at_ R (find R l)).1 = l := by
 exact of_decide_eq_true (idx_yes (fun r : Row => decide (0 < r.2 ∧ r.1 = l)) h)
theorem find_no {R : List Row} {l : List Lab} {j : Nat} (h : j < find R l) : ¬ (0 < (at_ R j).2 ∧ (at_ R j).1 = l) := by
 have hl : j < R.length := Nat.lt_of_lt_of_le h (find_le R l)
 have := List.not_of_lt_findIdx h
 rw [at_get hl] at this
 simpa using this
theorem find_eq {R : List Row} {l : List Lab} {k : Nat} (hk : k < R.length) (h : 0 < (at_ R k).2 ∧ (at_ R k).1 = l) (h2 : ∀ j, j < k → ¬ (0 < (at_ R j).2 ∧ (at_ R j).1 = l)) : find R l = k := by
 rcases Nat.lt_trichotomy (find R l) k with h3 | h3 | h3
 ·
  exact absurd (find_yes (Nat.lt_trans h3 hk)) (h2 _ h3)
 ·
  exact h3
 ·
  exact absurd h (find_no h3)
theorem find_none {R : List Row} {l : List Lab} (h2 : ∀ j, j < R.length → ¬ (0 < (at_ R j).2 ∧ (at_ R j).1 = l)) : find R l = R.length := by
 rcases Nat.lt_or_ge (find R l) R.length with h3 | h3
 ·
  exact absurd (find_yes h3) (h2 _ h3)
 ·
  have := find_le R l; omega
theorem find_ok {S : List tb.Sym} {R : List Row} {l : List Lab} {k : Nat} (h : Ok S R) (hk : k < R.length) (h0 : 0 < (at_ R k).2) (h1 : (at_ R k).1 = l) : find R l = k := by
 refine find_eq hk ⟨h0, h1⟩ fun j hj hh => ?_
 exact h.one j k hj hk hh.1 h0 (by rw [hh.2, h1])
theorem free_yes {R : List Row} (h : free R < R.length) : (at_ R (free R)).2 < 1 := by
 exact of_decide_eq_true (idx_yes (fun r : Row => decide (r.2 < 1)) h)
theorem free_no {R : List Row} {j : Nat} (h : j < free R) : ¬ (at_ R j).2 < 1 := by
 have hl : j < R.length := Nat.lt_of_lt_of_le h (free_le R)
 have := List.not_of_lt_findIdx h
 rw [at_get hl] at this
 simpa using this
theorem free_eq {R : List Row} {k : Nat} (hk : k < R.length) (h : (at_ R k).2 < 1) (h2 : ∀ j, j < k → ¬ (at_ R j).2 < 1) : free R = k := by
 rcases Nat.lt_trichotomy (free R) k with h3 | h3 | h3
 ·
  exact absurd (free_yes (Nat.lt_trans h3 hk)) (h2 _ h3)
 ·
  exact h3
 ·
  exact absurd h (free_no h3)
theorem free_none {R : List Row} (h2 : ∀ j, j < R.length → ¬ (at_ R j).2 < 1) : free R = R.length := by
 rcases Nat.lt_or_ge (free R) R.length with h3 | h3
 ·
  exact absurd (free_yes h3) (h2 _ h3)
 ·
  have := free_le R; omega
theorem Ok.sym {S : List tb.Sym} {R : List Row} (h : Ok S R) {k : Nat} (hk : k < R.length) {x : ByteArray} (hx : x ∈ texts (at_ R k).1) : tb.find S x < S.length := by
 refine tb.cnt_find ?_
 rw [h.cnt]
 have h1 := ct_pos hx
 have h2 := all_at (x := x) hk
 omega
def puts (S : List tb.Sym) : List ByteArray → List tb.Sym × Int
 | [] => (S, 0)
 | t :: ts => if (tb.put 24000 S t).2.2 = 0 then puts (tb.put 24000 S t).1 ts else (S, (tb.put 24000 S t).2.2)
theorem puts_snoc {S : List tb.Sym} {ts : List ByteArray} {t : ByteArray} (h : (puts S ts).2 = 0) : puts S (ts ++ [t]) = if (tb.put 24000 (puts S ts).1 t).2.2 = 0 then ((tb.put 24000 (puts S ts).1 t).1, 0) else ((puts S ts).1, (tb.put 24000 (puts S ts).1 t).2.2) := by
 induction ts generalizing S with
 | nil => rfl
 | cons a ts ih =>
  show (if _ then _ else _) = _
  by_cases ha : (tb.put 24000 S a).2.2 = 0
  ·
   have e : puts S (a :: ts) = puts (tb.put 24000 S a).1 ts := if_pos ha
   rw [if_pos ha, e]
   rw [e] at h
   exact ih h
  ·
   have e : puts S (a :: ts) = (S, (tb.put 24000 S a).2.2) := if_neg ha
   rw [e] at h
   exact absurd h ha
theorem puts_fail {S : List tb.Sym} {ts us : List ByteArray} (h : (puts S ts).2 ≠ 0) : (puts S (ts ++ us)).2 = (puts S ts).2 := by
 induction ts generalizing S with
 | nil => exact absurd rfl h
 | cons a ts ih =>
  show (if _ then _ else _ : List tb.Sym × Int).2 = (if _ then _ else _ : List tb.Sym × Int).2
  by_cases ha : (tb.put 24000 S a).2.2 = 0
  ·
   have e : puts S (a :: ts) = puts (tb.put 24000 S a).1 ts := if_pos ha
   rw [e] at h
   rw [if_pos ha, if_pos ha]; exact ih h
  ·
   rw [if_neg ha, if_neg ha]
theorem puts_right {S : List tb.Sym} {ts : List ByteArray} (h : tb.Right 24000 S) : tb.Right 24000 (puts S ts).1 := by
 induction ts generalizing S with
 | nil => exact h
 | cons a ts ih =>
  show tb.Right 24000 (if _ then _ else _ : List tb.Sym × Int).1
  split
  ·
   exact ih (tb.right_put h)
  ·
   exact h
theorem puts_cnt {S : List tb.Sym} {ts : List ByteArray} {x : ByteArray} (h : tb.Right 24000 S) (h0 : (puts S ts).2 = 0) : tb.cnt (puts S ts).1 x = tb.cnt S x + (ct ts x : Int) := by
 induction ts generalizing S with
 | nil => simp [puts, ct]
 | cons a ts ih =>
  by_cases ha : (tb.put 24000 S a).2.2 = 0
  ·
   have e : puts S (a :: ts) = puts (tb.put 24000 S a).1 ts := if_pos ha
   rw [e] at h0 ⊢
   rw [ih (tb.right_put h) h0, tb.cnt_put h ha, ct_cons]
   by_cases hx : x = a
   ·
    rw [if_pos hx, if_pos hx]; omega
   ·
    rw [if_neg hx, if_neg hx]; omega
  ·
   have e : puts S (a :: ts) = (S, (tb.put 24000 S a).2.2) := if_neg ha
   rw [e] at h0
   exact absurd h0 ha
theorem puts_find {S : List tb.Sym} {ts : List ByteArray} {x : ByteArray} (h : tb.Right 24000 S) (hx : tb.find S x < S.length) : tb.find (puts S ts).1 x = tb.find S x ∧ tb.find (puts S ts).1 x < (puts S ts).1.length := by
 induction ts generalizing S with
 | nil => exact ⟨rfl, hx⟩
 | cons a ts ih =>
  by_cases ha : (tb.put 24000 S a).2.2 = 0
  ·
   have e : puts S (a :: ts) = puts (tb.put 24000 S a).1 ts := if_pos ha
   obtain ⟨h1, h2⟩ := tb.find_put (s := a) h hx
   obtain ⟨h3, h4⟩ := ih (tb.right_put h) h2
   rw [e]; exact ⟨h3.trans h1, h4⟩
  ·
   have e : puts S (a :: ts) = (S, (tb.put 24000 S a).2.2) := if_neg ha
   rw [e]; exact ⟨rfl, hx⟩
def drops (S : List tb.Sym) : List ByteArray → List tb.Sym
 | [] => S
 | t :: ts => drops (tb.drop S (tb.find S t : Int)).1 ts
theorem drops_snoc {S : List tb.Sym} {ts : List ByteArray} {t : ByteArray} : drops S (ts ++ [t]) = (tb.drop (drops S ts) (tb.find (drops S ts) t : Int)).1 := by
 induction ts generalizing S with
 | nil => rfl
 | cons a ts ih => exact ih
theorem drops_right {S : List tb.Sym} {ts : List ByteArray} (h : tb.Right 24000 S) : tb.Right 24000 (drops S ts) := by
 induction ts generalizing S with
 | nil => exact h
 | cons a ts ih => exact ih (tb.right_drop h)
theorem drops_cnt {S : List tb.Sym} {ts : List ByteArray} (h : tb.Right 24000 S) (h0 : ∀ x, (ct ts x : Int) ≤ tb.cnt S x) (x : ByteArray) : tb.cnt (drops S ts) x = tb.cnt S x - (ct ts x : Int) := by
 induction ts generalizing S with
 | nil => simp [drops, ct]
 | cons a ts ih =>
  have ha := h0 a
  rw [ct_cons, if_pos rfl] at ha
  have hf : tb.find S a < S.length := tb.cnt_find (by omega)
  have hu := tb.used_find hf
  have hc : ∀ y, tb.cnt (tb.drop S (tb.find S a : Int)).1 y = tb.cnt S y - if y = a then 1 else 0 := fun y => by
   rw [tb.cnt_drop h hu, Int.toNat_natCast, (tb.find_yes hf).2]
  show tb.cnt (drops (tb.drop S (tb.find S a : Int)).1 ts) x = _
  rw [ih (tb.right_drop h) (fun y => ?_), hc x, ct_cons]
  ·
   by_cases hx : x = a
   ·
    rw [if_pos hx, if_pos hx]; omega
   ·
    rw [if_neg hx, if_neg hx]; omega
  ·
   rw [hc y]
   have := h0 y
   rw [ct_cons] at this
   by_cases hx : y = a
   ·
    rw [if_pos hx] at this ⊢; omega
   ·
    rw [if_neg hx] at this ⊢; omega
theorem drops_find {S : List tb.Sym} {ts : List ByteArray} {x : ByteArray} (h : tb.Right 24000 S) (h0 : ∀ x, (ct ts x : Int) ≤ tb.cnt S x) (hx : (ct ts x : Int) < tb.cnt S x) : tb.find (drops S ts) x = tb.find S x ∧ tb.find (drops S ts) x < (drops S ts).length := by
 induction ts generalizing S with
 | nil => exact ⟨rfl, tb.cnt_find (by have h1 : ((0 : Nat) : Int) < tb.cnt S x := hx; show 0 < tb.cnt S x; omega)⟩
 | cons a ts ih =>
  have ha := h0 a
  rw [ct_cons, if_pos rfl] at ha
  have hf : tb.find S a < S.length := tb.cnt_find (by omega)
  have hu := tb.used_find hf
  have hc : ∀ y, tb.cnt (tb.drop S (tb.find S a : Int)).1 y = tb.cnt S y - if y = a then 1 else 0 := fun y => by
   rw [tb.cnt_drop h hu, Int.toNat_natCast, (tb.find_yes hf).2]
  have hle : ∀ y, (ct ts y : Int) ≤ tb.cnt (tb.drop S (tb.find S a : Int)).1 y := fun y => by
   rw [hc y]
   have := h0 y
   rw [ct_cons] at this
   by_cases hx : y = a
   ·
    rw [if_pos hx] at this ⊢; omega
   ·
    rw [if_neg hx] at this ⊢; omega
  have hlt : (ct ts x : Int) < tb.cnt (tb.drop S (tb.find S a : Int)).1 x := by
   rw [hc x]
   rw [ct_cons] at hx
   by_cases hxa : x = a
   ·
    rw [if_pos hxa] at hx ⊢; omega
   ·
    rw [if_neg hxa] at hx ⊢; omega
  obtain ⟨h1, h2⟩ := ih (tb.right_drop h) hle hlt
  obtain ⟨h3, _⟩ := tb.find_drop (id := (tb.find S a : Int)) h (x := x) (tb.cnt_find (by omega)) (by omega)
  exact ⟨h1.trans h3, h2⟩
end Go.Proofs.Ytegjpiggjcfoaaa.se
namespace Go.Proofs.Ytegjpiggjcfoaaa.cl
open Go.RowKit Go.WideShapes Go.ChangeShapes
abbrev Rel (α : Type) := World → Nat → List Value → α → Prop
def Steady {α : Type} (R : Rel α) : Prop := ∀ (w w' : World) (B B' : Nat) (c : List Value) (x : α), R w B c x → Below B w w' → B ≤ B' → R w' B' c x
def RowsAt {α : Type} (k : Nat) (R : Rel α) (w : World) (B : Nat) (v : Value) (l : List α) : Prop :=
 ∃ cs : List (List Value), cs.length = l.length ∧ (∀ (j : Nat) (c : List Value) (x : α), cs[j]? = some c → l[j]? = some x → c.length = k ∧ R w B c x) ∧ Cells w B v l.length k cs.flatten
theorem flat_len {k : Nat} : ∀ cs : List (List Value), (∀ c ∈ cs, c.length = k) → cs.flatten.length = cs.length * k := by
 intro cs
 induction cs with
 | nil => intro _; simp
 | cons c cs ih =>
  intro h
  rw [List.flatten_cons, List.length_append, ih (fun x hx => h x (List.mem_cons_of_mem _ hx)), h c List.mem_cons_self, List.length_cons, Nat.succ_mul]; omega
theorem flat_get {k : Nat} : ∀ (cs : List (List Value)), (∀ c ∈ cs, c.length = k) → ∀ (j : Nat) (c : List Value) (i : Nat), cs[j]? = some c → i < k → cs.flatten[j * k + i]? = c[i]? := by
 intro cs
 induction cs with
 | nil => intro _ j c i h; simp at h
 | cons a cs ih =>
  intro h j c i hj hi
  have ha : a.length = k := h a List.mem_cons_self
  rw [List.flatten_cons]
  cases j with
  | zero =>
   simp only [List.getElem?_cons_zero, Option.some.injEq] at hj
   subst hj
   rw [Nat.zero_mul, Nat.zero_add, List.getElem?_append_left (by omega)]
  | succ j =>
   simp only [List.getElem?_cons_succ] at hj
   rw [Nat.succ_mul, List.getElem?_append_right (by omega), show j * k + k + i - a.length = j * k + i by omega]
   exact ih (fun x hx => h x (List.mem_cons_of_mem _ hx)) j c i hj hi
section
variable {α : Type} {k : Nat} {R : Rel α} {w w' : World} {B B' : Nat} {v : Value} {l : List α}
theorem RowsAt.len {cs : List (List Value)} (h0 : cs.length = l.length) (h : ∀ (j : Nat) (c : List Value) (x : α), cs[j]? = some c → l[j]? = some x → c.length = k ∧ R w B c x) : ∀ c ∈ cs, c.length = k := by
 intro c hc
 obtain ⟨j, hj, rfl⟩ := List.mem_iff_getElem.1 hc
 exact (h j _ l[j] (List.getElem?_eq_getElem hj) (List.getElem?_eq_getElem (by omega))).1
theorem RowsAt.below (hR : Steady R) (h : RowsAt k R w B v l) (hb : Below B w w') (hB : B ≤ B') : RowsAt k R w' B' v l := by
 obtain ⟨cs, h0, h1, h2⟩ := h
 exact ⟨cs, h0, fun j c x hc hx => ⟨(h1 j c x hc hx).1, hR _ _ _ _ _ _ (h1 j c x hc hx).2 hb hB⟩, (h2.below hb).mono hB⟩
theorem RowsAt.next (hR : Steady R) (h : RowsAt k R w w.heap.size v l) (hb : Below w.heap.size w w') : RowsAt k R w' w'.heap.size v l := h.below hR hb hb.size
theorem RowsAt.mono (hR : Steady R) (h : RowsAt k R w B v l) (hB : B ≤ B') : RowsAt k R w B' v l := h.below hR (Below.refl _ _) hB
theorem RowsAt.form (h : RowsAt k R w B v l) : ∃ ao cap, v = .slice ao l.length cap ∧ l.length ≤ cap ∧ l.length ≤ maxLen := h.choose_spec.2.2.form
theorem RowsAt.form' (h : RowsAt k R w B v l) {n : Nat} (hn : n = l.length) : ∃ ao cap, v = .slice ao n cap ∧ n ≤ cap ∧ n ≤ maxLen := by subst hn; exact h.form
theorem RowsAt.nil (w : World) (B : Nat) : RowsAt k R w B (.slice none 0 0) [] := ⟨[], rfl, fun j c x hc => by simp at hc, Cells.nil _ _ _⟩
theorem RowsAt.get {ao : Option Addr} {n cap : Nat} (h : RowsAt k R w B (.slice ao n cap) l) (hn : n = l.length) {j : Nat} (hj : j < n) (d : α) :
  ∃ b off c, ao = some ⟨b, off, none⟩ ∧ b < B ∧ c.length = k ∧ R w B c (l.getD j d) ∧ ∀ (i : Nat) u, c[i]? = some u → w.cell? ⟨b, off + j * k + i, none⟩ = some u := by
 subst hn
 obtain ⟨cs, h0, h1, h2⟩ := h
 have hk := RowsAt.len h0 h1
 obtain ⟨_, ao', c', e, _, _, h4⟩ := h2
 simp only [Value.slice.injEq] at e
 obtain ⟨rfl, _, rfl⟩ := e
 obtain ⟨b, off, rfl, hB, hc⟩ := h4 (by omega)
 have hcj : cs[j]? = some cs[j] := List.getElem?_eq_getElem (by omega)
 have hlj : l[j]? = some l[j] := List.getElem?_eq_getElem hj
 have e : l.getD j d = l[j] := by simp [List.getD, hlj]
 obtain ⟨g1, g2⟩ := h1 j _ _ hcj hlj
 refine ⟨b, off, cs[j], rfl, hB, g1, by rw [e]; exact g2, fun i u hu => ?_⟩
 have hi : i < k := by have := (List.getElem?_eq_some_iff.1 hu).1; omega
 rw [Nat.add_assoc]
 exact hc _ u (by rw [flat_get cs hk j _ i hcj hi]; exact hu)
theorem RowsAt.own {base : Nat} {e : TypeId} {n : Nat} {cs : List (List Value)} (hn : n = l.length) (h0 : cs.length = l.length) (h1 : ∀ (j : Nat) (c : List Value) (x : α), cs[j]? = some c → l[j]? = some x → c.length = k ∧ R w w.heap.size c x) (h : w.ownsRow base e k v n cs.flatten) : RowsAt k R w w.heap.size v l := by
 subst hn; exact ⟨cs, h0, h1, Cells.own h⟩
end
end Go.Proofs.Ytegjpiggjcfoaaa.cl
namespace Go.Proofs.Ytegjpiggjcfoaaa
open Go.RowKit Go.ChangeShapes Go.Maps Go.WideMaps cl
def SaidT (x : Bool) (w : World) (e : Ending) (w' : World) : Prop := e = .returned (.bool x) ∧ Below w.heap.size w w'
theorem twoT {w w2 : World} {x y : Value} {t : TypeId} (hb : Below (w.alloc (.cells #[x, y] t)).heap.size (w.alloc (.cells #[x, y] t)) w2) :
  w2.cell? ⟨w.heap.size, 0, none⟩ = some x ∧ w2.cell? ⟨w.heap.size, 1, none⟩ = some y ∧ w2.frozen? ⟨w.heap.size, 0, none⟩ = false ∧ w2.frozen? ⟨w.heap.size, 1, none⟩ = false ∧ w.heap.size < w2.heap.size := by
 have hs : w.heap.size < (w.alloc (.cells #[x, y] t)).heap.size := by simp
 have c : ∀ (k : Nat) (u : Value), (#[x, y] : Array Value)[k]? = some u → w2.cell? ⟨w.heap.size, k, none⟩ = some u := fun k u hu =>
  (hb.cell (p := ⟨w.heap.size, k, none⟩) hs).trans (by rw [World.cell?_alloc_at _ _ _ _ rfl]; exact hu)
 have f : ∀ k : Nat, w2.frozen? ⟨w.heap.size, k, none⟩ = false := fun k => (hb.frozen (p := ⟨w.heap.size, k, none⟩) hs).trans (World.frozen?_alloc_at _ _ _ _ rfl)
 exact ⟨c 0 x rfl, c 1 y rfl, f 0, f 1, by have := hb.size; simp at this; omega⟩
theorem run_makeMap_hint {P : Program} {t k e : TypeId} (ht : P.underlying t = some (.map k e)) (n : Int) (w : World) : (Instr.makeMap t (some (.int .i64 n))).run P w = .ok (.map (some w.heap.size)) (w.alloc (.map #[] 0)) := by
 simp [Instr.makeMap, run_underlying ht, asInt]
 rfl
theorem mlawT : Keyed Try.prog 9 := string_keyed Try.underlying9
def MapIs (D : DataW Unit) (U : List ByteArray) : Prop := Maps.size D = U.length ∧ ∀ s, s ∉ U → Maps.has D (.string s.data.toList) = false
theorem mapIs_nil : MapIs (.map []) [] := ⟨rfl, fun _ _ => rfl⟩
theorem mapIs_put {D : DataW Unit} {U : List ByteArray} {s : ByteArray} (h : MapIs D U) (ht : Tidy D) (hs : s ∉ U) (d : DataW Unit) : MapIs (D.put (.string s.data.toList) d) (U ++ [s]) := by
 refine ⟨by rw [size_put ht, h.2 s hs, List.length_append, h.1]; rfl, fun s' hs' => ?_⟩
 have hne : s' ≠ s := fun e => hs' (by rw [e]; simp)
 rw [has_put_other (fun e => hne (ByteArray.ext (Array.ext' (by simpa using e))))]
 exact h.2 s' (fun h2 => hs' (by simp [h2]))
def utexts (L : List tb.Sym) : Nat → List ByteArray
 | 0 => []
 | k + 1 => if 0 < (tb.at_ L k).2 then utexts L k ++ [(tb.at_ L k).1] else utexts L k
theorem utexts_len (L : List tb.Sym) : ∀ k, (utexts L k).length ≤ k := by
 intro k
 induction k with
 | zero => exact Nat.le_refl _
 | succ k ih =>
  unfold utexts
  split
  ·
   rw [List.length_append]; show _ + 1 ≤ _; omega
  ·
   omega
theorem utexts_mem {L : List tb.Sym} {s : ByteArray} : ∀ {k : Nat}, s ∈ utexts L k → ∃ j, j < k ∧ 0 < (tb.at_ L j).2 ∧ (tb.at_ L j).1 = s := by
 intro k
 induction k with
 | zero => intro h; cases h
 | succ k ih =>
  intro h
  unfold utexts at h
  split at h
  ·
   rename_i hp
   rcases List.mem_append.1 h with h | h
   ·
    obtain ⟨j, a, b⟩ := ih h; exact ⟨j, by omega, b⟩
   ·
    simp only [List.mem_cons, List.not_mem_nil, or_false] at h
    exact ⟨k, by omega, hp, h.symm⟩
  ·
   obtain ⟨j, a, b⟩ := ih h; exact ⟨j, by omega, b⟩
set_option maxHeartbeats 3200000 in
set_option maxRecDepth 100000 in
theorem symright_true (c : Int) (L : List tb.Sym) (vs : Value) (w : World) (hr : tb.Right c L) (h : Tabs w w.heap.size vs L) :
  Calls Try.prog 18 #[.agg #[vs, .int .i64 c]] w (SaidT true w) := by
 have hmm := fun (n : Int) (w : World) => run_makeMap_hint (P := Try.prog) Try.underlying64 n w
 obtain ⟨q0, hq0⟩ : ∃ q, q = L.length := ⟨_, rfl⟩
 obtain ⟨ao, cap, rfl⟩ : ∃ ao cap, vs = .slice ao q0 cap := by
  obtain ⟨ao, cap, e, _⟩ := h.form
  exact ⟨ao, cap, by rw [hq0]; exact e⟩
 have HC := Lib.hid h
 have HQ := Lib.hid hq0
 have HR := Lib.hid hr
 obtain ⟨hc0, hc1, hlc, _, _⟩ := hr
 rw [← hq0] at hlc
 have hn0 : ¬ c < 0 := by omega
 have hn1 : ¬ 24000 < c := by omega
 have hn2 : ¬ c < (q0 : Int) := by omega
 have hq4 : q0 ≤ 24000 := by omega
 have hA : Below w.heap.size w (w.alloc (.cells #[.slice ao q0 cap, .int .i64 c] 25)) := (Below.refl _ _).alloc (Nat.le_refl _) _
 clear h hq0
 go_enter Try.func18, Try.ntmps18
 go_wp2
 go_loopw [4, 5, 6, 30] (fun u4 _ _ i wr => ∃ (k : Nat) (D : DataW Unit), i = .int .i64 k ∧ k ≤ q0 ∧ u4 = .int .i64 (utexts L k).length ∧ Hid (MapIs D (utexts L k)) ∧ Hid (wr.ownsMap Try.prog 9 (plainElem Try.prog 3) (w.heap.size + 1) k D) ∧ Below (w.heap.size + 1) (w.alloc (.cells #[.slice ao q0 cap, .int .i64 c] 25)) wr) (fun _ _ _ i _ => q0 - (intOf i).toNat)
 case atStart =>
  refine ⟨0, .map [], rfl, by omega, rfl, mapIs_nil, ?_, ?_⟩
  ·
   have := World.ownsMap_made (H := Unit) (w.alloc (.cells #[.slice ao q0 cap, .int .i64 c] 25)) (P := Try.prog) (k := 9) (plainElem Try.prog 3)
   rw [World.size_alloc] at this
   exact this
  ·
   exact (Below.refl _ _).alloc (by rw [World.size_alloc]; exact Nat.le_refl _) _
 case round =>
  obtain ⟨k, D, rfl, hk, rfl, HM, HO, hbl⟩ := hrel
  have hb0 : Below w.heap.size w wr := hA.trans (hbl.mono (by omega))
  obtain ⟨d0, d1, f0, f1, hz⟩ := twoT (w := w) (w2 := wr) (t := 25) (by rw [World.size_alloc]; exact hbl)
  have hul := utexts_len L k
  by_cases hlt : k < q0
  ·
   have hkI : (k : Int) < (q0 : Int) := by omega
   obtain ⟨b, off, rfl, hB, p0, p1⟩ := Tabs.get HC.out HQ.out hlt
   have e0 := (hb0.cell (p := ⟨b, off + k * 2, none⟩) hB).trans p0
   have e1 := (hb0.cell (p := ⟨b, off + k * 2 + 1, none⟩) hB).trans p1
   have hri := HR.out.2.2.2.1 k (by rw [← HQ.out]; exact hlt)
   have HUT : Hid (utexts L (k + 1) = if 0 < (tb.at_ L k).2 then utexts L k ++ [(tb.at_ L k).1] else utexts L k) := rfl
   have HNM : Hid (0 < (tb.at_ L k).2 → (tb.at_ L k).1 ∉ utexts L k) := fun hp hm => by
    obtain ⟨j, h1, h2, h3⟩ := utexts_mem hm
    exact HR.out.2.2.2.2 j k h1 (by rw [← HQ.out]; exact hlt) h2 hp h3
   obtain ⟨⟨s, r⟩, hx⟩ : ∃ x, x = tb.at_ L k := ⟨_, rfl⟩
   rw [← hx] at e0 e1 hri HUT HNM
   simp only at e0 e1 hri HUT HNM
   obtain ⟨hr0, hr1, hs6, hre⟩ := hri
   clear p0 p1 hx
   by_cases hp : 0 < r
   ·
    have hre0 : (r == 0) = false := by simp; omega
    have hrn0 : ¬ r < 0 := by omega
    have hrn1 : ¬ 1099511627776 < r := by omega
    have hsz : ¬ (600 : Int) < (s.size : Int) := by omega
    have hsz1 : (s.size : Int) ≤ 9223372036854775807 := by omega
    have hkey : keyOf Try.prog 9 (.string s) = some (.string s.data.toList) := keyOf_string_mk Try.underlying9 (by unfold maxLen; omega)
    have HKEY := Lib.hid hkey
    have HUT2 : Hid (utexts L (k + 1) = utexts L k ++ [s]) := by show _ = _; rw [HUT.out, if_pos hp]
    have HUL : Hid ((utexts L (k + 1)).length = (utexts L k).length + 1) := by show _ = _; rw [HUT2.out, List.length_append]; rfl
    have HMP : Hid (MapIs (D.put (.string s.data.toList) (.lit (.int .i64 k))) (utexts L (k + 1))) := by
     show MapIs _ _
     rw [HUT2.out]; exact mapIs_put HM.out (HO.out.tidy mlawT) (HNM.out hp) _
    obtain ⟨u, hu⟩ : ∃ u, u = (utexts L k).length := ⟨_, rfl⟩
    rw [← hu] at HUL hul ⊢
    clear hkey hre hu
    go_wp2_with (at_mapUpdate; refine wpList_mapUpdate_own _ rfl _ _ _ 64 rfl 9 3 mlawT Try.underlying64 _ (w.heap.size + 1) k _ rfl (HO.out.alloc _) (by unfold maxLen; omega) _ _ _ rfl rfl HKEY.out _ [] (plainElem_int Try.underlying3 (WalkArith.wf_i64 (by omega))) ?_)
    intro w1 hown1 hgrow1
    have HO1 := Lib.hid hown1
    have hbl1 : Below (w.heap.size + 1) (w.alloc (.cells #[.slice (some ⟨b, off, none⟩) q0 cap, .int .i64 c] 25)) w1 := (hbl.alloc (by have : w.heap.size < wr.heap.size := hz; omega) _).grown hgrow1 (by have : w.heap.size < wr.heap.size := hz; simp; omega) (fun j hj => by cases hj; exact Nat.le_refl _)
    clear hown1 hgrow1
    go_wp2
    go_roundw
    case rel => exact ⟨k + 1, _, by go_num, by omega, by rw [HUL.out]; go_num, HMP.out, HO1.out, hbl1⟩
    case measure => simp [intOf]; omega
   ·
    obtain rfl : r = 0 := by omega
    obtain rfl := hre rfl
    have HUT2 : Hid (utexts L (k + 1) = utexts L k) := by show _ = _; rw [HUT.out, if_neg hp]
    have HM2 : Hid (MapIs D (utexts L (k + 1))) := by show MapIs _ _; rw [HUT2.out]; exact HM.out
    have HUL : Hid ((utexts L (k + 1)).length = (utexts L k).length) := by show _ = _; rw [HUT2.out]
    obtain ⟨u, hu⟩ : ∃ u, u = (utexts L k).length := ⟨_, rfl⟩
    rw [← hu] at HUL hul ⊢
    have HO1 := Lib.hid (HO.out.alloc (.cells #[.string .empty, .int .i64 0] 52))
    have hbl1 := hbl.alloc (by have : w.heap.size < wr.heap.size := hz; omega) (.cells #[.string .empty, .int .i64 0] 52)
    clear hre hu hp
    go_wp2
    go_roundw
    case rel => exact ⟨k + 1, D, by go_num, by omega, by rw [HUL.out], HM2.out, HO1.out.mono (Nat.le_succ k), hbl1⟩
    case measure => simp [intOf]; omega
  ·
   obtain rfl : k = q0 := by omega
   have HS : Hid (Maps.size D = (utexts L k).length) := HM.out.1
   obtain ⟨u, hu⟩ : ∃ u, u = (utexts L k).length := ⟨_, rfl⟩
   rw [← hu] at HS hul ⊢
   clear hu
   have hs := HS.out
   go_wp2_with (at_len; refine wpList_len_own _ rfl _ 64 rfl 9 3 Try.underlying64 _ (w.heap.size + 1) k D rfl HO.out ?_)
   go_ret
   exact ⟨rfl, hb0⟩
end Go.Proofs.Ytegjpiggjcfoaaa
