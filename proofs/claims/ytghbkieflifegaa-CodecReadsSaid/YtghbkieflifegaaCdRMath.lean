/- codec: what is read of bytes; nothing of the program. -/
import Derived.Test.YtghbkieflifegaaCdMath
import Derived.Test.YtghbkieflifegaaGetText
namespace Go.Proofs.Ytghbkieflifegaa.cd

/-- what is read at a place: it, and the place behind, or why not -/
abbrev Rs (α : Type) := Except Nat (α × Nat)
def seqR {α β : Type} (x : Rs α) (f : α → Nat → Rs β) : Rs β := match x with
  | .ok (v, a) => f v a
  | .error e => .error e
def numR (L : List Nat) (a : Nat) : Rs Nat := if (vm.get L a).2.2 = 0 then .ok ((vm.get L a).1, (vm.get L a).2.1) else .error (vm.get L a).2.2
def txtR (L : List Nat) (a : Nat) : Rs ByteArray := if (vm.getText L a).2.2 = 0 then .ok (kit.str (vm.getText L a).1, (vm.getText L a).2.1) else .error (vm.getText L a).2.2
def repR {α : Type} (one : Nat → Rs α) : Nat → Nat → Rs (List α)
  | 0, a => .ok ([], a)
  | n + 1, a => seqR (one a) fun x a => seqR (repR one n a) fun l a => .ok (x :: l, a)
def lstR {α : Type} (L : List Nat) (one : Nat → Rs α) (a : Nat) : Rs (List α) := seqR (numR L a) fun n a => if 4000 < n then .error 4 else repR one n a
def dotR (L : List Nat) (a : Nat) : Rs D := seqR (numR L a) fun x a => seqR (numR L a) fun y a => .ok (((x : Int), (y : Int)), a)
def lnkR (L : List Nat) (a : Nat) : Rs Lk := seqR (numR L a) fun x a => seqR (dotR L a) fun d a => .ok (((x : Int), d), a)
def entR (L : List Nat) (a : Nat) : Rs Ent := seqR (txtR L a) fun s a => seqR (dotR L a) fun d a => seqR (numR L a) fun t a => seqR (lstR L (lnkR L) a) fun l a => .ok (⟨s, d, t, l⟩, a)
def ctxR (L : List Nat) (a : Nat) : Rs (List D × List D) := seqR (lstR L (dotR L) a) fun v a => seqR (lstR L (dotR L) a) fun c a => .ok ((v, c), a)
def delR (L : List Nat) (a : Nat) : Rs (List Ent × List D × List D × List D) := seqR (lstR L (entR L) a) fun e a => seqR (lstR L (dotR L) a) fun al a => seqR (ctxR L a) fun c a => .ok ((e, al, c), a)
def msgR (L : List Nat) (a : Nat) : Rs Msg :=
  seqR (numR L a) fun k a => seqR (numR L a) fun f a => seqR (numR L a) fun t a => seqR (numR L a) fun g a => seqR (numR L a) fun n a => seqR (delR L a) fun d a => seqR (ctxR L a) fun c a =>
  seqR (numR L a) fun ki a => seqR (txtR L a) fun mn a => seqR (txtR L a) fun mv a => seqR (lstR L (txtR L) a) fun s a => seqR (numR L a) fun er a =>
  .ok (⟨k, f, t, g, n, d.1, d.2.1, d.2.2.1, d.2.2.2, c.1, c.2, ki, mn, mv, s, er⟩, a)
/-- the whole -/
def read (L : List Nat) : Except Nat Msg := match msgR L 0 with
  | .ok (m, a) => if a < L.length then .error 3 else .ok m
  | .error e => .error e

theorem seqR_ok {α β : Type} {x : Rs α} {f : α → Nat → Rs β} {v : α} {a : Nat} (h : x = .ok (v, a)) : seqR x f = f v a := by rw [h]; rfl
theorem seqR_err {α β : Type} {x : Rs α} {f : α → Nat → Rs β} {e : Nat} (h : x = .error e) : seqR x f = .error e := by rw [h]; rfl
theorem seqR_inv {α β : Type} {x : Rs α} {f : α → Nat → Rs β} {y : β} {b : Nat} (h : seqR x f = .ok (y, b)) : ∃ v a, x = .ok (v, a) ∧ f v a = .ok (y, b) := by
  cases x with
  | ok p => exact ⟨p.1, p.2, rfl, h⟩
  | error e => cases h
theorem numR_cases (L : List Nat) (a : Nat) (hL : ∀ x ∈ L, x < 256) :
    (∃ e, vm.get L a = (0, 0, e) ∧ 1 ≤ e ∧ numR L a = .error e) ∨
    (∃ n k, vm.get L a = (n, k, 0) ∧ n ≤ 1099511627776 ∧ k = a + (vm.enc n).length ∧ (L.drop a).take (vm.enc n).length = vm.enc n ∧ k ≤ L.length ∧ numR L a = .ok (n, k)) := by
  rcases vm.get_cases L a hL with ⟨e, h, h1, _⟩ | ⟨n, a', ha, h, hn, ht, hl⟩
  · refine Or.inl ⟨e, h, h1, ?_⟩
    unfold numR
    rw [h, if_neg (by simp; omega)]
  · obtain rfl : a = a' := by omega
    refine Or.inr ⟨n, _, h, hn, rfl, ht, hl, ?_⟩
    unfold numR
    rw [h, if_pos rfl]
theorem txtR_cases (L : List Nat) (a : Nat) (hL : ∀ x ∈ L, x < 256) :
    (∃ e, vm.getText L a = ([], 0, e) ∧ 1 ≤ e ∧ txtR L a = .error e) ∨
    (∃ t n b, numR L a = .ok (n, b) ∧ n ≤ 4000 ∧ t = (L.drop b).take n ∧ vm.getText L a = (t, b + n, 0) ∧ b + n ≤ L.length ∧ a ≤ b ∧ txtR L a = .ok (kit.str t, b + n)) := by
  rcases numR_cases L a hL with ⟨e, h, h1, _⟩ | ⟨n, k, h, hn, hk, _, hl, hr⟩
  · have := vm.getText_err h h1
    refine Or.inl ⟨e, this, h1, ?_⟩
    unfold txtR
    rw [this, if_neg (by simp; omega)]
  · by_cases h4 : 4000 < n
    · have := vm.getText_long h h4
      refine Or.inl ⟨4, this, by omega, ?_⟩
      unfold txtR
      rw [this]; rfl
    · by_cases hs : L.length < k + n
      · have := vm.getText_short h h4 hs
        refine Or.inl ⟨2, this, by omega, ?_⟩
        unfold txtR
        rw [this]; rfl
      · have := vm.getText_ok h h4 hs
        refine Or.inr ⟨_, n, k, hr, by omega, rfl, this, by omega, by omega, ?_⟩
        unfold txtR
        rw [this, if_pos rfl]
/-- reading once more, at the end -/
theorem repR_add {α : Type} (one : Nat → Rs α) (m : Nat) : ∀ (k a : Nat), repR one (k + m) a = seqR (repR one k a) fun l a => seqR (repR one m a) fun r a => .ok (l ++ r, a) := by
  intro k
  induction k with
  | zero =>
    intro a
    rw [Nat.zero_add]
    show repR one m a = seqR (repR one m a) _
    cases h : repR one m a with
    | ok p => rfl
    | error e => rfl
  | succ k ih =>
    intro a
    rw [Nat.succ_add]
    show seqR (one a) _ = seqR (seqR (one a) _) _
    cases h : one a with
    | error e => rfl
    | ok p =>
      show seqR (repR one (k + m) p.2) _ = seqR (seqR (repR one k p.2) _) _
      rw [ih]
      cases h2 : repR one k p.2 with
      | error e => rfl
      | ok q =>
        show seqR (seqR (repR one m q.2) _) _ = seqR (repR one m q.2) _
        cases h3 : repR one m q.2 with
        | error e => rfl
        | ok z => rfl
theorem repR_one {α : Type} {one : Nat → Rs α} {k a b c : Nat} {l : List α} {x : α} (h : repR one k a = .ok (l, b)) (h1 : one b = .ok (x, c)) : repR one (k + 1) a = .ok (l ++ [x], c) := by
  rw [repR_add, seqR_ok h]
  show seqR (seqR (one b) _) _ = _
  rw [h1]; rfl
theorem repR_bad {α : Type} {one : Nat → Rs α} {k a b n e : Nat} {l : List α} (h : repR one k a = .ok (l, b)) (h1 : one b = .error e) (hk : k < n) : repR one n a = .error e := by
  obtain ⟨m, rfl⟩ : ∃ m, n = k + (m + 1) := ⟨n - k - 1, by omega⟩
  rw [repR_add, seqR_ok h]
  show seqR (seqR (one b) _) _ = _
  rw [h1]; rfl
theorem repR_len {α : Type} {one : Nat → Rs α} : ∀ {k a b : Nat} {l : List α}, repR one k a = .ok (l, b) → l.length = k := by
  intro k
  induction k with
  | zero => intro a b l h; cases h; rfl
  | succ k ih =>
    intro a b l h
    obtain ⟨x, a1, h1, h2⟩ := seqR_inv h
    obtain ⟨r, a2, h3, h4⟩ := seqR_inv h2
    cases h4
    rw [List.length_cons, ih h3]
end Go.Proofs.Ytghbkieflifegaa.cd
