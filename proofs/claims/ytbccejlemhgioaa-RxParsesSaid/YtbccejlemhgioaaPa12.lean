/- texts put together: RrAdv, RfOth. -/
import Derived.Test.YtbccejlemhgioaaPa04
import Derived.Test.YtbccejlemhgioaaPa06
import Derived.Test.YtbccejlemhgioaaPa11
namespace Go.Proofs.Ytbccejlemhgioaa.rr
open rx
theorem fail_pl {r : R} {a n lo : Nat} {co : Int} (h : lo ≤ a ∧ a ≤ n) (k : lo ≤ r.p ∧ r.p ≤ n) : lo ≤ (r.fail a co).p ∧ (r.fail a co).p ≤ n := by
 unfold R.fail
 split
 ·
  exact h
 ·
  exact k
section
variable (s : List Nat)
theorem escape_pl {r : R} (h : r.p < s.length) : r.p ≤ (escape s r).1.p ∧ (escape s r).1.p ≤ s.length := by
 unfold escape
 cases hq : s[r.p + 1]? with
 | none => exact fail_pl ⟨Nat.le_refl _, by omega⟩ ⟨by show r.p ≤ r.p + 1; omega, by show r.p + 1 ≤ _; omega⟩
 | some c =>
  have hl := (List.getElem?_eq_some_iff.1 hq).1
  have h2 : r.p ≤ r.fwd.fwd.p ∧ r.fwd.fwd.p ≤ s.length := ⟨by show r.p ≤ r.p + 1 + 1; omega, by show r.p + 1 + 1 ≤ _; omega⟩
  simp only
  split
  ·
   exact h2
  ·
   split
   ·
    exact h2
   ·
    split
    ·
     exact h2
    ·
     cases hx : rf.hex s c ⟨r.p + 2, 0, 0⟩ with
     | none => exact fail_pl ⟨Nat.le_refl _, by omega⟩ h2
     | some v =>
      have h3 : r.p + 2 + 1 < s.length := rf.hex_len hx
      exact ⟨by show r.p ≤ r.p + 1 + 1 + 1 + 1; omega, by show r.p + 1 + 1 + 1 + 1 ≤ _; omega⟩
theorem member_pl {r : R} (h : r.p < s.length) : r.p ≤ (member s r).1.p ∧ (member s r).1.p ≤ s.length := by
 unfold member
 rw [List.getElem?_eq_getElem h]
 simp only
 split
 ·
  exact escape_pl s h
 ·
  split
  ·
   exact fail_pl ⟨Nat.le_refl _, by omega⟩ ⟨Nat.le_refl _, by omega⟩
  ·
   exact ⟨by show r.p ≤ r.p + 1; omega, by show r.p + 1 ≤ _; omega⟩
theorem mem1_pl {r : R} (h : r.p < s.length) : r.p ≤ (mem1 s r).2.p ∧ (mem1 s r).2.p ≤ s.length := by
 have hm := member_pl s h
 unfold mem1
 simp only
 split
 ·
  rename_i h1
  obtain ⟨_, _, hl⟩ := cur_some s h1.2
  have hf : (member s r).1.fwd.p = (member s r).1.p + 1 := rfl
  split
  ·
   exact fail_pl ⟨Nat.le_refl _, by omega⟩ ⟨by omega, by omega⟩
  ·
   rename_i h2
   have hl2 : (member s r).1.fwd.p < s.length := by
    cases hx : cur s (member s r).1.fwd with
    | none => exact absurd (Or.inl hx) h2
    | some d => exact (cur_some s hx).2.2
   have hq := member_pl s hl2
   split
   ·
    exact fail_pl ⟨Nat.le_refl _, by omega⟩ ⟨Nat.le_trans (by omega) hq.1, hq.2⟩
   ·
    exact ⟨Nat.le_trans (by omega) hq.1, hq.2⟩
 ·
  exact hm
theorem mems_pl : ∀ (f : Nat) (x : Cls) (r : R), r.p ≤ s.length → r.p ≤ (mems s f x r).2.p ∧ (mems s f x r).2.p ≤ s.length := by
 intro f
 induction f with
 | zero => intro x r h; exact ⟨Nat.le_refl _, h⟩
 | succ f ih =>
  intro x r h
  cases hc : cur s r with
  | none => rw [mems_stop s _ _ hc]; exact ⟨Nat.le_refl _, h⟩
  | some c =>
   obtain ⟨_, _, hl⟩ := cur_some s hc
   by_cases h9 : c = 93
   ·
    subst h9
    have e : mems s (f + 1) x r = (x, r) := by unfold mems; rw [hc]; rfl
    rw [e]; exact ⟨Nat.le_refl _, h⟩
   ·
    rw [(mems_mem1 s f x hc h9).1]
    have h1 := mem1_pl s hl
    have h2 := ih (x.or (mem1 s r).1) (mem1 s r).2 h1.2
    exact ⟨Nat.le_trans h1.1 h2.1, h2.2⟩
theorem mems_plain (f : Nat) (x : Cls) {r : R} {c : Nat} (hc : cur s r = some c) (h9 : c ≠ 93) (h : ¬ ((member s r).2.2.2 = true ∧ cur s (member s r).1 = some 45)) : mems s (f + 1) x r = mems s f (x.or (member s r).2.1) (member s r).1 := by
 rw [mems, hc]
 simp only
 rw [if_neg h9, if_neg h]
theorem mems_brk (f : Nat) (x : Cls) {r : R} {c : Nat} (hc : cur s r = some c) (h9 : c ≠ 93) (h : (member s r).2.2.2 = true ∧ cur s (member s r).1 = some 45) (h2 : cur s (member s r).1.fwd = none ∨ cur s (member s r).1.fwd = some 93) : mems s (f + 1) x r = (x, (member s r).1.fwd.fail r.p 9) := by
 rw [mems, hc]
 simp only
 rw [if_neg h9, if_pos h, if_pos h2]
theorem mems_span (f : Nat) (x : Cls) {r : R} {c : Nat} (hc : cur s r = some c) (h9 : c ≠ 93) (h : (member s r).2.2.2 = true ∧ cur s (member s r).1 = some 45) (h2 : ¬ (cur s (member s r).1.fwd = none ∨ cur s (member s r).1.fwd = some 93)) : mems s (f + 1) x r = mems s f (x.or (rf.span (member s r).2.2.1 (member s (member s r).1.fwd).2.2.1)) (if (member s (member s r).1.fwd).1.co = 0 ∧ ((member s (member s r).1.fwd).2.2.2 = false ∨ (member s (member s r).1.fwd).2.2.1 < (member s r).2.2.1) then (member s (member s r).1.fwd).1.fail r.p 9 else (member s (member s r).1.fwd).1) := by
 rw [mems, hc]
 simp only
 rw [if_neg h9, if_pos h, if_neg h2]
theorem cls_gd {r : R} (h : r.p < s.length) : r.p ≤ (cls s r).1.p ∧ (cls s r).1.p ≤ s.length ∧ ((cls s r).1.co = 0 → r.p < (cls s r).1.p) ∧ rf.sz (cls s r).2 = 1 := by
 have hf : r.fwd.p = r.p + 1 := rfl
 unfold cls
 simp only
 generalize hn : decide (s[r.fwd.p]? = some 94) = n
 obtain ⟨r2, h2⟩ : ∃ r2, (if n = true then r.fwd.fwd else r.fwd) = r2 := ⟨_, rfl⟩
 rw [h2]
 have hr2 : r.p < r2.p ∧ r2.p ≤ s.length := by
  rw [← h2]
  split
  ·
   rename_i h3
   rw [h3] at hn
   have h4 := of_decide_eq_true hn
   have h5 := (List.getElem?_eq_some_iff.1 h4).1
   exact ⟨by show r.p < r.p + 1 + 1; omega, by show r.p + 1 + 1 ≤ _; omega⟩
  ·
   exact ⟨by omega, by omega⟩
 have hm := mems_pl s (s.length + 1) .zero r2 hr2.2
 generalize mems s (s.length + 1) .zero r2 = m at hm ⊢
 have hp : ∀ co : Int, r.p ≤ (m.2.fail r.p co).p ∧ (m.2.fail r.p co).p ≤ s.length := fun co => fail_pl ⟨Nat.le_refl _, by omega⟩ ⟨by omega, hm.2⟩
 by_cases c1 : m.2.co ≠ 0
 ·
  rw [if_pos c1]
  exact ⟨by show r.p ≤ m.2.p; omega, hm.2, fun e => absurd e c1, rfl⟩
 rw [if_neg c1]
 by_cases c2 : s.length ≤ m.2.p
 ·
  rw [if_pos c2]
  exact ⟨(hp 9).1, (hp 9).2, fun e => absurd e (fail_co (by decide)), rfl⟩
 rw [if_neg c2]
 generalize (if n = true then rf.oth m.1 else m.1) = x
 by_cases c3 : x = .zero
 ·
  rw [if_pos c3]
  exact ⟨(hp 9).1, (hp 9).2, fun e => absurd e (fail_co (by decide)), rfl⟩
 rw [if_neg c3]
 exact ⟨by show r.p ≤ m.2.p + 1; omega, by show m.2.p + 1 ≤ _; omega, fun _ => by show r.p < m.2.p + 1; omega, rfl⟩
def Gd (a : Nat) (M : R → R × Pat) : Prop := ∀ r : R, r.p < s.length → r.co = 0 → r.p ≤ (M r).1.p ∧ (M r).1.p ≤ s.length ∧ ((M r).1.co = 0 → r.p < (M r).1.p) ∧ rf.sz (M r).2 ≤ a * ((M r).1.p - r.p) + 1
def Ge (a : Nat) (M : R → R × Pat) : Prop := ∀ r : R, r.p ≤ s.length → r.p ≤ (M r).1.p ∧ (M r).1.p ≤ s.length ∧ rf.sz (M r).2 ≤ a * ((M r).1.p - r.p) + 3
theorem leaf_gd {a : Nat} {r r' : R} {x : Pat} (h1 : r.p ≤ r'.p) (h2 : r'.p ≤ s.length) (h3 : r'.co = 0 → r.p < r'.p) (h4 : rf.sz x = 1) : r.p ≤ r'.p ∧ r'.p ≤ s.length ∧ (r'.co = 0 → r.p < r'.p) ∧ rf.sz x ≤ a * (r'.p - r.p) + 1 := ⟨h1, h2, h3, by rw [h4]; exact Nat.le_add_left _ _⟩
theorem fail_gd {a : Nat} {r r' : R} {n : Nat} {co : Int} (hc : co ≠ 0) (h : r.p ≤ n ∧ n ≤ s.length) (k : r.p ≤ r'.p ∧ r'.p ≤ s.length) : r.p ≤ (r'.fail n co).p ∧ (r'.fail n co).p ≤ s.length ∧ ((r'.fail n co).co = 0 → r.p < (r'.fail n co).p) ∧ rf.sz Pat.zero ≤ a * ((r'.fail n co).p - r.p) + 1 :=
 leaf_gd s (fail_pl h k).1 (fail_pl h k).2 (fun e => absurd e (fail_co hc)) rfl
theorem atom_gd (a : Nat) (ha : 1 ≤ a) (E : Option (R → R × Pat)) (hE : ∀ e, E = some e → Ge s a e) : Gd s a (atom s E) := by
 intro r h h0
 have h1 : r.p ≤ r.fwd.p ∧ r.fwd.p ≤ s.length := ⟨Nat.le_succ _, h⟩
 have h1' : r.fwd.co = 0 → r.p < r.fwd.p := fun _ => Nat.lt_succ_self _
 unfold atom
 rw [List.getElem?_eq_getElem h]
 simp only
 generalize s[r.p] = c
 by_cases c1 : c = 40
 ·
  rw [if_pos c1]
  cases E with
  | none => exact fail_gd s (by decide) ⟨Nat.le_refl _, by omega⟩ ⟨Nat.le_refl _, by omega⟩
  | some e =>
   simp only
   have hq := hE e rfl r.fwd h1.2
   have hf : r.fwd.p = r.p + 1 := rfl
   generalize e r.fwd = q at hq ⊢
   by_cases c2 : q.1.co ≠ 0
   ·
    rw [if_pos c2]; exact leaf_gd s (by show r.p ≤ q.1.p; omega) hq.2.1 (fun k => absurd k c2) rfl
   rw [if_neg c2]
   by_cases c3 : s.length ≤ q.1.p
   ·
    rw [if_pos c3]; exact fail_gd s (by decide) ⟨Nat.le_refl _, by omega⟩ ⟨by omega, hq.2.1⟩
   rw [if_neg c3]
   refine ⟨by show r.p ≤ q.1.p + 1; omega, by show q.1.p + 1 ≤ _; omega, fun _ => by show r.p < q.1.p + 1; omega, ?_⟩
   show rf.sz q.2 ≤ a * (q.1.p + 1 - r.p) + 1
   have e1 : q.1.p + 1 - r.p = (q.1.p - r.fwd.p) + 2 := by omega
   rw [e1, Nat.mul_add]
   have := hq.2.2
   omega
 rw [if_neg c1]
 by_cases c4 : c = 91
 ·
  rw [if_pos c4]
  have := cls_gd s h
  exact leaf_gd s this.1 this.2.1 this.2.2.1 this.2.2.2
 rw [if_neg c4]
 by_cases c5 : c = 46
 ·
  rw [if_pos c5]; exact leaf_gd s h1.1 h1.2 h1' rfl
 rw [if_neg c5]
 by_cases c6 : c = 92
 ·
  rw [if_pos c6]
  have := escape_pl s h
  exact leaf_gd s this.1 this.2 (fun e => (escape_adv s e).1) rfl
 rw [if_neg c6]
 by_cases c7 : (rf.spc c = true ∧ c ≠ 45) ∨ c < 32 ∨ 126 < c
 ·
  rw [if_pos c7]; exact fail_gd s (by decide) ⟨Nat.le_refl _, by omega⟩ ⟨Nat.le_refl _, by omega⟩
 rw [if_neg c7]
 exact leaf_gd s h1.1 h1.2 h1' rfl
theorem fin_pl {r r3 : R} {α b : Int} (h : r.p < s.length) (h3 : r.p < r3.p ∧ r3.p ≤ s.length) : r.p ≤ (fin s r α r3 b).1.p ∧ (fin s r α r3 b).1.p ≤ s.length ∧ ((fin s r α r3 b).1.co = 0 → r.p < (fin s r α r3 b).1.p) := by
 have hp : ∀ co : Int, r.p ≤ (r3.fail r.p co).p ∧ (r3.fail r.p co).p ≤ s.length := fun co => fail_pl ⟨Nat.le_refl _, by omega⟩ ⟨by omega, h3.2⟩
 unfold fin
 by_cases h1 : α < 0 ∨ s[r3.p]? ≠ some 125 ∨ (0 ≤ b ∧ b < α)
 ·
  rw [if_pos h1]
  exact ⟨(hp 9).1, (hp 9).2, fun e => absurd e (fail_co (by decide))⟩
 rw [if_neg h1]
 by_cases h2 : 20 < α ∨ 20 < b
 ·
  rw [if_pos h2]
  exact ⟨(hp 4).1, (hp 4).2, fun e => absurd e (fail_co (by decide))⟩
 rw [if_neg h2]
 have h5 : s[r3.p]? = some 125 := Decidable.not_not.1 (fun k => h1 (Or.inr (Or.inl k)))
 have := (List.getElem?_eq_some_iff.1 h5).1
 exact ⟨by show r.p ≤ r3.p + 1; omega, by show r3.p + 1 ≤ _; omega, fun _ => by show r.p < r3.p + 1; omega⟩
theorem bounds_pl {r : R} (h : r.p < s.length) : r.p ≤ (bounds s r).1.p ∧ (bounds s r).1.p ≤ s.length ∧ ((bounds s r).1.co = 0 → r.p < (bounds s r).1.p) := by
 have n1 := number_le s r.fwd (show r.p + 1 ≤ s.length from h)
 have hf : r.fwd.p = r.p + 1 := rfl
 rw [bounds_eq s r r.fwd (number s r.fwd).1 (oi (number s r.fwd).2) rfl rfl rfl]
 generalize oi (number s r.fwd).2 = α
 generalize (number s r.fwd).1 = r2 at n1 ⊢
 have hf2 : r2.fwd.p = r2.p + 1 := rfl
 by_cases c1 : s[r2.p]? = some 44
 ·
  rw [if_pos c1]
  have hl := (List.getElem?_eq_some_iff.1 c1).1
  by_cases c2 : r2.fwd.p < s.length ∧ s[r2.fwd.p]? ≠ some 125
  ·
   rw [if_pos c2]
   have n2 := number_le s r2.fwd (by omega)
   generalize oi (number s r2.fwd).2 = β
   generalize (number s r2.fwd).1 = r4 at n2 ⊢
   by_cases c3 : β < 0
   ·
    rw [if_pos c3]
    have hp := fail_pl (r := r4) (a := r.p) (n := s.length) (co := 9) (lo := r.p) ⟨Nat.le_refl _, by omega⟩ ⟨by omega, n2.2.1⟩
    exact ⟨hp.1, hp.2, fun e => absurd e (fail_co (by decide))⟩
   ·
    rw [if_neg c3]
    exact fin_pl s h ⟨by omega, n2.2.1⟩
  ·
   rw [if_neg c2]
   exact fin_pl s h ⟨by omega, by omega⟩
 ·
  rw [if_neg c1]
  exact fin_pl s h ⟨by omega, n1.2.1⟩
theorem signs_pl {r : R} (c : Nat) (h : r.p < s.length) : r.p ≤ (signs s r c).1.p ∧ (signs s r c).1.p ≤ s.length ∧ ((signs s r c).1.co = 0 → r.p < (signs s r c).1.p) := by
 have hf : r.p ≤ r.fwd.p ∧ r.fwd.p ≤ s.length ∧ (r.fwd.co = 0 → r.p < r.fwd.p) := ⟨Nat.le_succ _, h, fun _ => Nat.lt_succ_self _⟩
 unfold signs
 by_cases c1 : c = 42
 ·
  rw [if_pos c1]; exact hf
 rw [if_neg c1]
 by_cases c2 : c = 43
 ·
  rw [if_pos c2]; exact hf
 rw [if_neg c2]
 by_cases c3 : c = 63
 ·
  rw [if_pos c3]; exact hf
 rw [if_neg c3]
 exact bounds_pl s h
theorem many_gd {a : Nat} (ha : 1 ≤ a) {A : R → R × Pat} (hA : Gd s a A) : Gd s a (many s A) := by
 intro r h h0
 have hx := hA r h h0
 rw [many_eq]
 generalize A r = x at hx ⊢
 cases hc : cur s x.1 with
 | none => exact hx
 | some c =>
  obtain ⟨k0, _, hl⟩ := cur_some s hc
  simp only
  by_cases c1 : sign c = false
  ·
   rw [if_pos c1]; exact hx
  rw [if_neg c1]
  have hq := signs_pl s c hl
  generalize signs s x.1 c = q at hq ⊢
  by_cases c2 : ∃ d, cur s q.1 = some d ∧ sign d = true
  ·
   rw [if_pos c2]
   exact fail_gd s (by decide) ⟨by omega, hq.2.1⟩ ⟨by omega, hq.2.1⟩
  rw [if_neg c2]
  have hm : a * (x.1.p - r.p) ≤ a * (q.1.p - r.p) := Nat.mul_le_mul_left _ (by omega)
  have hx4 := hx.2.2.2
  by_cases c3 : q.1.co ≠ 0 ∨ (q.2.1 = 1 ∧ q.2.2 = 1)
  ·
   rw [if_pos c3]
   exact ⟨by show r.p ≤ q.1.p; omega, hq.2.1, fun k => by have := hq.2.2 k; show r.p < q.1.p; omega, by show rf.sz x.2 ≤ a * (q.1.p - r.p) + 1; omega⟩
  rw [if_neg c3]
  have k1 : q.1.co = 0 := Decidable.not_not.1 (fun k => c3 (Or.inl k))
  have k2 := hq.2.2 k1
  refine ⟨by show r.p ≤ q.1.p; omega, hq.2.1, fun _ => by show r.p < q.1.p; omega, ?_⟩
  show rf.sz (.mk 5 .zero [x.2] q.2.1 q.2.2) ≤ a * (q.1.p - r.p) + 1
  have e1 : q.1.p - r.p = (x.1.p - r.p) + (q.1.p - x.1.p) := by omega
  have hm2 : a * 1 ≤ a * (q.1.p - x.1.p) := Nat.mul_le_mul_left _ (by omega)
  rw [e1, Nat.mul_add]
  simp only [rf.sz, rf.szs]
  omega
theorem sz_lflat (kind : Int) (l : List Pat) : rf.sz (rf.lflat kind l) ≤ 1 + rf.szs l := by
 have h := rf.szs_lf kind l
 have hg := rf.lflat_is kind l
 cases hl : rf.lf kind l with
 | nil => rw [hg.1 hl]; simp only [rf.sz, rf.szs]; omega
 | cons x t =>
  rw [hl] at h
  cases t with
  | nil => rw [hg.2.1 x hl]; simp only [rf.szs] at h; omega
  | cons y t => rw [hg.2.2 (by rw [hl]; simp), hl]; simp only [rf.sz]; omega
theorem rowF_gd {a : Nat} {M : R → R × Pat} (hM : Gd s a M) : ∀ (f : Nat) (l : List Pat) (r : R), r.p ≤ s.length → r.p ≤ (rowF s M f l r).1.p ∧ (rowF s M f l r).1.p ≤ s.length ∧ rf.szs (rowF s M f l r).2 ≤ rf.szs l + (a + 1) * ((rowF s M f l r).1.p - r.p) + 1 := by
 intro f
 induction f with
 | zero => intro l r h; exact ⟨Nat.le_refl _, h, Nat.le_succ_of_le (Nat.le_add_right _ _)⟩
 | succ f ih =>
  intro l r h
  cases hc : cur s r with
  | none => rw [rowF_stop s M _ _ (Or.inl hc)]; exact ⟨Nat.le_refl _, h, Nat.le_succ_of_le (Nat.le_add_right _ _)⟩
  | some c =>
   by_cases c1 : c = 124 ∨ c = 41
   ·
    rw [rowF_stop s M _ _ (by rcases c1 with e | e <;> rw [hc, e] <;> simp)]; exact ⟨Nat.le_refl _, h, Nat.le_succ_of_le (Nat.le_add_right _ _)⟩
   ·
    have hst : rowF s M (f + 1) l r = rowF s M f (l ++ [(M r).2]) (M r).1 := by
     rw [rowF, hc]
     simp only
     rw [if_neg c1]
    rw [hst]
    obtain ⟨k0, _, hl⟩ := cur_some s hc
    have hq := hM r hl k0
    generalize M r = q at hq ⊢
    have e2 : (a + 1) * (q.1.p - r.p) = a * (q.1.p - r.p) + (q.1.p - r.p) := Nat.succ_mul _ _
    have h4 := hq.2.2.2
    by_cases k1 : q.1.co = 0
    ·
     have hi := ih (l ++ [q.2]) q.1 hq.2.1
     have k2 := hq.2.2.1 k1
     generalize rowF s M f (l ++ [q.2]) q.1 = z at hi ⊢
     refine ⟨by omega, hi.2.1, ?_⟩
     have h3 := hi.2.2
     rw [rf.szs_app] at h3
     simp only [rf.szs] at h3
     have e1 : z.1.p - r.p = (z.1.p - q.1.p) + (q.1.p - r.p) := by omega
     rw [e1, Nat.mul_add]
     omega
    ·
     rw [rowF_stop s M f _ (Or.inl (cur_none s k1))]
     refine ⟨hq.1, hq.2.1, ?_⟩
     show rf.szs (l ++ [q.2]) ≤ rf.szs l + (a + 1) * (q.1.p - r.p) + 1
     rw [rf.szs_app]
     simp only [rf.szs]
     omega
theorem rowF_step {M : R → R × Pat} {f c : Nat} {l : List Pat} {r : R} (hc : cur s r = some c) (h1 : c ≠ 124) (h2 : c ≠ 41) : rowF s M (f + 1) l r = rowF s M f (l ++ [(M r).2]) (M r).1 := by
 rw [rowF, hc]
 simp only
 rw [if_neg (fun h => h.elim h1 h2)]
theorem row_gd {a : Nat} {M : R → R × Pat} (hM : Gd s a M) (r : R) (h : r.p ≤ s.length) : r.p ≤ (row s M r).1.p ∧ (row s M r).1.p ≤ s.length ∧ rf.sz (row s M r).2 ≤ (a + 1) * ((row s M r).1.p - r.p) + 2 := by
 have hi := rowF_gd s hM (s.length + 1) [] r h
 unfold row
 simp only
 generalize rowF s M (s.length + 1) [] r = q at hi ⊢
 have h2 := sz_lflat 3 q.2
 have h3 := hi.2.2
 simp only [rf.szs] at h3
 exact ⟨hi.1, hi.2.1, by omega⟩
theorem rowsF_stop (M : R → R × Pat) (f : Nat) (l : List Pat) {r : R} (h : cur s r ≠ some 124) : rowsF s M f l r = (r, l) := by
 cases f with
 | zero => rfl
 | succ f => rw [rowsF, if_neg h]
theorem rowsF_step (M : R → R × Pat) (f : Nat) (l : List Pat) {r : R} (h : cur s r = some 124) : rowsF s M (f + 1) l r = rowsF s M f (l ++ [(row s M r.fwd).2]) (row s M r.fwd).1 := by
 rw [rowsF, if_pos h]
theorem rowsF_gd {a : Nat} {M : R → R × Pat} (hM : Gd s a M) : ∀ (f : Nat) (l : List Pat) (r : R), r.p ≤ s.length → r.p ≤ (rowsF s M f l r).1.p ∧ (rowsF s M f l r).1.p ≤ s.length ∧ rf.szs (rowsF s M f l r).2 ≤ rf.szs l + (a + 3) * ((rowsF s M f l r).1.p - r.p) := by
 intro f
 induction f with
 | zero => intro l r h; exact ⟨Nat.le_refl _, h, Nat.le_add_right _ _⟩
 | succ f ih =>
  intro l r h
  by_cases hc : cur s r = some 124
  ·
   rw [rowsF_step s M f l hc]
   obtain ⟨k0, _, hl⟩ := cur_some s hc
   have hf : r.fwd.p = r.p + 1 := rfl
   have hq := row_gd s hM r.fwd (by omega)
   generalize row s M r.fwd = q at hq ⊢
   have hi := ih (l ++ [q.2]) q.1 hq.2.1
   generalize rowsF s M f (l ++ [q.2]) q.1 = z at hi ⊢
   refine ⟨by omega, hi.2.1, ?_⟩
   have h3 := hi.2.2
   rw [rf.szs_app] at h3
   simp only [rf.szs] at h3
   have h4 := hq.2.2
   have e1 : z.1.p - r.p = (z.1.p - q.1.p) + ((q.1.p - r.fwd.p) + 1) := by omega
   have e2 : (a + 1) * (q.1.p - r.fwd.p) ≤ (a + 3) * (q.1.p - r.fwd.p) := Nat.mul_le_mul_right _ (by omega)
   rw [e1, Nat.mul_add, Nat.mul_add]
   omega
  ·
   rw [rowsF_stop s M _ _ hc]
   exact ⟨Nat.le_refl _, h, Nat.le_add_right _ _⟩
theorem rows_ge {a : Nat} {M : R → R × Pat} (hM : Gd s a M) : Ge s (a + 3) (rows s M) := by
 intro r h
 unfold rows
 simp only
 have hx := row_gd s hM r h
 generalize row s M r = x at hx ⊢
 have hi := rowsF_gd s hM (s.length + 1) [x.2] x.1 hx.2.1
 generalize rowsF s M (s.length + 1) [x.2] x.1 = z at hi ⊢
 have h2 := sz_lflat 4 z.2
 have h3 := hi.2.2
 simp only [rf.szs] at h3
 have h4 := hx.2.2
 refine ⟨by show r.p ≤ z.1.p; omega, hi.2.1, ?_⟩
 show rf.sz (rf.lflat 4 z.2) ≤ (a + 3) * (z.1.p - r.p) + 3
 have e1 : z.1.p - r.p = (z.1.p - x.1.p) + (x.1.p - r.p) := by omega
 have e2 : (a + 1) * (x.1.p - r.p) ≤ (a + 3) * (x.1.p - r.p) := Nat.mul_le_mul_right _ (by omega)
 rw [e1, Nat.mul_add]
 omega
theorem either_ge : ∀ n : Nat, Gd s (3 * n + 1) (manyD s n) ∧ Ge s (3 * n + 4) (either s n) := by
 intro n
 induction n with
 | zero =>
  have h : Gd s 1 (manyD s 0) := many_gd s (Nat.le_refl _) (atom_gd s 1 (Nat.le_refl _) none (fun e he => by cases he))
  exact ⟨h, by rw [either_eq]; exact rows_ge s h⟩
 | succ n ih =>
  have h : Gd s (3 * n + 4) (manyD s (n + 1)) := many_gd s (by omega) (atom_gd s _ (by omega) _ (fun e he => by cases he; exact ih.2))
  exact ⟨h, by rw [either_eq]; exact rows_ge s h⟩
end
end Go.Proofs.Ytbccejlemhgioaa.rr
namespace Go.Proofs.Ytbccejlemhgioaa
open Go Go.RowKit Go.ChangeShapes cl rx
open rf
def otK (x : Cls) (k : Nat) : Cls := ⟨if 0 < k then 18446744073709551615 - x.a else x.a, if 1 < k then 18446744073709551615 - x.b else x.b, if 2 < k then 18446744073709551615 - x.c else x.c, if 3 < k then 18446744073709551615 - x.d else x.d⟩
theorem u64_not (a : Nat) (ha : a < 18446744073709551616) : bits .xor .u64 (if IntKind.u64.signed = true then -1 else IntKind.u64.max) (a : Int) = ((18446744073709551615 - a : Nat) : Int) := by
 show IntKind.u64.wrap ((BitVec.ofInt 64 18446744073709551615 ^^^ BitVec.ofInt 64 (a : Int)).toNat : Int) = _
 have e : BitVec.ofInt 64 18446744073709551615 = BitVec.allOnes 64 := by decide
 rw [e, BitVec.allOnes_xor, BitVec.toNat_not, ofInt_u64 a (by omega)]
 exact IntWalk.u64_in _ ⟨by omega, by omega⟩
set_option maxHeartbeats 6400000 in
set_option maxRecDepth 100000 in
theorem rx_others (x : Cls) (w : World) (hx : x.ok) : Calls Try.prog 48 #[.agg #[.int .u64 x.a, .int .u64 x.b, .int .u64 x.c, .int .u64 x.d]] w (fun e w' => e = .returned (.agg #[.int .u64 (oth x).a, .int .u64 (oth x).b, .int .u64 (oth x).c, .int .u64 (oth x).d]) ∧ Below w.heap.size w w') := by
 obtain ⟨q, hq⟩ : ∃ q, q = w.heap.size := ⟨_, rfl⟩
 obtain ⟨W3, hW3⟩ : ∃ W, W = (w.alloc (.cells #[.int .u64 x.a, .int .u64 x.b, .int .u64 x.c, .int .u64 x.d] 25)).alloc (.cells #[.int .u64 0, .int .u64 0, .int .u64 0, .int .u64 0] 25) := ⟨_, rfl⟩
 have hs1 : (w.alloc (.cells #[.int .u64 x.a, .int .u64 x.b, .int .u64 x.c, .int .u64 x.d] 25)).heap.size = q + 1 := by rw [World.size_alloc, hq]
 have b1 : Below w.heap.size w (w.alloc (.cells #[.int .u64 x.a, .int .u64 x.b, .int .u64 x.c, .int .u64 x.d] 25)) := below1
 have b3 : Below w.heap.size w W3 := by rw [hW3]; exact b1.trans (below1.mono b1.size)
 have x0 : W3.heap[q]? = some (.cells #[.int .u64 (otK x 0).a, .int .u64 (otK x 0).b, .int .u64 (otK x 0).c, .int .u64 (otK x 0).d] 25 (0, 0)) := by
  rw [hW3]
  refine (below1.block q (by omega)).trans ?_
  rw [hq]; exact heap_alloc_new _ _
 have x2 : W3.heap[q + 1]? = some (.cells #[.int .u64 0, .int .u64 0, .int .u64 0, .int .u64 0] 25 (0, 0)) := by
  rw [hW3, ← hs1]; exact heap_alloc_new _ _
 have B3 := Lib.hid b3
 have X0 := Lib.hid x0
 have X2 := Lib.hid x2
 have HQ := Lib.hid hq
 have HW3 := Lib.hid hW3
 have OX := Lib.hid hx
 clear hs1 b1 b3 x0 x2 hq hW3 hx
 go_enter Try.func48, Try.ntmps48
 go_wp2
 rw [← HW3.out]
 rw [← HQ.out]
 go_loopw [4, 13] (fun i _ wr => ∃ k : Nat, i = .int .i64 k ∧ k ≤ 4 ∧ Below w.heap.size w wr ∧ wr.heap[q]? = some (.cells #[.int .u64 (otK x k).a, .int .u64 (otK x k).b, .int .u64 (otK x k).c, .int .u64 (otK x k).d] 25 (0, 0)) ∧ wr.heap[q + 1]? = some (.cells #[.int .u64 0, .int .u64 0, .int .u64 0, .int .u64 0] 25 (0, 0))) (fun i _ _ => 4 - (intOf i).toNat)
 case atStart => exact ⟨0, rfl, Nat.zero_le _, B3.out, X0.out, X2.out⟩
 case round =>
  obtain ⟨k, rfl, hk, hb, y0, y2⟩ := hrel
  have HB := Lib.hid hb
  have Y2 := Lib.hid y2
  clear hb y2 B3 X0 X2
  rcases (by omega : k = 0 ∨ k = 1 ∨ k = 2 ∨ k = 3 ∨ k = 4) with rfl | rfl | rfl | rfl | rfl
  ·
   have y0 : wr.heap[q]? = some (.cells #[.int .u64 (x.a : Int), .int .u64 (x.b : Int), .int .u64 (x.c : Int), .int .u64 (x.d : Int)] 25 (0, 0)) := y0
   have ff := boxf y0 0
   have cc : wr.cell? ⟨q, 0, none⟩ = some (.int .u64 (x.a : Int)) := boxc y0 0 _ rfl
   have hlt : x.a < 18446744073709551616 := OX.out.1
   have EV := u64_not x.a hlt
   have HN : Hid ((wr.setCell ⟨q, 0, none⟩ (.int .u64 (bits .xor .u64 (if IntKind.u64.signed = true then -1 else IntKind.u64.max) (x.a : Int)))).heap[q]? = some (.cells #[.int .u64 (otK x 1).a, .int .u64 (otK x 1).b, .int .u64 (otK x 1).c, .int .u64 (otK x 1).d] 25 (0, 0))) := by
    show _ = _
    rw [EV]
    exact heap_setCell_same wr q 0 _ _ _ y0
   have HO : Hid (Below w.heap.size w (wr.setCell ⟨q, 0, none⟩ (.int .u64 (bits .xor .u64 (if IntKind.u64.signed = true then -1 else IntKind.u64.max) (x.a : Int)))) ∧ (wr.setCell ⟨q, 0, none⟩ (.int .u64 (bits .xor .u64 (if IntKind.u64.signed = true then -1 else IntKind.u64.max) (x.a : Int)))).heap[q + 1]? = some (.cells #[.int .u64 0, .int .u64 0, .int .u64 0, .int .u64 0] 25 (0, 0))) := by
    have kx : KX q wr (wr.setCell ⟨q, 0, none⟩ (.int .u64 (bits .xor .u64 (if IntKind.u64.signed = true then -1 else IntKind.u64.max) (x.a : Int)))) := KX.cell
    have hb := HB.out
    refine ⟨hb.trans ⟨kx.1.1, kx.1.2.1, kx.1.2.2, kx.2.1, fun j hj => kx.2.2 j (by have := hb.size; omega) (by have := HQ.out; omega)⟩, (kx.2.2 _ (lt_of_block Y2.out) (by omega)).trans Y2.out⟩
   clear y0 EV hk
   go_wp2
   go_roundw
   case rel => exact ⟨1, by go_num, by omega, HO.out.1, HN.out, HO.out.2⟩
   case measure => simp [intOf]
  ·
   have y0 : wr.heap[q]? = some (.cells #[.int .u64 ((18446744073709551615 - x.a : Nat) : Int), .int .u64 (x.b : Int), .int .u64 (x.c : Int), .int .u64 (x.d : Int)] 25 (0, 0)) := y0
   have ff := boxf y0 1
   have cc : wr.cell? ⟨q, 1, none⟩ = some (.int .u64 (x.b : Int)) := boxc y0 1 _ rfl
   have hlt : x.b < 18446744073709551616 := OX.out.2.1
   have EV := u64_not x.b hlt
   have HN : Hid ((wr.setCell ⟨q, 1, none⟩ (.int .u64 (bits .xor .u64 (if IntKind.u64.signed = true then -1 else IntKind.u64.max) (x.b : Int)))).heap[q]? = some (.cells #[.int .u64 (otK x 2).a, .int .u64 (otK x 2).b, .int .u64 (otK x 2).c, .int .u64 (otK x 2).d] 25 (0, 0))) := by
    show _ = _
    rw [EV]
    exact heap_setCell_same wr q 1 _ _ _ y0
   have HO : Hid (Below w.heap.size w (wr.setCell ⟨q, 1, none⟩ (.int .u64 (bits .xor .u64 (if IntKind.u64.signed = true then -1 else IntKind.u64.max) (x.b : Int)))) ∧ (wr.setCell ⟨q, 1, none⟩ (.int .u64 (bits .xor .u64 (if IntKind.u64.signed = true then -1 else IntKind.u64.max) (x.b : Int)))).heap[q + 1]? = some (.cells #[.int .u64 0, .int .u64 0, .int .u64 0, .int .u64 0] 25 (0, 0))) := by
    have kx : KX q wr (wr.setCell ⟨q, 1, none⟩ (.int .u64 (bits .xor .u64 (if IntKind.u64.signed = true then -1 else IntKind.u64.max) (x.b : Int)))) := KX.cell
    have hb := HB.out
    refine ⟨hb.trans ⟨kx.1.1, kx.1.2.1, kx.1.2.2, kx.2.1, fun j hj => kx.2.2 j (by have := hb.size; omega) (by have := HQ.out; omega)⟩, (kx.2.2 _ (lt_of_block Y2.out) (by omega)).trans Y2.out⟩
   clear y0 EV hk
   go_wp2
   go_roundw
   case rel => exact ⟨2, by go_num, by omega, HO.out.1, HN.out, HO.out.2⟩
   case measure => simp [intOf]
  ·
   have y0 : wr.heap[q]? = some (.cells #[.int .u64 ((18446744073709551615 - x.a : Nat) : Int), .int .u64 ((18446744073709551615 - x.b : Nat) : Int), .int .u64 (x.c : Int), .int .u64 (x.d : Int)] 25 (0, 0)) := y0
   have ff := boxf y0 2
   have cc : wr.cell? ⟨q, 2, none⟩ = some (.int .u64 (x.c : Int)) := boxc y0 2 _ rfl
   have hlt : x.c < 18446744073709551616 := OX.out.2.2.1
   have EV := u64_not x.c hlt
   have HN : Hid ((wr.setCell ⟨q, 2, none⟩ (.int .u64 (bits .xor .u64 (if IntKind.u64.signed = true then -1 else IntKind.u64.max) (x.c : Int)))).heap[q]? = some (.cells #[.int .u64 (otK x 3).a, .int .u64 (otK x 3).b, .int .u64 (otK x 3).c, .int .u64 (otK x 3).d] 25 (0, 0))) := by
    show _ = _
    rw [EV]
    exact heap_setCell_same wr q 2 _ _ _ y0
   have HO : Hid (Below w.heap.size w (wr.setCell ⟨q, 2, none⟩ (.int .u64 (bits .xor .u64 (if IntKind.u64.signed = true then -1 else IntKind.u64.max) (x.c : Int)))) ∧ (wr.setCell ⟨q, 2, none⟩ (.int .u64 (bits .xor .u64 (if IntKind.u64.signed = true then -1 else IntKind.u64.max) (x.c : Int)))).heap[q + 1]? = some (.cells #[.int .u64 0, .int .u64 0, .int .u64 0, .int .u64 0] 25 (0, 0))) := by
    have kx : KX q wr (wr.setCell ⟨q, 2, none⟩ (.int .u64 (bits .xor .u64 (if IntKind.u64.signed = true then -1 else IntKind.u64.max) (x.c : Int)))) := KX.cell
    have hb := HB.out
    refine ⟨hb.trans ⟨kx.1.1, kx.1.2.1, kx.1.2.2, kx.2.1, fun j hj => kx.2.2 j (by have := hb.size; omega) (by have := HQ.out; omega)⟩, (kx.2.2 _ (lt_of_block Y2.out) (by omega)).trans Y2.out⟩
   clear y0 EV hk
   go_wp2
   go_roundw
   case rel => exact ⟨3, by go_num, by omega, HO.out.1, HN.out, HO.out.2⟩
   case measure => simp [intOf]
  ·
   have y0 : wr.heap[q]? = some (.cells #[.int .u64 ((18446744073709551615 - x.a : Nat) : Int), .int .u64 ((18446744073709551615 - x.b : Nat) : Int), .int .u64 ((18446744073709551615 - x.c : Nat) : Int), .int .u64 (x.d : Int)] 25 (0, 0)) := y0
   have ff := boxf y0 3
   have cc : wr.cell? ⟨q, 3, none⟩ = some (.int .u64 (x.d : Int)) := boxc y0 3 _ rfl
   have hlt : x.d < 18446744073709551616 := OX.out.2.2.2
   have EV := u64_not x.d hlt
   have HN : Hid ((wr.setCell ⟨q, 3, none⟩ (.int .u64 (bits .xor .u64 (if IntKind.u64.signed = true then -1 else IntKind.u64.max) (x.d : Int)))).heap[q]? = some (.cells #[.int .u64 (otK x 4).a, .int .u64 (otK x 4).b, .int .u64 (otK x 4).c, .int .u64 (otK x 4).d] 25 (0, 0))) := by
    show _ = _
    rw [EV]
    exact heap_setCell_same wr q 3 _ _ _ y0
   have HO : Hid (Below w.heap.size w (wr.setCell ⟨q, 3, none⟩ (.int .u64 (bits .xor .u64 (if IntKind.u64.signed = true then -1 else IntKind.u64.max) (x.d : Int)))) ∧ (wr.setCell ⟨q, 3, none⟩ (.int .u64 (bits .xor .u64 (if IntKind.u64.signed = true then -1 else IntKind.u64.max) (x.d : Int)))).heap[q + 1]? = some (.cells #[.int .u64 0, .int .u64 0, .int .u64 0, .int .u64 0] 25 (0, 0))) := by
    have kx : KX q wr (wr.setCell ⟨q, 3, none⟩ (.int .u64 (bits .xor .u64 (if IntKind.u64.signed = true then -1 else IntKind.u64.max) (x.d : Int)))) := KX.cell
    have hb := HB.out
    refine ⟨hb.trans ⟨kx.1.1, kx.1.2.1, kx.1.2.2, kx.2.1, fun j hj => kx.2.2 j (by have := hb.size; omega) (by have := HQ.out; omega)⟩, (kx.2.2 _ (lt_of_block Y2.out) (by omega)).trans Y2.out⟩
   clear y0 EV hk
   go_wp2
   go_roundw
   case rel => exact ⟨4, by go_num, by omega, HO.out.1, HN.out, HO.out.2⟩
   case measure => simp [intOf]
  ·
   have Y0 : wr.heap[q]? = some (.cells #[.int .u64 (oth x).a, .int .u64 (oth x).b, .int .u64 (oth x).c, .int .u64 (oth x).d] 25 (0, 0)) := y0
   have c0 := boxc Y0 0 _ rfl
   have c1 := boxc Y0 1 _ rfl
   have c2 := boxc Y0 2 _ rfl
   have c3 := boxc Y0 3 _ rfl
   have xx := Y2.out
   clear y0 hk
   go_wp2_with ((with_reducible show wpList _ _ _ (Oper.mk _ (Op.store 25 (.tmp 2) _) _ _ _ _ :: _) _ _); refine wpList_store_row rfl 25 (.tmp 2) _ rfl (q + 1) #[.int .u64 (oth x).a, .int .u64 (oth x).b, .int .u64 (oth x).c, .int .u64 (oth x).d] rfl rfl 25 #[.int .u64 0, .int .u64 0, .int .u64 0, .int .u64 0] xx clsize rfl (by simp [Value.oneCell']) ?_)
   have cc := setRow_heap _ (q + 1) _ #[.int .u64 (oth x).a, .int .u64 (oth x).b, .int .u64 (oth x).c, .int .u64 (oth x).d] _ _ xx
   have bb := below_setRow HB.out (g := q + 1) (by have := HQ.out; omega) #[.int .u64 (oth x).a, .int .u64 (oth x).b, .int .u64 (oth x).c, .int .u64 (oth x).d]
   obtain ⟨w9, h9⟩ : ∃ W, W = World.setRow wr (q + 1) #[.int .u64 (oth x).a, .int .u64 (oth x).b, .int .u64 (oth x).c, .int .u64 (oth x).d] := ⟨_, rfl⟩
   rw [← h9] at cc bb ⊢
   clear h9 c0 c1 c2 c3 xx Y0
   have k0 := boxc cc 0 _ rfl
   have k1 := boxc cc 1 _ rfl
   have k2 := boxc cc 2 _ rfl
   have k3 := boxc cc 3 _ rfl
   refine bodyPost_ret (v := .agg #[.int .u64 (oth x).a, .int .u64 (oth x).b, .int .u64 (oth x).c, .int .u64 (oth x).d]) (by simp [results, Try.results48, go_sem, k0, k1, k2, k3]) rfl ⟨rfl, bb⟩
end Go.Proofs.Ytbccejlemhgioaa
