/- texts put together: RrRel5, RrRel6, RrRel7, RrRel8, RrRel9, RrRel10, RrRel11, RrRel12. -/
import Derived.Test.YtbccejlemhgioaaPa04
import Derived.Test.YtbccejlemhgioaaPa10
namespace Go.Proofs.Ytbccejlemhgioaa.rr
open rx
section
variable (s : List Nat)
theorem fin_bad {r r3 : R} {α b : Int} (h : α < 0 ∨ s[r3.p]? ≠ some 125 ∨ (0 ≤ b ∧ b < α)) : fin s r α r3 b = (r3.fail r.p 9, 0, 0) := by
 unfold fin; rw [if_pos h]
theorem fin_good {r r3 : R} {α b : Int} (ha : ¬ α < 0) (h : s[r3.p]? = some 125) (hb : ¬ (0 ≤ b ∧ b < α)) : fin s r α r3 b = if 20 < α ∨ 20 < b then (r3.fail r.p 4, 0, 0) else (r3.fwd, α, b) := by
 unfold fin
 rw [if_neg (fun e => by
  rcases e with e | e | e
  ·
   exact ha e
  ·
   exact e h
  ·
   exact hb e)]
def oB (t : rf.T) (B : (Int × Int × Bool) × rf.T) : (Int × Int × Bool) × rf.T :=
 if B.1.2.2 = false then (B.1, B.2.fail t.p 9) else if 20 < B.1.1 ∨ 20 < B.1.2.1 then (B.1, B.2.fail t.p 4) else B
def PB (t : rf.T) (B : (Int × Int × Bool) × rf.T) (A : R × Int × Int) : Prop := Rel (oB t B).2 A.1 ∧ (A.1.co = 0 → A.2 = ((oB t B).1.1, (oB t B).1.2.1))
theorem PB.bad {t : rf.T} {r x : R} {B : (Int × Int × Bool) × rf.T} (hp : r.p = t.p) (h1 : B.1.2.2 = false) (h2 : B.2.co = 0) (h3 : x.co = 0) : PB t B (x.fail r.p 9, 0, 0) := by
 unfold PB oB
 rw [if_pos h1, hp]
 exact ⟨fail_any h2 h3 _ 9 (by decide), fun e => absurd e (fail_co (by decide))⟩
theorem PB.good {t tt : rf.T} {r x : R} {α b : Int} (hp : r.p = t.p) (h : At tt x) : PB t ((α, b, true), tt.fwd) (if 20 < α ∨ 20 < b then (x.fail r.p 4, 0, 0) else (x.fwd, α, b)) := by
 unfold PB oB
 rw [if_neg (show ¬ true = false by decide)]
 simp only
 by_cases k : 20 < α ∨ 20 < b
 ·
  rw [if_pos k, if_pos k, hp]
  exact ⟨fail_any (show tt.fwd.co = 0 from h.2.1) h.1 _ 4 (by decide), fun e => absurd e (fail_co (by decide))⟩
 ·
  rw [if_neg k, if_neg k]
  exact ⟨h.fwd.rel, fun _ => rfl⟩
theorem number_end {r : R} (h : s.length ≤ r.p) : number s r = (r, none) := by
 have : numF s r.p 4 0 r = (0, r) := by unfold numF; rw [List.getElem?_eq_none_iff.2 h]
 unfold number
 rw [this]
 exact if_pos (Or.inl rfl)
theorem number_co {r : R} : (number s r).1.co = r.co := by
 by_cases h : r.p ≤ s.length
 ·
  exact (number_le s r h).2.2
 ·
  rw [number_end s (by omega)]
theorem digit_ne {o : Option Nat} {k : Nat} (h : ∃ c, o = some c ∧ isD c) (hk : k < 48 ∨ 57 < k) : o ≠ some k := by
 obtain ⟨c, h1, h2, h3⟩ := h
 rw [h1]
 intro e
 have := Option.some.inj e
 omega
theorem bounds_rel {t : rf.T} {r : R} (h : At t r) : PB t (rf.bounds s t.fwd) (bounds s r) := by
 obtain ⟨n1, n2, n3, n4⟩ := number_rel s h.fwd
 rw [bounds_eq s r r.fwd _ _ rfl rfl rfl]
 unfold rf.bounds
 simp only
 cases b1 : (rf.number s t.fwd).1.2 with
 | false =>
  rw [if_pos rfl]
  have key : ∃ x : R, x.co = 0 ∧ (if s[(number s r.fwd).1.p]? = some 44 then (if (number s r.fwd).1.fwd.p < s.length ∧ s[(number s r.fwd).1.fwd.p]? ≠ some 125 then (if oi (number s (number s r.fwd).1.fwd).2 < 0 then ((number s (number s r.fwd).1.fwd).1.fail r.p 9, (0 : Int), (0 : Int)) else fin s r (oi (number s r.fwd).2) (number s (number s r.fwd).1.fwd).1 (oi (number s (number s r.fwd).1.fwd).2)) else fin s r (oi (number s r.fwd).2) (number s r.fwd).1.fwd (-1)) else fin s r (oi (number s r.fwd).2) (number s r.fwd).1 (oi (number s r.fwd).2)) = (x.fail r.p 9, 0, 0) := by
   have hc2 : (number s (number s r.fwd).1.fwd).1.co = 0 := by rw [number_co]; exact n2
   rcases n4 b1 with e | e
   ·
    have ha : oi (number s r.fwd).2 < 0 := by rw [e]; decide
    split
    ·
     split
     ·
      split
      ·
       exact ⟨_, hc2, rfl⟩
      ·
       exact ⟨_, hc2, fin_bad s (Or.inl ha)⟩
     ·
      exact ⟨(number s r.fwd).1.fwd, n2, fin_bad s (Or.inl ha)⟩
    ·
     exact ⟨_, n2, fin_bad s (Or.inl ha)⟩
   ·
    rw [if_neg (digit_ne e (by omega))]
    exact ⟨_, n2, fin_bad s (Or.inr (Or.inl (digit_ne e (by omega))))⟩
  obtain ⟨x, hx, hy⟩ := key
  rw [hy]
  exact PB.bad h.2.2 rfl n1 hx
 | true =>
  obtain ⟨e1, hA⟩ := n3 b1
  rw [if_neg (show ¬ true = false by decide), e1]
  generalize (number s r.fwd).1 = r2 at hA ⊢
  generalize rf.number s t.fwd = Q at hA ⊢
  obtain ⟨⟨v, bb⟩, t2⟩ := Q
  have hA : At t2 r2 := hA
  have hv : ¬ oi (some v) < 0 := by show ¬ (v : Int) < 0; omega
  have hn := nxt_at s hA
  have hn2 := nxt_at s hA.fwd
  unfold rf.meets
  simp only
  rw [hn]
  by_cases c1 : s[r2.p]? = some 125
  ·
   rw [if_pos c1, if_pos rfl, if_neg (show ¬ s[r2.p]? = some 44 by rw [c1]; decide), fin_good s hv c1 (by omega)]
   exact PB.good h.2.2 hA
  ·
   rw [if_neg c1, if_neg (show ¬ false = true by decide)]
   by_cases c2 : s[r2.p]? = some 44
   ·
    rw [if_pos c2, if_pos c2, if_neg (show ¬ true = false by decide)]
    simp only
    rw [hn2]
    by_cases c3 : s[r2.fwd.p]? = some 125
    ·
     rw [if_pos c3, if_pos rfl, if_neg (fun e => e.2 c3), fin_good s hv c3 (by omega)]
     exact PB.good h.2.2 hA.fwd
    ·
     rw [if_neg c3, if_neg (show ¬ false = true by decide)]
     try simp only
     obtain ⟨m1, m2, m3, m4⟩ := number_rel s hA.fwd
     cases b2 : (rf.number s t2.fwd).1.2 with
     | false =>
      rw [if_pos rfl]
      by_cases c4 : r2.fwd.p < s.length
      ·
       rw [if_pos ⟨c4, c3⟩]
       rcases m4 b2 with e | e
       ·
        rw [e, if_pos (show oi none < 0 by decide)]
        exact PB.bad h.2.2 rfl m1 m2
       ·
        split
        ·
         exact PB.bad h.2.2 rfl m1 m2
        ·
         rw [fin_bad s (Or.inr (Or.inl (digit_ne e (by omega))))]
         exact PB.bad h.2.2 rfl m1 m2
      ·
       rw [if_neg (fun e => c4 e.1), fin_bad s (Or.inr (Or.inl c3))]
       exact PB.bad h.2.2 rfl m1 hA.1
     | true =>
      obtain ⟨e2, hB⟩ := m3 b2
      have c4 : r2.fwd.p < s.length := by
       by_cases c4 : r2.fwd.p < s.length
       ·
        exact c4
       ·
        rw [number_end s (by omega)] at e2
        cases e2
      have k1 : r2.fwd.p < s.length ∧ s[r2.fwd.p]? ≠ some 125 := ⟨c4, c3⟩
      rw [if_neg (show ¬ true = false by decide), if_pos k1, e2]
      generalize (number s r2.fwd).1 = r4 at hB ⊢
      generalize rf.number s t2.fwd = Q at hB ⊢
      obtain ⟨⟨u, bb⟩, t4⟩ := Q
      have hB : At t4 r4 := hB
      have hu : ¬ oi (some u) < 0 := by show ¬ (u : Int) < 0; omega
      rw [if_neg hu]
      simp only
      rw [nxt_at s hB]
      by_cases c5 : s[r4.p]? = some 125
      ·
       rw [if_pos c5]
       simp only
       by_cases c6 : u < v
       ·
        rw [if_pos (Or.inr c6), fin_bad s (Or.inr (Or.inr (by show 0 ≤ (u : Int) ∧ (u : Int) < (v : Int); omega)))]
        exact PB.bad h.2.2 rfl hB.2.1 hB.1
       ·
        rw [if_neg (fun e => by rcases e with e | e; exact absurd e (by decide); exact c6 e), fin_good s hv c5 (by show ¬ (0 ≤ (u : Int) ∧ (u : Int) < (v : Int)); omega)]
        exact PB.good h.2.2 hB
      ·
       rw [if_neg c5, if_pos (Or.inl rfl), fin_bad s (Or.inr (Or.inl c5))]
       exact PB.bad h.2.2 rfl hB.2.1 hB.1
   ·
    rw [if_neg c2, if_neg c2, if_pos rfl, fin_bad s (Or.inr (Or.inl c1))]
    exact PB.bad h.2.2 rfl hA.2.1 hA.1
end
end Go.Proofs.Ytbccejlemhgioaa.rr
namespace Go.Proofs.Ytbccejlemhgioaa.rr
open rx
section
variable (s : List Nat)
def signs (r : R) (c : Nat) : R × Int × Int := if c = 42 then (r.fwd, 0, -1) else if c = 43 then (r.fwd, 1, -1) else if c = 63 then (r.fwd, 0, 1) else bounds s r
theorem often_none {t : rf.T} (h : ∀ c, rf.nxt s t = some c → sign c = false) : rf.often s t = ((0, 0, false), t) := by
 have k : ∀ d, sign d = true → rf.nxt s t ≠ some d := fun d hd e => by have := h d e; rw [hd] at this; cases this
 unfold rf.often
 rw [if_neg (k 42 (by decide)), if_neg (k 43 (by decide)), if_neg (k 63 (by decide)), if_neg (k 123 (by decide))]
theorem often_rel {t : rf.T} {r : R} (h : At t r) {c : Nat} (hc : s[r.p]? = some c) (hs : sign c = true) :
  Rel (rf.often s t).2 (signs s r c).1 ∧ ((signs s r c).1.co = 0 → (signs s r c).2 = ((rf.often s t).1.1, (rf.often s t).1.2.1) ∧ (rf.often s t).1.2.2 = true) := by
 have hn := nxt_at s h
 rw [hc] at hn
 unfold rf.often signs
 rw [hn]
 by_cases c1 : c = 42
 ·
  subst c1; rw [if_pos rfl, if_pos rfl]; exact ⟨h.fwd.rel, fun _ => ⟨rfl, rfl⟩⟩
 rw [if_neg (fun e => c1 (Option.some.inj e)), if_neg c1]
 by_cases c2 : c = 43
 ·
  subst c2; rw [if_pos rfl, if_pos rfl]; exact ⟨h.fwd.rel, fun _ => ⟨rfl, rfl⟩⟩
 rw [if_neg (fun e => c2 (Option.some.inj e)), if_neg c2]
 by_cases c3 : c = 63
 ·
  subst c3; rw [if_pos rfl, if_pos rfl]; exact ⟨h.fwd.rel, fun _ => ⟨rfl, rfl⟩⟩
 rw [if_neg (fun e => c3 (Option.some.inj e)), if_neg c3]
 have c4 : c = 123 := by
  unfold sign at hs
  simp only [Bool.or_eq_true, beq_iff_eq] at hs
  omega
 subst c4
 rw [if_pos rfl]
 obtain ⟨b1, b2⟩ := bounds_rel s h
 refine ⟨b1, fun k => ⟨b2 k, ?_⟩⟩
 have b0 : (oB t (rf.bounds s t.fwd)).2.co = 0 := by rw [← b1.1]; exact k
 show (oB t (rf.bounds s t.fwd)).1.2.2 = true
 unfold oB at b0 ⊢
 cases hb : (rf.bounds s t.fwd).1.2.2 with
 | false =>
  rw [hb, if_pos rfl] at b0
  exfalso
  unfold rf.T.fail at b0
  split at b0
  ·
   exact absurd b0 (show ¬ (9 : Int) = 0 by decide)
  ·
   rename_i h5; exact h5 b0
 | true =>
  rw [if_neg (show ¬ true = false by decide)]
  split <;> exact hb
end
end Go.Proofs.Ytbccejlemhgioaa.rr
namespace Go.Proofs.Ytbccejlemhgioaa.rr
open rx
section
variable (s : List Nat)
theorem many_eq (A : R → R × Pat) (r : R) : many s A r = match cur s (A r).1 with
  | none => A r
  | some c => if sign c = false then A r else
   if (∃ d, cur s (signs s (A r).1 c).1 = some d ∧ sign d = true) then ((signs s (A r).1 c).1.fail (signs s (A r).1 c).1.p 9, .zero) else
   if (signs s (A r).1 c).1.co ≠ 0 ∨ ((signs s (A r).1 c).2.1 = 1 ∧ (signs s (A r).1 c).2.2 = 1) then ((signs s (A r).1 c).1, (A r).2) else ((signs s (A r).1 c).1, .mk 5 .zero [(A r).2] (signs s (A r).1 c).2.1 (signs s (A r).1 c).2.2) := rfl
theorem many_rel {O : rf.T → Pat × rf.T} {A : R → R × Pat} {t : rf.T} {r : R} (hO : Rel (O t).2 (A r).1) (hP : (A r).1.co = 0 → (O t).1 = (A r).2) :
  (Rel (rf.part s O t).2 (many s A r).1 ∧ ((many s A r).1.co = 0 → (rf.part s O t).1 = (many s A r).2)) ∨
  (∃ c, (rf.part s O t).2.co = 0 ∧ s[(rf.part s O t).2.p]? = some c ∧ sign c = true ∧ Rel ((rf.part s O t).2.fail (rf.part s O t).2.p 9) (many s A r).1 ∧ (many s A r).1.co ≠ 0) := by
 have hcn := cur_nxt s hO
 rw [many_eq]
 unfold rf.part
 simp only
 generalize A r = a at hO hP hcn ⊢
 generalize O t = o at hO hP hcn ⊢
 cases hc : cur s a.1 with
 | none =>
  rw [hc] at hcn
  left
  rw [often_none s (fun c e => by rw [← hcn] at e; cases e)]
  exact ⟨hO, fun k => hP k⟩
 | some c =>
  rw [hc] at hcn
  obtain ⟨h0, hb, _⟩ := cur_some s hc
  have hA : At o.2 a.1 := hO.at (by rw [← hO.1]; exact h0)
  simp only
  cases hs : sign c with
  | false =>
   left
   rw [if_pos rfl, often_none s (fun d e => by rw [← hcn] at e; rw [← Option.some.inj e]; exact hs)]
   exact ⟨hO, fun k => hP k⟩
  | true =>
   rw [if_neg (show ¬ true = false by decide)]
   obtain ⟨o1, o2⟩ := often_rel s hA hb hs
   generalize signs s a.1 c = q at o1 o2 ⊢
   generalize rf.often s o.2 = w at o1 o2 ⊢
   by_cases k : ∃ d, cur s q.1 = some d ∧ sign d = true
   ·
    right
    rw [if_pos k]
    obtain ⟨d, k1, k2⟩ := k
    obtain ⟨q0, qb, _⟩ := cur_some s k1
    have hq : At w.2 q.1 := o1.at (by rw [← o1.1]; exact q0)
    refine ⟨d, hq.2.1, by rw [← hq.2.2]; exact qb, k2, ?_, fail_co (by decide)⟩
    rw [← hq.2.2]
    exact hq.fail _ 9 (by decide)
   ·
    left
    rw [if_neg k]
    by_cases c1 : q.1.co ≠ 0 ∨ (q.2.1 = 1 ∧ q.2.2 = 1)
    ·
     rw [if_pos c1]
     refine ⟨o1, fun e => ?_⟩
     have e : q.1.co = 0 := e
     obtain ⟨e1, e2⟩ := o2 e
     rcases c1 with c1 | c1
     ·
      exact absurd e c1
     ·
      have e3 : w.1.1 = 1 ∧ w.1.2.1 = 1 := by rw [e1] at c1; exact c1
      unfold rx.many
      rw [if_neg (show ¬ w.1.2.2 = false by rw [e2]; decide), if_pos e3]
      exact hP h0
    ·
     rw [if_neg c1]
     refine ⟨o1, fun e => ?_⟩
     have e : q.1.co = 0 := e
     obtain ⟨e1, e2⟩ := o2 e
     have e3 : ¬ (w.1.1 = 1 ∧ w.1.2.1 = 1) := fun e4 => c1 (Or.inr (by rw [e1]; exact e4))
     unfold rx.many
     rw [if_neg (show ¬ w.1.2.2 = false by rw [e2]; decide), if_neg e3, hP h0, e1]
end
end Go.Proofs.Ytbccejlemhgioaa.rr
namespace Go.Proofs.Ytbccejlemhgioaa.rr
open rx
section
variable (s : List Nat)
def groupR (E : Option (R → R × Pat)) (a : Nat) (r : R) : R × Pat :=
 match E with
 | none => (r.fail a 11, .zero)
 | some e => if (e r).1.co ≠ 0 then ((e r).1, .zero) else if s.length ≤ (e r).1.p then ((e r).1.fail a 9, .zero) else ((e r).1.fwd, (e r).2)
theorem atom_rel {G : Nat → rf.T → Pat × rf.T} {E : Option (R → R × Pat)} (hG : ∀ (t : rf.T) (r : R) (a : Nat), At t r → t.p ≤ s.length → Rel (G a t).2 (groupR s E a r).1 ∧ ((groupR s E a r).1.co = 0 → (G a t).1 = (groupR s E a r).2))
  {t : rf.T} {r : R} (h : At t r) {c : Nat} (hc : s[r.p]? = some c) :
  Rel (rf.onceB s G t).2 (atom s E r).1 ∧ ((atom s E r).1.co = 0 → (rf.onceB s G t).1 = (atom s E r).2) := by
 unfold rf.onceB atom
 rw [← h.2.2, hc]
 simp only
 by_cases c1 : c = 40
 ·
  rw [if_pos c1, if_pos c1]
  have hg := hG t.fwd r.fwd r.p h.fwd (by have := (List.getElem?_eq_some_iff.1 hc).1; have := h.2.2; show t.p + 1 ≤ _; omega)
  unfold groupR at hg
  cases E with
  | none =>
   simp only at hg ⊢
   refine ⟨?_, fun e => absurd e (fail_co (by decide))⟩
   have h1 : r.fwd.fail r.p 11 = r.fail r.p 11 := by
    unfold R.fail
    rw [if_pos h.1, if_pos (show r.fwd.co = 0 from h.1)]
   rw [← h1]
   exact hg.1
  | some e => exact hg
 rw [if_neg c1, if_neg c1]
 by_cases c2 : c = 91
 ·
  rw [if_pos c2, if_pos c2]
  have := cls_rel s h
  rw [← h.2.2] at this
  exact this
 rw [if_neg c2, if_neg c2]
 by_cases c3 : c = 92
 ·
  have c4 : ¬ c = 46 := by omega
  rw [if_pos c3, if_neg c4, if_pos c3]
  have := escape_rel s h
  rw [← h.2.2] at this
  exact ⟨this.1, fun _ => by show Pat.ofCls _ = Pat.ofCls _; rw [this.2]⟩
 rw [if_neg c3]
 by_cases c4 : c = 46
 ·
  rw [if_pos c4, if_pos c4]
  exact ⟨h.fwd.rel, fun _ => rfl⟩
 rw [if_neg c4, if_neg c4, if_neg c3]
 by_cases c5 : (rf.spc c = true ∧ c ≠ 45) ∨ c < 32 ∨ 126 < c
 ·
  have c6 : ¬ (c = 45 ∨ (32 ≤ c ∧ c ≤ 126 ∧ rf.spc c = false)) := by
   rintro (e | ⟨e1, e2, e3⟩)
   ·
    rcases c5 with c5 | c5
    ·
     exact c5.2 e
    ·
     omega
   ·
    rcases c5 with c5 | c5
    ·
     rw [c5.1] at e3; cases e3
    ·
     omega
  rw [if_pos c5, if_neg c6]
  exact ⟨h.ffail _ 9 (by decide), fun e => absurd e (fail_co (by decide))⟩
 ·
  have c6 : c = 45 ∨ (32 ≤ c ∧ c ≤ 126 ∧ rf.spc c = false) := by
   by_cases k : c = 45
   ·
    exact Or.inl k
   ·
    refine Or.inr ⟨by omega, by omega, ?_⟩
    cases hs : rf.spc c with
    | false => rfl
    | true => exact absurd (Or.inl ⟨hs, k⟩) c5
  rw [if_neg c5, if_pos c6]
  exact ⟨h.fwd.rel, fun _ => rfl⟩
end
end Go.Proofs.Ytbccejlemhgioaa.rr
namespace Go.Proofs.Ytbccejlemhgioaa.rr
open rx
section
variable (s : List Nat)
theorem rowF_stop (M : R → R × Pat) (f : Nat) (l : List Pat) {r : R} (h : cur s r = none ∨ cur s r = some 124 ∨ cur s r = some 41) : rowF s M f l r = (r, l) := by
 cases f with
 | zero => rfl
 | succ f =>
  unfold rowF
  rcases h with h | h | h <;> rw [h]
  ·
   rfl
  ·
   rfl
theorem parts_stop (O : rf.T → Pat × rf.T) (f : Nat) (m : List Pat) {t : rf.T} (h : rf.nxt s t = none ∨ rf.nxt s t = some 124 ∨ rf.nxt s t = some 41) : rf.parts s O f t m = (m, t) := by
 cases f with
 | zero => rfl
 | succ f =>
  unfold rf.parts
  rcases h with h | h | h <;> rw [h]
  ·
   rfl
  ·
   rfl
theorem Rel.ff {t : rf.T} {r : R} (h0 : t.co = 0) (h : Rel (t.fail t.p 9) r) : Rel (t.fwd.fail t.p 9) r := by
 unfold rf.T.fail at h ⊢
 rw [if_pos h0] at h
 rw [if_pos (show t.fwd.co = 0 from h0)]
 exact ⟨h.1, fun e => absurd e (show ¬ (9 : Int) = 0 by decide), h.2.2⟩
theorem rowF_rel {O : rf.T → Pat × rf.T} {A : R → R × Pat} {a : Nat} (hg : rf.Good s a O)
  (hOA : ∀ (t : rf.T) (r : R) (c : Nat), At t r → s[r.p]? = some c → Rel (O t).2 (A r).1 ∧ ((A r).1.co = 0 → (O t).1 = (A r).2))
  (hS : ∀ (t : rf.T) (c : Nat), t.co = 0 → s[t.p]? = some c → sign c = true → (O t).2 = t.fwd.fail t.p 9) :
  ∀ (f : Nat) (l m : List Pat) (t : rf.T) (r : R), Rel t r → (r.co = 0 → m = l.filter (fun x => x.k != 1)) → 1 ≤ f → (r.co = 0 → s.length + 1 ≤ f + r.p) →
   Rel (rf.parts s O f t m).2 (rowF s (many s A) f l r).1 ∧ ((rowF s (many s A) f l r).1.co = 0 → (rf.parts s O f t m).1 = (rowF s (many s A) f l r).2.filter (fun x => x.k != 1)) := by
 intro f
 induction f with
 | zero => intro l m t r _ _ h; omega
 | succ f ih =>
  intro l m t r h hx h1 hf
  have hcn := cur_nxt s h
  cases hc : cur s r with
  | none =>
   rw [rowF_stop s _ _ _ (Or.inl hc), parts_stop s _ _ _ (Or.inl (by rw [← hcn]; exact hc))]
   exact ⟨h, fun k => hx k⟩
  | some c =>
   by_cases c1 : c = 124 ∨ c = 41
   ·
    have c2 : cur s r = some 124 ∨ cur s r = some 41 := by rcases c1 with e | e <;> rw [hc, e] <;> simp
    rw [rowF_stop s _ _ _ (Or.inr c2), parts_stop s _ _ _ (Or.inr (by rw [← hcn]; exact c2))]
    exact ⟨h, fun k => hx k⟩
   ·
    obtain ⟨h0, hb, hl⟩ := cur_some s hc
    have hA : At t r := h.at (by rw [← h.1]; exact h0)
    have e1 : rowF s (many s A) (f + 1) l r = rowF s (many s A) f (l ++ [(many s A r).2]) (many s A r).1 := by
     rw [show rowF s (many s A) (f + 1) l r = (match cur s r with
      | none => (r, l)
      | some c => if c = 124 ∨ c = 41 then (r, l) else rowF s (many s A) f (l ++ [(many s A r).2]) (many s A r).1) from rfl, hc]
     exact if_neg c1
    have e2 : rf.parts s O (f + 1) t m = rf.parts s O f (rf.part s O t).2 (if (rf.part s O t).1.k ≠ 1 then m ++ [(rf.part s O t).1] else m) := by
     rw [show rf.parts s O (f + 1) t m = (match rf.nxt s t with
      | none => (m, t)
      | some c => if c = 124 ∨ c = 41 then (m, t) else rf.parts s O f (rf.part s O t).2 (if (rf.part s O t).1.k ≠ 1 then m ++ [(rf.part s O t).1] else m)) from rfl, ← hcn, hc]
     exact if_neg c1
    have ho := hOA t r c hA hb
    have hpg := (rf.part_good hg t (by rw [← hA.2.2]; exact hl)).1
    have hf1 : 1 ≤ f := by have := hf h0; omega
    rw [e1, e2]
    rcases many_rel s ho.1 ho.2 with ⟨m1, m2⟩ | ⟨d, p0, pd, ds, rl, mne⟩
    ·
     refine ih _ _ _ _ m1 (fun k => ?_) hf1 (fun k => ?_)
     ·
      rw [List.filter_append, ← hx h0, m2 k]
      by_cases k1 : (many s A r).2.k = 1
      ·
       rw [if_neg (fun e => e k1)]
       simp [k1]
      ·
       rw [if_pos k1]
       simp [k1]
     ·
      have hP := m1.at (by rw [← m1.1]; exact k)
      have := hP.2.2
      have := hA.2.2
      have := hf h0
      omega
    ·
     rw [rowF_stop s _ _ _ (Or.inl (cur_none s mne))]
     refine ⟨?_, fun k => absurd k mne⟩
     obtain ⟨g, rfl⟩ : ∃ g, f = g + 1 := ⟨f - 1, by omega⟩
     generalize (if (rf.part s O t).1.k ≠ 1 then m ++ [(rf.part s O t).1] else m) = m'
     generalize (rf.part s O t).2 = t2 at p0 pd rl
     have hn2 : rf.nxt s t2 = some d := by unfold rf.nxt; rw [if_pos p0]; exact pd
     have d1 : ¬ (d = 124 ∨ d = 41) := by
      rintro (e | e) <;> (rw [e] at ds; exact absurd ds (by decide))
     have e3 : rf.parts s O (g + 1) t2 m' = rf.parts s O g (rf.part s O t2).2 (if (rf.part s O t2).1.k ≠ 1 then m' ++ [(rf.part s O t2).1] else m') := by
      rw [show rf.parts s O (g + 1) t2 m' = (match rf.nxt s t2 with
       | none => (m', t2)
       | some c => if c = 124 ∨ c = 41 then (m', t2) else rf.parts s O g (rf.part s O t2).2 (if (rf.part s O t2).1.k ≠ 1 then m' ++ [(rf.part s O t2).1] else m')) from rfl, hn2]
      exact if_neg d1
     have hfr : Rel (t2.fwd.fail t2.p 9) (many s A r).1 := Rel.ff p0 rl
     have hn3 : rf.nxt s (t2.fwd.fail t2.p 9) = none := by rw [← cur_nxt s hfr]; exact cur_none s mne
     have e4 : (rf.part s O t2).2 = t2.fwd.fail t2.p 9 := by
      unfold rf.part
      simp only
      rw [hS t2 d p0 pd ds, often_none s (fun c e => by rw [hn3] at e; cases e)]
     rw [e3, e4, parts_stop s _ _ _ (Or.inl hn3)]
     exact hfr
end
end Go.Proofs.Ytbccejlemhgioaa.rr
namespace Go.Proofs.Ytbccejlemhgioaa.rr
open rx
section
variable (s : List Nat)
theorem once_sign (n : Nat) (t : rf.T) (c : Nat) (hc : s[t.p]? = some c) (hs : sign c = true) : (rf.once s n t).2 = t.fwd.fail t.p 9 := by
 have h : c = 42 ∨ c = 43 ∨ c = 63 ∨ c = 123 := by
  unfold sign at hs
  simp only [Bool.or_eq_true, beq_iff_eq] at hs
  omega
 rw [rf.once_eq]
 unfold rf.onceB
 rw [hc]
 rcases h with rfl | rfl | rfl | rfl <;> rfl
section
variable {O : rf.T → Pat × rf.T} {A : R → R × Pat} {a : Nat} (hg : rf.Good s a O)
  (hOA : ∀ (t : rf.T) (r : R) (c : Nat), At t r → s[r.p]? = some c → Rel (O t).2 (A r).1 ∧ ((A r).1.co = 0 → (O t).1 = (A r).2))
  (hS : ∀ (t : rf.T) (c : Nat), t.co = 0 → s[t.p]? = some c → sign c = true → (O t).2 = t.fwd.fail t.p 9)
include hg hOA hS
theorem row_rel {t : rf.T} {r : R} (h : Rel t r) : Rel (rf.row s O t).2 (row s (many s A) r).1 ∧ ((row s (many s A) r).1.co = 0 → (rf.row s O t).1 = (row s (many s A) r).2) := by
 have k := rowF_rel s hg hOA hS (s.length + 1) [] [] t r h (fun _ => rfl) (by omega) (fun _ => by omega)
 unfold rf.row row
 refine ⟨k.1, fun e => ?_⟩
 show Pat.gather 3 _ = rf.lflat 3 _
 rw [k.2 e, rf.lf_then]
theorem rowsF_rel : ∀ (f : Nat) (l m : List Pat) (t : rf.T) (r : R), Rel t r → (r.co = 0 → m = l) →
  Rel (rf.rowsL s O f t m).2 (rowsF s (many s A) f l r).1 ∧ ((rowsF s (many s A) f l r).1.co = 0 → (rf.rowsL s O f t m).1 = (rowsF s (many s A) f l r).2) := by
 intro f
 induction f with
 | zero => intro l m t r h hx; exact ⟨h, hx⟩
 | succ f ih =>
  intro l m t r h hx
  have hcn := cur_nxt s h
  unfold rf.rowsL rowsF rf.meets
  rw [← hcn]
  by_cases c : cur s r = some 124
  ·
   obtain ⟨h0, _, _⟩ := cur_some s c
   have hA : At t r := h.at (by rw [← h.1]; exact h0)
   obtain ⟨k1, k2⟩ := row_rel s hg hOA hS hA.fwd.rel
   rw [if_pos c, if_pos c]
   simp only
   rw [if_pos trivial]
   exact ih _ _ _ _ k1 (fun e => by rw [hx h0, k2 e])
  ·
   rw [if_neg c, if_neg c]
   simp only
   rw [if_neg (show ¬ false = true by decide)]
   exact ⟨h, hx⟩
theorem rows_rel {t : rf.T} {r : R} (h : Rel t r) : Rel (rf.rows s O t).2 (rows s (many s A) r).1 ∧ ((rows s (many s A) r).1.co = 0 → (rf.rows s O t).1 = (rows s (many s A) r).2) := by
 obtain ⟨k1, k2⟩ := row_rel s hg hOA hS h
 have k := rowsF_rel s hg hOA hS (s.length + 1) [(row s (many s A) r).2] [(rf.row s O t).1] _ _ k1 (fun e => by rw [k2 e])
 unfold rf.rows rows
 refine ⟨k.1, fun e => ?_⟩
 show Pat.gather 4 _ = rf.lflat 4 _
 rw [k.2 e, rf.lf_or]
end
end
end Go.Proofs.Ytbccejlemhgioaa.rr
namespace Go.Proofs.Ytbccejlemhgioaa.rf
open rx
section
variable {s : List Nat} {O : T → Pat × T} {a : Nat}
theorem parts_end (h : Good s a O) : ∀ (f : Nat) (t : T) (l : List Pat), t.p ≤ s.length → s.length + 1 ≤ f + t.p → nxt s (parts s O f t l).2 = none ∨ nxt s (parts s O f t l).2 = some 124 ∨ nxt s (parts s O f t l).2 = some 41 := by
 intro f
 induction f with
 | zero => intro t l h1 h2; omega
 | succ f ih =>
  intro t l h1 h2
  unfold parts
  cases hc : nxt s t with
  | none => exact Or.inl hc
  | some c =>
   simp only
   by_cases c1 : c = 124 ∨ c = 41
   ·
    rw [if_pos c1]
    right
    rcases c1 with e | e
    ·
     left; rw [← e]; exact hc
    ·
     right; rw [← e]; exact hc
   ·
    rw [if_neg c1]
    have hl : t.p < s.length := by
     unfold nxt at hc
     split at hc
     ·
      exact (List.getElem?_eq_some_iff.1 hc).1
     ·
      cases hc
    have hp := part_good h t hl
    exact ih _ _ hp.2.1 (by omega)
theorem row_end (h : Good s a O) (t : T) (ht : t.p ≤ s.length) : nxt s (row s O t).2 = none ∨ nxt s (row s O t).2 = some 124 ∨ nxt s (row s O t).2 = some 41 := parts_end h _ _ _ ht (by omega)
theorem rowsL_end (h : Good s a O) : ∀ (f : Nat) (t : T) (l : List Pat), t.p ≤ s.length → s.length + 1 ≤ f + t.p → (nxt s t = none ∨ nxt s t = some 124 ∨ nxt s t = some 41) → nxt s (rowsL s O f t l).2 = none ∨ nxt s (rowsL s O f t l).2 = some 41 := by
 intro f
 induction f with
 | zero => intro t l h1 h2; omega
 | succ f ih =>
  intro t l h1 h2 h3
  unfold rowsL meets
  by_cases c : nxt s t = some 124
  ·
   rw [if_pos c]
   simp only
   rw [if_pos trivial]
   have hl : t.p < s.length := by
    unfold nxt at c
    split at c
    ·
     exact (List.getElem?_eq_some_iff.1 c).1
    ·
     cases c
   have hl2 : t.fwd.p ≤ s.length := hl
   have hr := row_good h t.fwd hl2
   have hq : t.p + 1 ≤ (row s O t.fwd).2.p := hr.1
   exact ih _ _ hr.2.1 (by omega) (row_end h _ hl2)
  ·
   rw [if_neg c]
   simp only
   rw [if_neg (show ¬ false = true by decide)]
   rcases h3 with e | e | e
   ·
    exact Or.inl e
   ·
    exact absurd e c
   ·
    exact Or.inr e
theorem rows_end (h : Good s a O) (t : T) (ht : t.p ≤ s.length) : nxt s (rows s O t).2 = none ∨ nxt s (rows s O t).2 = some 41 := by
 have hr := row_good h t ht
 exact rowsL_end h _ _ _ hr.2.1 (by omega) (row_end h t ht)
end
end Go.Proofs.Ytbccejlemhgioaa.rf
namespace Go.Proofs.Ytbccejlemhgioaa.rr
open rx
section
variable (s : List Nat)
theorem either_rel : ∀ (n : Nat), (∀ (t : rf.T) (r : R) (c : Nat), At t r → s[r.p]? = some c → Rel (rf.once s n t).2 (atom s (match n with | 0 => none | k + 1 => some (either s k)) r).1 ∧ ((atom s (match n with | 0 => none | k + 1 => some (either s k)) r).1.co = 0 → (rf.once s n t).1 = (atom s (match n with | 0 => none | k + 1 => some (either s k)) r).2)) ∧
  (∀ (t : rf.T) (r : R), Rel t r → Rel (rf.rows s (rf.once s n) t).2 (either s n r).1 ∧ ((either s n r).1.co = 0 → (rf.rows s (rf.once s n) t).1 = (either s n r).2)) := by
 intro n
 induction n with
 | zero =>
  have k : ∀ (t : rf.T) (r : R) (c : Nat), At t r → s[r.p]? = some c → Rel (rf.once s 0 t).2 (atom s none r).1 ∧ ((atom s none r).1.co = 0 → (rf.once s 0 t).1 = (atom s none r).2) := by
   intro t r c h hc
   exact atom_rel s (G := fun at' t => (.zero, t.fail at' 11)) (E := none) (fun t r a h _ => ⟨h.fail a 11 (by decide), fun _ => rfl⟩) h hc
  exact ⟨k, fun t r h => rows_rel s (rf.once_good 0) k (fun t c _ hc hs => once_sign s 0 t c hc hs) h⟩
 | succ n ih =>
  have k : ∀ (t : rf.T) (r : R) (c : Nat), At t r → s[r.p]? = some c → Rel (rf.once s (n + 1) t).2 (atom s (some (either s n)) r).1 ∧ ((atom s (some (either s n)) r).1.co = 0 → (rf.once s (n + 1) t).1 = (atom s (some (either s n)) r).2) := by
   intro t r c h hc
   refine atom_rel s (G := fun at' t => let r := rf.rows s (rf.once s n) t; let m := rf.meets s 41 r.2; (r.1, if m.1 = true then m.2 else m.2.fail at' 9)) (E := some (either s n)) (fun t r a h hp => ?_) h hc
   obtain ⟨e1, e2⟩ := ih.2 t r h.rel
   unfold groupR rf.meets
   simp only
   have hcn := cur_nxt s e1
   have hend := rf.rows_end (rf.once_good n) t hp
   rw [← hcn]
   rw [← hcn] at hend
   by_cases c0 : (either s n r).1.co ≠ 0
   ·
    have c4 : ¬ cur s (either s n r).1 = some 41 := by
     rw [cur_none s c0]
     intro e; cases e
    rw [if_pos c0, if_neg c4]
    simp only
    rw [if_neg (show ¬ false = true by decide)]
    refine ⟨?_, fun e => absurd e c0⟩
    have := e1.fail a 9 (by decide)
    rw [fail_id c0] at this
    exact this
   ·
    have c1 : (either s n r).1.co = 0 := by simpa using c0
    rw [if_neg c0]
    by_cases c2 : s.length ≤ (either s n r).1.p
    ·
     have c3 : cur s (either s n r).1 = none := by unfold cur; rw [if_pos c1]; exact List.getElem?_eq_none_iff.2 c2
     have c4 : ¬ cur s (either s n r).1 = some 41 := by
      rw [c3]
      intro e; cases e
     rw [if_pos c2, if_neg c4]
     simp only
     rw [if_neg (show ¬ false = true by decide)]
     exact ⟨e1.fail _ 9 (by decide), fun e => absurd e (fail_co (by decide))⟩
    ·
     have c3 : cur s (either s n r).1 = some 41 := by
      rcases hend with e | e
      ·
       exact absurd (cur_end s e c1) c2
      ·
       exact e
     rw [if_neg c2, if_pos c3]
     simp only
     rw [if_pos trivial]
     exact ⟨(e1.at (by rw [← e1.1]; exact c1)).fwd.rel, fun _ => e2 c1⟩
  exact ⟨k, fun t r h => rows_rel s (rf.once_good (n + 1)) k (fun t c _ hc hs => once_sign s (n + 1) t c hc hs) h⟩
end
end Go.Proofs.Ytbccejlemhgioaa.rr
namespace Go.Proofs.Ytbccejlemhgioaa.rr
open rx
theorem parse_rel (s : List Nat) : parse s = rf.parse s := by
 obtain ⟨h1, h2⟩ := (either_rel s 12).2 ⟨0, 0, 0⟩ ⟨0, 0⟩ ⟨rfl, fun _ => rfl, fun e => absurd rfl e⟩
 unfold parse rf.parse
 simp only
 generalize either s 12 ⟨0, 0⟩ = q at h1 h2 ⊢
 generalize rf.rows s (rf.once s 12) ⟨0, 0, 0⟩ = w at h1 h2 ⊢
 by_cases c : 60 < s.length
 ·
  rw [if_pos c, if_pos c]
 rw [if_neg c, if_neg c]
 have h3 : Rel (if w.2.co = 0 ∧ w.2.p < s.length then w.2.fail w.2.p 9 else w.2) (if q.1.co = 0 ∧ q.1.p < s.length then q.1.fail q.1.p 9 else q.1) ∧ ((if q.1.co = 0 ∧ q.1.p < s.length then q.1.fail q.1.p 9 else q.1).co = 0 → q.1.co = 0) := by
  by_cases k : q.1.co = 0 ∧ q.1.p < s.length
  ·
   have hA : At w.2 q.1 := h1.at (by rw [← h1.1]; exact k.1)
   rw [if_pos k, if_pos ⟨hA.2.1, by rw [← hA.2.2]; exact k.2⟩, ← hA.2.2]
   exact ⟨hA.fail _ 9 (by decide), fun _ => k.1⟩
  ·
   have k2 : ¬ (w.2.co = 0 ∧ w.2.p < s.length) := fun e => k ⟨by rw [h1.1]; exact e.1, by rw [h1.2.1 e.1]; exact e.2⟩
   rw [if_neg k, if_neg k2]
   exact ⟨h1, id⟩
 obtain ⟨g1, g2⟩ := h3
 generalize (if w.2.co = 0 ∧ w.2.p < s.length then w.2.fail w.2.p 9 else w.2) = t at g1 ⊢
 generalize (if q.1.co = 0 ∧ q.1.p < s.length then q.1.fail q.1.p 9 else q.1) = r at g1 g2 ⊢
 by_cases k : r.co ≠ 0
 ·
  have k2 : t.co ≠ 0 := by rw [← g1.1]; exact k
  rw [if_pos k, if_pos k2, g1.1, g1.2.2 k2]
 ·
  have k0 : r.co = 0 := by simpa using k
  have k2 : ¬ t.co ≠ 0 := by rw [← g1.1]; exact k
  rw [if_neg k, if_neg k2, h2 (g2 k0)]
end Go.Proofs.Ytbccejlemhgioaa.rr
