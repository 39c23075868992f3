/- texts put together: DelStp, DelSt2, DelSt3, DelAds, DelM2, DelRun, ArgsK. -/
import Derived.ChangeArms
import Derived.Deep.SlicePairs
import Derived.Lib.SmallJoins
import Derived.WideShapes
import Derived.Test.YtonknpdalemjkaaGreatDe00
import Derived.Test.YtonknpdalemjkaaGreatDe01
import Derived.Test.YtonknpdalemjkaaGreatDe02
import Derived.Test.YtonknpdalemjkaaGreatDe03
import Derived.Test.YtonknpdalemjkaaGreatDe04
import Derived.Test.YtonknpdalemjkaaGreatDe05
import Derived.Test.YtonknpdalemjkaaGreatDe06
import Derived.Test.YtonknpdalemjkaaGreatDe07
import Derived.Test.YtonknpdalemjkaaGreatDe08
import Derived.Test.YtonknpdalemjkaaGreatDe09
import Derived.Test.YtonknpdalemjkaaGreatDe10
import Derived.Test.YtonknpdalemjkaaGreatDe11
import Derived.Test.YtonknpdalemjkaaGreatDe12
import Derived.Test.YtonknpdalemjkaaGreatDe13
import Derived.Test.YtonknpdalemjkaaGreatDe14
import Derived.Test.YtonknpdalemjkaaGreatDe15
import Derived.Test.YtonknpdalemjkaaGreatDe16
import Derived.Test.YtonknpdalemjkaaGreatDe17
import Derived.Test.YtonknpdalemjkaaGreatDe18
import Derived.Test.YtonknpdalemjkaaGreatDe19
import Derived.Test.YtonknpdalemjkaaGreatDe20
import Derived.Test.YtonknpdalemjkaaGreatDe21
import Derived.Test.YtonknpdalemjkaaGreatDe22
import Derived.Test.YtonknpdalemjkaaGreatDe23
import Derived.Test.YtonknpdalemjkaaGreatDe24
import Derived.Test.YtonknpdalemjkaaGreatDn00
import Derived.Test.YtonknpdalemjkaaGreatDn01
import Derived.Test.YtonknpdalemjkaaGreatDn11
namespace Go.Proofs.YtonknpdalemjkaaGreat
open Go Go.RowKit Go.ChangeShapes cl
theorem newOf_sub {c dc : dm.Ctx} (h : ∀ d, dm.Knows dc d → dm.Knows c d) (l : List Ent) : newOf c (newOf dc l) = newOf c l := by
 unfold newOf
 rw [List.filter_filter]
 refine List.filter_congr fun x _ => ?_
 cases hd : dm.hasF dc x.d
 ·
  simp
 ·
  have := dm.hasF_iff.2 (h _ (dm.hasF_iff.1 hd))
  simp [this]
theorem newOf_none {c : dm.Ctx} {l : List Ent} (h : ∀ x ∈ l, dm.Knows c x.d) : newOf c l = [] := by
 unfold newOf
 rw [List.filter_eq_nil_iff]
 intro x hx
 rw [dm.hasF_iff.2 (h x hx)]
 simp
structure Mg (l : List Ent) (c : dm.Ctx) (L : List Ent) (C : dm.Ctx) (M : List Ent) (D : dm.Ctx) : Prop where
 perm : M.Perm (mrg l c L C)
 up : os.Up M
 ctx : ∃ m, dm.Is D (fun e => dm.Knows c e ∨ dm.Knows C e) m
theorem Mg.mem {l L M : List Ent} {c C D : dm.Ctx} (h : Mg l c L C M D) (x : Ent) : x ∈ M ↔ x ∈ mrg l c L C := h.perm.mem_iff
theorem Mg.kn {l L M : List Ent} {c C D : dm.Ctx} (h : Mg l c L C M D) (d : Dot) : dm.Knows D d ↔ dm.Knows c d ∨ dm.Knows C d := h.ctx.choose_spec.know d
theorem Mg.rset {l L M : List Ent} {c C D : dm.Ctx} (h : Mg l c L C M D) (hl : RSet l c) (hL : RSet L C) : RSet M D := rset_mrg hl hL h.perm h.up h.ctx.choose_spec
theorem Mg.ext {l L M l2 L2 M2 : List Ent} {c C D c2 C2 D2 : dm.Ctx} (h : Mg l c L C M D) (h2 : Mg l2 c2 L2 C2 M2 D2) (hm : ∀ x, x ∈ mrg l c L C ↔ x ∈ mrg l2 c2 L2 C2) (hk : ∀ d, (dm.Knows c d ∨ dm.Knows C d) ↔ (dm.Knows c2 d ∨ dm.Knows C2 d)) : M = M2 ∧ D = D2 := by
 obtain ⟨m, h3⟩ := h.ctx
 obtain ⟨m2, h4⟩ := h2.ctx
 exact ⟨up_ext h.up h2.up fun x => (h.mem x).trans ((hm x).trans (h2.mem x).symm), dm.Is.eq h3 h4 hk⟩
theorem Mg.again {l L M N : List Ent} {c C D E : dm.Ctx} (h : Mg l c L C M D) (h2 : Mg M D L C N E) (hL : RSet L C) : N = M ∧ E = D := by
 obtain ⟨m, h3⟩ := h.ctx
 obtain ⟨m2, h4⟩ := h2.ctx
 refine ⟨up_ext h2.up h.up fun x => (h2.mem x).trans (mrg_again hL h.mem (fun d => (h.kn d).symm) x), dm.Is.eq h4 h3 fun d => ?_⟩
 constructor
 ·
  rintro (hd | hd)
  ·
   exact (h.kn d).1 hd
  ·
   exact Or.inr hd
 ·
  intro hd; exact Or.inl ((h.kn d).2 hd)
theorem Mg.put {n : Nat} {s : TS} (h : TInv n s) {i j : Nat} (hi : i < 2) (hj : j < 2) {M : List Ent} {D : dm.Ctx} (hM : Mg (s.l i) (s.c i) (s.l j) (s.c j) M D) : TInv n (s.put i M D (s.made i)) := by
 obtain ⟨m, h3⟩ := hM.ctx
 exact tinv_told h hi hj hM.perm hM.up h3
theorem Mg.len {n : Nat} {s : TS} (h : TInv n s) {i j : Nat} (hi : i < 2) (hj : j < 2) {M : List Ent} {D : dm.Ctx} (hM : Mg (s.l i) (s.c i) (s.l j) (s.c j) M D) : M.length ≤ n ∧ D.2.length ≤ n ∧ D.1.length ≤ 16 ∧ RSet M D := by
 have h2 := hM.put h hi hj
 have e1 := h2.len hi
 have e2 := h2.cloud hi
 have e3 := h2.len1 i hi
 have e4 := h2.set i hi
 simp only [TS.put, upd_same] at e1 e2 e3 e4
 exact ⟨e1, e2, e3, e4⟩
end Go.Proofs.YtonknpdalemjkaaGreat
namespace Go.Proofs.YtonknpdalemjkaaGreat
open Go Go.RowKit Go.ChangeShapes cl
def DropK (p : Ent → Bool) (i : Nat) (s s' : TS) : Prop := (goneOf p (s.l i) = [] ∧ s' = s) ∨ (goneOf p (s.l i) ≠ [] ∧ ∃ c' m, s' = s.put i (staysOf p (s.l i)) c' (s.made i + 1) ∧ dm.Is c' (fun e => dm.Knows (s.c i) e ∨ e = s.nd i) m)
def TellK (i : Nat) (s s' : TS) : Prop := ∃ L' c' m, s' = s.put i L' c' (s.made i) ∧ L'.Perm (mrg (s.l i) (s.c i) (s.l (1 - i)) (s.c (1 - i))) ∧ os.Up L' ∧ dm.Is c' (fun e => dm.Knows (s.c i) e ∨ dm.Knows (s.c (1 - i)) e) m
def AddK (i J tk : Nat) (s s' : TS) : Prop := ∃ L' c' m, s' = s.put i L' c' (s.made i + 1) ∧ L'.Perm (staysOf (fun y => decide (y.s = nam J)) (s.l i) ++ [⟨nam J, s.nd i, (tk : Int)⟩]) ∧ os.Up L' ∧ dm.Is c' (fun e => dm.Knows (s.c i) e ∨ e = s.nd i) m
def StepK (kd : Int) (i J tk : Nat) (s s' : TS) : Prop :=
 if kd = 1 then DropK (fun x => decide (x.s = nam J)) i s s' else if kd = 2 then DropK (fun x => decide (x.t < (tk : Int))) i s s' else if kd = 3 then TellK i s s' else AddK i J tk s s'
theorem stepK_one {i J tk : Nat} {s s' : TS} (h : DropK (fun x => decide (x.s = nam J)) i s s') : StepK 1 i J tk s s' := by unfold StepK; rw [if_pos rfl]; exact h
theorem stepK_two {i J tk : Nat} {s s' : TS} (h : DropK (fun x => decide (x.t < (tk : Int))) i s s') : StepK 2 i J tk s s' := by unfold StepK; rw [if_neg (by decide), if_pos rfl]; exact h
theorem stepK_tell {i J tk : Nat} {s s' : TS} (h : TellK i s s') : StepK 3 i J tk s s' := by unfold StepK; rw [if_neg (by decide), if_neg (by decide), if_pos rfl]; exact h
theorem stepK_add {kd : Int} {i J tk : Nat} {s s' : TS} (h1 : ¬ kd = 1) (h2 : ¬ kd = 2) (h3 : ¬ kd = 3) (h : AddK i J tk s s') : StepK kd i J tk s s' := by unfold StepK; rw [if_neg h1, if_neg h2, if_neg h3]; exact h
def StepR (o : List Int) (s s' : TS) : Prop := ∃ i J tk : Nat, i < 2 ∧ who o = (i : Int) ∧ (IntKind.u64.wrap (o.getD 2 0)).tmod 4 = (J : Int) ∧ (IntKind.u64.wrap (o.getD 3 0)).tmod 1000 = (tk : Int) ∧ StepK (o.getD 0 0) i J tk s s'
theorem stepR_mk {o : List Int} {s s' : TS} {i J tk : Nat} {kd oA oB : Int} (hi : i < 2) (hw : who o = (i : Int)) (hA : oA = o.getD 2 0) (hJ : (IntKind.u64.wrap oA).tmod 4 = (J : Int)) (hB : oB = o.getD 3 0) (ht : (IntKind.u64.wrap oB).tmod 1000 = (tk : Int)) (hk : kd = o.getD 0 0) (h : StepK kd i J tk s s') : StepR o s s' := by
 subst hA hB hk
 exact ⟨i, J, tk, hi, hw, hJ, ht, h⟩
theorem put_ext {s : TS} {i m : Nat} {L L2 : List Ent} {c c2 : dm.Ctx} (h1 : L = L2) (h2 : c = c2) : s.put i L c m = s.put i L2 c2 m := by rw [h1, h2]
theorem dropK_det {p : Ent → Bool} {i : Nat} {s s1 s2 : TS} (h1 : DropK p i s s1) (h2 : DropK p i s s2) : s1 = s2 := by
 rcases h1 with ⟨e, rfl⟩ | ⟨e, c1, m1, rfl, i1⟩ <;> rcases h2 with ⟨e', rfl⟩ | ⟨e', c2, m2, rfl, i2⟩
 ·
  rfl
 ·
  exact absurd e e'
 ·
  exact absurd e' e
 ·
  exact put_ext rfl (dm.Is.eq i1 i2 fun _ => Iff.rfl)
theorem stepR_det {o : List Int} {s s1 s2 : TS} (h1 : StepR o s s1) (h2 : StepR o s s2) : s1 = s2 := by
 obtain ⟨i, J, tk, hi, hw, hJ, ht, h⟩ := h1
 obtain ⟨i', J', tk', hi', hw', hJ', ht', h'⟩ := h2
 obtain rfl : i = i' := by have := hw.symm.trans hw'; omega
 obtain rfl : J = J' := by have := hJ.symm.trans hJ'; omega
 obtain rfl : tk = tk' := by have := ht.symm.trans ht'; omega
 unfold StepK at h h'
 by_cases k1 : o.getD 0 0 = 1
 ·
  rw [if_pos k1] at h h'; exact dropK_det h h'
 ·
  rw [if_neg k1] at h h'
  by_cases k2 : o.getD 0 0 = 2
  ·
   rw [if_pos k2] at h h'; exact dropK_det h h'
  ·
   rw [if_neg k2] at h h'
   by_cases k3 : o.getD 0 0 = 3
   ·
    rw [if_pos k3] at h h'
    obtain ⟨L1, c1, m1, rfl, p1, u1, i1⟩ := h
    obtain ⟨L2, c2, m2, rfl, p2, u2, i2⟩ := h'
    exact put_ext (up_ext u1 u2 fun x => p1.mem_iff.trans p2.mem_iff.symm) (dm.Is.eq i1 i2 fun _ => Iff.rfl)
   ·
    rw [if_neg k3] at h h'
    obtain ⟨L1, c1, m1, rfl, p1, u1, i1⟩ := h
    obtain ⟨L2, c2, m2, rfl, p2, u2, i2⟩ := h'
    exact put_ext (up_ext u1 u2 fun x => p1.mem_iff.trans p2.mem_iff.symm) (dm.Is.eq i1 i2 fun _ => Iff.rfl)
structure Grows (s s' : TS) : Prop where
 done : ∀ d, s.Done d → s'.Done d
 new : ∃ e : Ent, ¬ s.Done e.d ∧ ∀ i, i < 2 → ∀ x ∈ s'.l i, (∃ j, j < 2 ∧ x ∈ s.l j) ∨ (x = e ∧ s'.Done e.d)
theorem put_done {s : TS} {i m : Nat} {L : List Ent} {c : dm.Ctx} (hm : s.made i ≤ m) : ∀ d, s.Done d → (s.put i L c m).Done d := fun d ⟨j, hj, h1, h2, h3⟩ => by
 refine ⟨j, hj, h1, h2, ?_⟩
 by_cases e : j = i
 ·
  subst e; simp only [TS.put, upd_same]; omega
 ·
  simp only [TS.put, upd_other _ _ e]; exact h3
theorem put_old {s : TS} {i m : Nat} {L : List Ent} {c : dm.Ctx} (hm : s.made i ≤ m) (hL : ∀ x ∈ L, ∃ j, j < 2 ∧ x ∈ s.l j) : Grows s (s.put i L c m) := by
 refine ⟨put_done hm, ⟨nam 0, s.nd 0, 0⟩, TS.nd_fresh, fun j hj x hx => Or.inl ?_⟩
 by_cases e : j = i
 ·
  subst e; simp only [TS.put, upd_same] at hx; exact hL x hx
 ·
  simp only [TS.put, upd_other _ _ e] at hx; exact ⟨j, hj, hx⟩
theorem dropK_grows {p : Ent → Bool} {i : Nat} (hi : i < 2) {s s' : TS} (h : DropK p i s s') : Grows s s' := by
 rcases h with ⟨_, rfl⟩ | ⟨_, c', m, rfl, _⟩
 ·
  exact ⟨fun _ h => h, ⟨nam 0, s'.nd 0, 0⟩, TS.nd_fresh, fun j hj x hx => Or.inl ⟨j, hj, hx⟩⟩
 ·
  exact put_old (by omega) fun x hx => ⟨i, hi, (mem_stays.1 hx).1⟩
theorem stepR_grows {o : List Int} {s s' : TS} (h : StepR o s s') : Grows s s' := by
 obtain ⟨i, J, tk, hi, hw, hJ, ht, h⟩ := h
 unfold StepK at h
 by_cases k1 : o.getD 0 0 = 1
 ·
  rw [if_pos k1] at h; exact dropK_grows hi h
 ·
  rw [if_neg k1] at h
  by_cases k2 : o.getD 0 0 = 2
  ·
   rw [if_pos k2] at h; exact dropK_grows hi h
  ·
   rw [if_neg k2] at h
   by_cases k3 : o.getD 0 0 = 3
   ·
    rw [if_pos k3] at h
    obtain ⟨L', c', m, rfl, p, _, _⟩ := h
    refine put_old (by omega) fun x hx => ?_
    rcases mem_mrg.1 (p.mem_iff.1 hx) with h | h
    ·
     exact ⟨i, hi, h.1⟩
    ·
     exact ⟨1 - i, by omega, h.1⟩
   ·
    rw [if_neg k3] at h
    obtain ⟨L', c', m, rfl, p, _, _⟩ := h
    refine ⟨put_done (by omega), ⟨nam J, s.nd i, (tk : Int)⟩, TS.nd_fresh, fun j hj x hx => ?_⟩
    by_cases e : j = i
    ·
     subst e
     simp only [TS.put, upd_same] at hx
     rcases List.mem_append.1 (p.mem_iff.1 hx) with hx | hx
     ·
      exact Or.inl ⟨j, hj, (mem_stays.1 hx).1⟩
     ·
      refine Or.inr ⟨List.mem_singleton.1 hx, j, hj, rfl, by show (1 : Int) ≤ (s.made j : Int) + 1; omega, ?_⟩
      simp only [TS.put, upd_same, TS.nd]; omega
    ·
     simp only [TS.put, upd_other _ _ e] at hx; exact Or.inl ⟨j, hj, hx⟩
def RunR (l : List (List Int)) (k : Nat) (s : TS) : Prop := ∃ f : Nat → TS, f 0 = TS.zero ∧ f k = s ∧ ∀ j, j < k → StepR (l.getD j []) (f j) (f (j + 1))
theorem runR_zero (l : List (List Int)) : RunR l 0 TS.zero := ⟨fun _ => TS.zero, rfl, rfl, fun _ hj => absurd hj (Nat.not_lt_zero _)⟩
theorem runR_succ {l : List (List Int)} {k : Nat} {s s' : TS} (h : RunR l k s) (h2 : StepR (l.getD k []) s s') : RunR l (k + 1) s' := by
 obtain ⟨f, h0, hk, hs⟩ := h
 refine ⟨fun j => if j ≤ k then f j else s', by show (if 0 ≤ k then f 0 else s') = _; rw [if_pos (Nat.zero_le _)]; exact h0, by show (if k + 1 ≤ k then f (k + 1) else s') = s'; rw [if_neg (by omega)], fun j hj => ?_⟩
 by_cases e : j = k
 ·
  subst e
  show StepR _ (if j ≤ j then f j else s') (if j + 1 ≤ j then f (j + 1) else s')
  rw [if_pos (Nat.le_refl _), if_neg (by omega), hk]; exact h2
 ·
  show StepR _ (if j ≤ k then f j else s') (if j + 1 ≤ k then f (j + 1) else s')
  rw [if_pos (by omega), if_pos (by omega)]; exact hs j (by omega)
theorem run_hist {l : List (List Int)} {f : Nat → TS} (h0 : f 0 = TS.zero) : ∀ k, (∀ j, j < k → StepR (l.getD j []) (f j) (f (j + 1))) → (∀ a b i j, a ≤ k → b ≤ k → i < 2 → j < 2 → Agree ((f a).l i) ((f b).l j)) ∧ ∀ a i, a ≤ k → i < 2 → ∀ x ∈ (f a).l i, (f k).Done x.d := by
 intro k
 induction k with
 | zero =>
  intro _
  refine ⟨fun a b i j ha hb _ _ x hx => ?_, fun a i ha _ x hx => ?_⟩
  ·
   obtain rfl : a = 0 := by omega
   rw [h0] at hx; cases hx
  ·
   obtain rfl : a = 0 := by omega
   rw [h0] at hx; cases hx
 | succ k ih =>
  intro hs
  obtain ⟨h1, h2⟩ := ih fun j hj => hs j (by omega)
  obtain ⟨hd, e, he, hn⟩ := stepR_grows (hs k (by omega))
  have key : ∀ a i, a ≤ k + 1 → i < 2 → ∀ x ∈ (f a).l i, (∃ b j, b ≤ k ∧ j < 2 ∧ x ∈ (f b).l j) ∨ (x = e ∧ (f (k + 1)).Done e.d) := fun a i ha hi x hx => by
   by_cases ea : a ≤ k
   ·
    exact Or.inl ⟨a, i, ea, hi, hx⟩
   ·
    obtain rfl : a = k + 1 := by omega
    rcases hn i hi x hx with ⟨j, hj, h⟩ | h
    ·
     exact Or.inl ⟨k, j, Nat.le_refl _, hj, h⟩
    ·
     exact Or.inr h
  refine ⟨fun a b i j ha hb hi hj x hx y hy hxy => ?_, fun a i ha hi x hx => ?_⟩
  ·
   rcases key a i ha hi x hx with ⟨a', i', ha', hi', hx'⟩ | ⟨rfl, _⟩ <;> rcases key b j hb hj y hy with ⟨b', j', hb', hj', hy'⟩ | ⟨rfl, _⟩
   ·
    exact h1 a' b' i' j' ha' hb' hi' hj' x hx' y hy' hxy
   ·
    exact absurd (by rw [← hxy]; exact h2 a' i' ha' hi' x hx') he
   ·
    exact absurd (by rw [hxy]; exact h2 b' j' hb' hj' y hy') he
   ·
    rfl
  ·
   rcases key a i ha hi x hx with ⟨b, j, hb, hj, h⟩ | ⟨rfl, h⟩
   ·
    exact hd _ (h2 b j hb hj x h)
   ·
    exact h
theorem getD_left {l m : List (List Int)} {j : Nat} (h : j < l.length) : (l ++ m).getD j [] = l.getD j [] := by
 rw [List.getD_eq_getElem?_getD, List.getD_eq_getElem?_getD, List.getElem?_append_left h]
theorem run_agree {l m : List (List Int)} {s t : TS} (h : RunR l l.length s) (h2 : RunR (l ++ m) (l ++ m).length t) {i j : Nat} (hi : i < 2) (hj : j < 2) : Agree (s.l i) (t.l j) := by
 obtain ⟨f, f0, fk, fs⟩ := h
 obtain ⟨g, g0, gk, gs⟩ := h2
 have hle : l.length ≤ (l ++ m).length := by rw [List.length_append]; omega
 have same : ∀ k, k ≤ l.length → f k = g k := fun k => by
  induction k with
  | zero => intro _; rw [f0, g0]
  | succ k ih =>
   intro hk
   have a := fs k (by omega)
   have b := gs k (by omega)
   rw [getD_left (by omega), ← ih (by omega)] at b
   exact stepR_det a b
 have := (run_hist g0 _ gs).1 l.length (l ++ m).length i j hle (Nat.le_refl _) hi hj
 rw [← same _ (Nat.le_refl _), fk, gk] at this
 exact this
theorem run_adds {l : List (List Int)} {k : Nat} {s : TS} (h : RunR l k s) : Adds l k s := by
 obtain ⟨f, f0, rfl, fs⟩ := h
 have key : ∀ j, j ≤ k → Adds l j (f j) := fun j => by
  induction j with
  | zero => intro _; rw [f0]; exact adds_zero l
  | succ j ih =>
   intro hj
   obtain ⟨i, J, tk, hi, hw, hJ, ht, h⟩ := fs j (by omega)
   by_cases k0 : (l.getD j []).getD 0 0 = 0
   ·
    unfold StepK at h
    rw [k0, if_neg (by decide), if_neg (by decide), if_neg (by decide)] at h
    obtain ⟨L', c', m, e, p, _, is⟩ := h
    rw [e]
    exact adds_add (ih (by omega)) hw (x := ⟨nam J, (f j).nd i, (tk : Int)⟩) rfl p is
   ·
    exact adds_no rfl k0 _
 exact key k (Nat.le_refl _)
end Go.Proofs.YtonknpdalemjkaaGreat
