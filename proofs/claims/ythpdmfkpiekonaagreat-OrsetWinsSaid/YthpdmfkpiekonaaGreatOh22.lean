/- texts put together: OrsPm, OrsPs, OrsApl0. -/
import Derived.Test.YthpdmfkpiekonaaGreatOh15
import Derived.Test.YthpdmfkpiekonaaGreatOh21
namespace Go.Proofs.YthpdmfkpiekonaaGreat
open Go Go.RowKit Go.ChangeShapes cl
structure PS where
 l : Nat → List Ent
 c : Nat → dm.Ctx
 made : Nat → Nat
 C : List Chg
 has : Nat → List Bool
def PS.Done (s : PS) (d : Dot) : Prop := ∃ i, i < 3 ∧ d.1 = ((i : Nat) : Int) ∧ 1 ≤ d.2 ∧ d.2 ≤ (s.made i : Int)
def PS.nd (s : PS) (i : Nat) : Dot := (((i : Nat) : Int), (s.made i : Int) + 1)
def PS.H (s : PS) (i : Nat) (k : Nat) : Prop := (s.has i).getD k false = true
structure Inv (n : Nat) (s : PS) : Prop where
 set : ∀ i, i < 3 → RSet (s.l i) (s.c i)
 chgs : Chgs s.C
 means : ∀ i, i < 3 → Means s.C (s.H i) (s.l i) (s.c i)
 hasl : ∀ i, i < 3 → (s.has i).length = s.C.length
 knC : ∀ k, k < s.C.length → ∀ d, dm.Knows (s.C.getD k default).c d → s.Done d
 sum : s.made 0 + s.made 1 + s.made 2 = s.C.length
 many : s.C.length ≤ n
theorem Inv.mono {n m : Nat} {s : PS} (h : Inv n s) (hm : n ≤ m) : Inv m s := ⟨h.set, h.chgs, h.means, h.hasl, h.knC, h.sum, Nat.le_trans h.many hm⟩
theorem Inv.kn {n : Nat} {s : PS} (h : Inv n s) {i : Nat} (hi : i < 3) (d : Dot) (hd : dm.Knows (s.c i) d) : s.Done d := by
 obtain ⟨k, hk, _, hkn⟩ := ((h.means i hi).kn d).1 hd
 exact h.knC k hk d hkn
def PS.U (s : PS) : List Dot := (List.range 3).flatMap fun i => (List.range (s.made i)).map fun m => (((i : Nat) : Int), ((m : Nat) : Int) + 1)
theorem PS.U_len (s : PS) : s.U.length = s.made 0 + s.made 1 + s.made 2 := by
 have : List.range 3 = [0, 1, 2] := rfl
 unfold PS.U
 rw [this]
 simp only [List.flatMap_cons, List.flatMap_nil, List.length_append, List.length_map, List.length_range, List.length_nil]
 omega
theorem PS.mem_U {s : PS} {d : Dot} (h : s.Done d) : d ∈ s.U := by
 obtain ⟨i, hi, h1, h2, h3⟩ := h
 refine List.mem_flatMap.2 ⟨i, List.mem_range.2 hi, List.mem_map.2 ⟨(d.2 - 1).toNat, List.mem_range.2 (by omega), ?_⟩⟩
 have e : (((d.2 - 1).toNat : Nat) : Int) + 1 = d.2 := by omega
 rw [e, ← h1]
theorem Inv.cloud {n : Nat} {s : PS} (h : Inv n s) {i : Nat} (hi : i < 3) : (s.c i).2.length ≤ n := by
 have := cloud_len (U := s.U) (h.set i hi).right (fun d hd => PS.mem_U (h.kn hi d hd))
 rw [PS.U_len, h.sum] at this
 exact Nat.le_trans this h.many
theorem Inv.cloudC {n : Nat} {s : PS} (h : Inv n s) {k : Nat} (hk : k < s.C.length) : (s.C.getD k default).c.2.length ≤ n := by
 have := cloud_len (U := s.U) (h.chgs.right k hk).set.right (fun d hd => PS.mem_U (h.knC k hk d hd))
 rw [PS.U_len, h.sum] at this
 exact Nat.le_trans this h.many
theorem Inv.len {n : Nat} {s : PS} (h : Inv n s) {i : Nat} (hi : i < 3) : (s.l i).length ≤ n := by
 have := nodup_len (a := (s.l i).map Ent.d) (b := s.U) (nodup_of (h.set i hi).up) (fun d hd => by
  obtain ⟨x, hx, rfl⟩ := List.mem_map.1 hd
  exact PS.mem_U (h.kn hi _ ((h.set i hi).kn x hx)))
 rw [PS.U_len, h.sum, List.length_map] at this
 exact Nat.le_trans this h.many
theorem Inv.made_le {n : Nat} {s : PS} (h : Inv n s) {i : Nat} (hi : i < 3) : s.made i ≤ n := by
 have := h.sum
 have := h.many
 rcases (by omega : i = 0 ∨ i = 1 ∨ i = 2) with rfl | rfl | rfl <;> omega
theorem Inv.lenL {n : Nat} {s : PS} (h : Inv n s) {k : Nat} (hk : k < s.C.length) : (s.C.getD k default).L.length ≤ 1 ∧ (s.C.getD k default).A.length ≤ 1 := by
 rcases h.chgs.one k hk with ⟨e1, e2⟩ | ⟨x, e1, e2⟩ <;> rw [e1, e2] <;> simp
theorem Inv.told {n : Nat} {s : PS} (h : Inv n s) {k : Nat} (hk : k < s.C.length) (c : dm.Ctx) : ∀ d ∈ (s.C.getD k default).A, d ∈ (s.C.getD k default).L.map Ent.d ∨ dm.Knows c d := fun d hd => by
 obtain ⟨x, hx, e⟩ := h.chgs.alive hk hd
 exact Or.inl (List.mem_map.2 ⟨x, hx, e⟩)
theorem PS.nd_fresh {s : PS} {i : Nat} : ¬ s.Done (s.nd i) := by
 rintro ⟨j, hj, h1, h2, h3⟩
 have h1 : ((i : Nat) : Int) = (j : Int) := h1
 have h3 : (s.made i : Int) + 1 ≤ (s.made j : Int) := h3
 have : i = j := by omega
 subst this
 omega
theorem Inv.nd_valid {n : Nat} {s : PS} (h : Inv n s) {i : Nat} (hi : i < 3) (hn : n ≤ 1000000) : valid (s.nd i) = true := by
 refine (dm.valid_iff _).2 ⟨?_, ?_, ?_, ?_⟩
 ·
  show (0 : Int) ≤ (i : Int); omega
 ·
  show (i : Int) < 16; omega
 ·
  show (1 : Int) ≤ (s.made i : Int) + 1; omega
 ·
  show (s.made i : Int) + 1 ≤ 1099511627776
  have := h.made_le hi
  omega
theorem Inv.fresh {n : Nat} {s : PS} (h : Inv n s) {i j : Nat} (hj : j < 3) : ¬ dm.Knows (s.c j) (s.nd i) := fun hk => PS.nd_fresh (h.kn hj _ hk)
theorem Means.congr {C : List Chg} {H H' : Nat → Prop} {l : List Ent} {c : dm.Ctx} (h : Means C H l c) (e : ∀ k, k < C.length → (H k ↔ H' k)) : Means C H' l c := by
 refine ⟨fun d => (h.kn d).trans ⟨fun ⟨k, hk, hH, hd⟩ => ⟨k, hk, (e k hk).1 hH, hd⟩, fun ⟨k, hk, hH, hd⟩ => ⟨k, hk, (e k hk).2 hH, hd⟩⟩, fun x => (h.mem x).trans ⟨fun ⟨k, hk, hH, hx, hno⟩ => ⟨k, hk, (e k hk).1 hH, hx, fun j hj hHj => hno j hj ((e j hj).2 hHj)⟩, fun ⟨k, hk, hH, hx, hno⟩ => ⟨k, hk, (e k hk).2 hH, hx, fun j hj hHj => hno j hj ((e j hj).1 hHj)⟩⟩⟩
def upd {α : Type} (f : Nat → α) (i : Nat) (x : α) : Nat → α := fun j => if j = i then x else f j
theorem upd_same {α : Type} (f : Nat → α) (i : Nat) (x : α) : upd f i x i = x := if_pos rfl
theorem upd_other {α : Type} (f : Nat → α) {i j : Nat} (x : α) (h : j ≠ i) : upd f i x j = f j := if_neg h
def PS.app (s : PS) (i k : Nat) (l2 : List Ent) (c2 : dm.Ctx) : PS := { s with l := upd s.l i l2, c := upd s.c i c2, has := upd s.has i ((s.has i).set k true) }
theorem set_getD {l : List Bool} {k j : Nat} (hk : k < l.length) : ((l.set k true).getD j false = true) ↔ (l.getD j false = true ∨ j = k) := by
 rw [List.getD_eq_getElem?_getD, List.getD_eq_getElem?_getD, List.getElem?_set]
 by_cases e : k = j
 ·
  subst e; simp [hk]
 ·
  rw [if_neg e]
  constructor
  ·
   exact fun h => Or.inl h
  ·
   rintro (h | h)
   ·
    exact h
   ·
    exact absurd h.symm e
theorem inv_app {n : Nat} {s : PS} (h : Inv n s) {i k m : Nat} (hi : i < 3) (hk : k < s.C.length) {l2 : List Ent} {c2 : dm.Ctx}
  (hp : l2.Perm (staysOf (deadF (s.C.getD k default).A (s.C.getD k default).c) (s.l i) ++ newOf (s.c i) (s.C.getD k default).L)) (hu : os.Up l2) (hc : dm.Is c2 (fun e => dm.Knows (s.c i) e ∨ dm.Knows (s.C.getD k default).c e) m) : Inv n (s.app i k l2 c2) := by
 have hset := rset_apply (h.set i hi) (h.chgs.right k hk) hp hu hc
 have hme := means_apply h.chgs (h.means i hi) hk hp hc
 have hlk : k < (s.has i).length := by rw [h.hasl i hi]; exact hk
 refine ⟨fun j hj => ?_, h.chgs, fun j hj => ?_, fun j hj => ?_, h.knC, h.sum, h.many⟩
 ·
  by_cases e : j = i
  ·
   subst e; simp only [PS.app, upd_same]; exact hset
  ·
   simp only [PS.app, upd_other _ _ e]; exact h.set j hj
 ·
  by_cases e : j = i
  ·
   subst e
   simp only [PS.app, upd_same]
   refine hme.congr fun q _ => ?_
   show _ ↔ ((upd s.has j ((s.has j).set k true)) j).getD q false = true
   rw [upd_same, set_getD hlk]; rfl
  ·
   have hh : (s.app i k l2 c2).H j = s.H j := by
    funext q
    show (((upd s.has i ((s.has i).set k true)) j).getD q false = true) = ((s.has j).getD q false = true)
    rw [upd_other _ _ e]
   rw [hh]
   simp only [PS.app, upd_other _ _ e]
   exact h.means j hj
 ·
  by_cases e : j = i
  ·
   subst e; simp only [PS.app, upd_same, List.length_set]; exact h.hasl j hj
  ·
   simp only [PS.app, upd_other _ _ e]; exact h.hasl j hj
def PS.mk1 (s : PS) (i : Nat) (l1 : List Ent) (c1 : dm.Ctx) (x : Chg) : PS :=
 { l := upd s.l i l1, c := upd s.c i c1, made := upd s.made i (s.made i + 1), C := s.C ++ [x], has := fun j => s.has j ++ [decide (j = i)] }
theorem getD_app {α : Type} [Inhabited α] (C : List α) (x : α) {k : Nat} (hk : k < C.length) : (C ++ [x]).getD k default = C.getD k default := by
 rw [List.getD_eq_getElem?_getD, List.getD_eq_getElem?_getD, List.getElem?_append_left hk]
theorem getD_last {α : Type} [Inhabited α] (C : List α) (x : α) : (C ++ [x]).getD C.length default = x := by
 rw [List.getD_eq_getElem?_getD, List.getElem?_append_right (Nat.le_refl _), Nat.sub_self]; rfl
theorem inv_mk {n : Nat} {s : PS} (h : Inv n s) {i m : Nat} (hi : i < 3) {l1 : List Ent} {c1 : dm.Ctx} {x : Chg} (hR : RDel x.L x.A x.c)
  (h1 : (x.L = [] ∧ x.A = []) ∨ ∃ y, x.L = [y] ∧ x.A = [y.d] ∧ y.d = s.nd i)
  (hp : l1.Perm (staysOf (deadF x.A x.c) (s.l i) ++ newOf (s.c i) x.L)) (hu : os.Up l1) (hc : dm.Is c1 (fun e => dm.Knows (s.c i) e ∨ dm.Knows x.c e) m)
  (hk : ∀ d, dm.Knows x.c d → dm.Knows (s.c i) d ∨ d = s.nd i) : Inv (n + 1) (s.mk1 i l1 c1 x) := by
 have hset := rset_apply (h.set i hi) hR hp hu hc
 have hDone : ∀ d, s.Done d → (s.mk1 i l1 c1 x).Done d := fun d ⟨j, hj, e1, e2, e3⟩ => by
  refine ⟨j, hj, e1, e2, ?_⟩
  show d.2 ≤ ((upd s.made i (s.made i + 1) j : Nat) : Int)
  by_cases e : j = i
  ·
   subst e; rw [upd_same]; omega
  ·
   rw [upd_other _ _ e]; exact e3
 have hDn : (s.mk1 i l1 c1 x).Done (s.nd i) := ⟨i, hi, rfl, by show (1 : Int) ≤ (s.made i : Int) + 1; omega, by
  show (s.made i : Int) + 1 ≤ ((upd s.made i (s.made i + 1) i : Nat) : Int)
  rw [upd_same]; omega⟩
 have hdx : ∀ y ∈ x.L, y.d = s.nd i := fun y hy => by
  rcases h1 with ⟨e, _⟩ | ⟨z, e, _, ez⟩
  ·
   rw [e] at hy; cases hy
  ·
   rw [e, List.mem_singleton] at hy
   rw [hy]; exact ez
 have hold : ∀ k, k < s.C.length → ∀ y ∈ (s.C.getD k default).L, y.d ≠ s.nd i := fun k hkl y hy e => by
  have := h.knC k hkl _ ((h.chgs.right k hkl).set.kn y hy)
  rw [e] at this
  exact PS.nd_fresh this
 have hl : (s.C ++ [x]).length = s.C.length + 1 := by simp
 have hC : Chgs (s.C ++ [x]) := by
  refine ⟨fun k hkl => ?_, fun k hkl => ?_, fun j k hj hkl hne y hy z hz => ?_⟩
  ·
   by_cases e : k = s.C.length
   ·
    subst e; rw [getD_last]; exact hR
   ·
    rw [getD_app _ _ (by omega)]; exact h.chgs.right k (by omega)
  ·
   by_cases e : k = s.C.length
   ·
    subst e; rw [getD_last]
    rcases h1 with h1 | ⟨y, e1, e2, _⟩
    ·
     exact Or.inl h1
    ·
     exact Or.inr ⟨y, e1, e2⟩
   ·
    rw [getD_app _ _ (by omega)]; exact h.chgs.one k (by omega)
  ·
   by_cases e : j = s.C.length
   ·
    subst e
    rw [getD_last] at hy
    rw [getD_app _ _ (by omega)] at hz
    rw [hdx y hy]
    exact (hold k (by omega) z hz).symm
   ·
    rw [getD_app _ _ (by omega)] at hy
    by_cases e2 : k = s.C.length
    ·
     subst e2
     rw [getD_last] at hz
     rw [hdx z hz]
     exact hold j (by omega) y hy
    ·
     rw [getD_app _ _ (by omega)] at hz
     exact h.chgs.apart j k (by omega) (by omega) hne y hy z hz
 have hH : ∀ j k, j < 3 → ((s.mk1 i l1 c1 x).H j k ↔ s.H j k ∨ (k = s.C.length ∧ j = i)) := fun j k hj => by
  show (s.has j ++ [decide (j = i)]).getD k false = true ↔ _
  have hlj := h.hasl j hj
  unfold PS.H
  rw [List.getD_eq_getElem?_getD, List.getD_eq_getElem?_getD, List.getElem?_append]
  by_cases e : k < (s.has j).length
  ·
   rw [if_pos e]
   constructor
   ·
    exact fun h => Or.inl h
   ·
    rintro (h | ⟨h, _⟩)
    ·
     exact h
    ·
     omega
  ·
   rw [if_neg e]
   have e3 : (s.has j)[k]? = none := List.getElem?_eq_none (by omega)
   rw [e3]
   by_cases e2 : k = s.C.length
   ·
    subst e2
    rw [hlj, Nat.sub_self]
    simp
   ·
    have e4 : [decide (j = i)][k - (s.has j).length]? = none := List.getElem?_eq_none (by simp; omega)
    rw [e4]
    simp [e2]
 have hno : ∀ j, j < 3 → ¬ s.H j s.C.length := fun j hj hh => by
  unfold PS.H at hh
  rw [List.getD_eq_getElem?_getD, List.getElem?_eq_none (by rw [h.hasl j hj]; exact Nat.le_refl _)] at hh
  cases hh
 refine ⟨fun j hj => ?_, hC, fun j hj => ?_, fun j hj => ?_, fun k hkl d hd => ?_, ?_, ?_⟩
 ·
  by_cases e : j = i
  ·
   subst e; simp only [PS.mk1, upd_same]; exact hset
  ·
   simp only [PS.mk1, upd_other _ _ e]; exact h.set j hj
 ·
  by_cases e : j = i
  ·
   subst e
   have hm0 := means_more (h.means j hj) x (hno j hj)
   have hp' : l1.Perm (staysOf (deadF ((s.C ++ [x]).getD s.C.length default).A ((s.C ++ [x]).getD s.C.length default).c) (s.l j) ++ newOf (s.c j) ((s.C ++ [x]).getD s.C.length default).L) := by rw [getD_last]; exact hp
   have hc' : dm.Is c1 (fun e => dm.Knows (s.c j) e ∨ dm.Knows ((s.C ++ [x]).getD s.C.length default).c e) m := by rw [getD_last]; exact hc
   have := means_apply hC hm0 (by omega) hp' hc'
   simp only [PS.mk1, upd_same]
   refine this.congr fun q _ => ?_
   have := hH j q hj
   simp only [and_true] at this
   exact this.symm
  ·
   have hm0 := means_more (h.means j hj) x (hno j hj)
   simp only [PS.mk1, upd_other _ _ e]
   refine hm0.congr fun q _ => ?_
   have := hH j q hj
   simp only [e, and_false, or_false] at this
   exact this.symm
 ·
  show (s.has j ++ [decide (j = i)]).length = (s.C ++ [x]).length
  rw [List.length_append, hl, h.hasl j hj]; rfl
 ·
  show (s.mk1 i l1 c1 x).Done d
  have hd : dm.Knows ((s.C ++ [x]).getD k default).c d := hd
  have hkl : k < (s.C ++ [x]).length := hkl
  by_cases e : k = s.C.length
  ·
   subst e
   rw [getD_last] at hd
   rcases hk d hd with hd | rfl
   ·
    exact hDone d (h.kn hi d hd)
   ·
    exact hDn
  ·
   rw [getD_app _ _ (by omega)] at hd
   exact hDone d (h.knC k (by omega) d hd)
 ·
  show upd s.made i (s.made i + 1) 0 + upd s.made i (s.made i + 1) 1 + upd s.made i (s.made i + 1) 2 = (s.C ++ [x]).length
  have := h.sum
  rw [hl]
  rcases (by omega : i = 0 ∨ i = 1 ∨ i = 2) with rfl | rfl | rfl <;> simp [upd] <;> omega
 ·
  show (s.C ++ [x]).length ≤ n + 1
  have := h.many
  omega
theorem home_is {l : List Ent} {c c1 dc : dm.Ctx} {d : Dot} {p : Ent → Bool} {m k1 : Nat} (hr : RSet l c) (hv : valid d = true) (hd : dm.Is dc (fun e => valid e = true ∧ e ∈ goneOf p l ++ [d]) m) (h1 : dm.Is c1 (fun e => dm.Knows c e ∨ e = d) k1) : dm.Is c1 (fun e => dm.Knows c e ∨ dm.Knows dc e) k1 := by
 refine ⟨h1.right, fun e => (h1.know e).trans ?_, h1.len1, h1.len2⟩
 constructor
 ·
  rintro (h | rfl)
  ·
   exact Or.inl h
  ·
   exact Or.inr ((hd.know _).2 ⟨hv, by simp⟩)
 ·
  rintro (h | h)
  ·
   exact Or.inl h
  ·
   obtain ⟨_, h⟩ := (hd.know e).1 h
   rcases List.mem_append.1 h with h | h
   ·
    obtain ⟨y, hy, _, rfl⟩ := mem_gone.1 h
    exact Or.inl (hr.kn y hy)
   ·
    exact Or.inr (List.mem_singleton.1 h)
theorem home_kn {l : List Ent} {c dc : dm.Ctx} {d : Dot} {p : Ent → Bool} {m : Nat} (hr : RSet l c) (hd : dm.Is dc (fun e => valid e = true ∧ e ∈ goneOf p l ++ [d]) m) : ∀ e, dm.Knows dc e → dm.Knows c e ∨ e = d := fun e h => by
 obtain ⟨_, h⟩ := (hd.know e).1 h
 rcases List.mem_append.1 h with h | h
 ·
  obtain ⟨y, hy, _, rfl⟩ := mem_gone.1 h
  exact Or.inl (hr.kn y hy)
 ·
  exact Or.inr (List.mem_singleton.1 h)
theorem stays_dead {l : List Ent} {c dc : dm.Ctx} {p : Ent → Bool} {d : Dot} {A : List Dot} {m : Nat} (hr : RSet l c) (hn : ¬ dm.Knows c d) (hA : ∀ e ∈ A, e = d) (hd : dm.Is dc (fun e => valid e = true ∧ e ∈ goneOf p l ++ [d]) m) : staysOf (deadF A dc) l = staysOf p l := by
 unfold staysOf
 refine List.filter_congr fun x hx => ?_
 rw [gone_same hr hn hA hd hx]
theorem new_one {c : dm.Ctx} {x : Ent} (hn : ¬ dm.Knows c x.d) : newOf c [x] = [x] := by
 have : dm.hasF c x.d = false := by
  cases e : dm.hasF c x.d
  ·
   rfl
  ·
   exact absurd (dm.hasF_iff.1 e) hn
 simp [newOf, this]
theorem inv_add {n : Nat} {s : PS} (h : Inv n s) {i m k1 : Nat} (hi : i < 3) (hn : n ≤ 1000000) {l1 : List Ent} {c1 dc : dm.Ctx} {x : Ent} {p : Ent → Bool} (hx : os.Fine x) (hxd : x.d = s.nd i)
  (hp : l1.Perm (staysOf p (s.l i) ++ [x])) (hu : os.Up l1) (h1 : dm.Is c1 (fun e => dm.Knows (s.c i) e ∨ e = x.d) k1) (hd : dm.Is dc (fun e => valid e = true ∧ e ∈ goneOf p (s.l i) ++ [x.d]) m) : Inv (n + 1) (s.mk1 i l1 c1 ⟨[x], [x.d], dc⟩) := by
 have hr := h.set i hi
 have hnk : ¬ dm.Knows (s.c i) x.d := by rw [hxd]; exact h.fresh hi
 refine inv_mk h hi (rdel_add hx hd) (Or.inr ⟨x, rfl, rfl, hxd⟩) ?_ hu (home_is hr (by rw [hxd]; exact h.nd_valid hi hn) hd h1) (fun d hk => by rw [← hxd]; exact home_kn hr hd d hk)
 show l1.Perm (staysOf (deadF [x.d] dc) (s.l i) ++ newOf (s.c i) [x])
 rw [stays_dead hr hnk (fun e he => List.mem_singleton.1 he) hd, new_one hnk]
 exact hp
theorem inv_drop {n : Nat} {s : PS} (h : Inv n s) {i m k1 : Nat} (hi : i < 3) (hn : n ≤ 1000000) {c1 dc : dm.Ctx} {p : Ent → Bool}
  (h1 : dm.Is c1 (fun e => dm.Knows (s.c i) e ∨ e = s.nd i) k1) (hd : dm.Is dc (fun e => valid e = true ∧ e ∈ goneOf p (s.l i) ++ [s.nd i]) m) : Inv (n + 1) (s.mk1 i (staysOf p (s.l i)) c1 ⟨[], [], dc⟩) := by
 have hr := h.set i hi
 have hnk : ¬ dm.Knows (s.c i) (s.nd i) := h.fresh hi
 refine inv_mk h hi (rdel_drop hd) (Or.inl ⟨rfl, rfl⟩) ?_ (hr.up.sublist List.filter_sublist) (home_is hr (h.nd_valid hi hn) hd h1) (fun d hk => home_kn hr hd d hk)
 show (staysOf p (s.l i)).Perm (staysOf (deadF [] dc) (s.l i) ++ newOf (s.c i) [])
 rw [stays_dead hr hnk (fun e he => by cases he) hd]
 simp [newOf]
def PS.zero : PS := ⟨fun _ => [], fun _ => ([], []), fun _ => 0, [], fun _ => []⟩
theorem right_nil : dm.Right ([], []) := ⟨(fun d hd => by cases hd), List.Pairwise.nil, (fun d hd => by cases hd), List.Pairwise.nil⟩
theorem inv_zero (n : Nat) : Inv n PS.zero :=
 ⟨fun _ _ => ⟨right_nil, List.Pairwise.nil, (fun x hx => by cases hx), (fun x hx => by cases hx)⟩, ⟨fun k hk => absurd hk (Nat.not_lt_zero _), fun k hk => absurd hk (Nat.not_lt_zero _), fun j k hj => absurd hj (Nat.not_lt_zero _)⟩, fun _ _ => means_nil _ _ (fun k hk => absurd hk (Nat.not_lt_zero _)), fun _ _ => rfl, fun k hk => absurd hk (Nat.not_lt_zero _), rfl, Nat.zero_le _⟩
end Go.Proofs.YthpdmfkpiekonaaGreat
namespace Go.Proofs.YthpdmfkpiekonaaGreat
open Go Go.RowKit Go.ChangeShapes cl
def Box16 (w : World) (q : Nat) (g : Nat → Value) : Prop := ∃ arr : Array Value, w.heap[q]? = some (.cells arr 43 (0, 0)) ∧ arr.size = 16 ∧ ∀ j, j < 16 → arr[j]? = some (g j)
theorem Box16.cell {w : World} {q : Nat} {g : Nat → Value} (h : Box16 w q g) {j : Nat} (hj : j < 16) : w.cell? ⟨q, j, none⟩ = some (g j) := by
 obtain ⟨arr, h1, _, h3⟩ := h
 exact boxc h1 j _ (h3 j hj)
theorem Box16.fro {w : World} {q : Nat} {g : Nat → Value} (h : Box16 w q g) (j : Nat) : w.frozen? ⟨q, j, none⟩ = false := by
 obtain ⟨arr, h1, _⟩ := h
 exact boxf h1 j
theorem Box16.lt {w : World} {q : Nat} {g : Nat → Value} (h : Box16 w q g) : q < w.heap.size := by
 obtain ⟨arr, h1, _⟩ := h
 exact lt_of_block h1
theorem Box16.on {w w' : World} {q : Nat} {g : Nat → Value} (h : Box16 w q g) (hb : Below w.heap.size w w') : Box16 w' q g := by
 obtain ⟨arr, h1, h2⟩ := h
 exact ⟨arr, (hb.block _ (lt_of_block h1)).trans h1, h2⟩
theorem Box16.far {w w' : World} {q : Nat} {g : Nat → Value} {r : Option Nat} (h : Box16 w q g) (hg : w.grownBy w' r) (hr : some q ≠ r) : Box16 w' q g := by
 obtain ⟨arr, h1, h2⟩ := h
 exact ⟨arr, (hg.block _ (lt_of_block h1) hr).trans h1, h2⟩
theorem Box16.set {w : World} {q : Nat} {g : Nat → Value} (h : Box16 w q g) {j : Nat} (hj : j < 16) (u : Value) : Box16 (w.setCell ⟨q, j, none⟩ u) q (upd g j u) := by
 obtain ⟨arr, h1, h2, h3⟩ := h
 refine ⟨_, heap_setCell_same _ q j _ _ _ h1, by rw [Array.size_setIfInBounds]; exact h2, fun k hk => ?_⟩
 rw [Array.getElem?_setIfInBounds]
 by_cases e : j = k
 ·
  subst e
  rw [if_pos rfl, if_pos (by omega), upd_same]
 ·
  rw [if_neg e, upd_other _ _ (fun e2 => e e2.symm)]
  exact h3 k hk
theorem Box16.kt {w : World} {q : Nat} {g : Nat → Value} (h : Box16 w q g) (j : Nat) (u : Value) : Kt 43 w (w.setCell ⟨q, j, none⟩ u) := by
 obtain ⟨arr, h1, _⟩ := h
 exact Kt.set h1 j u
theorem Box16.ktg {w w' : World} {q : Nat} {g : Nat → Value} (h : Box16 w q g) (hg : w.grownBy w' (some q)) : Kt 43 w w' := by
 obtain ⟨arr, h1, _⟩ := h
 exact Kt.of_grown hg h1
def DltO (B : Nat) (w : World) (cs : List Value) (x : Chg) : Prop := ∃ t0 t1 t2 t3, cs = [t0, t1, t2, t3] ∧ EntO B w t0 x.L ∧ DotO B w t1 x.A ∧ OwnC B w (.agg #[t2, t3]) x.c
def ChO (B : Nat) (w : World) (v : Value) (C : List Chg) : Prop := ∃ D : List (List Value), D.length = C.length ∧ (∀ (j : Nat) (c : List Value) (x : Chg), D[j]? = some c → C[j]? = some x → DltO B w c x) ∧ w.ownsRow B 29 4 v C.length D.flatten
def HasO (B : Nat) (w : World) (v : Value) (l : List Bool) : Prop := w.ownsRow B 4 1 v l.length (l.map Value.bool)
theorem DltO.on {B : Nat} {w w' : World} {c : List Value} {x : Chg} (h : DltO B w c x) (hb : Below w.heap.size w w') : DltO B w' c x := by
 obtain ⟨t0, t1, t2, t3, e, h1, h2, h3⟩ := h
 exact ⟨t0, t1, t2, t3, e, h1.on hb, h2.on hb, h3.on hb⟩
theorem DltO.kt {T : TypeId} {B : Nat} {w w' : World} {c : List Value} {x : Chg} (h : DltO B w c x) (hk : Kt T w w') (h1 : 53 ≠ T) (h2 : 50 ≠ T) : DltO B w' c x := by
 obtain ⟨t0, t1, t2, t3, e, g1, g2, g3⟩ := h
 exact ⟨t0, t1, t2, t3, e, g1.kt hk h1, g2.kt hk h2, g3.kt hk h2⟩
theorem ChO.on {B : Nat} {w w' : World} {v : Value} {C : List Chg} (h : ChO B w v C) (hb : Below w.heap.size w w') : ChO B w' v C := by
 obtain ⟨D, h0, h1, h2⟩ := h
 exact ⟨D, h0, fun j c x hc hx => (h1 j c x hc hx).on hb, own_stay h2 hb⟩
theorem ChO.kt {T : TypeId} {B : Nat} {w w' : World} {v : Value} {C : List Chg} (h : ChO B w v C) (hk : Kt T w w') (h1 : 53 ≠ T) (h2 : 50 ≠ T) (h3 : 29 ≠ T) : ChO B w' v C := by
 obtain ⟨D, g0, g1, g2⟩ := h
 exact ⟨D, g0, fun j c x hc hx => (g1 j c x hc hx).kt hk h1 h2, own_kt g2 hk h3⟩
theorem ChO.far {B r : Nat} {w w' : World} {v : Value} {C : List Chg} {cs : Array Value} {fr : Nat × Nat} (h : ChO B w v C) (hg : w.grownBy w' (some r)) (hr : w.heap[r]? = some (.cells cs 29 fr)) (hne : v.ownBlock ≠ some r) : ChO B w' v C := by
 obtain ⟨D, g0, g1, g2⟩ := h
 have hk := Kt.of_grown hg hr
 exact ⟨D, g0, fun j c x hc hx => (g1 j c x hc hx).kt hk (by decide) (by decide), g2.kept hg (Or.inr hne)⟩
theorem ChO.len {B : Nat} {w : World} {v : Value} {C : List Chg} (h : ChO B w v C) : ∃ a c, v = .slice a C.length c := by
 obtain ⟨D, _, _, h2⟩ := h
 exact own_slice h2
theorem ChO.flat {w : World} {B : Nat} {C : List Chg} {D : List (List Value)} (h0 : D.length = C.length) (h1 : ∀ (j : Nat) (c : List Value) (x : Chg), D[j]? = some c → C[j]? = some x → DltO B w c x) : ∀ c ∈ D, c.length = 4 := by
 intro c hc
 obtain ⟨j, hj, rfl⟩ := List.mem_iff_getElem.1 hc
 obtain ⟨t0, t1, t2, t3, e, _⟩ := h1 j _ C[j] (List.getElem?_eq_getElem hj) (List.getElem?_eq_getElem (by omega))
 rw [e]; rfl
theorem flat_get4 : ∀ (cs : List (List Value)), (∀ c ∈ cs, c.length = 4) → ∀ (j : Nat) (c : List Value) (i : Nat), cs[j]? = some c → i < 4 → cs.flatten[j * 4 + i]? = c[i]? := by
 intro cs
 induction cs with
 | nil => intro _ j c i h; simp at h
 | cons a cs ih =>
  intro h j c i hj hi
  have ha : a.length = 4 := h a List.mem_cons_self
  rw [List.flatten_cons]
  cases j with
  | zero =>
   simp only [List.getElem?_cons_zero, Option.some.injEq] at hj
   subst hj
   rw [Nat.zero_mul, Nat.zero_add, List.getElem?_append_left (by omega)]
  | succ j =>
   simp only [List.getElem?_cons_succ] at hj
   rw [Nat.succ_mul, List.getElem?_append_right (by omega), show j * 4 + 4 + i - a.length = j * 4 + i by omega]
   exact ih (fun x hx => h x (List.mem_cons_of_mem _ hx)) j c i hj hi
theorem ChO.get {B : Nat} {w : World} {a : Option Addr} {n cap : Nat} {C : List Chg} (h : ChO B w (.slice a n cap) C) {k : Nat} (hk : k < C.length) : ∃ r t0 t1 t2 t3, a = some ⟨r, 0, none⟩ ∧ r < w.heap.size ∧ w.cell? ⟨r, k * 4, none⟩ = some t0 ∧ w.cell? ⟨r, k * 4 + 1, none⟩ = some t1 ∧ w.cell? ⟨r, k * 4 + 2, none⟩ = some t2 ∧ w.cell? ⟨r, k * 4 + 3, none⟩ = some t3 ∧
  EntO B w t0 (C.getD k default).L ∧ DotO B w t1 (C.getD k default).A ∧ OwnC B w (.agg #[t2, t3]) (C.getD k default).c := by
 obtain ⟨D, h0, h1, h2⟩ := h
 have hfl := ChO.flat h0 h1
 have hD : D[k]? = some D[k] := List.getElem?_eq_getElem (by omega)
 have hC : C[k]? = some C[k] := List.getElem?_eq_getElem hk
 obtain ⟨t0, t1, t2, t3, e, g1, g2, g3⟩ := h1 k _ _ hD hC
 have eC : C.getD k default = C[k] := by rw [List.getD_eq_getElem?_getD, hC]; rfl
 rcases h2.2 with ⟨e2, e3⟩ | ⟨r, cap2, cur, e2, _, hr, _⟩
 ·
  omega
 ·
  simp only [Value.slice.injEq] at e2
  obtain ⟨rfl, e5, rfl⟩ := e2
  have hc := h2.cells (g := r) rfl
  have hcell : ∀ i u, i < 4 → [t0, t1, t2, t3][i]? = some u → w.cell? ⟨r, k * 4 + i, none⟩ = some u := fun i u hi hu => by
   have := hc (k * 4 + i) u (by rw [flat_get4 D hfl k _ i hD hi, e]; exact hu)
   rwa [Addr.add_lit, Nat.zero_add] at this
  exact ⟨r, t0, t1, t2, t3, rfl, lt_of_block hr, hcell 0 _ (by omega) rfl, hcell 1 _ (by omega) rfl, hcell 2 _ (by omega) rfl, hcell 3 _ (by omega) rfl, by rw [eC]; exact g1, by rw [eC]; exact g2, by rw [eC]; exact g3⟩
structure PIn (B : Nat) (w : World) (g : Nat → Value) (s : PS) : Prop where
 ent : ∀ i, i < 3 → EntO B w (g (i * 3)) (s.l i)
 ctx : ∀ i, i < 3 → OwnC B w (.agg #[g (i * 3 + 1), g (i * 3 + 2)]) (s.c i)
 made : ∀ i, i < 3 → g (9 + i) = .int .i64 (s.made i)
 chg : ChO B w (g 12) s.C
 has : ∀ i, i < 3 → HasO B w (g (13 + i)) (s.has i)
 apart : ∀ i j, i < 3 → j < 3 → i ≠ j → (g (13 + i)).ownBlock = none ∨ (g (13 + i)).ownBlock ≠ (g (13 + j)).ownBlock
theorem PIn.on {B : Nat} {w w' : World} {g : Nat → Value} {s : PS} (h : PIn B w g s) (hb : Below w.heap.size w w') : PIn B w' g s :=
 ⟨fun i hi => (h.ent i hi).on hb, fun i hi => (h.ctx i hi).on hb, h.made, h.chg.on hb, fun i hi => own_stay (h.has i hi) hb, h.apart⟩
theorem PIn.kt {T : TypeId} {B : Nat} {w w' : World} {g : Nat → Value} {s : PS} (h : PIn B w g s) (hk : Kt T w w') (h1 : 53 ≠ T) (h2 : 50 ≠ T) (h3 : 29 ≠ T) (h4 : 4 ≠ T) : PIn B w' g s :=
 ⟨fun i hi => (h.ent i hi).kt hk h1, fun i hi => (h.ctx i hi).kt hk h2, h.made, h.chg.kt hk h1 h2 h3, fun i hi => own_kt (h.has i hi) hk h4, h.apart⟩
theorem PIn.far {B r : Nat} {w w' : World} {g : Nat → Value} {s : PS} {cs : Array Value} {fr : Nat × Nat} (h : PIn B w g s) (hg : w.grownBy w' (some r)) (hr : w.heap[r]? = some (.cells cs 29 fr)) (hne : (g 12).ownBlock ≠ some r) : PIn B w' g s := by
 have hk := Kt.of_grown hg hr
 exact ⟨fun i hi => (h.ent i hi).kt hk (by decide), fun i hi => (h.ctx i hi).kt hk (by decide), h.made, h.chg.far hg hr hne, fun i hi => own_kt (h.has i hi) hk (by decide), h.apart⟩
theorem PIn.put {B i : Nat} {w : World} {g : Nat → Value} {s : PS} (h : PIn B w g s) (hi : i < 3) {u0 u1 u2 : Value} {l1 : List Ent} {c1 : dm.Ctx} (h0 : EntO B w u0 l1) (h1 : OwnC B w (.agg #[u1, u2]) c1) :
  PIn B w (upd (upd (upd g (i * 3) u0) (i * 3 + 1) u1) (i * 3 + 2) u2) { s with l := upd s.l i l1, c := upd s.c i c1 } := by
 have hn : ∀ k, k ≠ i * 3 → k ≠ i * 3 + 1 → k ≠ i * 3 + 2 → upd (upd (upd g (i * 3) u0) (i * 3 + 1) u1) (i * 3 + 2) u2 k = g k := fun k a b c => by rw [upd_other _ _ c, upd_other _ _ b, upd_other _ _ a]
 have e2 : upd (upd (upd g (i * 3) u0) (i * 3 + 1) u1) (i * 3 + 2) u2 (i * 3 + 2) = u2 := upd_same _ _ _
 have e1 : upd (upd (upd g (i * 3) u0) (i * 3 + 1) u1) (i * 3 + 2) u2 (i * 3 + 1) = u1 := by rw [upd_other _ _ (by omega), upd_same]
 have e0 : upd (upd (upd g (i * 3) u0) (i * 3 + 1) u1) (i * 3 + 2) u2 (i * 3) = u0 := by rw [upd_other _ _ (by omega), upd_other _ _ (by omega), upd_same]
 refine ⟨fun j hj => ?_, fun j hj => ?_, fun j hj => ?_, ?_, fun j hj => ?_, fun j k hj hk hne => ?_⟩
 ·
  by_cases e : j = i
  ·
   subst e
   show EntO B w (upd (upd (upd g (j * 3) u0) (j * 3 + 1) u1) (j * 3 + 2) u2 (j * 3)) (upd s.l j l1 j)
   rw [e0, upd_same]; exact h0
  ·
   show EntO B w (upd (upd (upd g (i * 3) u0) (i * 3 + 1) u1) (i * 3 + 2) u2 (j * 3)) (upd s.l i l1 j)
   rw [hn _ (by omega) (by omega) (by omega), upd_other _ _ e]; exact h.ent j hj
 ·
  by_cases e : j = i
  ·
   subst e
   show OwnC B w (.agg #[upd (upd (upd g (j * 3) u0) (j * 3 + 1) u1) (j * 3 + 2) u2 (j * 3 + 1), upd (upd (upd g (j * 3) u0) (j * 3 + 1) u1) (j * 3 + 2) u2 (j * 3 + 2)]) (upd s.c j c1 j)
   rw [e1, e2, upd_same]; exact h1
  ·
   show OwnC B w (.agg #[upd (upd (upd g (i * 3) u0) (i * 3 + 1) u1) (i * 3 + 2) u2 (j * 3 + 1), upd (upd (upd g (i * 3) u0) (i * 3 + 1) u1) (i * 3 + 2) u2 (j * 3 + 2)]) (upd s.c i c1 j)
   rw [hn _ (by omega) (by omega) (by omega), hn _ (by omega) (by omega) (by omega), upd_other _ _ e]; exact h.ctx j hj
 ·
  rw [hn _ (by omega) (by omega) (by omega)]; exact h.made j hj
 ·
  rw [hn _ (by omega) (by omega) (by omega)]; exact h.chg
 ·
  rw [hn _ (by omega) (by omega) (by omega)]; exact h.has j hj
 ·
  rw [hn _ (by omega) (by omega) (by omega), hn _ (by omega) (by omega) (by omega)]; exact h.apart j k hj hk hne
theorem PIn.make {B i : Nat} {w : World} {g : Nat → Value} {s : PS} (h : PIn B w g s) (hi : i < 3) {m : Nat} {u : Value} (hu : u = .int .i64 (m : Int)) : PIn B w (upd g (9 + i) u) { s with made := upd s.made i m } := by
 have hn : ∀ k, k ≠ 9 + i → upd g (9 + i) u k = g k := fun k a => upd_other _ _ a
 refine ⟨fun j hj => ?_, fun j hj => ?_, fun j hj => ?_, ?_, fun j hj => ?_, fun j k hj hk hne => ?_⟩
 ·
  rw [hn _ (by omega)]; exact h.ent j hj
 ·
  rw [hn _ (by omega), hn _ (by omega)]; exact h.ctx j hj
 ·
  by_cases e : j = i
  ·
   subst e
   show upd g (9 + j) u (9 + j) = .int .i64 ((upd s.made j m j : Nat) : Int)
   rw [upd_same, upd_same]; exact hu
  ·
   show upd g (9 + i) u (9 + j) = .int .i64 ((upd s.made i m j : Nat) : Int)
   rw [hn _ (by omega), upd_other _ _ e]; exact h.made j hj
 ·
  rw [hn _ (by omega)]; exact h.chg
 ·
  rw [hn _ (by omega)]; exact h.has j hj
 ·
  rw [hn _ (by omega), hn _ (by omega)]; exact h.apart j k hj hk hne
end Go.Proofs.YthpdmfkpiekonaaGreat
namespace Go.Proofs.YthpdmfkpiekonaaGreat
open Go Go.RowKit Go.ChangeShapes cl
theorem run_append_blk {P : Program} (w : World) (base : Nat) (t ty e : TypeId) (i : TypeInfo) (z : Value) (size bytes : Nat) (ht : P.underlying t = some (.slice e)) (hi : P.info? e = some i) (hz : i.zero = some z)
  (hsize : i.size = size) (hby : i.bytes = bytes) (hzs : z.cells.size = size) (hsz : 0 < size)
  (v : Value) (n : Nat) (xs : List Value) (hown : w.ownsRow base e size v n xs)
  (a : Addr) (m c : Nat) (news : List Value) (hl : news.length = m * size) (hnews : ∀ j u, news[j]? = some u → w.cell? (a.add j) = some u) (h1 : ∀ u ∈ news, u.oneCell' = true)
  (h63 : n + m ≤ maxLen) (hbytes : (n + m) * bytes ≤ 140737488355328) (hbase : base ≤ w.heap.size) :
  ∃ v' w', (Builtin.append_ #[t, t] ty #[v, .slice (some a) m c]).run P w = .ok v' w' ∧ w'.ownsRow base e size v' (n + m) (xs ++ news) ∧ w.grownBy w' v.ownBlock ∧
   (v'.ownBlock = v.ownBlock ∨ ∀ b, v'.ownBlock = some b → w.heap.size ≤ b) := by
 obtain ⟨v', w', hr, h2, h3, h4⟩ := run_append_own (P := P) w base t ty e i z size bytes ht hi hz hsize hby hzs hsz v n xs hown a m c news hl hnews h1 h63 hbytes hbase
 refine ⟨v', w', hr, h2, h3, ?_⟩
 rcases hown.2 with ⟨rfl, rfl⟩ | ⟨g, cap, cur, rfl, hbg, hg, hnc, hcm, hcs, htake⟩
 ·
  have hx : xs = [] := List.eq_nil_of_length_eq_zero (by simpa using hown.1)
  subst hx
  obtain ⟨v2, w2, hr2, g2, _, _⟩ := run_append_own (P := P) w w.heap.size t ty e i z size bytes ht hi hz hsize hby hzs hsz (.slice none 0 0) 0 [] (World.ownsRow_nil _ _ _ _) a m c news hl hnews h1 h63 hbytes (Nat.le_refl _)
  rw [hr] at hr2
  simp only [Result.ok.injEq] at hr2
  obtain ⟨rfl, rfl⟩ := hr2
  refine Or.inr (fun b hb => ?_)
  rcases g2.2 with ⟨rfl, _⟩ | ⟨g, cap, cur, rfl, hbg, _⟩
  ·
   simp [Value.ownBlock] at hb
  ·
   simp only [Value.ownBlock, Option.some.injEq] at hb
   omega
 ·
  subst hsize
  subst hby
  by_cases hroom : n + m ≤ cap
  ·
   have hfit : n * i.size + news.length ≤ cur.size := by rw [hl, hcs, ← Nat.add_mul]; exact Nat.mul_le_mul_right _ hroom
   have hr2 := run_append_room (P := P) w t ty e i ht hi g n cap cur hg a m c news hl hnews h1 hroom hfit
   rw [hr] at hr2
   simp only [Result.ok.injEq] at hr2
   obtain ⟨rfl, rfl⟩ := hr2
   exact Or.inl rfl
  ·
   have hsmall : n + m ≤ 9223372036854775807 := by simp only [maxLen] at h63; omega
   have holds : ∀ j u, xs[j]? = some u → w.cell? ((⟨g, 0, none⟩ : Addr).add j) = some u := hown.cells (g := g) rfl
   have hr2 := run_append_grow (P := P) w t ty e i z ht hi hz ⟨g, 0, none⟩ n cap xs hown.1 holds a m c news hl hnews (by omega) (by omega) (growslice_fits (by omega) hbytes)
   rw [hr] at hr2
   simp only [Result.ok.injEq] at hr2
   obtain ⟨rfl, rfl⟩ := hr2
   refine Or.inr (fun b hb => ?_)
   simp only [Value.ownBlock, Option.some.injEq] at hb
   omega
theorem appNk {P : Program} {w : World} {ops : Array Oper} {rest : List Oper} {o : Oper} {a : Act} {Q : Exit → Act → World → Prop}
  (s x : Operand) (t : TypeId) (hgd : o.guard = none)
  (ho : o.op = .call { callee := .builtin .append, args := #[s, x], argTypes := #[t, t] })
  (base : Nat) {e : TypeId} {z : Value} {size bytes : Nat} (ht : P.underlying t = some (.slice e)) (hi : (P.info? e).map (fun i => (i.zero, i.size, i.bytes)) = some (some z, size, bytes))
  (hzs : z.cells.size = size) (hsz : 0 < size) (hb1 : 0 < bytes)
  {v : Value} {n : Nat} {xs : List Value} {ad : Addr} {m c : Nat} (hown : w.ownsRow base e size v n xs) (hs : a.eval s = v) (hx : a.eval x = .slice (some ad) m c) (news : List Value) (hl : news.length = m * size)
  (hnews : ∀ j u, news[j]? = some u → w.cell? (ad.add j) = some u) (h1 : ∀ u ∈ news, u.oneCell' = true) (hbytes : (n + m) * bytes ≤ 140737488355328) (hbase : base ≤ w.heap.size)
  (h : ∀ v' w', w'.ownsRow base e size v' (n + m) (xs ++ news) → w.grownBy w' v.ownBlock → (v'.ownBlock = v.ownBlock ∨ ∀ b, v'.ownBlock = some b → w.heap.size ≤ b) → wpList P ops Q rest (a.put o.dst v') w') :
  wpList P ops Q (o :: rest) a w := by
 obtain ⟨i, hi, hz, hsize, hby⟩ := info_parts hi
 have hle : n + m ≤ (n + m) * bytes := Nat.le_mul_of_pos_right _ hb1
 refine wpList_plain hgd fun _ hK => ?_
 obtain ⟨v', w', hr, h2, h3, h4⟩ := run_append_blk (P := P) w base t o.type e i z size bytes ht hi hz hsize hby hzs hsz v n xs hown ad m c news hl hnews h1 (by unfold maxLen; omega) hbytes hbase
 unfold Oper.wp execOp
 simp only [ho, resolve, invoke, builtin, Sem.run_bind, Sem.run_pure, Result.andThen_ok, List.map_toArray, List.map_cons, List.map_nil, hs, hx, hr]
 exact hK _ _ (h v' w' h2 h3 h4)
theorem infoBool : (Tryz.prog.info? 4).map (fun i => (i.zero, i.size, i.bytes)) = some (some (.bool false), 1, 1) := by kernel_rfl
theorem infoDlt : (Tryz.prog.info? 29).map (fun i => (i.zero, i.size, i.bytes)) = some (some (.agg #[.slice none 0 0, .slice none 0 0, .slice none 0 0, .slice none 0 0]), 4, 96) := by kernel_rfl
structure Kb (w w' : World) : Prop where
 size : w.heap.size ≤ w'.heap.size
 keep : ∀ q, q < w.heap.size → (∀ cur fr, w.heap[q]? ≠ some (.cells cur 4 fr)) → (∀ cur fr, w.heap[q]? ≠ some (.cells cur 43 fr)) → w'.heap[q]? = w.heap[q]?
theorem Kb.refl (w : World) : Kb w w := ⟨Nat.le_refl _, fun _ _ _ _ => rfl⟩
theorem Kb.trans {w w1 w2 : World} (h : Kb w w1) (h2 : Kb w1 w2) : Kb w w2 :=
 ⟨Nat.le_trans h.size h2.size, fun q hq n1 n2 => by
  have e := h.keep q hq n1 n2
  exact (h2.keep q (Nat.lt_of_lt_of_le hq h.size) (fun cur fr => by rw [e]; exact n1 cur fr) (fun cur fr => by rw [e]; exact n2 cur fr)).trans e⟩
theorem Kb.of_bool {w w' : World} (h : Kt 4 w w') : Kb w w' := ⟨h.size, fun q hq n _ => h.keep q hq n⟩
theorem Kb.of_box {w w' : World} (h : Kt 43 w w') : Kb w w' := ⟨h.size, fun q hq _ n => h.keep q hq n⟩
theorem own_kb {e : TypeId} {B k n : Nat} {v : Value} {xs : List Value} {w w' : World} (h : w.ownsRow B e k v n xs) (hk : Kb w w') (h1 : e ≠ 4) (h2 : e ≠ 43) : w'.ownsRow B e k v n xs := by
 refine ⟨h.1, ?_⟩
 rcases h.2 with ⟨rfl, h0⟩ | ⟨g, cap, cur, rfl, hb, hg, r⟩
 ·
  exact Or.inl ⟨rfl, h0⟩
 ·
  refine Or.inr ⟨g, cap, cur, rfl, hb, ?_, r⟩
  have no : ∀ T, e ≠ T → ∀ cur fr, w.heap[g]? ≠ some (.cells cur T fr) := fun T hT cur' fr e2 => by
   rw [hg] at e2
   simp only [Option.some.injEq, Obj.cells.injEq] at e2
   exact hT e2.2.1
  rw [hk.keep g (lt_of_block hg) (no _ h1) (no _ h2)]
  exact hg
theorem DltO.kb {B : Nat} {w w' : World} {c : List Value} {x : Chg} (h : DltO B w c x) (hk : Kb w w') : DltO B w' c x := by
 obtain ⟨t0, t1, t2, t3, e, g1, g2, a1, c1, a2, c2, e3, g3, g4⟩ := h
 exact ⟨t0, t1, t2, t3, e, own_kb g1 hk (by decide) (by decide), own_kb g2 hk (by decide) (by decide), a1, c1, a2, c2, e3, own_kb g3 hk (by decide) (by decide), own_kb g4 hk (by decide) (by decide)⟩
theorem ChO.kb {B : Nat} {w w' : World} {v : Value} {C : List Chg} (h : ChO B w v C) (hk : Kb w w') : ChO B w' v C := by
 obtain ⟨D, g0, g1, g2⟩ := h
 exact ⟨D, g0, fun j c x hc hx => (g1 j c x hc hx).kb hk, own_kb g2 hk (by decide) (by decide)⟩
structure HIn (B : Nat) (w : World) (g : Nat → Value) (has : Nat → List Bool) : Prop where
 has : ∀ i, i < 3 → HasO B w (g (13 + i)) (has i)
 apart : ∀ i j, i < 3 → j < 3 → i ≠ j → (g (13 + i)).ownBlock = none ∨ (g (13 + i)).ownBlock ≠ (g (13 + j)).ownBlock
theorem PIn.hin {B : Nat} {w : World} {g : Nat → Value} {s : PS} (h : PIn B w g s) : HIn B w g s.has := ⟨h.has, h.apart⟩
theorem PIn.hset {B : Nat} {w w' : World} {g g' : Nat → Value} {s : PS} {has : Nat → List Bool} (h : PIn B w g s) (hk : Kb w w') (he : ∀ j, j < 13 → g' j = g j) (hh : HIn B w' g' has) : PIn B w' g' { s with has := has } := by
 refine ⟨fun i hi => ?_, fun i hi => ?_, fun i hi => ?_, ?_, hh.has, hh.apart⟩
 ·
  rw [he _ (by omega)]; exact own_kb (h.ent i hi) hk (by decide) (by decide)
 ·
  rw [he _ (by omega), he _ (by omega)]
  obtain ⟨a1, c1, a2, c2, e3, g3, g4⟩ := h.ctx i hi
  exact ⟨a1, c1, a2, c2, e3, own_kb g3 hk (by decide) (by decide), own_kb g4 hk (by decide) (by decide)⟩
 ·
  rw [he _ (by omega)]; exact h.made i hi
 ·
  rw [he _ (by omega)]; exact h.chg.kb hk
theorem HIn.box {B : Nat} {w w' : World} {g : Nat → Value} {has : Nat → List Bool} (h : HIn B w g has) (hk : Kt 43 w w') : HIn B w' g has := ⟨fun i hi => own_kt (h.has i hi) hk (by decide), h.apart⟩
theorem HIn.on {B : Nat} {w w' : World} {g : Nat → Value} {has : Nat → List Bool} (h : HIn B w g has) (hb : Below w.heap.size w w') : HIn B w' g has := ⟨fun i hi => own_stay (h.has i hi) hb, h.apart⟩
theorem HIn.put {B j : Nat} {w w' : World} {g : Nat → Value} {has : Nat → List Bool} {v : Value} {R : List Bool} (h : HIn B w g has) (hj : j < 3) (hg : w.grownBy w' (g (13 + j)).ownBlock) (hv : HasO B w' v R)
  (hb : v.ownBlock = (g (13 + j)).ownBlock ∨ ∀ b, v.ownBlock = some b → w.heap.size ≤ b) : HIn B w' (upd g (13 + j) v) (upd has j R) := by
 have hlt : ∀ i, i < 3 → ∀ b, (g (13 + i)).ownBlock = some b → b < w.heap.size := fun i hi b e => ((h.has i hi).lt b e).2
 refine ⟨fun i hi => ?_, fun i k hi hk hne => ?_⟩
 ·
  by_cases e : i = j
  ·
   subst e; rw [upd_same, upd_same]; exact hv
  ·
   rw [upd_other _ _ (by omega), upd_other _ _ e]
   exact (h.has i hi).kept hg (h.apart i j hi hj e)
 ·
  by_cases e : i = j
  ·
   subst e
   rw [upd_same, upd_other _ _ (by omega)]
   rcases hb with hb | hb
   ·
    rw [hb]; exact h.apart i k hi hk hne
   ·
    cases e3 : v.ownBlock with
    | none => exact Or.inl rfl
    | some b =>
     refine Or.inr fun e4 => ?_
     have h1 := hb b e3
     have h2 := hlt k hk b e4.symm
     omega
  ·
   rw [upd_other _ _ (by omega)]
   by_cases e2 : k = j
   ·
    subst e2
    rw [upd_same]
    rcases hb with hb | hb
    ·
     rw [hb]; exact h.apart i k hi hk hne
    ·
     cases e3 : (g (13 + i)).ownBlock with
     | none => exact Or.inl rfl
     | some b =>
      refine Or.inr fun e4 => ?_
      have h1 := hb b e4.symm
      have h2 := hlt i hi b e3
      omega
   ·
    rw [upd_other _ _ (by omega)]; exact h.apart i k hi hk hne
end Go.Proofs.YthpdmfkpiekonaaGreat
