/- dot: contexts as pairs of lists of dots; what they know; the one form; how it is laid. Nothing of the program's walks. -/
import Derived.Test.YtdcmoeklldkccaaDots
namespace Go.Proofs.Ytdcmoeklldkccaa.dm

theorem valid_iff (d : Dot) : valid d = true ↔ 0 ≤ d.1 ∧ d.1 < 16 ∧ 1 ≤ d.2 ∧ d.2 ≤ 1099511627776 := decide_eq_true_iff
theorem dless_iff (x y : Dot) : dless x y = true ↔ x.1 < y.1 ∨ x.1 = y.1 ∧ x.2 < y.2 := decide_eq_true_iff
theorem dless_irrefl (x : Dot) : ¬ dless x x = true := by rw [dless_iff]; omega
theorem dless_asymm {x y : Dot} (h1 : dless x y = true) (h2 : dless y x = true) : False := by rw [dless_iff] at *; omega
theorem dless_trans {x y z : Dot} (h1 : dless x y = true) (h2 : dless y z = true) : dless x z = true := by rw [dless_iff] at *; omega
theorem dless_total {x y : Dot} (h : x ≠ y) : dless x y = true ∨ dless y x = true := by
  rw [dless_iff, dless_iff]
  have : ¬ (x.1 = y.1 ∧ x.2 = y.2) := fun e => h (Prod.ext e.1 e.2)
  omega
theorem sorted_ext {α : Type} {R : α → α → Prop} (irr : ∀ x, ¬ R x x) (asy : ∀ x y, R x y → R y x → False) : ∀ {a b : List α}, a.Pairwise R → b.Pairwise R → (∀ x, x ∈ a ↔ x ∈ b) → a = b := by
  intro a
  induction a with
  | nil =>
    intro b _ _ h
    cases b with
    | nil => rfl
    | cons y s => exact absurd ((h y).2 List.mem_cons_self) (by simp)
  | cons x r ih =>
    intro b ha hb h
    cases b with
    | nil => exact absurd ((h x).1 List.mem_cons_self) (by simp)
    | cons y s =>
      obtain ⟨ha1, ha2⟩ := List.pairwise_cons.1 ha
      obtain ⟨hb1, hb2⟩ := List.pairwise_cons.1 hb
      have hxy : x = y := by
        rcases List.mem_cons.1 ((h x).1 List.mem_cons_self) with e | e
        · exact e
        · rcases List.mem_cons.1 ((h y).2 List.mem_cons_self) with e' | e'
          · exact e'.symm
          · exact (asy _ _ (ha1 y e') (hb1 x e)).elim
      subst hxy
      rw [ih ha2 hb2 fun z => ?_]
      constructor
      · intro hz
        rcases List.mem_cons.1 ((h z).1 (List.mem_cons_of_mem _ hz)) with e | e
        · subst e; exact absurd (ha1 _ hz) (irr _)
        · exact e
      · intro hz
        rcases List.mem_cons.1 ((h z).2 (List.mem_cons_of_mem _ hz)) with e | e
        · subst e; exact absurd (hb1 _ hz) (irr _)
        · exact e

abbrev Ctx := List Dot × List Dot
/-- up to which number all of a node is known -/
def kn : List Dot → Int → Int
  | [], _ => 0
  | d :: r, n => if d.1 = n then d.2 else kn r n
def Knows (c : Ctx) (d : Dot) : Prop := valid d = true ∧ (d.2 ≤ kn c.1 d.1 ∨ d ∈ c.2)
structure Right (c : Ctx) : Prop where
  vok : ∀ d ∈ c.1, valid d = true
  vup : c.1.Pairwise fun a b => a.1 < b.1
  cok : ∀ d ∈ c.2, valid d = true ∧ kn c.1 d.1 + 2 ≤ d.2
  cup : c.2.Pairwise fun a b => dless a b = true
theorem kn_cases : ∀ (v : List Dot) (n : Int), kn v n = 0 ∧ (∀ d ∈ v, d.1 ≠ n) ∨ (n, kn v n) ∈ v := by
  intro v n
  induction v with
  | nil => exact Or.inl ⟨rfl, fun d h => by cases h⟩
  | cons d r ih =>
    unfold kn
    by_cases h : d.1 = n
    · rw [if_pos h]
      right
      rw [← h]; exact List.mem_cons_self
    · rw [if_neg h]
      rcases ih with ⟨h1, h2⟩ | h1
      · exact Or.inl ⟨h1, fun e he => by
          rcases List.mem_cons.1 he with rfl | he
          · exact h
          · exact h2 e he⟩
      · exact Or.inr (List.mem_cons_of_mem _ h1)
theorem kn_mem : ∀ {v : List Dot}, v.Pairwise (fun a b => a.1 < b.1) → ∀ {d : Dot}, d ∈ v → kn v d.1 = d.2 := by
  intro v
  induction v with
  | nil => intro _ d h; cases h
  | cons e r ih =>
    intro hp d hd
    obtain ⟨h1, h2⟩ := List.pairwise_cons.1 hp
    unfold kn
    rcases List.mem_cons.1 hd with rfl | hd
    · rw [if_pos rfl]
    · have := h1 d hd
      rw [if_neg (by omega)]
      exact ih h2 hd
theorem Right.kn0 {c : Ctx} (h : Right c) (n : Int) : 0 ≤ kn c.1 n ∧ kn c.1 n ≤ 1099511627776 := by
  rcases kn_cases c.1 n with ⟨h1, _⟩ | h1
  · omega
  · have := (valid_iff _).1 (h.vok _ h1)
    simp only at this; omega
theorem kn_le {a b : Ctx} (ha : Right a) (hb : Right b) (h : ∀ d, Knows b d → Knows a d) (n : Int) : kn b.1 n ≤ kn a.1 n := by
  rcases Int.lt_or_le (kn a.1 n) (kn b.1 n) with hlt | hle
  · exfalso
    have h0 := ha.kn0 n
    have h1 := hb.kn0 n
    rcases kn_cases b.1 n with ⟨e, _⟩ | hm
    · omega
    · have hv := (valid_iff _).1 (hb.vok _ hm)
      simp only at hv
      have hk : Knows b (n, kn a.1 n + 1) := ⟨(valid_iff _).2 ⟨hv.1, hv.2.1, by simp only; omega, by simp only; omega⟩, Or.inl (by simp only; omega)⟩
      rcases (h _ hk).2 with e | e
      · simp only at e; omega
      · have := (ha.cok _ e).2
        simp only at this; omega
  · exact hle
/-- who knows the same is the same -/
theorem ext {a b : Ctx} (ha : Right a) (hb : Right b) (h : ∀ d, Knows a d ↔ Knows b d) : a = b := by
  have hk : ∀ n, kn a.1 n = kn b.1 n := fun n => by
    have h1 := kn_le ha hb (fun d => (h d).2) n
    have h2 := kn_le hb ha (fun d => (h d).1) n
    omega
  have side : ∀ {p q : Ctx}, Right p → Right q → (∀ n, kn p.1 n = kn q.1 n) → ∀ d ∈ p.1, d ∈ q.1 := fun {p q} hp hq hk d hd => by
    have h1 := kn_mem hp.vup hd
    have h2 := (valid_iff _).1 (hp.vok _ hd)
    rcases kn_cases q.1 d.1 with ⟨e, _⟩ | hm
    · rw [← hk, h1] at e; omega
    · rw [← hk, h1] at hm; exact hm
  have cl : ∀ {p q : Ctx}, Right p → Right q → (∀ n, kn p.1 n = kn q.1 n) → (∀ d, Knows p d → Knows q d) → ∀ d ∈ p.2, d ∈ q.2 := fun {p q} hp hq hk hh d hd => by
    have h1 := hp.cok d hd
    rcases (hh d ⟨h1.1, Or.inr hd⟩).2 with e | e
    · rw [← hk] at e; omega
    · exact e
  refine Prod.ext (sorted_ext (fun x => by omega) (fun x y => by omega) ha.vup hb.vup fun d => ⟨side ha hb hk d, side hb ha (fun n => (hk n).symm) d⟩) (sorted_ext dless_irrefl (fun _ _ => dless_asymm) ha.cup hb.cup fun d => ⟨cl ha hb hk (fun d => (h d).1) d, cl hb ha (fun n => (hk n).symm) (fun d => (h d).2) d⟩)

/-! ### how the one form is laid -/
structure St where
  K : Int → Int
  cloud : List Dot
  prev : Option Dot
def step (s : St) (d : Dot) : St :=
  if s.prev = some d ∨ d.2 ≤ s.K d.1 then ⟨s.K, s.cloud, some d⟩
  else if d.2 = s.K d.1 + 1 then ⟨fun n => if n = d.1 then s.K n + 1 else s.K n, s.cloud, some d⟩
  else ⟨s.K, s.cloud ++ [d], some d⟩
def run (K : Int → Int) (l : List Dot) : St := l.foldl step ⟨K, [], none⟩
def layV (K : Int → Int) : List Dot := (List.range 16).filterMap fun i : Nat => if 0 < K i then some ((i : Int), K i) else none
def layF (K : Int → Int) (l : List Dot) : Ctx := (layV (run K l).K, (run K l).cloud)
theorem run_snoc (K : Int → Int) (l : List Dot) (d : Dot) : run K (l ++ [d]) = step (run K l) d := by simp [run]
/-- not falling -/
def Up (l : List Dot) : Prop := l.Pairwise fun a b => dless b a = false
structure Inv (K : Int → Int) (l : List Dot) (s : St) : Prop where
  ge : ∀ n, K n ≤ s.K n
  top : ∀ n, 0 ≤ s.K n ∧ s.K n ≤ 1099511627776
  cm : ∀ d ∈ s.cloud, d ∈ l ∧ s.K d.1 + 2 ≤ d.2
  cup : s.cloud.Pairwise fun a b => dless a b = true
  know : ∀ d, valid d = true → ((d.2 ≤ s.K d.1 ∨ d ∈ s.cloud) ↔ (d.2 ≤ K d.1 ∨ d ∈ l))
  prev : s.prev = l.getLast?
theorem last_is {p : List Dot} {d : Dot} (hu : Up (p ++ [d])) (hd : d ∈ p) : p.getLast? = some d := by
  have hne : p ≠ [] := fun e => by rw [e] at hd; cases hd
  rw [List.getLast?_eq_some_getLast hne]
  congr 1
  obtain ⟨hup, _, hud⟩ := List.pairwise_append.1 hu
  have h1 : dless d (p.getLast hne) = false := hud _ (List.getLast_mem hne) d (by simp)
  have hsp := List.dropLast_concat_getLast hne
  rw [← hsp] at hup hd
  rcases List.mem_append.1 hd with h | h
  · have h2 : dless (p.getLast hne) d = false := (List.pairwise_append.1 hup).2.2 d h _ (by simp)
    rcases Classical.em (p.getLast hne = d) with e | e
    · exact e
    · rcases dless_total e with h3 | h3
      · rw [h3] at h2; cases h2
      · rw [h3] at h1; cases h1
  · simp only [List.mem_cons, List.not_mem_nil, or_false] at h
    exact h.symm
theorem inv_step {K : Int → Int} {p : List Dot} {s : St} {d : Dot} (h : Inv K p s) (hu : Up (p ++ [d])) (hv : valid d = true) : Inv K (p ++ [d]) (step s d) := by
  have hvd := (valid_iff d).1 hv
  have hud := (List.pairwise_append.1 hu).2.2
  have hlast : (p ++ [d]).getLast? = some d := by simp
  have hmem : ∀ e, e ∈ p ++ [d] ↔ e ∈ p ∨ e = d := fun e => by simp
  unfold step
  by_cases c1 : s.prev = some d ∨ d.2 ≤ s.K d.1
  · rw [if_pos c1]
    refine ⟨h.ge, h.top, fun e he => ⟨(hmem e).2 (Or.inl (h.cm e he).1), (h.cm e he).2⟩, h.cup, fun e he => ?_, hlast.symm⟩
    rw [h.know e he, hmem]
    constructor
    · rintro (a | a)
      · exact Or.inl a
      · exact Or.inr (Or.inl a)
    · rintro (a | a | rfl)
      · exact Or.inl a
      · exact Or.inr a
      · rcases c1 with c | c
        · rw [h.prev] at c
          exact Or.inr (List.mem_of_getLast? c)
        · exact (h.know e he).1 (Or.inl c)
  · rw [if_neg c1]
    have c1a : ¬ s.prev = some d := fun e => c1 (Or.inl e)
    have c1b : s.K d.1 < d.2 := by
      rcases Int.lt_or_le (s.K d.1) d.2 with a | a
      · exact a
      · exact absurd (Or.inr a) c1
    by_cases c2 : d.2 = s.K d.1 + 1
    · rw [if_pos c2]
      refine ⟨fun n => ?_, fun n => ?_, fun e he => ?_, h.cup, fun e he => ?_, hlast.symm⟩
      · have := h.ge n
        show K n ≤ if n = d.1 then s.K n + 1 else s.K n
        split <;> omega
      · have := h.top n
        show 0 ≤ (if n = d.1 then s.K n + 1 else s.K n) ∧ (if n = d.1 then s.K n + 1 else s.K n) ≤ _
        split
        · rename_i e; subst e; omega
        · exact this
      · obtain ⟨a, b⟩ := h.cm e he
        refine ⟨(hmem e).2 (Or.inl a), ?_⟩
        show (if e.1 = d.1 then s.K e.1 + 1 else s.K e.1) + 2 ≤ e.2
        split
        · rename_i e1
          have h1 : dless d e = false := hud e a d (by simp)
          have h2 : ¬ (d.1 < e.1 ∨ d.1 = e.1 ∧ d.2 < e.2) := fun x => by rw [(dless_iff d e).2 x] at h1; cases h1
          rw [e1] at b
          omega
        · exact b
      · rw [hmem]
        have h1 := h.know e he
        show (e.2 ≤ (if e.1 = d.1 then s.K e.1 + 1 else s.K e.1) ∨ e ∈ s.cloud) ↔ _
        by_cases e1 : e.1 = d.1
        · rw [if_pos e1]
          constructor
          · rintro (a | a)
            · rcases Int.lt_or_le (s.K e.1) e.2 with b | b
              · right; right
                exact Prod.ext e1 (by rw [e1] at a b; omega)
              · rcases h1.1 (Or.inl b) with x | x
                · exact Or.inl x
                · exact Or.inr (Or.inl x)
            · rcases h1.1 (Or.inr a) with x | x
              · exact Or.inl x
              · exact Or.inr (Or.inl x)
          · rintro (a | a | rfl)
            · rcases h1.2 (Or.inl a) with x | x
              · left; omega
              · exact Or.inr x
            · rcases h1.2 (Or.inr a) with x | x
              · left; omega
              · exact Or.inr x
            · left; omega
        · rw [if_neg e1, h1]
          constructor
          · rintro (a | a)
            · exact Or.inl a
            · exact Or.inr (Or.inl a)
          · rintro (a | a | rfl)
            · exact Or.inl a
            · exact Or.inr a
            · exact absurd rfl e1
    · rw [if_neg c2]
      refine ⟨h.ge, h.top, fun e he => ?_, ?_, fun e he => ?_, hlast.symm⟩
      · rcases List.mem_append.1 he with a | a
        · exact ⟨(hmem e).2 (Or.inl (h.cm e a).1), (h.cm e a).2⟩
        · simp only [List.mem_cons, List.not_mem_nil, or_false] at a
          rw [a]
          exact ⟨(hmem d).2 (Or.inr rfl), show s.K d.1 + 2 ≤ d.2 by omega⟩
      · refine List.pairwise_append.2 ⟨h.cup, List.pairwise_singleton _ _, fun e he x hx => ?_⟩
        simp only [List.mem_cons, List.not_mem_nil, or_false] at hx
        rw [hx]
        have hep := (h.cm e he).1
        have h1 : dless d e = false := hud e hep d (by simp)
        have hne : e ≠ d := fun e2 => c1a (by rw [h.prev]; exact last_is hu (by rw [← e2]; exact hep))
        exact (dless_total hne).resolve_right (by rw [h1]; exact Bool.false_ne_true)
      · rw [hmem]
        have h1 := h.know e he
        show (e.2 ≤ s.K e.1 ∨ e ∈ s.cloud ++ [d]) ↔ _
        rw [List.mem_append]
        simp only [List.mem_cons, List.not_mem_nil, or_false]
        constructor
        · rintro (a | a | a)
          · rcases h1.1 (Or.inl a) with x | x
            · exact Or.inl x
            · exact Or.inr (Or.inl x)
          · rcases h1.1 (Or.inr a) with x | x
            · exact Or.inl x
            · exact Or.inr (Or.inl x)
          · exact Or.inr (Or.inr a)
        · rintro (a | a | a)
          · rcases h1.2 (Or.inl a) with x | x
            · exact Or.inl x
            · exact Or.inr (Or.inl x)
          · rcases h1.2 (Or.inr a) with x | x
            · exact Or.inl x
            · exact Or.inr (Or.inl x)
          · exact Or.inr (Or.inr a)
theorem inv_fold {K : Int → Int} : ∀ (r p : List Dot) (s : St), Inv K p s → Up (p ++ r) → (∀ d ∈ r, valid d = true) → Inv K (p ++ r) (r.foldl step s) := by
  intro r
  induction r with
  | nil => intro p s h _ _; simpa using h
  | cons d r ih =>
    intro p s h hu hv
    have e : p ++ d :: r = (p ++ [d]) ++ r := by simp
    rw [e] at hu ⊢
    rw [List.foldl_cons]
    exact ih _ _ (inv_step h (List.pairwise_append.1 hu).1 (hv d List.mem_cons_self)) hu (fun x hx => hv x (List.mem_cons_of_mem _ hx))
theorem inv_run {K : Int → Int} (hK : ∀ n, 0 ≤ K n ∧ K n ≤ 1099511627776) {l : List Dot} (hu : Up l) (hv : ∀ d ∈ l, valid d = true) : Inv K l (run K l) := by
  have h0 : Inv K [] ⟨K, [], none⟩ := ⟨fun _ => Int.le_refl _, hK, (fun d h => by cases h), List.Pairwise.nil, (fun d _ => by simp), rfl⟩
  have := inv_fold l [] _ h0 hu hv
  exact this
theorem layV_mem (K : Int → Int) (d : Dot) : d ∈ layV K ↔ 0 ≤ d.1 ∧ d.1 < 16 ∧ d.2 = K d.1 ∧ 0 < K d.1 := by
  unfold layV
  rw [List.mem_filterMap]
  constructor
  · rintro ⟨i, hi, h⟩
    have hi2 := List.mem_range.1 hi
    split at h
    · rename_i hp
      obtain rfl := Option.some.inj h
      exact ⟨by simp only; omega, by simp only; omega, rfl, hp⟩
    · cases h
  · rintro ⟨h0, h1, h2, h3⟩
    have e : ((d.1.toNat : Nat) : Int) = d.1 := Int.toNat_of_nonneg h0
    refine ⟨d.1.toNat, List.mem_range.2 (by omega), ?_⟩
    rw [e, if_pos h3]
    exact congrArg some (Prod.ext rfl h2.symm)
theorem layV_up (K : Int → Int) : (layV K).Pairwise fun a b => a.1 < b.1 := by
  unfold layV
  refine List.Pairwise.filterMap _ (fun a b hab x hx y hy => ?_) (List.pairwise_lt_range (n := 16))
  split at hx
  · split at hy
    · obtain rfl := Option.some.inj hx
      obtain rfl := Option.some.inj hy
      simp only; omega
    · cases hy
  · cases hx
theorem kn_layV {K : Int → Int} (hK : ∀ n, 0 ≤ K n) {n : Int} (h0 : 0 ≤ n) (h1 : n < 16) : kn (layV K) n = K n := by
  rcases kn_cases (layV K) n with ⟨e, hno⟩ | hm
  · have := hK n
    rcases Int.lt_or_le 0 (K n) with h | h
    · exact absurd rfl (hno (n, K n) ((layV_mem K (n, K n)).2 ⟨h0, h1, rfl, h⟩))
    · omega
  · exact ((layV_mem K _).1 hm).2.2.1
/-- what is laid has the one form, and knows what it was laid of -/
theorem lay_right {K : Int → Int} (hK : ∀ n, 0 ≤ K n ∧ K n ≤ 1099511627776) {l : List Dot} (hu : Up l) (hv : ∀ d ∈ l, valid d = true) :
    Right (layF K l) ∧ ∀ d, Knows (layF K l) d ↔ valid d = true ∧ (d.2 ≤ K d.1 ∨ d ∈ l) := by
  have h := inv_run hK hu hv
  have hkn : ∀ d : Dot, valid d = true → kn (layV (run K l).K) d.1 = (run K l).K d.1 := fun d hd => by
    have := (valid_iff d).1 hd
    exact kn_layV (fun n => (h.top n).1) this.1 this.2.1
  refine ⟨⟨fun d hd => ?_, layV_up _, fun d hd => ?_, h.cup⟩, fun d => ?_⟩
  · obtain ⟨a, b, c, e⟩ := (layV_mem _ d).1 hd
    have := (h.top d.1).2
    exact (valid_iff d).2 ⟨a, b, by omega, by omega⟩
  · obtain ⟨a, b⟩ := h.cm d hd
    exact ⟨hv d a, by rw [show kn (layF K l).1 d.1 = _ from hkn d (hv d a)]; exact b⟩
  · constructor
    · rintro ⟨a, b⟩
      rw [show kn (layF K l).1 d.1 = _ from hkn d a] at b
      exact ⟨a, (h.know d a).1 b⟩
    · rintro ⟨a, b⟩
      exact ⟨a, by rw [show kn (layF K l).1 d.1 = _ from hkn d a]; exact (h.know d a).2 b⟩
end Go.Proofs.Ytdcmoeklldkccaa.dm
