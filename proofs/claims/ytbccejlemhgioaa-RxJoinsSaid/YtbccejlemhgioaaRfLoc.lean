/- a pattern is read alike wherever it stands, ahead of a stroke, a sign that ends a group, or the end. Nothing of the program. -/
import Derived.Test.YtbccejlemhgioaaRfKp
namespace Go.Proofs.Ytbccejlemhgioaa.rf
open rx
def sh (n : Nat) (t : T) : T := { t with p := t.p + n }
@[simp] theorem sh_p (n : Nat) (t : T) : (sh n t).p = t.p + n := rfl
@[simp] theorem sh_co (n : Nat) (t : T) : (sh n t).co = t.co := rfl
theorem sh_fwd (n : Nat) (t : T) : (sh n t).fwd = sh n t.fwd := by unfold sh T.fwd; simp only [T.mk.injEq, and_true]; omega
section
variable {pre s rest u : List Nat} (hu : u = pre ++ (s ++ rest)) (hr : rest.head? = none ∨ rest.head? = some 124 ∨ rest.head? = some 41)
local notation "N" => pre.length
include hu in
theorem get_in {p c : Nat} (h : s[p]? = some c) : u[p + N]? = some c := by
  have hl := (List.getElem?_eq_some_iff.1 h).1
  rw [hu, List.getElem?_append_right (by omega), Nat.add_sub_cancel, List.getElem?_append_left hl]
  exact h
include hu in
theorem get_end {p : Nat} (h : p = s.length) : u[p + N]? = rest.head? := by
  rw [hu, List.getElem?_append_right (by omega), Nat.add_sub_cancel, List.getElem?_append_right (by omega), h, Nat.sub_self, List.head?_eq_getElem?]
include hu in
theorem u_len : u.length = N + s.length + rest.length := by rw [hu]; simp; omega
include hu in
theorem L_nxt {t : T} {c : Nat} (h : nxt s t = some c) : nxt u (sh N t) = some c := by
  obtain ⟨h1, h2, _⟩ := nxt_some h
  unfold nxt
  rw [sh_co, if_pos h1, sh_p]
  exact get_in hu h2
include hu hr in
theorem L_no {t : T} {c : Nat} (hp : t.p ≤ s.length) (h1 : c ≠ 124) (h2 : c ≠ 41) (h : nxt s t ≠ some c) : nxt u (sh N t) ≠ some c := by
  unfold nxt at h ⊢
  rw [sh_co, sh_p]
  split
  · rename_i hc
    rw [if_pos hc] at h
    rcases Nat.lt_or_ge t.p s.length with hl | hl
    · rw [get_in hu (List.getElem?_eq_getElem hl)]
      rw [List.getElem?_eq_getElem hl] at h
      exact h
    · rw [get_end hu (by omega)]
      rcases hr with e | e | e <;> rw [e] <;> simp <;> omega
  · simp
include hu hr in
theorem L_end {t : T} (hp : t.p ≤ s.length) (h : nxt s t = none) : nxt u (sh N t) = none ∨ nxt u (sh N t) = some 124 ∨ nxt u (sh N t) = some 41 := by
  unfold nxt at h ⊢
  rw [sh_co, sh_p]
  split
  · rename_i hc
    rw [if_pos hc] at h
    have hl : s.length ≤ t.p := List.getElem?_eq_none_iff.1 h
    rw [get_end hu (by omega)]
    exact hr
  · exact Or.inl rfl
include hu hr in
theorem L_meets {t : T} (c : Nat) (hp : t.p ≤ s.length) (h1 : c ≠ 124) (h2 : c ≠ 41) : meets u c (sh N t) = ((meets s c t).1, sh N (meets s c t).2) := by
  unfold meets
  by_cases h : nxt s t = some c
  · rw [if_pos h, if_pos (L_nxt hu h), sh_fwd]
  · rw [if_neg h, if_neg (L_no hu hr hp h1 h2 h)]
include hu in
theorem L_meets_yes {t : T} {c : Nat} (h : (meets s c t).1 = true) : meets u c (sh N t) = (true, sh N (meets s c t).2) := by
  have hn : nxt s t = some c := by
    unfold meets at h
    split at h
    · assumption
    · cases h
  unfold meets
  rw [if_pos hn, if_pos (L_nxt hu hn), sh_fwd]
include hu in
theorem L_hex {t : T} {c v : Nat} (h : hex s c t = some v) : hex u c (sh N t) = some v := by
  unfold hex at h ⊢
  split at h
  · rename_i hc
    rw [if_pos hc]
    split at h
    · rename_i a b e1 e2
      have e3 : (sh N t).p + 1 = t.p + 1 + N := by simp only [sh_p]; omega
      rw [e3, sh_p, get_in hu e1, get_in hu e2]
      exact h
    · cases h
  · cases h
include hu in
theorem L_escape {t : T} (a b : Nat) (h : (escape s a t).2.co = 0) : escape u b (sh N t) = ((escape s a t).1, sh N (escape s a t).2) := by
  unfold escape at h ⊢
  cases hn : nxt s t with
  | none => rw [hn] at h; exact absurd h (fail_co (by decide))
  | some c =>
    rw [hn] at h
    rw [L_nxt hu hn]
    simp only at h ⊢
    by_cases h1 : spc c = true
    · rw [if_pos h1, if_pos h1, sh_fwd]
    · rw [if_neg h1] at h ⊢
      rw [if_neg h1]
      by_cases h2 : c = 100
      · rw [if_pos h2, if_pos h2, sh_fwd]
      · rw [if_neg h2] at h ⊢
        rw [if_neg h2]
        by_cases h3 : c = 119
        · rw [if_pos h3, if_pos h3, sh_fwd]
        · rw [if_neg h3] at h ⊢
          rw [if_neg h3]
          cases hx : hex s c t.fwd with
          | none => rw [hx] at h; exact absurd h (fail_co (by decide))
          | some v => rw [sh_fwd, L_hex hu hx, sh_fwd, sh_fwd]
include hu in
theorem L_single {t : T} (hp : t.p < s.length) (h : (single s t).2.co = 0) : single u (sh N t) = ((single s t).1, sh N (single s t).2) := by
  unfold single at h ⊢
  have hc := List.getElem?_eq_getElem hp
  rw [sh_p, get_in hu hc]
  rw [hc] at h ⊢
  simp only at h ⊢
  by_cases h1 : s[t.p] = 92
  · rw [if_pos h1] at h ⊢
    rw [if_pos h1, sh_fwd]
    exact L_escape hu _ _ h
  · rw [if_neg h1] at h ⊢
    rw [if_neg h1]
    split at h
    · exact absurd h (fail_co (by decide))
    · rename_i h2
      rw [if_neg h2, if_neg h2, sh_fwd]
include hu hr in
theorem L_member {t : T} (hp : t.p < s.length) (h : (member s t).2.co = 0) : member u (sh N t) = ((member s t).1, sh N (member s t).2) := by
  unfold member at h ⊢
  simp only at h ⊢
  have hpr := (single_pr (s := s) (t := t)).2 (Nat.le_of_lt hp)
  by_cases h1 : (single s t).1.2.2 = false
  · rw [if_pos h1] at h ⊢
    have hs := L_single hu hp h
    rw [hs]
    simp only
    rw [if_pos h1]
  · rw [if_neg h1] at h ⊢
    by_cases h2 : (meets s 45 (single s t).2).1 = false
    · rw [if_pos h2] at h ⊢
      rw [meets_co] at h
      have hs := L_single hu hp h
      rw [hs]
      simp only
      rw [if_neg h1, L_meets hu hr 45 hpr (by decide) (by decide)]
      simp only
      rw [if_pos h2]
    · rw [if_neg h2] at h ⊢
      cases hn : nxt s (meets s 45 (single s t).2).2 with
      | none => rw [hn] at h; exact absurd h (fail_co (by decide))
      | some c =>
        rw [hn] at h
        simp only at h ⊢
        have hz := (nxt_some hn).1
        rw [meets_co] at hz
        have hs := L_single hu hp hz
        rw [hs]
        simp only
        rw [if_neg h1, L_meets hu hr 45 hpr (by decide) (by decide)]
        simp only
        rw [if_neg h2, L_nxt hu hn]
        simp only
        by_cases h3 : c = 93
        · rw [if_pos h3] at h; exact absurd h (fail_co (by decide))
        · rw [if_neg h3] at h ⊢
          rw [if_neg h3]
          split at h
          · exact absurd h (fail_co (by decide))
          · rename_i h4
            rw [L_single hu (nxt_some hn).2.2 h]
            simp only
            rw [if_neg h4, if_neg h4]
include hu hr in
theorem L_mems (a b : Nat) : ∀ (f g : Nat) (x : Cls) (t : T), s.length < t.p + f → u.length < t.p + N + g → t.p ≤ s.length → (mems s a f x t).2.1.co = 0 → mems u b g x (sh N t) = ((mems s a f x t).1, sh N (mems s a f x t).2.1, (mems s a f x t).2.2)
  | 0, _, _, t, h1, _, h3, _ => by omega
  | f + 1, 0, _, t, h1, h2, h3, _ => by have := u_len hu; omega
  | f + 1, g + 1, x, t, h1, h2, h3, h => by
    unfold mems at h ⊢
    simp only at h ⊢
    rw [L_meets hu hr 93 h3 (by decide) (by decide)]
    simp only
    by_cases e1 : (meets s 93 t).1 = true
    · rw [if_pos e1, if_pos e1]
    · rw [if_neg e1] at h ⊢
      rw [if_neg e1]
      cases hn : nxt s t with
      | none => rw [hn] at h; exact absurd h (fail_co (by decide))
      | some c =>
        rw [hn] at h
        rw [L_nxt hu hn]
        simp only at h ⊢
        have hl := (nxt_some hn).2.2
        have hm := (mems_kp a f (x.or (member s t).1) (member s t).2 h).1
        have hlt := member_lt hl
        rw [L_member hu hr hl hm]
        simp only
        exact L_mems a b f g _ _ (by omega) (by omega) (member_pr.1.2 h3) h
include hu hr in
theorem L_members {t : T} (a b : Nat) (hp : t.p ≤ s.length) (h : (members s a t).2.co = 0) : members u b (sh N t) = ((members s a t).1, sh N (members s a t).2) := by
  unfold members at h ⊢
  simp only at h ⊢
  have hm := L_meets hu hr 94 hp (by decide) (by decide)
  have hp2 := (meets_pr (s := s) (t := t) 94)
  have key : (mems s a (s.length + 1) .zero (meets s 94 t).2).2.1.co = 0 := by
    split at h
    · exact h
    · split at h <;> split at h
      · exact absurd h (fail_co (by decide))
      · exact h
      · exact absurd h (fail_co (by decide))
      · exact h
  have hq := L_mems hu hr a b (s.length + 1) (u.length + 1) .zero (meets s 94 t).2 (by omega) (by omega) (hp2.2 hp) key
  rw [hm]
  simp only
  rw [hq]
  simp only
  by_cases e1 : (mems s a (s.length + 1) .zero (meets s 94 t).2).2.2 = false
  · rw [if_pos e1, if_pos e1]
  rw [if_neg e1] at h ⊢
  rw [if_neg e1]
  by_cases e2 : (if (meets s 94 t).1 = true then oth (mems s a (s.length + 1) .zero (meets s 94 t).2).1 else (mems s a (s.length + 1) .zero (meets s 94 t).2).1) = Cls.zero
  · rw [if_pos e2] at h
    exact absurd h (fail_co (by decide))
  · rw [if_neg e2, if_neg e2]
include hu hr in
theorem L_numF (a : Nat) : ∀ (f n : Nat) (t : T), t.p ≤ s.length → numF u (a + N) f n (sh N t) = ((numF s a f n t).1, sh N (numF s a f n t).2)
  | 0, _, _, _ => rfl
  | f + 1, n, t, hp => by
    unfold numF
    cases hn : nxt s t with
    | none =>
      simp only
      rcases L_end hu hr hp hn with e | e | e <;> rw [e] <;> simp
    | some c =>
      rw [L_nxt hu hn]
      simp only
      have e : (sh N t).p - (a + N) = t.p - a := by simp only [sh_p]; omega
      rw [e]
      split
      · rw [sh_fwd]
        exact L_numF a f _ _ (nxt_some hn).2.2
      · rfl
include hu hr in
theorem L_number {t : T} (hp : t.p ≤ s.length) : number u (sh N t) = ((number s t).1, sh N (number s t).2) := by
  unfold number
  simp only
  have h := L_numF hu hr t.p 5 0 t hp
  have e0 : (sh N t).p = t.p + N := rfl
  rw [e0, h]
  simp only
  have e1 : (sh N (numF s t.p 5 0 t).2).p - (t.p + N) = (numF s t.p 5 0 t).2.p - t.p := by simp only [sh_p]; omega
  rw [e1]
  have e2 : (u[t.p + N]? ≠ some 48) ↔ (s[t.p]? ≠ some 48) := by
    rcases Nat.lt_or_ge t.p s.length with hl | hl
    · rw [get_in hu (List.getElem?_eq_getElem hl), List.getElem?_eq_getElem hl]
    · rw [get_end hu (by omega), List.getElem?_eq_none hl]
      rcases hr with e | e | e <;> rw [e] <;> simp
  simp only [e2]
include hu hr in
theorem L_bounds {t : T} (hp : t.p ≤ s.length) : bounds u (sh N t) = ((bounds s t).1, sh N (bounds s t).2) := by
  have p1 := (number_pr (s := s) (t := t)).2 hp
  have h1 := L_number hu hr hp
  have h2 := L_meets hu hr 125 p1 (by decide) (by decide)
  have h3 := L_meets hu hr 44 p1 (by decide) (by decide)
  have p2 := (meets_pr (s := s) (t := (number s t).2) 44).2 p1
  have h4 := L_meets hu hr 125 p2 (by decide) (by decide)
  have h5 := L_number hu hr p2
  have p3 := (number_pr (s := s) (t := (meets s 44 (number s t).2).2)).2 p2
  have h6 := L_meets hu hr 125 p3 (by decide) (by decide)
  unfold bounds
  simp only [h1, h2, h3, h4, h5, h6]
  split
  · rfl
  · split
    · rfl
    · split
      · rfl
      · split
        · rfl
        · split
          · rfl
          · split <;> rfl
include hu hr in
theorem L_often {t : T} (hp : t.p ≤ s.length) (h : (often s t).2.co = 0) : often u (sh N t) = ((often s t).1, sh N (often s t).2) := by
  have no : ∀ c, c ≠ 124 → c ≠ 41 → nxt s t ≠ some c → nxt u (sh N t) ≠ some c := fun c h1 h2 h3 => L_no hu hr hp h1 h2 h3
  unfold often at h ⊢
  by_cases g0 : nxt s t = some 42
  · rw [if_pos g0, if_pos (L_nxt hu g0), sh_fwd]
  rw [if_neg g0] at h ⊢
  rw [if_neg (no _ (by decide) (by decide) g0)]
  by_cases g1 : nxt s t = some 43
  · rw [if_pos g1, if_pos (L_nxt hu g1), sh_fwd]
  rw [if_neg g1] at h ⊢
  rw [if_neg (no _ (by decide) (by decide) g1)]
  by_cases g2 : nxt s t = some 63
  · rw [if_pos g2, if_pos (L_nxt hu g2), sh_fwd]
  rw [if_neg g2] at h ⊢
  rw [if_neg (no _ (by decide) (by decide) g2)]
  by_cases g3 : nxt s t = some 123
  · rw [if_pos g3] at h ⊢
    rw [if_pos (L_nxt hu g3), sh_fwd, L_bounds hu hr (t := t.fwd) (nxt_some g3).2.2]
    simp only at h ⊢
    split at h
    · exact absurd h (fail_co (by decide))
    · rename_i e1
      rw [if_neg e1, if_neg e1]
      split at h
      · exact absurd h (fail_co (by decide))
      · rename_i e2
        rw [if_neg e2, if_neg e2]
  · rw [if_neg g3] at h ⊢
    rw [if_neg (no _ (by decide) (by decide) g3)]
/-- of a part read in both texts -/
def LO (pre s : List Nat) (O O' : T → Pat × T) : Prop := ∀ t : T, t.p < s.length → t.co = 0 →
  ((O t).2.co = 0 → O' (sh pre.length t) = ((O t).1, sh pre.length (O t).2)) ∧ ((O t).2.co = 11 → (O' (sh pre.length t)).2.co = 11)
section
variable {O O' : T → Pat × T} (hO : ∀ t : T, Kp t (O t).2) (hL : LO pre s O O') {a : Nat} (hg : Good s a O)
include hu hr hL hg in
theorem L_part {t : T} (hp : t.p < s.length) (hc : t.co = 0) : ((part s O t).2.co = 0 → part u O' (sh N t) = ((part s O t).1, sh N (part s O t).2)) ∧ ((part s O t).2.co = 11 → (part u O' (sh N t)).2.co = 11) := by
  obtain ⟨l1, l2⟩ := hL t hp hc
  obtain ⟨g1, g2, _⟩ := hg t hp
  unfold part
  simp only
  refine ⟨fun h => ?_, fun h => ?_⟩
  · have h0 := (often_kp h).1
    rw [l1 h0]
    simp only
    rw [L_often hu hr g2 h]
  · have h11 : (O t).2.co = 11 := by
      rcases Decidable.em ((O t).2.co = 11) with e | e
      · exact e
      · exact absurd h (often_11 e)
    have := l2 h11
    rw [often_off (by rw [this]; decide)]
    exact this
include hu hr hO hL hg in
theorem L_parts : ∀ (f g : Nat) (t : T) (l : List Pat), s.length < t.p + f → u.length < t.p + N + g → t.p ≤ s.length →
    ((parts s O f t l).2.co = 0 → parts u O' g (sh N t) l = ((parts s O f t l).1, sh N (parts s O f t l).2)) ∧ (t.co = 0 → (parts s O f t l).2.co = 11 → (parts u O' g (sh N t) l).2.co = 11)
  | 0, _, t, _, h1, _, h3 => by omega
  | f + 1, 0, t, _, h1, h2, h3 => by have := u_len hu; omega
  | f + 1, g + 1, t, l, h1, h2, h3 => by
    unfold parts
    cases hn : nxt s t with
    | none =>
      simp only
      refine ⟨fun _ => ?_, fun h0 h => by rw [h0] at h; exact absurd h (by decide)⟩
      rcases L_end hu hr h3 hn with e | e | e <;> rw [e] <;> simp
    | some c =>
      rw [L_nxt hu hn]
      simp only
      obtain ⟨hc, _, hl⟩ := nxt_some hn
      by_cases hx : c = 124 ∨ c = 41
      · rw [if_pos hx, if_pos hx]
        exact ⟨fun _ => rfl, fun h0 h => by rw [h0] at h; exact absurd h (by decide)⟩
      · rw [if_neg hx, if_neg hx]
        obtain ⟨p1, p2⟩ := L_part hu hr hL hg hl hc
        obtain ⟨g1, g2, _⟩ := part_good hg t hl
        obtain ⟨k1, k2⟩ := L_parts f g (part s O t).2 (if (part s O t).1.k ≠ 1 then l ++ [(part s O t).1] else l) (by omega) (by omega) g2
        refine ⟨fun h => ?_, fun _ h => ?_⟩
        · have h0 := (parts_kp hO _ _ _ h).1
          rw [p1 h0]
          exact k1 h
        · by_cases e0 : (part s O t).2.co = 0
          · rw [p1 e0]
            exact k2 e0 h
          · rw [parts_off e0] at h
            have h11 := p2 h
            rw [parts_off (by rw [h11]; decide)]
            exact h11
include hu hr hO hL hg in
theorem L_row {t : T} (hp : t.p ≤ s.length) : ((row s O t).2.co = 0 → row u O' (sh N t) = ((row s O t).1, sh N (row s O t).2)) ∧ (t.co = 0 → (row s O t).2.co = 11 → (row u O' (sh N t)).2.co = 11) := by
  obtain ⟨k1, k2⟩ := L_parts hu hr hO hL hg (s.length + 1) (u.length + 1) t [] (by omega) (by omega) hp
  unfold row
  simp only
  exact ⟨fun h => by rw [k1 h], fun h0 h => k2 h0 h⟩
include hu hr hO hL hg in
theorem L_rowsL : ∀ (f g : Nat) (t : T) (l : List Pat), s.length < t.p + f → u.length < t.p + N + g → t.p ≤ s.length →
    ((rowsL s O f t l).2.co = 0 → (rest.head? ≠ some 124 ∨ (rowsL s O f t l).2.p < s.length) → rowsL u O' g (sh N t) l = ((rowsL s O f t l).1, sh N (rowsL s O f t l).2)) ∧ (t.co = 0 → (rowsL s O f t l).2.co = 11 → (rowsL u O' g (sh N t) l).2.co = 11)
  | 0, _, t, _, h1, _, h3 => by omega
  | f + 1, 0, t, _, h1, h2, h3 => by have := u_len hu; omega
  | f + 1, g + 1, t, l, h1, h2, h3 => by
    unfold rowsL
    simp only
    by_cases hn : nxt s t = some 124
    · have hm : meets s 124 t = (true, t.fwd) := by unfold meets; rw [if_pos hn]
      have hm' : meets u 124 (sh N t) = (true, sh N t.fwd) := by unfold meets; rw [if_pos (L_nxt hu hn), sh_fwd]
      rw [hm, hm']
      simp only [if_true]
      obtain ⟨hc, _, hl⟩ := nxt_some hn
      have hc2 : t.fwd.co = 0 := hc
      obtain ⟨r1, r2⟩ := L_row hu hr hO hL hg (t := t.fwd) hl
      obtain ⟨g1, g2, _⟩ := row_good hg t.fwd hl
      have e : t.fwd.p = t.p + 1 := rfl
      obtain ⟨k1, k2⟩ := L_rowsL f g (row s O t.fwd).2 (l ++ [(row s O t.fwd).1]) (by omega) (by omega) g2
      refine ⟨fun h hh => ?_, fun _ h => ?_⟩
      · have h0 := (rowsL_kp hO _ _ _ h).1
        rw [r1 h0]
        exact k1 h hh
      · by_cases e0 : (row s O t.fwd).2.co = 0
        · rw [r1 e0]
          exact k2 e0 h
        · rw [rowsL_off e0] at h
          have h11 := r2 hc2 h
          rw [rowsL_off (by rw [h11]; decide)]
          exact h11
    · have hm : meets s 124 t = (false, t) := by unfold meets; rw [if_neg hn]
      rw [hm]
      simp only [Bool.false_eq_true, if_false]
      refine ⟨fun h hh => ?_, fun h0 h => by rw [h0] at h; exact absurd h (by decide)⟩
      have hn' : nxt u (sh N t) ≠ some 124 := by
        unfold nxt at hn ⊢
        rw [sh_co, if_pos h, sh_p]
        rw [if_pos h] at hn
        rcases Nat.lt_or_ge t.p s.length with hl | hl
        · rw [get_in hu (List.getElem?_eq_getElem hl)]
          rw [List.getElem?_eq_getElem hl] at hn
          exact hn
        · rw [get_end hu (by omega)]
          exact hh.resolve_right (by omega)
      have hm' : meets u 124 (sh N t) = (false, sh N t) := by unfold meets; rw [if_neg hn']
      rw [hm']
      simp
include hu hr hO hL hg in
theorem L_rows {t : T} (hp : t.p ≤ s.length) : ((rows s O t).2.co = 0 → (rest.head? ≠ some 124 ∨ (rows s O t).2.p < s.length) → rows u O' (sh N t) = ((rows s O t).1, sh N (rows s O t).2)) ∧ (t.co = 0 → (rows s O t).2.co = 11 → (rows u O' (sh N t)).2.co = 11) := by
  obtain ⟨r1, r2⟩ := L_row hu hr hO hL hg hp
  obtain ⟨_, g2, _⟩ := row_good hg t hp
  obtain ⟨k1, k2⟩ := L_rowsL hu hr hO hL hg (s.length + 1) (u.length + 1) (row s O t).2 [(row s O t).1] (by omega) (by omega) g2
  unfold rows
  simp only
  refine ⟨fun h hh => ?_, fun h0 h => ?_⟩
  · have e0 := (rowsL_kp hO _ _ _ h).1
    rw [r1 e0]
    simp only
    rw [k1 h hh]
  · by_cases e0 : (row s O t).2.co = 0
    · rw [r1 e0]
      exact k2 e0 h
    · rw [rowsL_off e0] at h
      have h11 := r2 h0 h
      rw [rowsL_off (by rw [h11]; decide)]
      exact h11
end
include hu hr in
theorem L_base {G G' : Nat → T → Pat × T} (hG : ∀ t : T, t.p < s.length → t.co = 0 → ((G t.p t.fwd).2.co = 0 → G' (t.p + N) (sh N t.fwd) = ((G t.p t.fwd).1, sh N (G t.p t.fwd).2)) ∧ ((G t.p t.fwd).2.co = 11 → (G' (t.p + N) (sh N t.fwd)).2.co = 11)) : LO pre s (onceB s G) (onceB u G') := by
  intro t hp hc
  have hs := List.getElem?_eq_getElem hp
  have hs' := get_in hu hs
  have hcf : t.fwd.co ≠ 11 := by show t.co ≠ 11; rw [hc]; decide
  unfold onceB
  rw [sh_p, hs', hs]
  simp only
  by_cases h40 : s[t.p] = 40
  · rw [if_pos h40, if_pos h40, sh_fwd]
    exact hG t hp hc
  rw [if_neg h40, if_neg h40]
  by_cases h91 : s[t.p] = 91
  · rw [if_pos h91, if_pos h91, sh_fwd]
    refine ⟨fun h => ?_, fun h => absurd h (members_11 _ hcf)⟩
    rw [L_members hu hr t.p (t.p + N) (t := t.fwd) hp h]
  rw [if_neg h91, if_neg h91]
  by_cases h92 : s[t.p] = 92
  · rw [if_pos h92, if_pos h92, sh_fwd]
    refine ⟨fun h => ?_, fun h => absurd h (escape_11 _ hcf)⟩
    rw [L_escape hu t.p (t.p + N) (t := t.fwd) h]
  rw [if_neg h92, if_neg h92]
  by_cases h46 : s[t.p] = 46
  · rw [if_pos h46, if_pos h46, sh_fwd]
    exact ⟨fun _ => rfl, fun h => absurd h hcf⟩
  rw [if_neg h46, if_neg h46]
  split
  · rw [sh_fwd]
    exact ⟨fun _ => rfl, fun h => absurd h hcf⟩
  · exact ⟨fun h => absurd h (fail_co (by decide)), fun h => absurd h ((N11.refl (t := t.fwd)).fail (by decide) hcf)⟩
include hu hr in
theorem L_once : ∀ n, LO pre s (once s n) (once u n)
  | 0 => L_base hu hr fun t _ hc => ⟨fun h => absurd h (fail_co (by decide)), fun _ => by
      show ((sh N t.fwd).fail _ 11).co = 11
      unfold T.fail
      rw [if_pos (show (sh N t.fwd).co = 0 from hc)]⟩
  | n + 1 => L_base hu hr fun t hp hc => by
      obtain ⟨k1, k2⟩ := L_rows hu hr (once_kp n) (L_once n) (once_good n) (t := t.fwd) hp
      have hcf : t.fwd.co = 0 := hc
      simp only
      refine ⟨fun h => ?_, fun h => ?_⟩
      · split at h
        · rename_i hm
          rw [meets_co] at h
          have hn : nxt s (rows s (once s n) t.fwd).2 = some 41 := by
            unfold meets at hm
            split at hm
            · assumption
            · cases hm
          rw [k1 h (Or.inr (nxt_some hn).2.2)]
          simp only
          rw [L_meets_yes hu hm, hm]
          simp
        · exact absurd h (fail_co (by decide))
      · have h11 : (rows s (once s n) t.fwd).2.co = 11 := by
          by_cases e0 : (rows s (once s n) t.fwd).2.co = 11
          · exact e0
          · exfalso
            split at h
            · rw [meets_co] at h; exact e0 h
            · exact (N11.fail (a := (t.p : Int)) (c := 9) (N11.trans (N11.refl (t := (rows s (once s n) t.fwd).2)) (meets_11 (s := s) 41)) (by decide)) e0 h
        have h3 := k2 hcf h11
        rw [meets_off (by rw [h3]; decide)]
        simp only [Bool.false_eq_true, if_false]
        unfold T.fail
        rw [if_neg (by rw [h3]; decide)]
        exact h3
end
/-- one more within others makes no difference, but that it may be too deep -/
def DO (s : List Nat) (O O' : T → Pat × T) : Prop := ∀ t : T, t.p < s.length → t.co = 0 → (O t).2.co = 11 ∨ O t = O' t
section
variable {s : List Nat} {O O' : T → Pat × T} (hD : DO s O O') {a : Nat} (hg : Good s a O)
include hD in
theorem D_part {t : T} (hp : t.p < s.length) (hc : t.co = 0) : (part s O t).2.co = 11 ∨ part s O t = part s O' t := by
  unfold part
  simp only
  rcases hD t hp hc with h | h
  · left; rw [often_off (by rw [h]; decide)]; exact h
  · right; rw [h]
include hD hg in
theorem D_parts : ∀ (f : Nat) (t : T) (l : List Pat), t.p ≤ s.length → t.co = 0 → (parts s O f t l).2.co = 11 ∨ parts s O f t l = parts s O' f t l
  | 0, _, _, _, _ => Or.inr rfl
  | f + 1, t, l, hp, hc => by
    unfold parts
    cases hn : nxt s t with
    | none => exact Or.inr rfl
    | some c =>
      simp only
      split
      · exact Or.inr rfl
      · have hl := (nxt_some hn).2.2
        obtain ⟨_, g2, _⟩ := part_good hg t hl
        rcases D_part hD hl hc with h | h
        · left; rw [parts_off (by rw [h]; decide)]; exact h
        · rw [← h]
          by_cases e0 : (part s O t).2.co = 0
          · exact D_parts f _ _ g2 e0
          · right; rw [parts_off e0, parts_off e0]
include hD hg in
theorem D_row {t : T} (hp : t.p ≤ s.length) (hc : t.co = 0) : (row s O t).2.co = 11 ∨ row s O t = row s O' t := by
  unfold row
  simp only
  rcases D_parts hD hg (s.length + 1) t [] hp hc with h | h
  · exact Or.inl h
  · right; rw [h]
include hD hg in
theorem D_rowsL : ∀ (f : Nat) (t : T) (l : List Pat), t.p ≤ s.length → t.co = 0 → (rowsL s O f t l).2.co = 11 ∨ rowsL s O f t l = rowsL s O' f t l
  | 0, _, _, _, _ => Or.inr rfl
  | f + 1, t, l, hp, hc => by
    unfold rowsL
    simp only
    by_cases hn : nxt s t = some 124
    · have hm : meets s 124 t = (true, t.fwd) := by unfold meets; rw [if_pos hn]
      rw [hm]
      simp only [if_true]
      have hl := (nxt_some hn).2.2
      obtain ⟨_, g2, _⟩ := row_good hg t.fwd hl
      rcases D_row hD hg (t := t.fwd) hl hc with h | h
      · left; rw [rowsL_off (by rw [h]; decide)]; exact h
      · rw [← h]
        by_cases e0 : (row s O t.fwd).2.co = 0
        · exact D_rowsL f _ _ g2 e0
        · right; rw [rowsL_off e0, rowsL_off e0]
    · have hm : meets s 124 t = (false, t) := by unfold meets; rw [if_neg hn]
      rw [hm]
      exact Or.inr (by simp)
include hD hg in
theorem D_rows {t : T} (hp : t.p ≤ s.length) (hc : t.co = 0) : (rows s O t).2.co = 11 ∨ rows s O t = rows s O' t := by
  obtain ⟨_, g2, _⟩ := row_good hg t hp
  unfold rows
  simp only
  rcases D_row hD hg hp hc with h | h
  · left; rw [rowsL_off (by rw [h]; decide)]; exact h
  · rw [← h]
    by_cases e0 : (row s O t).2.co = 0
    · rcases D_rowsL hD hg (s.length + 1) (row s O t).2 [(row s O t).1] g2 e0 with k | k
      · exact Or.inl k
      · right; rw [k]
    · right; rw [rowsL_off e0, rowsL_off e0]
end
theorem D_base {s : List Nat} {G G' : Nat → T → Pat × T} (hG : ∀ t : T, t.p < s.length → t.co = 0 → (G t.p t.fwd).2.co = 11 ∨ G t.p t.fwd = G' t.p t.fwd) : DO s (onceB s G) (onceB s G') := by
  intro t hp hc
  unfold onceB
  rw [List.getElem?_eq_getElem hp]
  simp only
  split
  · exact hG t hp hc
  · right; rfl
theorem D_once {s : List Nat} : ∀ n, DO s (once s n) (once s (n + 1))
  | 0 => D_base fun t _ hc => Or.inl (by
      show (t.fwd.fail _ 11).co = 11
      unfold T.fail
      rw [if_pos (show t.fwd.co = 0 from hc)])
  | n + 1 => D_base fun t hp hc => by
      simp only
      rcases D_rows (D_once n) (once_good n) (t := t.fwd) hp hc with h | h
      · left
        rw [meets_off (by rw [h]; decide)]
        simp only [Bool.false_eq_true, if_false]
        unfold T.fail
        rw [if_neg (by rw [h]; decide)]
        exact h
      · right; rw [h]
end Go.Proofs.Ytbccejlemhgioaa.rf
