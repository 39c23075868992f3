/- two patterns with a stroke between, and two in signs: how they are read. Nothing of the program. -/
import Derived.Test.YtbccejlemhgioaaRfLoc
namespace Go.Proofs.Ytbccejlemhgioaa.rf
open rx
/-- alternatives and rows in the one form -/
def Wf (x : Pat) : Prop := (x.k = 4 → 2 ≤ x.ks.length ∧ x = .mk 4 .zero x.ks 0 0) ∧ (x.k = 3 → 2 ≤ x.ks.length ∧ x = .mk 3 .zero x.ks 0 0)
theorem Wf.of {x : Pat} (h4 : x.k ≠ 4) (h3 : x.k ≠ 3) : Wf x := ⟨fun e => absurd e h4, fun e => absurd e h3⟩
theorem flat_cons (kind : Int) (x : Pat) (l : List Pat) : Pat.flat kind (x :: l) = (if x.k = kind then x.ks else [x]) ++ Pat.flat kind l := by unfold Pat.flat; rw [List.flatMap_cons]
theorem flat_app (kind : Int) (l m : List Pat) : Pat.flat kind (l ++ m) = Pat.flat kind l ++ Pat.flat kind m := by unfold Pat.flat; rw [List.flatMap_append]
theorem Wf.two {x : Pat} (h : Wf x) {kind : Int} (hk : kind = 3 ∨ kind = 4) (he : x.k = kind) : 2 ≤ x.ks.length ∧ x = .mk kind .zero x.ks 0 0 := by
  rcases hk with rfl | rfl
  · exact h.2 he
  · exact h.1 he
theorem flat_single {kind : Int} (hk : kind = 3 ∨ kind = 4) : ∀ {l : List Pat} {x : Pat}, (∀ y ∈ l, Wf y) → Pat.flat kind l = [x] → x ∈ l ∧ x.k ≠ kind
  | [], x, _, h => by simp [Pat.flat] at h
  | y :: l, x, hw, h => by
    rw [flat_cons] at h
    by_cases hy : y.k = kind
    · rw [if_pos hy] at h
      have h2 := ((hw y (by simp)).two hk hy).1
      have := congrArg List.length h
      simp only [List.length_append, List.length_singleton] at this
      omega
    · rw [if_neg hy] at h
      simp only [List.singleton_append, List.cons.injEq] at h
      rw [← h.1]
      exact ⟨by simp, hy⟩
theorem flat_ne {kind : Int} (hk : kind = 3 ∨ kind = 4) {l : List Pat} (hw : ∀ y ∈ l, Wf y) (hl : l ≠ []) : Pat.flat kind l ≠ [] := by
  cases l with
  | nil => exact absurd rfl hl
  | cons y l =>
    rw [flat_cons]
    by_cases hy : y.k = kind
    · rw [if_pos hy]
      have h2 := ((hw y (by simp)).two hk hy).1
      intro h
      have := congrArg List.length h
      simp only [List.length_append, List.length_nil] at this
      omega
    · rw [if_neg hy]; simp
theorem gather_k (kind : Int) {l : List Pat} (h : 2 ≤ (Pat.flat kind l).length) : Pat.gather kind l = .mk kind .zero (Pat.flat kind l) 0 0 := by
  unfold Pat.gather
  match Pat.flat kind l, h with
  | a :: b :: r, _ => rfl
theorem gather_1 (kind : Int) {l : List Pat} {x : Pat} (h : Pat.flat kind l = [x]) : Pat.gather kind l = x := by unfold Pat.gather; rw [h]
theorem gather_0 (kind : Int) {l : List Pat} (h : Pat.flat kind l = []) : Pat.gather kind l = .mk 1 .zero [] 0 0 := by unfold Pat.gather; rw [h]
theorem gather_flat (kind : Int) {l m : List Pat} (h : Pat.flat kind l = Pat.flat kind m) : Pat.gather kind l = Pat.gather kind m := by unfold Pat.gather; rw [h]
theorem gather_wf {kind : Int} (hk : kind = 3 ∨ kind = 4) {l : List Pat} (hw : ∀ y ∈ l, Wf y) : Wf (Pat.gather kind l) := by
  rcases hF : Pat.flat kind l with _ | ⟨x, _ | ⟨y, r⟩⟩
  · rw [gather_0 kind hF]; exact Wf.of (by decide) (by decide)
  · rw [gather_1 kind hF]; exact hw x (flat_single hk hw hF).1
  · have h2 : 2 ≤ (Pat.flat kind l).length := by rw [hF]; simp
    rw [gather_k kind h2]
    rcases hk with rfl | rfl
    · exact ⟨fun e => absurd (show (3 : Int) = 4 from e) (by decide), fun _ => ⟨h2, rfl⟩⟩
    · exact ⟨fun _ => ⟨h2, rfl⟩, fun e => absurd (show (4 : Int) = 3 from e) (by decide)⟩
theorem flat_gather {kind : Int} (hk : kind = 3 ∨ kind = 4) {l : List Pat} (hw : ∀ y ∈ l, Wf y) (hl : l ≠ []) : Pat.flat kind [Pat.gather kind l] = Pat.flat kind l := by
  rw [flat_cons]
  have hne := flat_ne hk hw hl
  rcases hF : Pat.flat kind l with _ | ⟨x, _ | ⟨y, r⟩⟩
  · exact absurd hF hne
  · rw [gather_1 kind hF, if_neg (flat_single hk hw hF).2]; rfl
  · have h2 : 2 ≤ (Pat.flat kind l).length := by rw [hF]; simp
    rw [gather_k kind h2]
    simp only [Pat.k, Pat.ks, if_true, hF]
    simp [Pat.flat]
theorem gather_two {l m : List Pat} (hl : ∀ y ∈ l, Wf y) (hm : ∀ y ∈ m, Wf y) (hl0 : l ≠ []) (hm0 : m ≠ []) : Pat.gather 4 (l ++ m) = Pat.gather 4 [Pat.gather 4 l, Pat.gather 4 m] := by
  refine gather_flat 4 ?_
  rw [flat_app, show [Pat.gather 4 l, Pat.gather 4 m] = [Pat.gather 4 l] ++ [Pat.gather 4 m] from rfl, flat_app, flat_gather (Or.inr rfl) hl hl0, flat_gather (Or.inr rfl) hm hm0]
theorem gather_self {x : Pat} (h : Wf x) : Pat.gather 4 [x] = x := by
  by_cases hx : x.k = 4
  · obtain ⟨h1, h2⟩ := h.1 hx
    have hF : Pat.flat 4 [x] = x.ks := by rw [flat_cons, if_pos hx]; simp [Pat.flat]
    rw [gather_k 4 (by rw [hF]; exact h1), hF]
    exact h2.symm
  · exact gather_1 4 (by rw [flat_cons, if_neg hx]; simp [Pat.flat])
section
variable {s : List Nat} {O : T → Pat × T} (hO : ∀ t : T, Wf (O t).1)
include hO
theorem part_wf (t : T) : Wf (part s O t).1 := by
  unfold part many
  simp only
  split
  · exact hO t
  · split
    · exact hO t
    · exact Wf.of (show (5 : Int) ≠ 4 by decide) (show (5 : Int) ≠ 3 by decide)
theorem parts_wf : ∀ (f : Nat) (t : T) (l : List Pat), (∀ y ∈ l, Wf y) → ∀ y ∈ (parts s O f t l).1, Wf y
  | 0, _, _, h => h
  | f + 1, t, l, h => by
    unfold parts
    split
    · exact h
    · split
      · exact h
      · refine parts_wf f _ _ ?_
        split
        · intro y hy
          rcases List.mem_append.1 hy with hy | hy
          · exact h y hy
          · rw [List.mem_singleton.1 hy]; exact part_wf hO t
        · exact h
theorem row_wf (t : T) : Wf (row s O t).1 := gather_wf (Or.inl rfl) (parts_wf hO _ _ _ (by simp))
theorem rowsL_wf : ∀ (f : Nat) (t : T) (l : List Pat), (∀ y ∈ l, Wf y) → ∀ y ∈ (rowsL s O f t l).1, Wf y
  | 0, _, _, h => h
  | f + 1, t, l, h => by
    unfold rowsL
    simp only
    split
    · refine rowsL_wf f _ _ ?_
      intro y hy
      rcases List.mem_append.1 hy with hy | hy
      · exact h y hy
      · rw [List.mem_singleton.1 hy]; exact row_wf hO _
    · exact h
theorem rows_wf (t : T) : Wf (rows s O t).1 := gather_wf (Or.inr rfl) (rowsL_wf hO _ _ _ (fun y hy => by rw [List.mem_singleton.1 hy]; exact row_wf hO t))
end
theorem base_wf {s : List Nat} {G : Nat → T → Pat × T} (hG : ∀ (a : Nat) (t : T), Wf (G a t).1) (t : T) : Wf (onceB s G t).1 := by
  have h2 : ∀ k, Wf (Pat.ofCls k) := fun k => Wf.of (show (2 : Int) ≠ 4 by decide) (show (2 : Int) ≠ 3 by decide)
  have h0 : Wf Pat.zero := Wf.of (by decide) (by decide)
  unfold onceB
  split
  · exact h0
  · split
    · exact hG _ _
    · split
      · exact h2 _
      · split
        · exact h2 _
        · split
          · exact h2 _
          · split
            · exact h2 _
            · exact h0
theorem once_wf {s : List Nat} : ∀ (n : Nat) (t : T), Wf (once s n t).1
  | 0, t => by
    unfold once
    exact base_wf (G := fun at' t => (Pat.zero, t.fail at' 11)) (fun _ _ => Wf.of (show (0 : Int) ≠ 4 by decide) (show (0 : Int) ≠ 3 by decide)) t
  | n + 1, t => by
    unfold once
    refine base_wf (fun a t => ?_) t
    exact rows_wf (s := s) (once_wf n) t
theorem rowsL_app {s : List Nat} {O : T → Pat × T} : ∀ (f : Nat) (t : T) (l m : List Pat), rowsL s O f t (l ++ m) = (l ++ (rowsL s O f t m).1, (rowsL s O f t m).2)
  | 0, _, _, _ => rfl
  | f + 1, t, l, m => by
    unfold rowsL
    simp only
    split
    · rw [List.append_assoc]
      exact rowsL_app f _ _ _
    · rfl
theorem rowsL_ne {s : List Nat} {O : T → Pat × T} : ∀ (f : Nat) (t : T) (l : List Pat), l ≠ [] → (rowsL s O f t l).1 ≠ []
  | 0, _, _, h => h
  | f + 1, t, l, h => by
    unfold rowsL
    simp only
    split
    · exact rowsL_ne f _ _ (by simp)
    · exact h
/-- what Parse without a fault says -/
def Ok (s : List Nat) (x : Pat) : Prop := s.length ≤ 60 ∧ ∃ t : T, rows s (once s 12) ⟨0, 0, 0⟩ = (x, t) ∧ t.co = 0 ∧ t.p = s.length ∧ t.wr = 0
theorem parse_ok {s : List Nat} (h : (parse s).2.2 = 0) : Ok s (parse s).1 := by
  unfold parse at h ⊢
  by_cases h60 : 60 < s.length
  · rw [if_pos h60] at h; exact absurd h (by show (4 : Int) ≠ 0; decide)
  rw [if_neg h60] at h ⊢
  simp only at h ⊢
  obtain ⟨x, t, hr⟩ : ∃ x t, rows s (once s 12) ⟨0, 0, 0⟩ = (x, t) := ⟨_, _, rfl⟩
  have hg := rows_good (once_good (s := s) 12) ⟨0, 0, 0⟩ (Nat.zero_le _)
  have hk := rows_kp (s := s) (once_kp (s := s) 12) ⟨0, 0, 0⟩
  rw [hr] at h hg hk ⊢
  simp only at h hg hk ⊢
  by_cases hc : t.co = 0 ∧ t.p < s.length
  · rw [if_pos hc] at h
    have hn : (t.fail t.p 9).co ≠ 0 := fail_co (by decide)
    rw [if_pos hn] at h
    exact absurd h hn
  · rw [if_neg hc] at h ⊢
    by_cases h0 : t.co = 0
    · rw [if_neg (by rw [h0]; decide)] at h ⊢
      exact ⟨by omega, t, hr, h0, by have : ¬ t.p < s.length := fun e => hc ⟨h0, e⟩; omega, (hk h0).2⟩
    · rw [if_pos h0] at h
      exact absurd h h0
theorem ok_parse {s : List Nat} {x : Pat} (h : Ok s x) : parse s = (x, 0, 0) := by
  obtain ⟨h60, t, hr, hc, hp, _⟩ := h
  unfold parse
  rw [if_neg (by omega)]
  simp only [hr]
  have e : (if t.co = 0 ∧ t.p < s.length then t.fail t.p 9 else t) = t := if_neg (fun e => by omega)
  rw [e, if_neg (by rw [hc]; decide)]
theorem deep_parse {s : List Nat} (h60 : s.length ≤ 60) (h : (rows s (once s 12) ⟨0, 0, 0⟩).2.co = 11) : (parse s).2.2 = 11 := by
  unfold parse
  rw [if_neg (by omega)]
  simp only
  obtain ⟨x, t, hr⟩ : ∃ x t, rows s (once s 12) ⟨0, 0, 0⟩ = (x, t) := ⟨_, _, rfl⟩
  rw [hr] at h ⊢
  simp only at h ⊢
  have e : (if t.co = 0 ∧ t.p < s.length then t.fail t.p 9 else t) = t := if_neg (fun e => by rw [h] at e; exact absurd e.1 (by decide))
  rw [e, if_pos (by rw [h]; decide)]
  exact h
theorem sh_0 (t : T) : sh 0 t = t := by cases t; rfl
/-- the rows go on behind a text's end -/
theorem rowsL_chain {s rest u : List Nat} (hu : u = [] ++ (s ++ rest)) (hr : rest.head? = none ∨ rest.head? = some 124 ∨ rest.head? = some 41) {O O' : T → Pat × T} (hO : ∀ t : T, Kp t (O t).2) (hL : LO [] s O O') {a : Nat} (hg : Good s a O) :
    ∀ (f g : Nat) (t : T) (l : List Pat), s.length < t.p + f → u.length < t.p + g → t.p ≤ s.length → (rowsL s O f t l).2.co = 0 → ∃ g', u.length < (rowsL s O f t l).2.p + g' ∧ rowsL u O' g t l = rowsL u O' g' (rowsL s O f t l).2 (rowsL s O f t l).1
  | 0, _, t, _, h1, _, h3, _ => by omega
  | f + 1, 0, t, _, h1, h2, h3, _ => by have := u_len hu; simp only [List.length_nil] at this; omega
  | f + 1, g + 1, t, l, h1, h2, h3, h => by
    by_cases hn : nxt s t = some 124
    · have hm : meets s 124 t = (true, t.fwd) := by unfold meets; rw [if_pos hn]
      have hn' := L_nxt hu hn
      rw [List.length_nil, sh_0] at hn'
      have hm' : meets u 124 t = (true, t.fwd) := by unfold meets; rw [if_pos hn']
      have e1 : rowsL s O (f + 1) t l = rowsL s O f (row s O t.fwd).2 (l ++ [(row s O t.fwd).1]) := by rw [rowsL]; simp [hm]
      have e2 : rowsL u O' (g + 1) t l = rowsL u O' g (row u O' t.fwd).2 (l ++ [(row u O' t.fwd).1]) := by rw [rowsL]; simp [hm']
      rw [e1] at h ⊢
      rw [e2]
      have hl := (nxt_some hn).2.2
      obtain ⟨r1, _⟩ := L_row hu hr hO hL hg (t := t.fwd) hl
      obtain ⟨g1, g2, _⟩ := row_good hg t.fwd hl
      have e : t.fwd.p = t.p + 1 := rfl
      have h0 := (rowsL_kp hO _ _ _ h).1
      have r2 := r1 h0
      rw [List.length_nil, sh_0, sh_0] at r2
      rw [r2]
      exact rowsL_chain hu hr hO hL hg f g _ _ (by omega) (by omega) g2 h
    · have hm : meets s 124 t = (false, t) := by unfold meets; rw [if_neg hn]
      have e1 : rowsL s O (f + 1) t l = (l, t) := by rw [rowsL]; simp [hm]
      rw [e1]
      exact ⟨g + 1, h2, rfl⟩
/-- a stroke between -/
theorem join_or {s t : List Nat} {a b : Pat} (ha : Ok s a) (hb : Ok t b) (hl : s.length + t.length ≤ 50) : Ok (s ++ 124 :: t) (Pat.gather 4 [a, b]) := by
  obtain ⟨_, ts, hs, cs, ps, ws⟩ := ha
  obtain ⟨_, tt, ht, ct, pt, wt⟩ := hb
  obtain ⟨u, hu⟩ : ∃ u, u = s ++ 124 :: t := ⟨_, rfl⟩
  rw [← hu]
  have hul : u.length = s.length + t.length + 1 := by rw [hu]; simp; omega
  have hu1 : u = [] ++ (s ++ 124 :: t) := hu
  have hr1 : (124 :: t).head? = none ∨ (124 :: t).head? = some 124 ∨ (124 :: t).head? = some 41 := Or.inr (Or.inl rfl)
  have hu2 : u = (s ++ [124]) ++ (t ++ []) := by rw [hu]; simp
  have hr2 : ([] : List Nat).head? = none ∨ ([] : List Nat).head? = some 124 ∨ ([] : List Nat).head? = some 41 := Or.inl rfl
  have hn2 : (s ++ [124]).length = s.length + 1 := by simp
  -- the first
  unfold rows at hs ht
  simp only [Prod.mk.injEq] at hs ht
  obtain ⟨hs1, hs2⟩ := hs
  obtain ⟨ht1, ht2⟩ := ht
  have q1 : (row s (once s 12) ⟨0, 0, 0⟩).2.co = 0 := (rowsL_kp (once_kp 12) _ _ _ (by rw [hs2]; exact cs)).1
  have q2 : (row t (once t 12) ⟨0, 0, 0⟩).2.co = 0 := (rowsL_kp (once_kp 12) _ _ _ (by rw [ht2]; exact ct)).1
  have r1 := (L_row hu1 hr1 (once_kp 12) (L_once hu1 hr1 12) (once_good 12) (t := ⟨0, 0, 0⟩) (Nat.zero_le _)).1 q1
  rw [List.length_nil, sh_0, sh_0] at r1
  obtain ⟨_, g2, _⟩ := row_good (once_good (s := s) 12) ⟨0, 0, 0⟩ (Nat.zero_le _)
  obtain ⟨g', hg', hch⟩ := rowsL_chain hu1 hr1 (once_kp 12) (L_once hu1 hr1 12) (once_good 12) (s.length + 1) (u.length + 1) (row s (once s 12) ⟨0, 0, 0⟩).2 [(row s (once s 12) ⟨0, 0, 0⟩).1] (by omega) (by omega) g2 (by rw [hs2]; exact cs)
  obtain ⟨la, hla⟩ : ∃ la, la = (rowsL s (once s 12) (s.length + 1) (row s (once s 12) ⟨0, 0, 0⟩).2 [(row s (once s 12) ⟨0, 0, 0⟩).1]).1 := ⟨_, rfl⟩
  obtain ⟨lb, hlb⟩ : ∃ lb, lb = (rowsL t (once t 12) (t.length + 1) (row t (once t 12) ⟨0, 0, 0⟩).2 [(row t (once t 12) ⟨0, 0, 0⟩).1]).1 := ⟨_, rfl⟩
  rw [← hla] at hs1 hch
  rw [← hlb] at ht1
  rw [hs2] at hch hg'
  have wla : ∀ y ∈ la, Wf y := by rw [hla]; exact rowsL_wf (once_wf 12) _ _ _ (fun y hy => by rw [List.mem_singleton.1 hy]; exact row_wf (once_wf 12) _)
  have wlb : ∀ y ∈ lb, Wf y := by rw [hlb]; exact rowsL_wf (once_wf 12) _ _ _ (fun y hy => by rw [List.mem_singleton.1 hy]; exact row_wf (once_wf 12) _)
  have nla : la ≠ [] := by rw [hla]; exact rowsL_ne _ _ _ (by simp)
  have nlb : lb ≠ [] := by rw [hlb]; exact rowsL_ne _ _ _ (by simp)
  -- the stroke
  have hnx : nxt u ts = some 124 := by
    unfold nxt
    rw [if_pos cs, ps, hu, List.getElem?_append_right (Nat.le_refl _), Nat.sub_self]
    rfl
  have hme : meets u 124 ts = (true, ts.fwd) := by unfold meets; rw [if_pos hnx]
  have hsh : ts.fwd = sh (s ++ [124]).length ⟨0, 0, 0⟩ := by
    rw [hn2]
    unfold T.fwd sh
    simp only [T.mk.injEq]
    exact ⟨by omega, ws, cs⟩
  obtain ⟨g'', rfl⟩ : ∃ g'', g' = g'' + 1 := ⟨g' - 1, by omega⟩
  have r2 := (L_row hu2 hr2 (once_kp 12) (L_once hu2 hr2 12) (once_good 12) (t := ⟨0, 0, 0⟩) (Nat.zero_le _)).1 q2
  obtain ⟨_, g3, _⟩ := row_good (once_good (s := t) 12) ⟨0, 0, 0⟩ (Nat.zero_le _)
  have e1 : rowsL u (once u 12) (g'' + 1) ts la = rowsL u (once u 12) g'' (sh (s ++ [124]).length (row t (once t 12) ⟨0, 0, 0⟩).2) (la ++ [(row t (once t 12) ⟨0, 0, 0⟩).1]) := by
    rw [rowsL]
    simp only [hme, if_true]
    rw [hsh, r2]
  have r3 := (L_rowsL hu2 hr2 (once_kp 12) (L_once hu2 hr2 12) (once_good 12) (t.length + 1) g'' (row t (once t 12) ⟨0, 0, 0⟩).2 [(row t (once t 12) ⟨0, 0, 0⟩).1] (by omega) (by omega) g3).1 (by rw [ht2]; exact ct) (Or.inl (by decide))
  rw [← hlb, ht2] at r3
  refine ⟨by omega, sh (s ++ [124]).length tt, ?_, ct, by rw [sh_p, hn2, pt]; omega, wt⟩
  unfold rows
  simp only
  rw [r1, hch, e1, rowsL_app, r3]
  simp only
  rw [← hs1, ← ht1, gather_two wla wlb nla nlb]
/-- a group -/
theorem once_group {pre s rest u : List Nat} (hu : u = (pre ++ [40]) ++ (s ++ 41 :: rest)) {a : Pat} {t : T} (h : rows s (once s 12) ⟨0, 0, 0⟩ = (a, t)) (hc : t.co = 0) (hp : t.p = s.length) (hw : t.wr = 0) :
    (once u 12 ⟨pre.length, 0, 0⟩).2.co = 11 ∨ once u 12 ⟨pre.length, 0, 0⟩ = (a, ⟨pre.length + s.length + 2, 0, 0⟩) := by
  have hr : (41 :: rest).head? = none ∨ (41 :: rest).head? = some 124 ∨ (41 :: rest).head? = some 41 := Or.inr (Or.inr rfl)
  have hn : (pre ++ [40]).length = pre.length + 1 := by simp
  have h40 : u[pre.length]? = some 40 := by
    rw [hu, List.append_assoc, List.getElem?_append_right (Nat.le_refl _), Nat.sub_self]
    rfl
  have hO : once u 12 ⟨pre.length, 0, 0⟩ = group u 12 pre.length ⟨pre.length + 1, 0, 0⟩ := by
    rw [once_eq]
    unfold onceB
    simp only [h40, if_true]
    rfl
  rw [hO]
  unfold group
  simp only
  have hsh : (⟨pre.length + 1, 0, 0⟩ : T) = sh (pre ++ [40]).length ⟨0, 0, 0⟩ := by rw [hn]; unfold sh; simp
  rw [hsh]
  obtain ⟨k1, k2⟩ := L_rows hu hr (once_kp 11) (L_once hu hr 11) (once_good 11) (t := ⟨0, 0, 0⟩) (Nat.zero_le _)
  rcases D_rows (D_once (s := s) 11) (once_good 11) (t := ⟨0, 0, 0⟩) (Nat.zero_le _) rfl with hd | hd
  · left
    have h3 := k2 rfl hd
    rw [meets_off (by rw [h3]; decide)]
    simp only [Bool.false_eq_true, if_false]
    unfold T.fail
    rw [if_neg (by rw [h3]; decide)]
    exact h3
  · right
    have hd' : rows s (once s 11) ⟨0, 0, 0⟩ = (a, t) := hd.trans h
    rw [k1 (by rw [hd']; exact hc) (Or.inl (by simp)), hd']
    simp only
    have hnx : nxt u (sh (pre ++ [40]).length t) = some 41 := by
      unfold nxt
      rw [sh_co, if_pos hc, sh_p, get_end hu hp]
      rfl
    have hm : meets u 41 (sh (pre ++ [40]).length t) = (true, (sh (pre ++ [40]).length t).fwd) := by unfold meets; rw [if_pos hnx]
    rw [hm]
    simp only [if_true]
    unfold sh T.fwd
    simp only [Prod.mk.injEq, T.mk.injEq, true_and]
    exact ⟨by omega, hw, hc⟩
/-- two in signs, one behind the other -/
theorem join_then {s t : List Nat} {a b : Pat} (ha : Ok s a) (hb : Ok t b) (hl : s.length + t.length ≤ 50) :
    (parse ([40] ++ s ++ [41, 40] ++ t ++ [41])).2.2 = 11 ∨ Ok ([40] ++ s ++ [41, 40] ++ t ++ [41]) (Pat.gather 3 ([a, b].filter (fun x => x.k != 1))) := by
  obtain ⟨_, ts, hs, cs, ps, ws⟩ := ha
  obtain ⟨_, tt, ht, ct, pt, wt⟩ := hb
  have wa : Wf a := by have := rows_wf (s := s) (once_wf (s := s) 12) ⟨0, 0, 0⟩; rw [hs] at this; exact this
  have wb : Wf b := by have := rows_wf (s := t) (once_wf (s := t) 12) ⟨0, 0, 0⟩; rw [ht] at this; exact this
  obtain ⟨u, hu⟩ : ∃ u, u = [40] ++ s ++ [41, 40] ++ t ++ [41] := ⟨_, rfl⟩
  rw [← hu]
  have hul : u.length = s.length + t.length + 4 := by rw [hu]; simp; omega
  have hu1 : u = ([] ++ [40]) ++ (s ++ 41 :: (40 :: (t ++ [41]))) := by rw [hu]; simp
  have hu2 : u = ((40 :: (s ++ [41])) ++ [40]) ++ (t ++ 41 :: []) := by rw [hu]; simp
  have hn2 : (40 :: (s ++ [41])).length = s.length + 2 := by simp
  have o1 := once_group (pre := []) hu1 hs cs ps ws
  have o2 := once_group (pre := 40 :: (s ++ [41])) hu2 ht ct pt wt
  rw [List.length_nil] at o1
  rw [hn2] at o2
  have g0 : u[0]? = some 40 := by rw [hu]; rfl
  have g2 : u[s.length + 2]? = some 40 := by
    rw [hu2, List.append_assoc, List.getElem?_append_right (by rw [hn2]; omega), hn2, Nat.sub_self]
    rfl
  have g4 : u[s.length + 2 + t.length + 2]? = none := List.getElem?_eq_none (by omega)
  have ex : ∀ {p : Nat} {x : Pat} {p2 : Nat}, once u 12 ⟨p, 0, 0⟩ = (x, ⟨p2, 0, 0⟩) → (u[p2]? = some 40 ∨ u[p2]? = none) → part u (once u 12) ⟨p, 0, 0⟩ = (x, ⟨p2, 0, 0⟩) := by
    intro p x p2 h1 h2
    have hnx : nxt u ⟨p2, 0, 0⟩ = u[p2]? := rfl
    have ho : often u ⟨p2, 0, 0⟩ = ((0, 0, false), ⟨p2, 0, 0⟩) := by
      rcases h2 with h2 | h2 <;> simp [often, hnx, h2]
    unfold part
    simp only [h1, ho, many, if_true]
  have st : ∀ (f p : Nat) (l : List Pat), u[p]? = some 40 → parts u (once u 12) (f + 1) ⟨p, 0, 0⟩ l = parts u (once u 12) f (part u (once u 12) ⟨p, 0, 0⟩).2 (if (part u (once u 12) ⟨p, 0, 0⟩).1.k ≠ 1 then l ++ [(part u (once u 12) ⟨p, 0, 0⟩).1] else l) := by
    intro f p l h
    have hnx : nxt u ⟨p, 0, 0⟩ = some 40 := h
    rw [parts, hnx]
    simp
  have pd : ∀ {p : Nat}, (once u 12 ⟨p, 0, 0⟩).2.co = 11 → (part u (once u 12) ⟨p, 0, 0⟩).2.co = 11 := by
    intro p h
    unfold part
    simp only
    rw [often_off (by rw [h]; decide)]
    exact h
  have rd : (parts u (once u 12) (u.length + 1) ⟨0, 0, 0⟩ []).2.co = 11 → (parse u).2.2 = 11 := by
    intro h
    refine deep_parse (by omega) ?_
    have hrow : (row u (once u 12) ⟨0, 0, 0⟩).2.co = 11 := h
    unfold rows
    simp only
    rw [rowsL_off (by rw [hrow]; decide)]
    exact hrow
  obtain ⟨f, hf⟩ : ∃ f, u.length = f + 2 := ⟨u.length - 2, by omega⟩
  rcases o1 with o1 | o1
  · left
    refine rd ?_
    rw [hf, st (f + 2) 0 [] g0, parts_off (by rw [pd o1]; decide)]
    exact pd o1
  have p1 := ex o1 (Or.inl (by rw [Nat.zero_add]; exact g2))
  rw [Nat.zero_add] at p1
  rcases o2 with o2 | o2
  · left
    refine rd ?_
    rw [hf, st (f + 2) 0 [] g0, p1]
    simp only
    rw [st (f + 1) (s.length + 2) _ g2, parts_off (by rw [pd o2]; decide)]
    exact pd o2
  right
  have p2 := ex o2 (Or.inr g4)
  have hnx : nxt u ⟨s.length + 2 + t.length + 2, 0, 0⟩ = none := g4
  have hpa : parts u (once u 12) (u.length + 1) ⟨0, 0, 0⟩ [] = ([a, b].filter (fun x => x.k != 1), ⟨s.length + 2 + t.length + 2, 0, 0⟩) := by
    rw [hf, st (f + 2) 0 [] g0, p1]
    simp only
    rw [st (f + 1) (s.length + 2) _ g2, p2]
    simp only
    rw [parts, hnx]
    simp only
    by_cases ka : a.k = 1 <;> by_cases kb : b.k = 1 <;> simp [ka, kb]
  have hrow : row u (once u 12) ⟨0, 0, 0⟩ = (Pat.gather 3 ([a, b].filter (fun x => x.k != 1)), ⟨s.length + 2 + t.length + 2, 0, 0⟩) := by
    unfold row
    rw [hpa]
  refine ⟨by omega, ⟨s.length + 2 + t.length + 2, 0, 0⟩, ?_, rfl, by show s.length + 2 + t.length + 2 = _; omega, rfl⟩
  unfold rows
  simp only [hrow]
  have hme : meets u 124 ⟨s.length + 2 + t.length + 2, 0, 0⟩ = (false, ⟨s.length + 2 + t.length + 2, 0, 0⟩) := by unfold meets; rw [hnx]; rfl
  rw [rowsL]
  simp only [hme, Bool.false_eq_true, if_false]
  rw [gather_self]
  refine gather_wf (Or.inl rfl) (fun y hy => ?_)
  have := (List.mem_filter.1 hy).1
  simp only [List.mem_cons, List.not_mem_nil, or_false] at this
  rcases this with rfl | rfl
  · exact wa
  · exact wb
end Go.Proofs.Ytbccejlemhgioaa.rf
