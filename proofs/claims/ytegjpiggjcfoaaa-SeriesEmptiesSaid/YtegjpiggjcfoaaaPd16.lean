/- texts put together: SerPlm, SerXt. -/
import Derived.Test.YtegjpiggjcfoaaaPd15
namespace Go.Proofs.Ytegjpiggjcfoaaa.tb
theorem put_len (c : Int) (S : List Sym) (s : ByteArray) : (put c S s).1.length ≤ S.length + 1 := by
 unfold put
 split
 ·
  exact Nat.le_succ _
 ·
  split
  ·
   split
   ·
    exact Nat.le_succ _
   ·
    show (S.set _ _).length ≤ _; rw [List.length_set]; exact Nat.le_succ _
  ·
   split
   ·
    exact Nat.le_succ _
   ·
    split
    ·
     show (S.set _ _).length ≤ _; rw [List.length_set]; exact Nat.le_succ _
    ·
     show (S ++ [_]).length ≤ _; rw [List.length_append]; exact Nat.le_refl _
theorem put_fine {c : Int} {S : List Sym} {s : ByteArray} (h6 : s.size ≤ 600) (hc : cnt S s < 1099511627776) (hl : (S.length : Int) < c) : (put c S s).2.2 = 0 := by
 unfold put
 rw [if_neg (by omega)]
 by_cases hf : find S s < S.length
 ·
  rw [if_pos hf, if_neg (fun e => ?_)]
  unfold cnt at hc
  rw [if_pos hf, e] at hc
  omega
 ·
  rw [if_neg hf]
  have := free_le S
  rw [if_neg (by omega)]
  split <;> rfl
end Go.Proofs.Ytegjpiggjcfoaaa.tb
namespace Go.Proofs.Ytegjpiggjcfoaaa.se
open Go.RowKit
theorem puts_len : ∀ (ts : List ByteArray) (S : List tb.Sym), (puts S ts).1.length ≤ S.length + ts.length := by
 intro ts
 induction ts with
 | nil => intro S; exact Nat.le_refl _
 | cons a ts ih =>
  intro S
  show (if _ then _ else _ : List tb.Sym × Int).1.length ≤ _
  rw [List.length_cons]
  split
  ·
   have := ih (tb.put 24000 S a).1
   have := tb.put_len 24000 S a
   omega
  ·
   show S.length ≤ _; omega
theorem puts_fine : ∀ (ts : List ByteArray) (S : List tb.Sym), tb.Right 24000 S → (∀ t ∈ ts, t.size ≤ 600) → (∀ x, tb.cnt S x + (ts.length : Int) < 1099511627776) → S.length + ts.length < 24000 → (puts S ts).2 = 0 := by
 intro ts
 induction ts with
 | nil => intro S _ _ _ _; rfl
 | cons a ts ih =>
  intro S hr h6 hc hl
  rw [List.length_cons] at hl
  have hc0 := hc a
  rw [List.length_cons] at hc0
  have ha := tb.put_fine (c := 24000) (S := S) (h6 a List.mem_cons_self) (by omega) (by omega)
  have e : puts S (a :: ts) = puts (tb.put 24000 S a).1 ts := if_pos ha
  rw [e]
  refine ih _ (tb.right_put hr) (fun t ht => h6 t (List.mem_cons_of_mem _ ht)) (fun x => ?_) (by have := tb.put_len 24000 S a; omega)
  have hx := hc x
  rw [List.length_cons] at hx
  rw [tb.cnt_put hr ha]
  split <;> omega
def cntR (R : List Row) (l : List Lab) : Int := if find R l < R.length then (at_ R (find R l)).2 else 0
theorem cntR_is {S : List tb.Sym} {R : List Row} {l : List Lab} {k : Nat} (h : Ok S R) (hk : k < R.length) (h0 : 0 < (at_ R k).2) (h1 : (at_ R k).1 = l) : cntR R l = (at_ R k).2 := by
 unfold cntR
 rw [find_ok h hk h0 h1, if_pos hk]
theorem cntR_no {R : List Row} {l : List Lab} (h : ∀ k, k < R.length → ¬ (0 < (at_ R k).2 ∧ (at_ R k).1 = l)) : cntR R l = 0 := by
 unfold cntR
 rw [find_none h, if_neg (Nat.lt_irrefl _)]
theorem cntR_pos {R : List Row} {l : List Lab} : find R l < R.length ↔ 0 < cntR R l := by
 unfold cntR
 by_cases h : find R l < R.length
 ·
  rw [if_pos h]; exact ⟨fun _ => (find_yes h).1, fun _ => h⟩
 ·
  rw [if_neg h]; exact ⟨fun h2 => absurd h2 h, fun h2 => absurd h2 (by decide)⟩
theorem cntR_set {S S' : List tb.Sym} {R : List Row} {k : Nat} {x : Row} {m : List Lab} (h : Ok S R) (h' : Ok S' (R.set k x)) (hk : k < R.length) (h1 : ¬ (0 < (at_ R k).2 ∧ (at_ R k).1 = m)) (h2 : ¬ (0 < x.2 ∧ x.1 = m)) : cntR (R.set k x) m = cntR R m := by
 by_cases he : ∃ i, i < R.length ∧ 0 < (at_ R i).2 ∧ (at_ R i).1 = m
 ·
  obtain ⟨i, hi, g0, g1⟩ := he
  have hne : ¬ k = i := fun e => h1 (by rw [e]; exact ⟨g0, g1⟩)
  have e : at_ (R.set k x) i = at_ R i := by rw [at_set hk, if_neg hne]
  rw [cntR_is h hi g0 g1, cntR_is h' (by rw [List.length_set]; exact hi) (by rw [e]; exact g0) (by rw [e]; exact g1), e]
 ·
  rw [cntR_no (fun i hi hh => he ⟨i, hi, hh⟩), cntR_no]
  intro i hi hh
  rw [List.length_set] at hi
  rw [at_set hk] at hh
  by_cases e : k = i
  ·
   rw [if_pos e] at hh; exact h2 hh
  ·
   rw [if_neg e] at hh; exact he ⟨i, hi, hh⟩
theorem cntR_room {S : List tb.Sym} {R : List Row} {k : Nat} (h : Ok S R) (hk : k ≤ R.length) (h4 : k ≠ 4000) (m : List Lab) : cntR (room R k) m = cntR R m := by
 obtain ⟨o1, o2, o3, o4, o5⟩ := ok_room h hk h4
 by_cases he : ∃ i, i < R.length ∧ 0 < (at_ R i).2 ∧ (at_ R i).1 = m
 ·
  obtain ⟨i, hi, g0, g1⟩ := he
  have hi2 : i < (room R k).length := by unfold room; rw [List.length_append]; omega
  rw [cntR_is h hi g0 g1, cntR_is o1 hi2 (by rw [o3 i hi]; exact g0) (by rw [o3 i hi]; exact g1), o3 i hi]
 ·
  rw [cntR_no (fun i hi hh => he ⟨i, hi, hh⟩), cntR_no]
  intro i hi hh
  rcases o5 i hi with h1 | h1
  ·
   rw [o3 i h1] at hh; exact he ⟨i, h1, hh⟩
  ·
   by_cases hlt : i < R.length
   ·
    rw [o3 i hlt] at hh; exact he ⟨i, hlt, hh⟩
   ·
    rw [h1, o4 (by omega)] at hh; exact absurd hh.1 (by decide)
theorem cntR_put {S : List tb.Sym} {R : List Row} {l : List Lab} (h : Ok S R) (hc : lm.canonF l = (0, l)) (h0 : (put S R (0, l)).2.2.2 = 0) (m : List Lab) : cntR (put S R (0, l)).2.1 m = cntR R m + if m = l then 1 else 0 := by
 have h' := ok_put (r := (0, l)) h (fun _ => hc)
 unfold put at h0 h' ⊢
 simp only at h0 h' ⊢
 rw [if_neg (by simp)] at h0 h' ⊢
 by_cases hf : find R l < R.length
 ·
  rw [if_pos hf] at h0 h' ⊢
  obtain ⟨g0, g1⟩ := find_yes hf
  by_cases hm : 1099511627776 ≤ (at_ R (find R l)).2
  ·
   rw [if_pos hm] at h0; cases h0
  rw [if_neg hm] at h' ⊢
  by_cases e : m = l
  ·
   subst e
   have ea : at_ (R.set (find R m) (m, (at_ R (find R m)).2 + 1)) (find R m) = (m, (at_ R (find R m)).2 + 1) := by rw [at_set hf, if_pos rfl]
   rw [if_pos rfl, cntR_is h hf g0 g1]
   show cntR (R.set _ _) m = _
   rw [cntR_is h' (by show _ < (R.set _ _).length; rw [List.length_set]; exact hf) (by rw [ea]; show 0 < _ + 1; omega) (by rw [ea]), ea]
  ·
   rw [if_neg e]
   have := cntR_set (m := m) h h' hf (fun hh => e (by rw [← hh.2, g1])) (fun hh => e hh.2.symm)
   show cntR (R.set _ _) m = _
   rw [this]; omega
 rw [if_neg hf] at h0 h' ⊢
 by_cases h4 : free R = 4000
 ·
  rw [if_pos h4] at h0; cases h0
 rw [if_neg h4] at h0 h' ⊢
 by_cases hp : (puts S (texts l)).2 ≠ 0
 ·
  rw [if_pos hp] at h0; exact absurd h0 hp
 rw [if_neg hp] at h' ⊢
 obtain ⟨o1, o2, o3, o4, o5⟩ := ok_room h (free_le R) h4
 have hz : (at_ (room R (free R)) (free R)).2 < 1 := by
  by_cases hlt : free R < R.length
  ·
   rw [o3 _ hlt]; exact free_yes hlt
  ·
   rw [o4 hlt]; decide
 by_cases e : m = l
 ·
  subst e
  have ea : at_ ((room R (free R)).set (free R) (m, 1)) (free R) = (m, 1) := by rw [at_set o2, if_pos rfl]
  have hn : cntR R m = 0 := cntR_no (fun i hi hh => find_no (by have := find_le R m; omega : i < find R m) hh)
  rw [if_pos rfl, hn]
  show cntR ((room R (free R)).set _ _) m = _
  rw [cntR_is h' (by show _ < (List.set _ _ _).length; rw [List.length_set]; exact o2) (by rw [ea]; show (0 : Int) < 1; decide) (by rw [ea]), ea]; rfl
 ·
  rw [if_neg e]
  show cntR ((room R (free R)).set _ _) m = _
  rw [cntR_set (m := m) o1 h' o2 (fun hh => by omega) (fun hh => e hh.2.symm), cntR_room h (free_le R) h4]; omega
theorem cntR_drop {S : List tb.Sym} {R : List Row} {id : Int} (h : Ok S R) (m : List Lab) : cntR (drop S R id).2.1 m = cntR R m - if used R id = true ∧ m = (at_ R id.toNat).1 then 1 else 0 := by
 have h' := ok_drop (id := id) h
 unfold drop at h' ⊢
 by_cases hu : used R id = true
 ·
  rw [if_pos hu] at h' ⊢
  unfold used at hu
  obtain ⟨u0, u1, u2⟩ := of_decide_eq_true hu
  have hk : id.toNat < R.length := by omega
  have hu' : used R id = true := decide_eq_true ⟨u0, u1, u2⟩
  by_cases h1 : (at_ R id.toNat).2 = 1
  ·
   rw [if_pos h1] at h' ⊢
   by_cases e : m = (at_ R id.toNat).1
   ·
    rw [if_pos ⟨hu', e⟩, cntR_is h hk (by omega) e.symm, h1]
    show cntR (R.set _ _) m = _
    rw [cntR_no]; rfl
    intro i hi hh
    rw [List.length_set] at hi
    rw [at_set hk] at hh
    by_cases ei : id.toNat = i
    ·
     rw [if_pos ei] at hh; exact absurd hh.1 (by decide)
    ·
     rw [if_neg ei] at hh
     rcases Nat.lt_or_ge i id.toNat with hlt | hge
     ·
      exact h.one i _ hlt hk hh.1 (by omega) (by rw [hh.2, e])
     ·
      exact h.one id.toNat i (by omega) hi (by omega) hh.1 (by rw [hh.2, e])
   ·
    rw [if_neg (fun hh => e hh.2)]
    show cntR (R.set _ _) m = _
    rw [cntR_set (m := m) h h' hk (fun hh => e hh.2.symm) (fun hh => absurd hh.1 (by decide))]; exact (Int.sub_zero _).symm
  ·
   rw [if_neg h1] at h' ⊢
   by_cases e : m = (at_ R id.toNat).1
   ·
    have ea : at_ (R.set id.toNat ((at_ R id.toNat).1, (at_ R id.toNat).2 - 1)) id.toNat = ((at_ R id.toNat).1, (at_ R id.toNat).2 - 1) := by rw [at_set hk, if_pos rfl]
    rw [if_pos ⟨hu', e⟩, cntR_is h hk (by omega) e.symm]
    show cntR (R.set _ _) m = _
    rw [cntR_is h' (by show _ < (R.set _ _).length; rw [List.length_set]; exact hk) (by rw [ea]; show 0 < _ - 1; omega) (by rw [ea]; exact e.symm), ea]
   ·
    rw [if_neg (fun hh => e hh.2)]
    show cntR (R.set _ _) m = _
    rw [cntR_set (m := m) h h' hk (fun hh => e hh.2.symm) (fun hh => e hh.2.symm)]; omega
 ·
  rw [if_neg hu] at h' ⊢
  rw [if_neg (fun hh => hu hh.1)]
  show cntR R m = _; omega
structure Pl (k : Nat) (S : List tb.Sym) (R : List Row) : Prop where
 ok : Ok S R
 am : ∀ j, j < R.length → 0 < (at_ R j).2 → ∃ i, i < 6 ∧ (at_ R j).1 = nlab i
 rl : R.length ≤ k
 sl : S.length ≤ 4 * k
 rf : ∀ j, j < R.length → (at_ R j).2 ≤ k
theorem pl_nil : Pl 0 [] [] := ⟨ok_nil, fun _ h => absurd h (Nat.not_lt_zero _), Nat.le_refl _, Nat.le_refl _, fun _ h => absurd h (Nat.not_lt_zero _)⟩
theorem nlab_canon {i : Nat} (h : i < 6) : lm.canonF (nlab i) = (0, nlab i) := (lm.text_iff.1 (nlab_text i h)).1
theorem nlab_len (i : Nat) : (texts (nlab i)).length ≤ 4 := by
 rcases i with _ | _ | _ | _ | _ | i
 all_goals (show _ ≤ 4; simp [nlab, texts])
theorem Pl.put {k : Nat} {S : List tb.Sym} {R : List Row} {i : Nat} (h : Pl k S R) (hk : k ≤ 60) (hi : i < 6) : (put S R (nres i)).2.2.2 = 0 ∧ Pl (k + 1) (put S R (nres i)).1 (put S R (nres i)).2.1 := by
 have hn : nres i = (0, nlab i) := if_pos hi
 have hc := nlab_canon hi
 have hok := ok_put (r := nres i) h.ok (nres_canon i)
 rw [hn] at hok ⊢
 have hsz : ∀ t ∈ texts (nlab i), t.size ≤ 600 := fun t ht => by
  obtain ⟨_, _, hz⟩ := canon_len hc
  obtain ⟨x, hx, h2⟩ := List.mem_flatMap.1 ht
  have := hz x hx
  rcases List.mem_cons.1 h2 with rfl | h2
  ·
   omega
  ·
   rcases List.mem_cons.1 h2 with rfl | h2
   ·
    omega
   ·
    cases h2
 have hl4 := nlab_len i
 have hcnt : ∀ x, tb.cnt S x + ((texts (nlab i)).length : Int) < 1099511627776 := fun x => by
  rw [h.ok.cnt x]
  have h1 : ct (all R) x ≤ (all R).length := List.countP_le_length
  have h2 := all_len R h.ok.few
  have := h.rl
  omega
 have hps : (puts S (texts (nlab i))).2 = 0 := puts_fine _ _ h.ok.right hsz hcnt (by have := h.sl; omega)
 have hpl := puts_len (texts (nlab i)) S
 have hfr := free_le R
 have hrl := h.rl
 have hsl := h.sl
 unfold se.put at hok ⊢
 simp only at hok ⊢
 rw [if_neg (by simp)] at hok ⊢
 by_cases hf : find R (nlab i) < R.length
 ·
  rw [if_pos hf] at hok ⊢
  have hr := h.rf _ hf
  rw [if_neg (by omega)] at hok ⊢
  refine ⟨rfl, hok, fun j hj h0 => ?_, by show (R.set _ _).length ≤ _; rw [List.length_set]; omega, by show S.length ≤ _; omega, fun j hj => ?_⟩
  ·
   have hj' : j < (R.set (find R (nlab i)) (nlab i, (at_ R (find R (nlab i))).2 + 1)).length := hj
   rw [List.length_set] at hj'
   have h0' : 0 < (at_ (R.set (find R (nlab i)) (nlab i, (at_ R (find R (nlab i))).2 + 1)) j).2 := h0
   show ∃ i', i' < 6 ∧ (at_ (R.set (find R (nlab i)) (nlab i, (at_ R (find R (nlab i))).2 + 1)) j).1 = nlab i'
   rw [at_set hf] at h0' ⊢
   split
   ·
    exact ⟨i, hi, rfl⟩
   ·
    rename_i hne
    rw [if_neg hne] at h0'
    exact h.am j hj' h0'
  ·
   have hj' : j < (R.set (find R (nlab i)) (nlab i, (at_ R (find R (nlab i))).2 + 1)).length := hj
   rw [List.length_set] at hj'
   show (at_ (R.set (find R (nlab i)) (nlab i, (at_ R (find R (nlab i))).2 + 1)) j).2 ≤ _
   rw [at_set hf]
   split
   ·
    show _ + 1 ≤ _; omega
   ·
    have := h.rf j hj'; omega
 rw [if_neg hf, if_neg (by omega)] at hok ⊢
 rw [if_neg (by simpa using hps)] at hok ⊢
 obtain ⟨o1, o2, o3, o4, o5⟩ := ok_room h.ok hfr (by omega)
 have hll : (room R (free R)).length ≤ R.length + 1 := by unfold room; rw [List.length_append, List.length_replicate]; omega
 refine ⟨rfl, hok, fun j hj h0 => ?_, by show ((room R (free R)).set _ _).length ≤ _; rw [List.length_set]; omega, by show (puts S (texts (nlab i))).1.length ≤ _; omega, fun j hj => ?_⟩
 ·
  have hj' : j < ((room R (free R)).set (free R) (nlab i, 1)).length := hj
  rw [List.length_set] at hj'
  have h0' : 0 < (at_ ((room R (free R)).set (free R) (nlab i, 1)) j).2 := h0
  show ∃ i', i' < 6 ∧ (at_ ((room R (free R)).set (free R) (nlab i, 1)) j).1 = nlab i'
  rw [at_set o2] at h0' ⊢
  split
  ·
   exact ⟨i, hi, rfl⟩
  ·
   rename_i hne
   rw [if_neg hne] at h0'
   rcases o5 j hj' with h1 | h1
   ·
    rw [o3 j h1] at h0' ⊢; exact h.am j h1 h0'
   ·
    exact absurd h1.symm hne
 ·
  have hj' : j < ((room R (free R)).set (free R) (nlab i, 1)).length := hj
  rw [List.length_set] at hj'
  show (at_ ((room R (free R)).set (free R) (nlab i, 1)) j).2 ≤ _
  rw [at_set o2]
  split
  ·
   show (1 : Int) ≤ _; omega
  ·
   rename_i hne
   rcases o5 j hj' with h1 | h1
   ·
    rw [o3 j h1]; have := h.rf j h1; omega
   ·
    exact absurd h1.symm hne
theorem drops_len : ∀ (ts : List ByteArray) (S : List tb.Sym), (drops S ts).length = S.length := by
 intro ts
 induction ts with
 | nil => intro S; rfl
 | cons a ts ih =>
  intro S
  show (drops (tb.drop S (tb.find S a : Int)).1 ts).length = _
  rw [ih]
  unfold tb.drop
  split
  ·
   show (S.set _ _).length = _; rw [List.length_set]
  ·
   rfl
theorem Pl.drop {k : Nat} {S : List tb.Sym} {R : List Row} {id : Int} (h : Pl k S R) : Pl (k + 1) (drop S R id).1 (drop S R id).2.1 := by
 have hok := ok_drop (id := id) h.ok
 have hrl := h.rl
 have hsl := h.sl
 unfold se.drop at hok ⊢
 by_cases hu : used R id = true
 ·
  rw [if_pos hu] at hok ⊢
  unfold used at hu
  obtain ⟨u0, u1, u2⟩ := of_decide_eq_true hu
  have hk : id.toNat < R.length := by omega
  by_cases h1 : (at_ R id.toNat).2 = 1
  ·
   rw [if_pos h1] at hok ⊢
   refine ⟨hok, fun j hj h0 => ?_, by show (R.set _ _).length ≤ _; rw [List.length_set]; omega, by show (drops S _).length ≤ _; rw [drops_len]; omega, fun j hj => ?_⟩
   ·
    have hj' : j < (R.set id.toNat ([], 0)).length := hj
    rw [List.length_set] at hj'
    have h0' : 0 < (at_ (R.set id.toNat ([], 0)) j).2 := h0
    show ∃ i, i < 6 ∧ (at_ (R.set id.toNat ([], 0)) j).1 = nlab i
    rw [at_set hk] at h0' ⊢
    split
    ·
     rename_i e; rw [if_pos e] at h0'; exact absurd h0' (by decide)
    ·
     rename_i hne; rw [if_neg hne] at h0'; exact h.am j hj' h0'
   ·
    have hj' : j < (R.set id.toNat ([], 0)).length := hj
    rw [List.length_set] at hj'
    show (at_ (R.set id.toNat ([], 0)) j).2 ≤ _
    rw [at_set hk]
    split
    ·
     show (0 : Int) ≤ _; omega
    ·
     have := h.rf j hj'; omega
  ·
   rw [if_neg h1] at hok ⊢
   have hr := h.rf _ hk
   refine ⟨hok, fun j hj h0 => ?_, by show (R.set _ _).length ≤ _; rw [List.length_set]; omega, by show S.length ≤ _; omega, fun j hj => ?_⟩
   ·
    have hj' : j < (R.set id.toNat ((at_ R id.toNat).1, (at_ R id.toNat).2 - 1)).length := hj
    rw [List.length_set] at hj'
    have h0' : 0 < (at_ (R.set id.toNat ((at_ R id.toNat).1, (at_ R id.toNat).2 - 1)) j).2 := h0
    show ∃ i, i < 6 ∧ (at_ (R.set id.toNat ((at_ R id.toNat).1, (at_ R id.toNat).2 - 1)) j).1 = nlab i
    rw [at_set hk] at h0' ⊢
    split
    ·
     exact h.am _ hk (by omega)
    ·
     rename_i hne; rw [if_neg hne] at h0'; exact h.am j hj' h0'
   ·
    have hj' : j < (R.set id.toNat ((at_ R id.toNat).1, (at_ R id.toNat).2 - 1)).length := hj
    rw [List.length_set] at hj'
    show (at_ (R.set id.toNat ((at_ R id.toNat).1, (at_ R id.toNat).2 - 1)) j).2 ≤ _
    rw [at_set hk]
    split
    ·
     show _ - 1 ≤ _; omega
    ·
     have := h.rf j hj'; omega
 ·
  rw [if_neg hu] at hok ⊢
  exact ⟨h.ok, h.am, by show R.length ≤ _; omega, by show S.length ≤ _; omega, fun j hj => by have := h.rf j hj; show (at_ R j).2 ≤ _; omega⟩
theorem Pl.empty {k : Nat} {S : List tb.Sym} {R : List Row} (h : Pl k S R) (h0 : ∀ i, i < 6 → cntR R (nlab i) = 0) {j : Nat} (hj : j < S.length) : (tb.at_ S j).2 = 0 ∧ (tb.at_ S j).1 = .empty := by
 have hall : ∀ i, i < R.length → (at_ R i).1 = [] := fun i hi => by
  have hb := h.ok.row i hi
  refine hb.2.2.1 ?_
  rcases Int.lt_or_le 0 (at_ R i).2 with hp | hp
  ·
   obtain ⟨q, hq, e⟩ := h.am i hi hp
   have := cntR_is h.ok hi hp e
   rw [h0 q hq] at this
   omega
  ·
   omega
 have hemp : all R = [] := by
  unfold all
  rw [List.flatMap_eq_nil_iff]
  intro r hr
  obtain ⟨i, hi, rfl⟩ := List.mem_iff_getElem.1 hr
  rw [at_get hi, hall i hi]; rfl
 have hr := h.ok.right.2.2.2.1 j hj
 have hz : (tb.at_ S j).2 = 0 := by
  rcases Int.lt_or_le 0 (tb.at_ S j).2 with hp | hp
  ·
   have e1 := tb.cnt_is h.ok.right hj ⟨hp, rfl⟩
   have e2 := h.ok.cnt (tb.at_ S j).1
   rw [hemp] at e2
   have : ct [] (tb.at_ S j).1 = 0 := rfl
   omega
  ·
   omega
 exact ⟨hz, hr.2.2.2 hz⟩
end Go.Proofs.Ytegjpiggjcfoaaa.se
namespace Go.Proofs.Ytegjpiggjcfoaaa
open Go Go.RowKit Go.ChangeShapes cl Go.Sort
structure Xt (G : Nat) (S : List tb.Sym) (R : List se.Row) (vs vr : Value) (B : Nat) (W : World) : Prop where
 ser : SerAt W W.heap.size vs vr S R
 rb : RB W vr
 rx : RX G S R W vr
 row : W.heap[B]? = some (.cells #[vs, .int .i64 24000, vr] 28 (0, 0))
theorem Xt.lt {G B : Nat} {S : List tb.Sym} {R : List se.Row} {vs vr : Value} {W : World} (h : Xt G S R vs vr B W) : B < W.heap.size := (Array.getElem?_eq_some_iff.1 h.row).1
theorem Xt.step {G B : Nat} {S : List tb.Sym} {R : List se.Row} {vs vr : Value} {W W' : World} (h : Xt G S R vs vr B W) (hb : Below W.heap.size W W') : Xt G S R vs vr B W' :=
 ⟨h.ser.next hb, h.rb.next hb, h.rx.next hb, heap_keep hb h.row⟩
theorem Xt.cell {G B : Nat} {S : List tb.Sym} {R : List se.Row} {vs vr : Value} {W : World} (h : Xt G S R vs vr B W) : (W.cell? ⟨B, 0, none⟩ = some vs ∧ W.cell? ⟨B, 1, none⟩ = some (.int .i64 24000) ∧ W.cell? ⟨B, 2, none⟩ = some vr) ∧ (W.frozen? ⟨B, 0, none⟩ = false ∧ W.frozen? ⟨B, 1, none⟩ = false ∧ W.frozen? ⟨B, 2, none⟩ = false) :=
 ⟨⟨row_cell h.row rfl, row_cell h.row rfl, row_cell h.row rfl⟩, ⟨row_free h.row, row_free h.row, row_free h.row⟩⟩
structure Off (G q : Nat) (W : World) : Prop where
 text : ∀ j s, W.cell? ⟨q, j, none⟩ ≠ some (.string s)
 kind : ∃ c T fr, W.heap[q]? = some (.cells c T fr) ∧ T ≠ 45
 nums : q = G ∨ ∀ j x y, ¬ (W.cell? ⟨q, j, none⟩ = some (.int .i64 x) ∧ W.cell? ⟨q, j + 1, none⟩ = some (.int .i64 y))
theorem off_keep {G q : Nat} {S : List tb.Sym} {R : List se.Row} {vs vr : Value} {W W' : World} (h : SerAt W W.heap.size vs vr S R ∧ RB W vr ∧ RX G S R W vr) (hq : Off G q W) (hs : W.heap.size ≤ W'.heap.size) (hk : ∀ b, b < W.heap.size → b ≠ q → W'.heap[b]? = W.heap[b]?) : SerAt W' W'.heap.size vs vr S R ∧ RB W' vr ∧ RX G S R W' vr := by
 obtain ⟨hser, hrb, hrx⟩ := h
 obtain ⟨c, T, fr, hqc, hqT⟩ := hq.kind
 have hrbl : ∀ b off s n cc, vr = .slice (some ⟨b, off, s⟩) n cc → b ≠ q := fun b off s n cc e => by
  obtain ⟨cur, hc⟩ := hrb b off s n cc e
  rintro rfl
  rw [hqc] at hc
  simp only [Option.some.injEq, Obj.cells.injEq] at hc
  exact hqT hc.2.1
 have htab : Tabs W' W'.heap.size vs S := by
  obtain ⟨h0, ao, c, e, h1, h3, h4⟩ := hser.1
  refine ⟨h0, ao, c, e, h1, h3, fun hp => ?_⟩
  obtain ⟨b, off, e2, hB, hc⟩ := h4 hp
  have hne : b ≠ q := by
   rintro rfl
   obtain ⟨g0, _⟩ := tcells_get S 0 hp
   exact hq.text _ _ (hc _ _ g0)
  refine ⟨b, off, e2, by omega, fun j u hj => ?_⟩
  rw [World.cell?_of_block (a := ⟨b, off + j, none⟩) (hk b hB hne)]
  exact hc j u hj
 have hids : ∀ (c : List Value) (x : se.Row), rowX G S W W.heap.size c x → rowX G S W' W'.heap.size c x := by
  rintro c x ⟨vi, e1, ⟨k0, ao, cc, e2, k1, k3, k4⟩, hx⟩
  refine ⟨vi, e1, ⟨k0, ao, cc, e2, k1, k3, fun hp => ?_⟩, hx⟩
  obtain ⟨b, off, e3, hB, hcc⟩ := k4 hp
  have hl := se.texts_len x.1
  have hne : b ≠ q := by
   rintro rfl
   rcases hq.nums with h1 | h1
   ·
    exact hx hp b off none _ cc (by rw [e2, e3]) h1
   ·
    exact h1 _ _ _ ⟨hcc 0 _ (nums_get (List.getElem?_eq_getElem hp)), hcc 1 _ (nums_get (List.getElem?_eq_getElem (by omega)))⟩
  refine ⟨b, off, e3, by omega, fun j u hj => ?_⟩
  rw [World.cell?_of_block (a := ⟨b, off + j, none⟩) (hk b hB hne)]
  exact hcc j u hj
 have hrx' : RX G S R W' vr := by
  obtain ⟨cs, h0, h1, h2⟩ := hrx
  refine ⟨cs, h0, fun j c x hc hx => ?_, ?_⟩
  ·
   obtain ⟨e, k⟩ := h1 j c x hc hx
   exact ⟨e, hids c x k⟩
  ·
   obtain ⟨k0, ao, cc, e2, k1, k3, k4⟩ := h2
   refine ⟨k0, ao, cc, e2, k1, k3, fun hp => ?_⟩
   obtain ⟨b, off, e3, hB, hcc⟩ := k4 hp
   have hne := hrbl b off none _ cc (by rw [e2, e3])
   refine ⟨b, off, e3, by omega, fun j u hj => ?_⟩
   rw [World.cell?_of_block (a := ⟨b, off + j, none⟩) (hk b hB hne)]
   exact hcc j u hj
 refine ⟨⟨htab, ?_⟩, fun b off s n cc e => ?_, hrx'⟩
 ·
  obtain ⟨cs, h0, h1, h2⟩ := hrx'
  refine ⟨cs, h0, fun j c x hc hx => ?_, h2⟩
  obtain ⟨e, vi, e1, e2, _⟩ := h1 j c x hc hx
  exact ⟨e, vi, e1, e2⟩
 ·
  obtain ⟨cur, hc⟩ := hrb b off s n cc e
  exact ⟨cur, (hk b (Array.getElem?_eq_some_iff.1 hc).1 (hrbl b off s n cc e)).trans hc⟩
theorem Xt.keep {G B q : Nat} {S : List tb.Sym} {R : List se.Row} {vs vr : Value} {W W' : World} (h : SerAt W W.heap.size vs vr S R ∧ RB W vr ∧ RX G S R W vr) (hq : Off G q W) (hs : W.heap.size ≤ W'.heap.size) (hk : ∀ b, b < W.heap.size → b ≠ q → W'.heap[b]? = W.heap[b]?) (hrow : W'.heap[B]? = some (.cells #[vs, .int .i64 24000, vr] 28 (0, 0))) : Xt G S R vs vr B W' := by
 obtain ⟨h1, h2, h3⟩ := off_keep h hq hs hk
 exact ⟨h1, h2, h3, hrow⟩
theorem off_box {G q n1 c1 n2 c2 : Nat} {a1 a2 : Option Addr} {z : Int} {W : World} (hq : W.heap[q]? = some (.cells #[.slice a1 n1 c1, .int .i64 z, .slice a2 n2 c2] 28 (0, 0))) : Off G q W := by
 have hcell : ∀ (j : Nat) u, W.cell? ⟨q, j, none⟩ = some u → (#[.slice a1 n1 c1, .int .i64 z, .slice a2 n2 c2] : Array Value)[j]? = some u := fun j u h => by
  simpa [World.cell?, hq] using h
 refine ⟨fun j s h => ?_, ⟨_, _, _, hq, by decide⟩, Or.inr fun j x y h => ?_⟩
 ·
  have := hcell j _ h
  rcases j with _ | _ | _ | j <;> simp at this
 ·
  have g0 := hcell j _ h.1
  have g1 := hcell (j + 1) _ h.2
  rcases j with _ | _ | _ | j <;> simp at g0 g1
structure Ct (base G : Nat) (xs : List Value) (W : World) : Prop where
 own : W.ownsRow base 3 1 (.slice (some ⟨G, 0, none⟩) 7 7) 7 xs
 ints : ∀ u ∈ xs, ∃ z, u = .int .i64 z
theorem Ct.row {base G : Nat} {xs : List Value} {W : World} (h : Ct base G xs W) : ∃ cur : Array Value, W.heap[G]? = some (.cells cur 3 (0, 0)) ∧ cur.toList = xs := by
 have hl := h.own.1
 rcases h.own.2 with ⟨hv, _⟩ | ⟨g, cap, cur, hv, _, hg, _, _, hcs, htake⟩
 ·
  cases hv
 ·
  simp only [Value.slice.injEq, Option.some.injEq, Addr.mk.injEq] at hv
  obtain ⟨⟨rfl, _, _⟩, _, rfl⟩ := hv
  refine ⟨cur, hg, ?_⟩
  rw [← htake, List.take_of_length_le (by rw [Array.length_toList]; omega)]
theorem Ct.off {base G : Nat} {xs : List Value} {W : World} (h : Ct base G xs W) : Off G G W := by
 obtain ⟨cur, hc, hl⟩ := h.row
 refine ⟨fun j s hh => ?_, ⟨_, _, _, hc, by decide⟩, Or.inl rfl⟩
 have h1 : cur[j]? = some (.string s) := by simpa [World.cell?, hc] using hh
 have h2 : Value.string s ∈ xs := by
  rw [← hl]
  exact Array.mem_toList_iff.2 (Array.mem_of_getElem? h1)
 obtain ⟨z, hz⟩ := h.ints _ h2
 cases hz
theorem Ct.step {base G : Nat} {xs : List Value} {W W' : World} (h : Ct base G xs W) (hb : Below W.heap.size W W') : Ct base G xs W' := ⟨own_stay h.own hb, h.ints⟩
theorem Ct.set {base G i : Nat} {xs : List Value} {W : World} (h : Ct base G xs W) (z : Int) : Ct base G (xs.set i (.int .i64 z)) (W.setCell ⟨G, i, none⟩ (.int .i64 z)) := by
 refine ⟨(kit.own_set h.own).1, fun u hu => ?_⟩
 rcases List.mem_or_eq_of_mem_set hu with h1 | h1
 ·
  exact h.ints u h1
 ·
  exact ⟨z, h1⟩
theorem Ct.far {base G q j : Nat} {xs : List Value} {W : World} {c : Array Value} {T : TypeId} {u : Value} (h : Ct base G xs W) (hq : W.heap[q]? = some (.cells c T (0, 0))) (hT : T ≠ 3) : Ct base G xs (W.setCell ⟨q, j, none⟩ u) := ⟨own_far_ob h.own hq hT, h.ints⟩
theorem Ct.far3 {base G q : Nat} {xs : List Value} {W : World} {x0 y0 z0 x y z : Value} (h : Ct base G xs W) (hq : W.heap[q]? = some (.cells #[x0, y0, z0] 28 (0, 0))) : Ct base G xs (((W.setCell ⟨q, 0, none⟩ x).setCell ⟨q, 1, none⟩ y).setCell ⟨q, 2, none⟩ z) := by
 have h1 := heap_set (j := 0) (u := x) hq
 have h2 := heap_set (j := 1) (u := y) h1
 exact ((h.far hq (by decide)).far h1 (by decide)).far h2 (by decide)
theorem Ct.cell {base G i : Nat} {xs : List Value} {W : World} {u : Value} (h : Ct base G xs W) (hi : xs[i]? = some u) : W.cell? ⟨G, i, none⟩ = some u := by
 have := h.own.cells (g := G) rfl _ _ hi
 rwa [Addr.add_lit, Nat.zero_add] at this
theorem Ct.free {base G : Nat} {xs : List Value} {W : World} (h : Ct base G xs W) (i : Nat) : W.frozen? ⟨G, i, none⟩ = false := own_free h.own
theorem Ct.lt {base G : Nat} {xs : List Value} {W : World} (h : Ct base G xs W) : base ≤ G ∧ G < W.heap.size := h.own.lt _ rfl
theorem Ct.ne {base G q : Nat} {xs : List Value} {W : World} {c : Array Value} {T : TypeId} (h : Ct base G xs W) (hq : W.heap[q]? = some (.cells c T (0, 0))) (hT : T ≠ 3) : G ≠ q := by
 rintro rfl
 obtain ⟨cur, hc, _⟩ := h.row
 rw [hq] at hc
 simp only [Option.some.injEq, Obj.cells.injEq] at hc
 exact hT hc.2.1
theorem Xt.cnt {base G B i : Nat} {S : List tb.Sym} {R : List se.Row} {vs vr u : Value} {xs : List Value} {W : World} (h : Xt G S R vs vr B W) (hc : Ct base G xs W) : Xt G S R vs vr B (W.setCell ⟨G, i, none⟩ u) :=
 Xt.keep ⟨h.ser, h.rb, h.rx⟩ hc.off (by rw [World.size_setCell]; exact Nat.le_refl _) (fun _ _ hb => heap_far hb.symm) (by rw [heap_far (hc.ne h.row (by decide))]; exact h.row)
theorem Xt.store {G B q : Nat} {S S' : List tb.Sym} {R R' : List se.Row} {vs vr vs' vr' : Value} {W : World} (h : Xt G S R vs vr B W) (h' : Xt G S' R' vs' vr' q W) : Xt G S' R' vs' vr' B (((W.setCell ⟨B, 0, none⟩ vs').setCell ⟨B, 1, none⟩ (.int .i64 24000)).setCell ⟨B, 2, none⟩ vr') := by
 obtain ⟨a, n, c, a2, n2, c2, rfl, rfl⟩ := h.ser.vals
 exact Xt.keep ⟨h'.ser, h'.rb, h'.rx⟩ (off_box h.row) (by rw [set3_size]; exact Nat.le_refl _) (fun b _ hb => set3_far hb.symm) (set3_row h.row)
theorem Xt.other {G B q n1 c1 n2 c2 : Nat} {a1 a2 : Option Addr} {z : Int} {S : List tb.Sym} {R : List se.Row} {vs vr x y u : Value} {W : World} (h : Xt G S R vs vr B W) (hq : W.heap[q]? = some (.cells #[.slice a1 n1 c1, .int .i64 z, .slice a2 n2 c2] 28 (0, 0))) (hne : q ≠ B) : Xt G S R vs vr B (((W.setCell ⟨q, 0, none⟩ x).setCell ⟨q, 1, none⟩ y).setCell ⟨q, 2, none⟩ u) :=
 Xt.keep ⟨h.ser, h.rb, h.rx⟩ (off_box hq) (by rw [set3_size]; exact Nat.le_refl _) (fun b _ hb => set3_far hb.symm) (by rw [set3_far hne]; exact h.row)
def cn (R : List se.Row) (i : Nat) : Int := if i < 6 then se.cntR R (nlab i) else 0
def cnl (f : Nat → Int) : List Value := (List.range 7).map fun i => .int .i64 (f i)
theorem cnl_get (f : Nat → Int) {i : Nat} (h : i < 7) : (cnl f)[i]? = some (.int .i64 (f i)) := by simp [cnl, h]
theorem cnl_set (f : Nat → Int) {i : Nat} (z : Int) : (cnl f).set i (.int .i64 z) = cnl (fun j => if j = i then z else f j) := by
 refine List.ext_getElem (by simp [cnl]) fun j h1 h2 => ?_
 rw [List.getElem_set]
 simp only [cnl, List.getElem_map, List.getElem_range]
 by_cases h : i = j
 ·
  rw [if_pos h, if_pos h.symm]
 ·
  rw [if_neg h, if_neg (fun e => h e.symm)]
theorem cnl_congr {f g : Nat → Int} (h : ∀ i, i < 7 → f i = g i) : cnl f = cnl g := by
 unfold cnl
 exact List.map_congr_left fun i hi => by rw [h i (List.mem_range.1 hi)]
theorem nam_inj : ∀ i, i < 7 → ∀ j, j < 7 → nam i = nam j → i = j := by decide
theorem nam6_not (l : List Lab) : lm.textF l ≠ (0, nam 6) := fun hl => by
 obtain ⟨_, h2⟩ := lm.text_iff.1 hl
 have h3 := congrArg kit.bytes h2
 rw [kit.bytes_str _ (lm.textB_lt l)] at h3
 have h4 : kit.bytes (nam 6) = [120] := by decide +kernel
 rw [h4] at h3
 unfold lm.textB at h3
 simp at h3
theorem cn_put {S : List tb.Sym} {R : List se.Row} {i : Nat} (h : se.Ok S R) (hi : i < 6) (h0 : (se.put S R (nres i)).2.2.2 = 0) (j : Nat) : cn (se.put S R (nres i)).2.1 j = if j = i then cn R i + 1 else cn R j := by
 have hn : nres i = (0, nlab i) := if_pos hi
 rw [hn] at h0 ⊢
 unfold cn
 by_cases hj : j < 6
 ·
  rw [if_pos hj, if_pos hj, if_pos hi, se.cntR_put h (se.nlab_canon hi) h0]
  by_cases e : j = i
  ·
   rw [if_pos e, e, if_pos rfl]
  ·
   rw [if_neg e, if_neg (fun e2 => e ?_)]; omega
   have h1 := nlab_text j hj
   have h2 := nlab_text i hi
   rw [e2, h2] at h1
   have h3 : nam i = nam j := (Prod.mk.inj h1).2
   exact nam_inj j (by omega) i (by omega) h3.symm
 ·
  rw [if_neg hj, if_neg hj, if_neg (by omega)]
theorem cn_drop {S : List tb.Sym} {R : List se.Row} {id : Int} (h : se.Ok S R) {j : Nat} (hj : j < 7) : cn (se.drop S R id).2.1 j = if se.used R id = true ∧ nam j = rtext R id then cn R j - 1 else cn R j := by
 by_cases hu : se.used R id = true
 ·
  have hus : 0 ≤ id ∧ id < (R.length : Int) ∧ 1 ≤ (se.at_ R id.toNat).2 := of_decide_eq_true hu
  have hcan := canon_text ((h.row id.toNat (by omega)).2.2.2 (by omega))
  have hrt : rtext R id = kit.str (lm.textB (se.at_ R id.toNat).1) := by unfold rtext; rw [if_pos hu]
  rw [← hrt] at hcan
  unfold cn
  by_cases h6 : j < 6
  ·
   rw [if_pos h6, if_pos h6, se.cntR_drop h]
   by_cases e : nlab j = (se.at_ R id.toNat).1
   ·
    have e2 : nam j = rtext R id := by
     have h1 := nlab_text j h6
     rw [e, hcan] at h1
     exact (Prod.mk.inj h1).2.symm
    rw [if_pos ⟨hu, e⟩, if_pos ⟨hu, e2⟩]
   ·
    rw [if_neg (fun hh => e hh.2), if_neg (fun hh => e ?_)]; omega
    have h1 := nlab_text j h6
    rw [hh.2] at h1
    exact lm.text_inj h1 hcan
  ·
   obtain rfl : j = 6 := by omega
   rw [if_neg h6, if_neg h6, if_neg (fun hh => ?_)]
   rw [← hh.2] at hcan
   exact nam6_not _ hcan
 ·
  rw [if_neg (fun hh => hu hh.1)]
  unfold cn
  split
  ·
   rw [se.cntR_drop h, if_neg (fun hh => hu hh.1)]; omega
  ·
   rfl
theorem cn_bd {k : Nat} {S : List tb.Sym} {R : List se.Row} (h : se.Pl k S R) (j : Nat) : 0 ≤ cn R j ∧ cn R j ≤ k := by
 unfold cn
 split
 ·
  unfold se.cntR
  split
  ·
   rename_i hf
   have := h.rf _ hf
   have := (h.ok.row _ hf).1
   omega
  ·
   omega
 ·
  omega
theorem pl_mono {k m : Nat} {S : List tb.Sym} {R : List se.Row} (h : se.Pl k S R) (hk : k ≤ m) : se.Pl m S R :=
 ⟨h.ok, h.am, Nat.le_trans h.rl hk, Nat.le_trans h.sl (by omega), fun j hj => by have := h.rf j hj; omega⟩
theorem pl_put {k : Nat} {S : List tb.Sym} {R : List se.Row} {i : Nat} (h : se.Pl k S R) (hk : k ≤ 60) (hi : i < 7) : se.Pl (k + 1) (se.put S R (nres i)).1 (se.put S R (nres i)).2.1 ∧ (se.put S R (nres i)).2.2.2 = (if i < 6 then 0 else 8) ∧ ∀ j, cn (se.put S R (nres i)).2.1 j = if j = i ∧ i < 6 then cn R i + 1 else cn R j := by
 by_cases h6 : i < 6
 ·
  obtain ⟨h1, h2⟩ := h.put hk h6
  refine ⟨h2, by rw [h1, if_pos h6], fun j => ?_⟩
  rw [cn_put h.ok h6 h1]
  by_cases e : j = i
  ·
   rw [if_pos e, if_pos ⟨e, h6⟩]
  ·
   rw [if_neg e, if_neg (fun hh => e hh.1)]
 ·
  obtain rfl : i = 6 := by omega
  have hn : nres 6 = (3, []) := rfl
  have e : se.put S R (nres 6) = (S, R, 0, 8) := by rw [hn]; unfold se.put; rw [if_pos (by decide)]
  rw [e]
  exact ⟨pl_mono h (by omega), by rw [if_neg h6], fun j => by rw [if_neg (fun hh => h6 hh.2)]⟩
theorem names_row (w : World) : Calls Try.prog 9 #[] w fun e w' => ∃ b, e = .returned (.slice (some ⟨b, 0, none⟩) 7 7) ∧ w'.heap[b]? = some (.cells (cl.strs NM).toArray 9 (0, 0)) ∧ Below w.heap.size w w' := by
 go_enter Try.func9, Try.ntmps9
 go_wp2
 go_ret
 exact ⟨_, rfl, heap_new _ _ _, (Below.refl _ _).alloc (Nat.le_refl _) _⟩
theorem nm_get {k : Nat} (h : k < 7) : (cl.strs NM).toArray[k]? = some (.string (nam k)) := by
 rcases (by omega : k = 0 ∨ k = 1 ∨ k = 2 ∨ k = 3 ∨ k = 4 ∨ k = 5 ∨ k = 6) with rfl | rfl | rfl | rfl | rfl | rfl | rfl <;> rfl
theorem mid_step {f g : Nat → Int} {j : Nat} : cnl (fun i => if i < j + 1 then g i else f i) = (cnl (fun i => if i < j then g i else f i)).set j (.int .i64 (g j)) := by
 rw [cnl_set]
 refine cnl_congr fun i _ => ?_
 by_cases h : i = j
 ·
  subst h; rw [if_pos rfl, if_pos (Nat.lt_succ_self _)]
 ·
  rw [if_neg h]
  by_cases h2 : i < j
  ·
   rw [if_pos h2, if_pos (by omega)]
  ·
   rw [if_neg h2, if_neg (by omega)]
end Go.Proofs.Ytegjpiggjcfoaaa
