/- dot: what the document's raise, put lay; no walk. -/
import Derived.Test.YtdcmoeklldkccaaDotBox
namespace Go.Proofs.Ytdcmoeklldkccaa.dm
/-- up to a number for one node, as before for the others -/
def raiseK (v : List Dot) (node n : Int) : Int → Int := fun m => if m = node then max n (kn v node) else kn v m
theorem run_others {K : Int → Int} {node : Int} : ∀ (l : List Dot), (∀ d ∈ l, d.1 ≠ node → K d.1 + 2 ≤ d.2) → ∀ m, m ≠ node → (run K l).K m = K m := by
  have gen : ∀ (l : List Dot) (s : St), (∀ d ∈ l, d.1 ≠ node → K d.1 + 2 ≤ d.2) → (∀ m, m ≠ node → s.K m = K m) → ∀ m, m ≠ node → (l.foldl step s).K m = K m := by
    intro l
    induction l with
    | nil => intro s _ h m hm; exact h m hm
    | cons d r ih =>
      intro s h hs
      rw [List.foldl_cons]
      refine ih _ (fun x hx => h x (List.mem_cons_of_mem _ hx)) (fun m hm => ?_)
      unfold step
      split
      · exact hs m hm
      · split
        · rename_i e
          show (if m = d.1 then s.K m + 1 else s.K m) = K m
          by_cases hd : m = d.1
          · subst hd
            have h1 := h d List.mem_cons_self hm
            rw [hs _ hm] at e
            omega
          · rw [if_neg hd]; exact hs m hm
        · exact hs m hm
  intro l h
  exact gen l _ h (fun m _ => rfl)
theorem pair_lt_dless {l : List Dot} (h : l.Pairwise fun a b => a.1 < b.1) : l.Pairwise fun a b => dless a b = true :=
  h.imp fun {a b} hab => (dless_iff a b).2 (Or.inl hab)
/-- the vector that raise makes is the one that is laid -/
theorem raise_vec {c : Ctx} {node n : Int} (hv : ∀ d ∈ c.1, valid d = true) (hu : c.1.Pairwise fun a b => a.1 < b.1) (h0 : 0 ≤ node) (h1 : node < 16)
    (hc : ∀ d ∈ c.2, d.1 ≠ node → kn c.1 d.1 + 2 ≤ d.2) {V : List Dot} (hV : V.Pairwise fun a b => dless a b = true)
    (hm : ∀ d, d ∈ V ↔ (d ∈ c.1 ∧ d.1 ≠ node) ∨ (d = (node, (run (raiseK c.1 node n) c.2).K node) ∧ 0 < (run (raiseK c.1 node n) c.2).K node)) : V = layV (run (raiseK c.1 node n) c.2).K := by
  obtain ⟨K', hK'⟩ : ∃ K', K' = (run (raiseK c.1 node n) c.2).K := ⟨_, rfl⟩
  have ho : ∀ m, m ≠ node → K' m = kn c.1 m := fun m hmn => by
    rw [hK', run_others (node := node) c.2 (fun d hd hne => by unfold raiseK; rw [if_neg hne]; exact hc d hd hne) m hmn]
    unfold raiseK; rw [if_neg hmn]
  rw [← hK'] at hm ⊢
  have hmem : ∀ d, d ∈ V ↔ d ∈ layV K' := fun d => by
    rw [hm, layV_mem]
    constructor
    · rintro (⟨h2, h3⟩ | ⟨rfl, h3⟩)
      · have := (valid_iff d).1 (hv d h2)
        have hk := kn_mem hu h2
        rw [ho _ h3, hk]
        exact ⟨this.1, this.2.1, rfl, by omega⟩
      · exact ⟨h0, h1, rfl, h3⟩
    · rintro ⟨_, _, h4, h5⟩
      by_cases hn : d.1 = node
      · right
        rw [hn] at h4 h5
        exact ⟨Prod.ext hn h4, h5⟩
      · left
        rw [ho _ hn] at h4 h5
        rcases kn_cases c.1 d.1 with ⟨e, _⟩ | e
        · omega
        · rw [← h4] at e; exact ⟨e, hn⟩
  exact sorted_ext dless_irrefl (fun _ _ => dless_asymm) hV (pair_lt_dless (layV_up K')) hmem
theorem filter_take {p : Dot → Bool} {l : List Dot} {k : Nat} (h : k < l.length) : (l.take (k + 1)).filter p = (l.take k).filter p ++ (if p (l.getD k (0, 0)) = true then [l.getD k (0, 0)] else []) := by
  rw [take_snoc h, List.filter_append]
  congr 1
  by_cases hp : p (l.getD k (0, 0)) = true
  · rw [if_pos hp]; simp only [List.filter_cons, hp, if_true, List.filter_nil]
  · rw [if_neg hp]
    have : p (l.getD k (0, 0)) = false := by simpa using hp
    simp only [List.filter_cons, this, Bool.false_eq_true, if_false, List.filter_nil]
/-- a dot among rising ones, once -/
theorem put_same {l : List Dot} {k : Nat} {d : Dot} (hk : k < l.length) (he : l.getD k (0, 0) = d) : ∀ x, x ∈ l ↔ x ∈ l ∨ x = d := fun x =>
  ⟨Or.inl, fun h => h.elim id fun e => by rw [e, ← he]; simp [List.getD, hk]⟩
theorem put_new {l : List Dot} {k : Nat} {d : Dot} (hl : l.Pairwise fun a b => dless a b = true) (hk : k ≤ l.length) (h1 : ∀ j, j < k → dless (l.getD j (0, 0)) d = true) (h2 : k < l.length → dless (l.getD k (0, 0)) d = false ∧ l.getD k (0, 0) ≠ d) :
    (l.take k ++ ([d] ++ l.drop k)).Pairwise (fun a b => dless a b = true) ∧ ∀ x, x ∈ l.take k ++ ([d] ++ l.drop k) ↔ x ∈ l ∨ x = d := by
  have hta : ∀ x ∈ l.take k, dless x d = true := fun x hx => by
    obtain ⟨j, hj, e⟩ := List.getElem_of_mem hx
    rw [List.length_take] at hj
    have := h1 j (by omega)
    rw [List.getElem_take] at e
    have e2 : l.getD j (0, 0) = x := by simp [List.getD, show j < l.length by omega, e]
    rwa [e2] at this
  have hdr : ∀ x ∈ l.drop k, dless d x = true := fun x hx => by
    have hkl : k < l.length := by
      rcases Nat.lt_or_ge k l.length with h | h
      · exact h
      · rw [List.drop_of_length_le h] at hx; cases hx
    obtain ⟨h3, h4⟩ := h2 hkl
    have h5 : dless d (l.getD k (0, 0)) = true := (dless_total (x := d) (y := l.getD k (0, 0)) (fun e => h4 e.symm)).resolve_right (by rw [h3]; exact Bool.false_ne_true)
    rw [List.drop_eq_getElem_cons hkl] at hx
    have e2 : l.getD k (0, 0) = l[k] := by simp [List.getD, hkl]
    rcases List.mem_cons.1 hx with e | hx
    · rw [e, ← e2]; exact h5
    · have hp : (l.drop k).Pairwise (fun a b => dless a b = true) := hl.sublist (List.drop_sublist k l)
      rw [List.drop_eq_getElem_cons hkl] at hp
      have := (List.pairwise_cons.1 hp).1 x hx
      rw [← e2] at this
      exact dless_trans h5 this
  have hsp : ∀ x, x ∈ l ↔ x ∈ l.take k ∨ x ∈ l.drop k := fun x => by rw [← List.mem_append, List.take_append_drop]
  refine ⟨List.pairwise_append.2 ⟨hl.sublist (List.take_sublist k l), List.pairwise_append.2 ⟨List.pairwise_singleton _ _, hl.sublist (List.drop_sublist k l), fun a ha b hb => ?_⟩, fun a ha b hb => ?_⟩, fun x => ?_⟩
  · simp only [List.mem_cons, List.not_mem_nil, or_false] at ha
    rw [ha]; exact hdr b hb
  · rcases List.mem_append.1 hb with h | h
    · simp only [List.mem_cons, List.not_mem_nil, or_false] at h
      rw [h]; exact hta a ha
    · exact dless_trans (hta a ha) (hdr b h)
  · rw [List.mem_append, List.mem_append, hsp]
    simp only [List.mem_cons, List.not_mem_nil, or_false]
    constructor
    · rintro (h | h | h)
      · exact Or.inl (Or.inl h)
      · exact Or.inr h
      · exact Or.inl (Or.inr h)
    · rintro ((h | h) | h)
      · exact Or.inl h
      · exact Or.inr (Or.inr h)
      · exact Or.inr (Or.inl h)
end Go.Proofs.Ytdcmoeklldkccaa.dm
