/- What the document's Decode says, as a plain function, and that it says so just of right blocks. -/
import Derived.Test.YtniphmfkccaccaaBlkRight
namespace Go.Proofs.Ytniphmfkccaccaa.bm

def las (L : List Int) : Int := L.getD (L.length - 1) 0
def oneF (B : List Nat) (x a : Int) : Nat → Option (List Int × Int)
  | 0 => if 0 ≤ x ∧ x ≤ 1099511627776 then some ([x], a) else none
  | j + 1 => match oneF B x a j with
    | none => none
    | some (L, p) => if (vm.get B p).2.2 = 0 ∧ ((vm.get B p).1 : Int) ≤ 1099511627775 - las L then some (L ++ [las L + (vm.get B p).1 + 1], ((vm.get B p).2.1 : Int)) else none
theorem one_none {B : List Nat} {x a : Int} {j : Nat} (h : oneF B x a j = none) : ∀ i, oneF B x a (j + i) = none := by
  intro i
  induction i with
  | zero => exact h
  | succ i ih => rw [← Nat.add_assoc, oneF, ih]
theorem one_bad {B : List Nat} {x a : Int} (h : ¬ (0 ≤ x ∧ x ≤ 1099511627776)) (j : Nat) : oneF B x a j = none := by
  have := one_none (B := B) (a := a) (x := x) (j := 0) (by rw [oneF, if_neg h]) j
  rwa [Nat.zero_add] at this
theorem one_step {B : List Nat} {x a p : Int} {j d q : Nat} {L : List Int} (h : oneF B x a j = some (L, p)) (hg : vm.get B p = (d, q, 0)) (hd : (d : Int) ≤ 1099511627775 - las L) : oneF B x a (j + 1) = some (L ++ [las L + d + 1], (q : Int)) := by
  rw [oneF, h]; simp only [hg]; rw [if_pos ⟨trivial, hd⟩]
theorem one_stop {B : List Nat} {x a p : Int} {j : Nat} {L : List Int} (h : oneF B x a j = some (L, p)) (hg : ¬ ((vm.get B p).2.2 = 0 ∧ ((vm.get B p).1 : Int) ≤ 1099511627775 - las L)) (i : Nat) : oneF B x a (j + 1 + i) = none := by
  refine one_none ?_ i
  rw [oneF, h]; simp only; rw [if_neg hg]
theorem one_len {B : List Nat} {x a : Int} : ∀ j L p, oneF B x a j = some (L, p) → L.length = j + 1 ∧ 0 ≤ las L ∧ las L ≤ 1099511627776 := by
  intro j
  induction j with
  | zero =>
    intro L p h
    rw [oneF] at h
    split at h
    · rename_i hx
      simp only [Option.some.injEq, Prod.mk.injEq] at h
      obtain ⟨rfl, rfl⟩ := h
      exact ⟨rfl, hx⟩
    · cases h
  | succ j ih =>
    intro L p h
    rw [oneF] at h
    cases ho : oneF B x a j with
    | none => rw [ho] at h; cases h
    | some r =>
      obtain ⟨L0, p0⟩ := r
      rw [ho] at h
      simp only at h
      split at h
      · rename_i hx
        simp only [Option.some.injEq, Prod.mk.injEq] at h
        obtain ⟨rfl, rfl⟩ := h
        obtain ⟨h1, h2, h3⟩ := ih _ _ ho
        have e : las (L0 ++ [las L0 + ((vm.get B p0).1 : Int) + 1]) = las L0 + ((vm.get B p0).1 : Int) + 1 := by simp [las, List.getD]
        rw [List.length_append, e]
        exact ⟨by rw [h1]; rfl, by omega, by omega⟩
      · cases h

theorem dat_congr {l m : List Int} : ∀ k, (∀ i, i < k → l.getD i 0 = m.getD i 0) → dat l k = dat m k := by
  intro k
  induction k with
  | zero => intro _; rfl
  | succ k ih =>
    intro h
    have h1 := ih (fun i hi => h i (by omega))
    by_cases e : k % 16 = 0
    · rw [dat_head e, dat_head e, h1]
    · rw [dat_next e, dat_next e, h1]
      unfold gap
      rw [h k (by omega), h (k - 1) (by omega)]
theorem skp_congr {l m : List Int} : ∀ k, (∀ i, i < k → l.getD i 0 = m.getD i 0) → skp l k = skp m k := by
  intro k
  induction k with
  | zero => intro _; rfl
  | succ k ih =>
    intro h
    have h1 := ih (fun i hi => h i (by omega))
    by_cases e : k % 16 = 0
    · rw [skp_head e, skp_head e, h1, h k (by omega), dat_congr k (fun i hi => h i (by omega))]
    · rw [skp_next e, skp_next e, h1]
theorem rise_congr {l m : List Int} {k : Nat} (h : ∀ i, i < k → l.getD i 0 = m.getD i 0) (hr : Rise l k) : Rise m k := by
  intro j hj
  rw [← h j hj]
  refine ⟨(hr j hj).1, (hr j hj).2.1, fun h0 => ?_⟩
  rw [← h (j - 1) (by omega)]
  exact (hr j hj).2.2 h0
theorem getD_app1 {K L : List Int} {i : Nat} (h : i < K.length) : (K ++ L).getD i 0 = K.getD i 0 := by simp only [List.getD]; rw [List.getElem?_append_left h]
theorem getD_app2 {K L : List Int} (i : Nat) : (K ++ L).getD (K.length + i) 0 = L.getD i 0 := by simp only [List.getD]; rw [List.getElem?_append_right (by omega), Nat.add_sub_cancel_left]

theorem one_sound {B : List Nat} (hB : ∀ x ∈ B, x < 256) {x : Int} {a : Nat} : ∀ j, j < 16 → ∀ L p, oneF B x a j = some (L, p) →
    L.length = j + 1 ∧ L.getD 0 0 = x ∧ Rise L (j + 1) ∧ p = ((a + (dat L (j + 1)).length : Nat) : Int) ∧ ∃ r, B.drop a = dat L (j + 1) ++ r := by
  intro j
  induction j with
  | zero =>
    intro _ L p h
    rw [oneF] at h
    split at h
    · rename_i hx
      simp only [Option.some.injEq, Prod.mk.injEq] at h
      obtain ⟨rfl, rfl⟩ := h
      refine ⟨rfl, rfl, rise_succ (rise_zero _) hx.1 hx.2 (fun h => absurd h (by omega)), ?_, B.drop a, ?_⟩
      · rw [dat_head (by decide)]; rfl
      · rw [dat_head (by decide)]; rfl
    · cases h
  | succ j ih =>
    intro hj L p h
    rw [oneF] at h
    cases ho : oneF B x a j with
    | none => rw [ho] at h; cases h
    | some r0 =>
      obtain ⟨L0, p0⟩ := r0
      rw [ho] at h
      simp only at h
      split at h
      · rename_i hx
        simp only [Option.some.injEq, Prod.mk.injEq] at h
        obtain ⟨rfl, rfl⟩ := h
        obtain ⟨h1, h2, h3, rfl, r, h5⟩ := ih (by omega) _ _ ho
        have hlas : las L0 = L0.getD j 0 := by unfold las; rw [h1]; rfl
        have hl0 := h3 j (by omega)
        rw [← hlas] at hl0
        rcases vm.get_cases B ((a + (dat L0 (j + 1)).length : Nat) : Int) hB with ⟨e, he, h6, _⟩ | ⟨d, a', ha', he, hd, ht, hle⟩
        · rw [he] at hx; have := hx.1; simp only at this; omega
        · have ha2 : a' = a + (dat L0 (j + 1)).length := by omega
          subst ha2
          rw [he] at hx ⊢
          simp only at hx ⊢
          have hcg : ∀ i, i < j + 1 → L0.getD i 0 = (L0 ++ [las L0 + (d : Int) + 1]).getD i 0 := fun i hi => (getD_app1 (by omega)).symm
          have hlst : (L0 ++ [las L0 + (d : Int) + 1]).getD (j + 1) 0 = las L0 + (d : Int) + 1 := by rw [← h1]; exact (getD_app2 0)
          have hprv : (L0 ++ [las L0 + (d : Int) + 1]).getD j 0 = las L0 := by rw [← hcg j (by omega), hlas]
          have hgap : gap (L0 ++ [las L0 + (d : Int) + 1]) (j + 1) = d := by
            unfold gap
            rw [Nat.add_sub_cancel, hlst, hprv]; omega
          have hdat : dat (L0 ++ [las L0 + (d : Int) + 1]) (j + 1 + 1) = dat L0 (j + 1) ++ vm.enc d := by
            rw [dat_next (by omega), hgap, ← dat_congr (j + 1) hcg]
          refine ⟨by rw [List.length_append, h1]; rfl, by rw [← hcg 0 (by omega)]; exact h2, ?_, ?_, ?_⟩
          · refine rise_succ (rise_congr hcg h3) ?_ ?_ ?_
            · rw [hlst]; omega
            · rw [hlst]; omega
            · intro _; rw [Nat.add_sub_cancel, hlst, hprv]; omega
          · rw [hdat, List.length_append]; omega
          · have hr : B.drop (a + (dat L0 (j + 1)).length) = r := by rw [← List.drop_drop, h5, List.drop_left]
            rw [hr] at ht
            refine ⟨r.drop (vm.enc d).length, ?_⟩
            rw [hdat, h5, List.append_assoc]
            congr 1
            conv => lhs; rw [← List.take_append_drop (vm.enc d).length r]
            rw [ht]
      · cases h
theorem dat_cat {K L : List Int} {k : Nat} (hk : K.length = 16 * k) : ∀ j, j ≤ 16 → dat (K ++ L) (16 * k + j) = dat K (16 * k) ++ dat L j := by
  intro j
  induction j with
  | zero =>
    intro _
    rw [Nat.add_zero, dat, List.append_nil]
    exact dat_congr _ (fun i hi => getD_app1 (by omega))
  | succ j ih =>
    intro hj
    have h := ih (by omega)
    rw [← Nat.add_assoc]
    by_cases e : j = 0
    · subst e
      rw [dat_head (l := K ++ L) (k := 16 * k + 0) (by omega), h, dat_head (by decide)]
    · rw [dat_next (by omega), dat_next (by omega), h, List.append_assoc]
      congr 2
      unfold gap
      rw [← hk, getD_app2, show K.length + j - 1 = K.length + (j - 1) by omega, getD_app2]
theorem skp_cat {K L : List Int} {k : Nat} (hk : K.length = 16 * k) : ∀ j, j < 16 → skp (K ++ L) (16 * k + (j + 1)) = skp K (16 * k) ++ [(L.getD 0 0, ((dat K (16 * k)).length : Int))] := by
  intro j
  induction j with
  | zero =>
    intro _
    rw [Nat.zero_add, skp_head (by omega), skp_congr (l := K ++ L) (m := K) (16 * k) (fun i hi => getD_app1 (by omega)), dat_congr (l := K ++ L) (m := K) (16 * k) (fun i hi => getD_app1 (by omega))]
    rw [← hk]
    have := getD_app2 (K := K) (L := L) 0
    rw [Nat.add_zero] at this
    rw [this]
  | succ j ih =>
    intro hj
    rw [show 16 * k + (j + 1 + 1) = 16 * k + (j + 1) + 1 by omega, skp_next (by omega), ih (by omega)]

def decF (B : List Nat) (n : Nat) (S : List (Int × Int)) : Nat → Option (List Int × Int)
  | 0 => some ([], 0)
  | k + 1 => match decF B n S k with
    | none => none
    | some (K, p) => if (S.getD k (0, 0)).2 = p ∧ (0 < K.length → las K < (S.getD k (0, 0)).1) then
        match oneF B (S.getD k (0, 0)).1 p (min 16 (n - 16 * k) - 1) with
        | none => none
        | some (L, q) => some (K ++ L, q)
      else none
theorem dec_none {B : List Nat} {n : Nat} {S : List (Int × Int)} {j : Nat} (h : decF B n S j = none) : ∀ i, decF B n S (j + i) = none := by
  intro i
  induction i with
  | zero => exact h
  | succ i ih => rw [← Nat.add_assoc, decF, ih]
theorem dec_stop {B : List Nat} {n : Nat} {S : List (Int × Int)} {j : Nat} {K : List Int} {p : Int} (h : decF B n S j = some (K, p)) (hs : ¬ ((S.getD j (0, 0)).2 = p ∧ (0 < K.length → las K < (S.getD j (0, 0)).1))) (i : Nat) : decF B n S (j + 1 + i) = none := by
  refine dec_none ?_ i
  rw [decF, h]; simp only; rw [if_neg hs]
theorem dec_fall {B : List Nat} {n : Nat} {S : List (Int × Int)} {j : Nat} {K : List Int} {p : Int} (h : decF B n S j = some (K, p)) (hs : (S.getD j (0, 0)).2 = p ∧ (0 < K.length → las K < (S.getD j (0, 0)).1)) (ho : oneF B (S.getD j (0, 0)).1 p (min 16 (n - 16 * j) - 1) = none) (i : Nat) : decF B n S (j + 1 + i) = none := by
  refine dec_none ?_ i
  rw [decF, h]; simp only; rw [if_pos hs, ho]
theorem dec_step {B : List Nat} {n : Nat} {S : List (Int × Int)} {j : Nat} {K L : List Int} {p q : Int} (h : decF B n S j = some (K, p)) (hs : (S.getD j (0, 0)).2 = p ∧ (0 < K.length → las K < (S.getD j (0, 0)).1)) (ho : oneF B (S.getD j (0, 0)).1 p (min 16 (n - 16 * j) - 1) = some (L, q)) : decF B n S (j + 1) = some (K ++ L, q) := by
  rw [decF, h]; simp only; rw [if_pos hs, ho]

theorem dec_sound {B : List Nat} (hB : ∀ x ∈ B, x < 256) {n : Nat} {S : List (Int × Int)} : ∀ k, 16 * k < n + 16 → ∀ K p, decF B n S k = some (K, p) →
    K.length = min (16 * k) n ∧ Rise K K.length ∧ p = (((dat K K.length).length : Nat) : Int) ∧ (∃ r, B = dat K K.length ++ r) ∧ skp K K.length = (List.range k).map (fun i => S.getD i (0, 0)) := by
  intro k
  induction k with
  | zero =>
    intro _ K p h
    rw [decF] at h
    simp only [Option.some.injEq, Prod.mk.injEq] at h
    obtain ⟨rfl, rfl⟩ := h
    exact ⟨by simp, rise_zero _, rfl, ⟨B, rfl⟩, rfl⟩
  | succ k ih =>
    intro hk K p h
    rw [decF] at h
    cases hd : decF B n S k with
    | none => rw [hd] at h; cases h
    | some r0 =>
      obtain ⟨K0, p0⟩ := r0
      rw [hd] at h
      simp only at h
      split at h
      · rename_i hs
        cases ho : oneF B (S.getD k (0, 0)).1 p0 (min 16 (n - 16 * k) - 1) with
        | none => rw [ho] at h; cases h
        | some r1 =>
          obtain ⟨L, q⟩ := r1
          rw [ho] at h
          simp only [Option.some.injEq, Prod.mk.injEq] at h
          obtain ⟨rfl, rfl⟩ := h
          obtain ⟨h1, h2, rfl, ⟨r, h4⟩, h5⟩ := ih (by omega) _ _ hd
          have hK : K0.length = 16 * k := by omega
          obtain ⟨m, hm⟩ : ∃ m, m + 1 = min 16 (n - 16 * k) := ⟨min 16 (n - 16 * k) - 1, by omega⟩
          rw [← hm, Nat.add_sub_cancel] at ho
          obtain ⟨g1, g2, g3, g4, r', g5⟩ := one_sound hB m (by omega) _ _ ho
          have hlen : (K0 ++ L).length = 16 * k + (m + 1) := by rw [List.length_append, hK, g1]
          have hdat := dat_cat (K := K0) (L := L) hK (m + 1) (by omega)
          rw [hK] at h2 h4 h5 hs g4 g5
          have hr : B.drop (dat K0 (16 * k)).length = r := by rw [h4, List.drop_left]
          rw [hr] at g5
          rw [hlen, hdat]
          refine ⟨by omega, ?_, ?_, ⟨r', by rw [List.append_assoc, ← g5]; exact h4⟩, ?_⟩
          · intro j hj
            by_cases hjk : j < 16 * k
            · rw [getD_app1 (by omega)]
              refine ⟨(h2 j hjk).1, (h2 j hjk).2.1, fun h0 => ?_⟩
              rw [getD_app1 (by omega)]
              exact (h2 j hjk).2.2 h0
            · obtain ⟨i, rfl⟩ : ∃ i, j = K0.length + i := ⟨j - K0.length, by omega⟩
              rw [getD_app2]
              refine ⟨(g3 i (by omega)).1, (g3 i (by omega)).2.1, fun h0 => ?_⟩
              by_cases hi : i = 0
              · subst hi
                rw [g2, getD_app1 (by omega), Nat.add_zero]
                have := hs.2 (by omega)
                unfold las at this
                rw [hK] at this ⊢
                exact this
              · rw [show K0.length + i - 1 = K0.length + (i - 1) by omega, getD_app2]
                exact (g3 i (by omega)).2.2 (by omega)
          · rw [g4, List.length_append]
          · rw [skp_cat hK m (by omega), h5, List.range_succ, List.map_append, g2]
            congr 1
            simp only [List.map_cons, List.map_nil]
            congr 1
            exact Prod.ext rfl hs.1.symm
      · cases h

theorem las_take {l : List Int} {s j : Nat} (h : s + j < l.length) : las ((l.drop s).take (j + 1)) = l.getD (s + j) 0 := by
  unfold las
  have hl : ((l.drop s).take (j + 1)).length = j + 1 := by rw [List.length_take, List.length_drop]; omega
  rw [hl, Nat.add_sub_cancel]
  simp [List.getD]
theorem one_comp {l : List Int} (hr : Rise l l.length) {s : Nat} (hs : s % 16 = 0) : ∀ j, j < 16 → s + j < l.length →
    oneF (dat l l.length) (l.getD s 0) (((dat l s).length : Nat) : Int) j = some ((l.drop s).take (j + 1), (((dat l (s + j + 1)).length : Nat) : Int)) := by
  intro j
  induction j with
  | zero =>
    intro _ h
    have := hr s (by omega)
    rw [oneF, if_pos ⟨this.1, this.2.1⟩, take_one (by omega), Nat.add_zero, dat_head hs]
  | succ j ih =>
    intro hj h
    have h0 := ih (by omega) (by omega)
    have hg := dat_get hr h (by omega : ¬ (s + (j + 1)) % 16 = 0)
    have hgl := (gap_le (rise_le hr (by omega : s + (j + 1) + 1 ≤ l.length)) (by omega)).2
    have hb := (hr (s + (j + 1)) h).2.1
    have hls := las_take (l := l) (s := s) (j := j) (by omega)
    rw [show s + (j + 1) - 1 = s + j by omega] at hgl
    rw [one_step h0 hg (by rw [hls]; omega), hls]
    rw [take_more (l := l) (s := s) (j := j + 1) (by omega)]
    congr 3
    · congr 1; omega
theorem dec_comp {l : List Int} (hr : Rise l l.length) : ∀ k, 16 * k < l.length + 16 →
    decF (dat l l.length) l.length (skp l l.length) k = some (l.take (16 * k), (((dat l (min (16 * k) l.length)).length : Nat) : Int)) := by
  intro k
  induction k with
  | zero => intro _; rw [decF, Nat.mul_zero, List.take_zero, Nat.zero_min]; rfl
  | succ k ih =>
    intro hk
    have h0 := ih (by omega)
    rw [Nat.min_eq_left (by omega : 16 * k ≤ l.length)] at h0
    obtain ⟨m, hm⟩ : ∃ m, m + 1 = min 16 (l.length - 16 * k) := ⟨min 16 (l.length - 16 * k) - 1, by omega⟩
    have hsk := skp_get l l.length k (by omega)
    have ho := one_comp hr (s := 16 * k) (by omega) m (by omega) (by omega)
    have hst := dec_step (B := dat l l.length) (n := l.length) (S := skp l l.length) (j := k) h0 (L := (l.drop (16 * k)).take (m + 1)) (q := (((dat l (16 * k + m + 1)).length : Nat) : Int)) ⟨by rw [hsk], fun hp => ?_⟩ (by rw [hsk, ← hm, Nat.add_sub_cancel]; exact ho)
    · rw [hst, take_next hm, show 16 * k + m + 1 = min (16 * (k + 1)) l.length by omega]
    · rw [hsk]
      have hlt : (l.take (16 * k)).length = 16 * k := by rw [List.length_take]; omega
      rw [hlt] at hp
      have h3 := (hr (16 * k) (by omega)).2.2 (by omega)
      unfold las
      rw [hlt]
      have : (l.take (16 * k)).getD (16 * k - 1) 0 = l.getD (16 * k - 1) 0 := by
        simp only [List.getD]
        rw [List.getElem?_take_of_lt (by omega)]
      rw [this]; exact h3
theorem range_get (S : List (Int × Int)) : (List.range S.length).map (fun i => S.getD i (0, 0)) = S := by
  refine List.ext_getElem (by simp) fun i h1 h2 => ?_
  simp [List.getD, h2]
end Go.Proofs.Ytniphmfkccaccaa.bm
namespace Go.Proofs.Ytniphmfkccaccaa
theorem good_dec {n : Nat} {D : ByteArray} {S : List (Int × Int)} {K : List Int} (hn : n ≤ 4000) (hq : (n + 15) / 16 = S.length) :
    bm.decF (kit.bytes D) n S S.length = some (K, (((kit.bytes D).length : Nat) : Int)) → GoodK (n : Int) D S K := by
  intro h
  obtain ⟨h1, h2, h3, ⟨r, h4⟩, h5⟩ := bm.dec_sound (kit.bytes_lt D) S.length (by omega) _ _ h
  have hK : K.length = n := by omega
  have hr : r = [] := by
    have := congrArg List.length h4
    rw [List.length_append] at this
    exact List.eq_nil_of_length_eq_zero (by omega)
  subst hr
  rw [List.append_nil] at h4
  refine ⟨by omega, h2, by rw [hK], ?_, ?_⟩
  · rw [← h4, kit.str_bytes]
  · rw [h5, bm.range_get]
theorem dec_good {n : Nat} {D : ByteArray} {S : List (Int × Int)} {K : List Int} (h : GoodK (n : Int) D S K) :
    (n + 15) / 16 = S.length ∧ bm.decF (kit.bytes D) n S S.length = some (K, (((kit.bytes D).length : Nat) : Int)) := by
  obtain ⟨h1, h2, h3, rfl, rfl⟩ := h
  have hn : n = K.length := by omega
  subst hn
  have hl := bm.skp_len K K.length
  refine ⟨hl.symm, ?_⟩
  rw [hl, kit.bytes_str _ (bm.dat_byte K _), bm.dec_comp h2 _ (by omega), List.take_of_length_le (by omega), Nat.min_eq_right (by omega)]
theorem good_one {c : Int} {D : ByteArray} {S : List (Int × Int)} {K K' : List Int} (h : GoodK c D S K) (h' : GoodK c D S K') : K = K' := by
  obtain ⟨n, rfl⟩ : ∃ n : Nat, c = (n : Int) := ⟨K.length, h.2.2.1⟩
  have a := (dec_good h).2
  have b := (dec_good h').2
  rw [a] at b
  simp only [Option.some.injEq, Prod.mk.injEq] at b
  exact b.1
end Go.Proofs.Ytniphmfkccaccaa
