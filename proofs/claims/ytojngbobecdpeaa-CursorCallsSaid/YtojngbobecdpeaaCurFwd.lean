/- cursors gone on with: what numbers they have then; how many there are. -/
import Derived.Test.YtojngbobecdpeaaCurLaw0
namespace Go.Proofs.Ytojngbobecdpeaa
open Go Go.RowKit Go.ChangeShapes at_ pm cl
namespace Cur
theorem drop_while : ∀ {l : List Int} {n : Int}, Inc l → l.drop (far n l) = l.filter (fun x => decide (n ≤ x))
  | [], _, _ => rfl
  | x :: r, n, hi => by
    have ih := drop_while (l := r) (n := n) (inc_tail hi)
    unfold far at ih ⊢
    rw [List.takeWhile_cons, List.filter_cons]
    by_cases hx : x < n
    · rw [decide_eq_true hx, decide_eq_false (by omega)]
      simp only [if_true, List.length_cons, List.drop_succ_cons, Bool.false_eq_true, if_false]
      exact ih
    · rw [decide_eq_false hx, decide_eq_true (by omega)]
      simp only [Bool.false_eq_true, if_false, if_true, List.length_nil, List.drop_zero]
      congr 1
      refine (List.filter_eq_self.2 (fun y hy => ?_)).symm
      have := inc_head hi y hy
      simp; omega
theorem fwd_right (n : Int) : ∀ (d : Nat) (c : Cur), right d c = true → right d (fwd n c) = true
  | 0, c, h => by cases c; simp [right] at h
  | d + 1, mk k l a ks, h => by
    rw [fwd_far]
    by_cases h1 : k = 1
    · subst h1
      obtain ⟨rfl, h0, ha, h4, hr⟩ := right_list h
      have hf := far_le n (l.drop a.toNat)
      rw [List.length_drop] at hf
      rw [right_eq, if_pos rfl, if_pos h0]
      simp [h4, hr]; omega
    · obtain ⟨hk, hk4, rfl, rfl, h20, hks⟩ := right_kids h1 h
      have hz : (if (0 : Int) ≤ 0 then (0 : Int) + (far n (([] : List Int).drop (0 : Int).toNat) : Int) else 0) = 0 := by simp [far]
      rw [hz]
      refine kids_right ?_ (by rw [List.length_map]; exact h20) (fun c hc => ?_)
      · rcases hk with e | e | e
        · exact Or.inl e
        · exact Or.inr (Or.inl e)
        · exact Or.inr (Or.inr ⟨e, by simpa using hk4 e⟩)
      · obtain ⟨c', hc', rfl⟩ := List.mem_map.1 hc
        exact fwd_right n d c' (hks c' hc')
theorem fwd_nums (n : Int) : ∀ (d : Nat) (c : Cur), right d c = true → nums (fwd n c) = (nums c).filter (fun x => decide (n ≤ x))
  | 0, c, h => by cases c; simp [right] at h
  | d + 1, mk k l a ks, h => by
    have hgd := right_gd (d + 1) _ (fwd_right n (d + 1) _ h)
    have hgd0 := right_gd (d + 1) _ h
    rw [fwd_far] at hgd ⊢
    by_cases h1 : k = 1
    · subst h1
      obtain ⟨rfl, h0, ha, h4, hr⟩ := right_list h
      rw [if_pos h0, nums_list, nums_list]
      have hi : Inc (l.drop a.toNat) := (gd_drop ⟨right_inc hr, right_mem hr⟩ _).1
      rw [← drop_while hi, List.drop_drop]
      congr 1
      omega
    · obtain ⟨hk, hk4, rfl, rfl, h20, hks⟩ := right_kids h1 h
      have hm : ∀ (x : Int) (c : Cur), c ∈ ks → (x ∈ nums (fwd n c) ↔ x ∈ nums c ∧ n ≤ x) := fun x c hc => by rw [fwd_nums n d c (hks c hc), List.mem_filter]; simp
      refine ext hgd.1 (inc_filter _ hgd0.1) (fun x => ?_)
      rw [List.mem_filter, decide_eq_true_eq]
      rcases hk with rfl | rfl | rfl
      · rw [nums_both, nums_both]
        cases ks with
        | nil => simp [allOf]
        | cons c0 r =>
          rw [allOf_mem (by simp), allOf_mem (by simp)]
          constructor
          · intro hx
            refine ⟨fun l hl => ?_, ?_⟩
            · obtain ⟨c, hc, rfl⟩ := List.mem_map.1 hl
              exact ((hm x c hc).1 (hx _ (List.mem_map.2 ⟨fwd n c, List.mem_map.2 ⟨c, hc, rfl⟩, rfl⟩))).1
            · exact ((hm x c0 (by simp)).1 (hx _ (List.mem_map.2 ⟨fwd n c0, List.mem_map.2 ⟨c0, by simp, rfl⟩, rfl⟩))).2
          · rintro ⟨hx, hn⟩ l hl
            obtain ⟨c', hc', rfl⟩ := List.mem_map.1 hl
            obtain ⟨c, hc, rfl⟩ := List.mem_map.1 hc'
            exact (hm x c hc).2 ⟨hx _ (List.mem_map.2 ⟨c, hc, rfl⟩), hn⟩
      · rw [nums_any, nums_any, mergeOf_mem, mergeOf_mem]
        constructor
        · rintro ⟨l, hl, hx⟩
          obtain ⟨c', hc', rfl⟩ := List.mem_map.1 hl
          obtain ⟨c, hc, rfl⟩ := List.mem_map.1 hc'
          obtain ⟨h2, h3⟩ := (hm x c hc).1 hx
          exact ⟨⟨_, List.mem_map.2 ⟨c, hc, rfl⟩, h2⟩, h3⟩
        · rintro ⟨⟨l, hl, hx⟩, hn⟩
          obtain ⟨c, hc, rfl⟩ := List.mem_map.1 hl
          exact ⟨_, List.mem_map.2 ⟨fwd n c, List.mem_map.2 ⟨c, hc, rfl⟩, rfl⟩, (hm x c hc).2 ⟨hx, hn⟩⟩
      · rw [nums_sub, nums_sub]
        cases ks with
        | nil => exact absurd rfl (hk4 rfl)
        | cons c0 r =>
          simp only [List.map_cons]
          unfold subOf
          rw [mem_minus, mem_minus, mergeOf_mem, mergeOf_mem, hm x c0 (by simp)]
          constructor
          · rintro ⟨⟨h2, h3⟩, h4⟩
            refine ⟨⟨h2, fun ⟨l, hl, hx⟩ => ?_⟩, h3⟩
            obtain ⟨c, hc, rfl⟩ := List.mem_map.1 hl
            exact h4 ⟨_, List.mem_map.2 ⟨fwd n c, List.mem_map.2 ⟨c, hc, rfl⟩, rfl⟩, (hm x c (by simp [hc])).2 ⟨hx, h3⟩⟩
          · rintro ⟨⟨h2, h4⟩, h3⟩
            refine ⟨⟨h2, h3⟩, fun ⟨l, hl, hx⟩ => ?_⟩
            obtain ⟨c', hc', rfl⟩ := List.mem_map.1 hl
            obtain ⟨c, hc, rfl⟩ := List.mem_map.1 hc'
            exact h4 ⟨_, List.mem_map.2 ⟨c, hc, rfl⟩, ((hm x c (by simp [hc])).1 hx).1⟩
mutual
/-- how big a cursor is -/
def sz : Cur → Nat
  | mk _ l _ ks => 1 + l.length + szs ks
def szs : List Cur → Nat
  | [] => 0
  | c :: r => sz c + szs r
end
theorem szs_eq : ∀ ks : List Cur, szs ks = (ks.map sz).sum
  | [] => by simp [szs]
  | c :: r => by simp [szs, szs_eq r]
theorem fold_any_len : ∀ (ls : List (List Int)) (z : List Int), (ls.foldl any z).length ≤ z.length + (ls.map List.length).sum
  | [], z => by simp
  | l :: r, z => by
    have := fold_any_len r (any z l)
    have h2 := any_le' z l
    rw [List.foldl_cons, List.map_cons, List.sum_cons]
    omega
theorem sum_le {ks : List Cur} {f g : Cur → Nat} (h : ∀ c ∈ ks, f c ≤ g c) : (ks.map f).sum ≤ (ks.map g).sum := by
  induction ks with
  | nil => simp
  | cons c r ih =>
    have h1 := h c (by simp)
    have h2 := ih (fun x hx => h x (by simp [hx]))
    simp only [List.map_cons, List.sum_cons]
    omega
theorem nums_le : ∀ (d : Nat) (c : Cur), right d c = true → (nums c).length ≤ sz c
  | 0, c, h => by cases c; simp [right] at h
  | d + 1, mk k l a ks, h => by
    rw [sz, szs_eq]
    by_cases h1 : k = 1
    · subst h1
      rw [nums_list, List.length_drop]; omega
    · obtain ⟨hk, hk4, rfl, rfl, h20, hks⟩ := right_kids h1 h
      have hs : (ks.map (fun c => (nums c).length)).sum ≤ (ks.map sz).sum := sum_le (fun c hc => nums_le d c (hks c hc))
      rcases hk with rfl | rfl | rfl
      · rw [nums_both]
        cases ks with
        | nil => simp [allOf]
        | cons c0 r =>
          have := foldb_le (r.map nums) (nums c0)
          simp only [List.map_cons, List.sum_cons] at hs ⊢
          show ((r.map nums).foldl both (nums c0)).length ≤ _
          omega
      · rw [nums_any]
        have := fold_any_len (ks.map nums) []
        rw [List.map_map] at this
        have e : (ks.map (List.length ∘ nums)).sum = (ks.map (fun c => (nums c).length)).sum := rfl
        rw [e] at this
        show ((ks.map nums).foldl any []).length ≤ _
        simp only [List.length_nil] at this
        omega
      · rw [nums_sub]
        cases ks with
        | nil => simp [subOf]
        | cons c0 r =>
          have := minus_le (nums c0) (mergeOf (r.map nums))
          simp only [List.map_cons, List.sum_cons] at hs ⊢
          show (minus (nums c0) (mergeOf (r.map nums))).length ≤ _
          omega
/-- gone on with so often -/
def stepN : Nat → Cur → Cur
  | 0, x => x
  | k + 1, x => match (stepN k x).now with | none => stepN k x | some y => fwd (y + 1) (stepN k x)
theorem stepN_right {x : Cur} (h : right 8 x = true) : ∀ k, right 8 (stepN k x) = true
  | 0 => h
  | k + 1 => by
    unfold stepN
    split
    · exact stepN_right h k
    · exact fwd_right _ 8 _ (stepN_right h k)
theorem tail_filter {y : Int} {r : List Int} (hi : Inc (y :: r)) : (y :: r).filter (fun x => decide (y + 1 ≤ x)) = r := by
  rw [List.filter_cons, decide_eq_false (by omega)]
  simp only [Bool.false_eq_true, if_false]
  refine List.filter_eq_self.2 (fun x hx => ?_)
  have := inc_head hi x hx
  simp; omega
theorem now_head {x : Cur} (h : right 8 x = true) : now x = (nums x)[0]? := by
  unfold now; rw [if_pos h]; exact lst_zero (right_gd 8 x h)
theorem stepN_nums {x : Cur} (h : right 8 x = true) : ∀ k, nums (stepN k x) = (nums x).drop k
  | 0 => rfl
  | k + 1 => by
    have ih := stepN_nums h k
    have hr := stepN_right h k
    have hg := right_gd 8 _ hr
    unfold stepN
    have hnow := now_head hr
    rw [ih] at hnow hg
    cases hd : (nums x).drop k with
    | nil =>
      rw [hd] at hnow ih
      simp only [List.getElem?_nil] at hnow
      rw [hnow]
      simp only
      rw [ih, ← List.drop_drop, hd]
      simp
    | cons y r =>
      rw [hd] at hnow ih hg
      simp only [List.getElem?_cons_zero] at hnow
      rw [hnow]
      simp only
      rw [fwd_nums _ 8 _ hr, ih, tail_filter hg.1]
      have : (nums x).drop (k + 1) = ((nums x).drop k).drop 1 := by rw [List.drop_drop]
      rw [this, hd]; rfl
theorem stepN_now {x : Cur} (h : right 8 x = true) (k : Nat) : now (stepN k x) = (nums x)[k]? := by
  rw [now_head (stepN_right h k), stepN_nums h k]; simp
end Cur
end Go.Proofs.Ytojngbobecdpeaa
