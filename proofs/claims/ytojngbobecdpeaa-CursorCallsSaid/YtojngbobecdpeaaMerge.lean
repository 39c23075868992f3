/- posting.Merge by contract: by induction on the number of lists. -/
import Derived.Test.YtojngbobecdpeaaAll
import Derived.Deep.RegionHeld3
namespace Go.Proofs.Ytojngbobecdpeaa
open Go.RowKit Go.ChangeShapes at_ pm

theorem kb_step {w W W' : World} (h : Below w.heap.size w W) (hb : Below W.heap.size W W') : Below w.heap.size w W' := h.trans (hb.mono h.size)
theorem kb_at {W W' : World} {v : Value} {l : List Int} (h : At W W.heap.size v l) (hb : Below W.heap.size W W') : At W' W'.heap.size v l := (h.below hb).mono hb.size
theorem fold_mem {y : Int} : ∀ (ls : List (List Int)) (z : List Int), y ∈ ls.foldl any z ↔ y ∈ z ∨ ∃ l ∈ ls, y ∈ l := by
  intro ls
  induction ls with
  | nil => intro z; simp
  | cons l ls ih =>
    intro z
    rw [List.foldl_cons, ih, mem_any', or_assoc]
    simp
theorem fold_inc : ∀ (ls : List (List Int)) (z : List Int), Inc z → (∀ l ∈ ls, Inc l) → Inc (ls.foldl any z) := by
  intro ls
  induction ls with
  | nil => intro z h _; exact h
  | cons l ls ih => intro z h hl; exact ih _ (inc_any' h (hl l (List.mem_cons_self ..))) fun k hk => hl k (List.mem_cons_of_mem _ hk)
theorem fold_good : ∀ (ls : List (List Int)) (z : List Int) (n : Nat), Good n z → (∀ l ∈ ls, Good 2000 l) → Good (n + 2000 * ls.length) (ls.foldl any z) := by
  intro ls
  induction ls with
  | nil => intro z n h _; simpa using h
  | cons l ls ih =>
    intro z n h hl
    have := ih _ _ (h.any (hl l (List.mem_cons_self ..))) fun k hk => hl k (List.mem_cons_of_mem _ hk)
    rw [List.length_cons, show n + 2000 * (ls.length + 1) = n + 2000 + 2000 * ls.length by omega]
    exact this
theorem merge_good {ls : List (List Int)} (hg : ∀ l ∈ ls, Good 2000 l) : Good (2000 * ls.length) (mergeOf ls) := by
  have := fold_good ls [] 0 good_nil hg
  rwa [Nat.zero_add] at this
theorem merge_split {ls : List (List Int)} (hg : ∀ l ∈ ls, Good 2000 l) (h : Nat) : any (mergeOf (ls.take h)) (mergeOf (ls.drop h)) = mergeOf ls := by
  have g1 := merge_good (ls := ls.take h) fun l hl => hg l (List.mem_of_mem_take hl)
  have g2 := merge_good (ls := ls.drop h) fun l hl => hg l (List.mem_of_mem_drop hl)
  refine ext (inc_any' g1.1 g2.1) (merge_good hg).1 fun y => ?_
  rw [mem_any']
  unfold mergeOf
  rw [fold_mem, fold_mem, fold_mem]
  conv => rhs; rw [← List.take_append_drop h ls]
  simp only [List.not_mem_nil, false_or, List.mem_append]
  constructor
  · rintro (⟨l, h1, h2⟩ | ⟨l, h1, h2⟩)
    · exact ⟨l, Or.inl h1, h2⟩
    · exact ⟨l, Or.inr h1, h2⟩
  · rintro ⟨l, h1 | h1, h2⟩
    · exact Or.inl ⟨l, h1, h2⟩
    · exact Or.inr ⟨l, h1, h2⟩
theorem lrows_take {w : World} {B b o n cap h : Nat} {ls : List (List Int)} (ha : LRows w B (.slice (some ⟨b, o, none⟩) n cap) ls) (hh : h ≤ ls.length) : LRows w B (.slice (some ⟨b, o, none⟩) h cap) (ls.take h) := by
  obtain ⟨ao, c, e, ⟨_, h2⟩, h3, h4⟩ := ha
  simp only [Value.slice.injEq] at e
  obtain ⟨rfl, _, rfl⟩ := e
  have hlen : (ls.take h).length = h := by rw [List.length_take]; omega
  refine ⟨_, _, by rw [hlen], ⟨(fun e => by cases e), by omega⟩, by omega, fun hp => ?_⟩
  obtain ⟨b', o', e, hB, hc⟩ := h4 (by omega)
  refine ⟨b', o', e, hB, fun j hj => ?_⟩
  obtain ⟨x, h5, h6⟩ := hc j (by omega)
  have e2 : (ls.take h).getD j [] = ls.getD j [] := by simp [List.getD, show j < h by omega]
  exact ⟨x, h5, by rw [e2]; exact h6⟩
theorem lrows_drop {w : World} {B b o n cap h : Nat} {ls : List (List Int)} (ha : LRows w B (.slice (some ⟨b, o, none⟩) n cap) ls) (hh : h < ls.length) : LRows w B (.slice (some ⟨b, o + h, none⟩) (ls.length - h) (cap - h)) (ls.drop h) := by
  obtain ⟨ao, c, e, ⟨_, h2⟩, h3, h4⟩ := ha
  simp only [Value.slice.injEq] at e
  obtain ⟨rfl, _, rfl⟩ := e
  have hlen : (ls.drop h).length = ls.length - h := List.length_drop
  refine ⟨_, _, by rw [hlen], ⟨(fun e => by cases e), by omega⟩, by omega, fun hp => ?_⟩
  obtain ⟨b', o', e, hB, hc⟩ := h4 (by omega)
  simp only [Option.some.injEq, Addr.mk.injEq] at e
  obtain ⟨rfl, rfl, _⟩ := e
  refine ⟨_, _, rfl, hB, fun j hj => ?_⟩
  obtain ⟨x, h5, h6⟩ := hc (h + j) (by omega)
  have e2 : (ls.drop h).getD j [] = ls.getD (h + j) [] := by simp [List.getD]
  exact ⟨x, by rw [Nat.add_assoc]; exact h5, by rw [e2]; exact h6⟩

set_option maxHeartbeats 3200000 in
set_option maxRecDepth 100000 in
theorem merge_any : ∀ (m : Nat) (ls : List (List Int)) (v : Value) (w : World), ls.length ≤ m → LRows w w.heap.size v ls → (∀ l ∈ ls, Good 2000 l) → ls.length ≤ 30 →
    Calls Try.prog 31 #[v] w (Owned (mergeOf ls) w) := by
  intro m
  induction m with
  | zero =>
    intro ls v w hm ha _ _
    obtain rfl : ls = [] := List.eq_nil_of_length_eq_zero (by omega)
    obtain ⟨ao, ca, rfl, _, _, _⟩ := ha
    go_enter Try.func31, Try.ntmps31
    go_wp2
    go_ret
    exact ⟨_, rfl, World.ownsRow_nil _ _ _ _, Below.refl _ _⟩
  | succ m ih =>
    intro ls v w hm ha hg h30
    have IH := Lib.hid ih
    clear ih
    have HAA := Lib.hid ha
    obtain ⟨ao, ca, rfl, ⟨_, hcc⟩, _, kr⟩ := ha
    by_cases h0 : ls.length = 0
    · obtain rfl : ls = [] := List.eq_nil_of_length_eq_zero h0
      clear kr
      go_enter Try.func31, Try.ntmps31
      go_wp2
      go_ret
      exact ⟨_, rfl, World.ownsRow_nil _ _ _ _, Below.refl _ _⟩
    obtain ⟨b, o, rfl, hB, hcell⟩ := kr (by omega)
    by_cases h1 : ls.length = 1
    · obtain ⟨l, rfl⟩ : ∃ l, ls = [l] := List.length_eq_one_iff.1 h1
      obtain ⟨x, hx, hA⟩ := hcell 0 (by simp)
      have gl := hg l (List.mem_cons_self ..)
      obtain ⟨ax, cx, rfl, _, _, _⟩ := id hA
      have H0 := clone_any l _ w hA (Nat.le_trans gl.2 (by decide))
      have HE : Hid (mergeOf [l] = l) := any_nil_left l
      have c1 : w.cell? ⟨b, o, none⟩ = some (.slice ax ([l].getD 0 []).length cx) := hx
      simp only [List.getD_cons_zero] at c1
      clear hcell hx hA hg HAA kr
      go_enter Try.func31, Try.ntmps31
      go_wp2_with fail
      refine H0.mono ?_
      rintro e w1 ⟨v1, rfl, ho1, hb1⟩
      have HO := Lib.hid ho1
      clear ho1
      go_wp2
      go_ret
      rw [HE.out]; exact ⟨_, rfl, HO.out, hb1⟩
    · obtain ⟨n, hn⟩ : ∃ n, n = ls.length := ⟨_, rfl⟩
      obtain ⟨h, hh⟩ : ∃ h, h = n / 2 := ⟨_, rfl⟩
      have hhI : (n : Int).tdiv 2 = (h : Int) := by rw [hh]; rfl
      have hhn : h < n := by omega
      have hh1 : 1 ≤ h := by omega
      have hca : n ≤ ca := by omega
      have hck : ¬ ca = h := by omega
      have hckI : ¬ (ca : Int) = (h : Int) := by omega
      have hn0 : ((n : Int) == 0) = false := beq_eq_false_iff_ne.2 (by omega)
      have hn1 : ((n : Int) == 1) = false := beq_eq_false_iff_ne.2 (by omega)
      have hn30 : n ≤ 30 := by omega
      have T1 := Lib.hid (lrows_take HAA.out (h := h) (by omega))
      have T2 := Lib.hid (lrows_drop HAA.out (h := h) (by omega))
      have G1 : Hid (∀ l ∈ ls.take h, Good 2000 l) := fun l hl => hg l (List.mem_of_mem_take hl)
      have G2 : Hid (∀ l ∈ ls.drop h, Good 2000 l) := fun l hl => hg l (List.mem_of_mem_drop hl)
      have HS := Lib.hid (merge_split hg h)
      have L1 : Hid ((ls.take h).length ≤ m ∧ (ls.take h).length ≤ 30) := ⟨by rw [List.length_take]; omega, by rw [List.length_take]; omega⟩
      have L2 : Hid ((ls.drop h).length ≤ m ∧ (ls.drop h).length ≤ 30) := ⟨by rw [List.length_drop]; omega, by rw [List.length_drop]; omega⟩
      have M1 : Hid (∀ W : World, Below w.heap.size w W → Calls Try.prog 31 #[.slice (some ⟨b, o, none⟩) h ca] W (Owned (mergeOf (ls.take h)) W)) := fun W hb =>
        IH.out _ _ _ L1.out.1 ((T1.out.below hb).mono hb.size) G1.out L1.out.2
      have M2 : Hid (∀ W : World, Below w.heap.size w W → Calls Try.prog 31 #[.slice (some ⟨b, o + h, none⟩) (n - h) (ca - h)] W (Owned (mergeOf (ls.drop h)) W)) := fun W hb =>
        IH.out _ _ _ L2.out.1 (by rw [hn]; exact (T2.out.below hb).mono hb.size) G2.out L2.out.2
      have g1 := merge_good G1.out
      have g2 := merge_good G2.out
      have A3 : Hid (∀ (W : World) (v1 v2 : Value), Below w.heap.size w W → At W W.heap.size v1 (mergeOf (ls.take h)) → At W W.heap.size v2 (mergeOf (ls.drop h)) →
          Calls Try.prog 44 #[v1, v2] W (fun e W' => ∃ v, e = .returned v ∧ W'.ownsRow w.heap.size 3 1 v (mergeOf ls).length (i64s (mergeOf ls)) ∧ Below W.heap.size W W')) := fun W v1 v2 hb h1 h2 => by
        refine (any_any _ _ _ _ W h1 h2 g1.1 g2.1 (Nat.le_trans g1.2 (by have := L1.out.2; omega)) (Nat.le_trans g2.2 (by have := L2.out.2; omega))).mono ?_
        rintro e W' ⟨v, rfl, ho, hb'⟩
        rw [HS.out] at ho
        exact ⟨v, rfl, base_le ho hb.size, hb'⟩
      rw [← hn] at T2 ⊢
      have hq1 : h ≤ ca := by omega
      have hq2 : h ≤ n := by omega
      have hq3 : (h : Int) ≤ (ca : Int) := by omega
      have hq4 : (h : Int) ≤ (n : Int) := by omega
      have hq5 : (0 : Int) ≤ (h : Int) := by omega
      have hq6 : (n : Int) ≤ (ca : Int) := by omega
      have hS0 : Below w.heap.size w w := Below.refl _ _
      clear hcell hg HAA kr h0 h1 hm h30 hn hh hcc T1 T2 G1 G2 HS L1 L2 IH g1 g2
      go_enter Try.func31, Try.ntmps31
      go_wp2_with fail
      go_region_held3 (fun w' => Below w.heap.size w w')
        (first
          | exact Below.drew (by assumption)
          | exact kb_step (by assumption) hbK
          | assumption)
        (first
          | (go_at_call 31; (with_reducible refine (M1.out _ (by assumption)).mono ?_); rintro e wK ⟨v1, rfl, hown1, hbK⟩; have hat1 := own hown1)
          | (go_at_call 31; (with_reducible refine (M2.out _ (by assumption)).mono ?_); rintro e wK ⟨v2, rfl, hown2, hbK⟩; have hat2 := own hown2; have hat3 := kb_at hat1 hbK)
          | (go_at_call 44; refine (A3.out _ _ _ (by assumption) hat3 hat2).mono ?_; rintro e wK ⟨v3, rfl, hown3, hbK⟩; have HO3 := Lib.hid hown3))
      go_wp2
      go_ret
      exact ⟨_, rfl, HO3.out, by assumption⟩
end Go.Proofs.Ytojngbobecdpeaa
