/- cursors: the least number from one on, by contract. -/
import Derived.Test.YtojngbobecdpeaaCurHas
namespace Go.Proofs.Ytojngbobecdpeaa
open Go Go.RowKit Go.ChangeShapes at_ pm cl
namespace Cur
theorem lst_congr : ∀ {l : List Int} {n n' : Int}, (∀ t ∈ l, n ≤ t ↔ n' ≤ t) → lst l n = lst l n'
  | [], _, _, _ => rfl
  | x :: r, n, n', h => by
    unfold lst
    rw [List.find?_cons, List.find?_cons, decide_eq_decide.2 (h x (by simp))]
    have := lst_congr (l := r) (n := n) (n' := n') (fun t ht => h t (by simp [ht]))
    unfold lst at this
    rw [this]
theorem lst_count : ∀ {l : List Int} {n : Int}, Inc l → lst l n = if l.countP (fun x => decide (x < n)) < l.length then some (l.getD (l.countP (fun x => decide (x < n))) 0) else none
  | [], _, _ => rfl
  | x :: r, n, hi => by
    have ih := lst_count (l := r) (n := n) (inc_tail hi)
    unfold lst at ih ⊢
    rw [List.find?_cons, List.countP_cons]
    by_cases hx : x < n
    · rw [decide_eq_true hx, decide_eq_false (by omega), ih]
      simp only [if_true, List.length_cons]
      by_cases hc : r.countP (fun x => decide (x < n)) < r.length
      · rw [if_pos hc, if_pos (by omega), List.getD_cons_succ]
      · rw [if_neg hc, if_neg (by omega)]
    · have h0 : r.countP (fun x => decide (x < n)) = 0 := by
        rw [List.countP_eq_zero]
        intro y hy
        have := inc_head hi y hy
        simp; omega
      rw [decide_eq_false hx, decide_eq_true (by omega), h0]
      simp
/-- the least of what several tell -/
def Best (ls : List (List Int)) (n : Int) (b : Option Int) : Prop :=
  match b with
  | none => ∀ l ∈ ls, lst l n = none
  | some y => (∃ l ∈ ls, lst l n = some y) ∧ ∀ l ∈ ls, ∀ z, lst l n = some z → y ≤ z
theorem Best.nil (n : Int) : Best [] n none := fun l hl => by simp at hl
theorem Best.snoc {ls : List (List Int)} {n : Int} {b : Option Int} {l : List Int} (h : Best ls n b) : Best (ls ++ [l]) n (match lst l n, b with | none, b => b | some z, none => some z | some z, some y => if z < y then some z else some y) := by
  cases hl : lst l n with
  | none =>
    cases b with
    | none =>
      intro m hm
      rcases List.mem_append.1 hm with hm | hm
      · exact h m hm
      · rw [List.mem_singleton.1 hm]; exact hl
    | some y =>
      obtain ⟨⟨m, hm, e⟩, h2⟩ := h
      refine ⟨⟨m, by simp [hm], e⟩, fun m' hm' z hz => ?_⟩
      rcases List.mem_append.1 hm' with hm' | hm'
      · exact h2 m' hm' z hz
      · rw [List.mem_singleton.1 hm', hl] at hz; cases hz
  | some z =>
    cases b with
    | none =>
      refine ⟨⟨l, by simp, hl⟩, fun m' hm' t ht => ?_⟩
      rcases List.mem_append.1 hm' with hm' | hm'
      · rw [h m' hm'] at ht; cases ht
      · rw [List.mem_singleton.1 hm', hl] at ht; cases ht; omega
    | some y =>
      obtain ⟨⟨m, hm, e⟩, h2⟩ := h
      simp only
      by_cases hzy : z < y
      · rw [if_pos hzy]
        refine ⟨⟨l, by simp, hl⟩, fun m' hm' t ht => ?_⟩
        rcases List.mem_append.1 hm' with hm' | hm'
        · have := h2 m' hm' t ht; omega
        · rw [List.mem_singleton.1 hm', hl] at ht; cases ht; omega
      · rw [if_neg hzy]
        refine ⟨⟨m, by simp [hm], e⟩, fun m' hm' t ht => ?_⟩
        rcases List.mem_append.1 hm' with hm' | hm'
        · exact h2 m' hm' t ht
        · rw [List.mem_singleton.1 hm', hl] at ht; cases ht; omega
theorem Best.merge {ls : List (List Int)} {n : Int} {b : Option Int} (h : Best ls n b) (hg : ∀ l ∈ ls, Gd l) : lst (mergeOf ls) n = b := by
  cases b with
  | none =>
    refine lst_no (fun y hy => ?_)
    obtain ⟨l, hl, hyl⟩ := mergeOf_mem.1 hy
    exact lst_none (h l hl) y hyl
  | some y =>
    obtain ⟨⟨l, hl, e⟩, h2⟩ := h
    obtain ⟨g1, g2, g3⟩ := lst_some (hg l hl).1 e
    refine lst_yes (gd_merge hg).1 (mergeOf_mem.2 ⟨l, hl, g1⟩) g2 (fun t ht hn => ?_)
    obtain ⟨m, hm, htm⟩ := mergeOf_mem.1 ht
    cases hz : lst m n with
    | none => have := lst_none hz t htm; omega
    | some z =>
      have := h2 m hm z hz
      have := (lst_some (hg m hm).1 hz).2.2 t htm hn
      omega
/-- what a first one tells, of those that it holds -/
theorem lst_first {N F : List Int} {z : Int} (hN : Inc N) (hF : Inc F) (hs : ∀ t ∈ N, t ∈ F) : (lst F z = none → lst N z = none) ∧ ∀ y, lst F z = some y → (y ∈ N → lst N z = some y) ∧ (y ∉ N → lst N z = lst N (y + 1) ∧ F.countP (fun x => decide (y + 1 ≤ x)) < F.countP (fun x => decide (z ≤ x))) := by
  refine ⟨fun h => lst_no (fun y hy => lst_none h y (hs y hy)), fun y hy => ?_⟩
  obtain ⟨g1, g2, g3⟩ := lst_some hF hy
  refine ⟨fun hyN => lst_yes hN hyN g2 (fun t ht hn => g3 t (hs t ht) hn), fun hyN => ⟨lst_congr (fun t ht => ⟨fun h => ?_, fun h => by omega⟩), ?_⟩⟩
  · have := g3 t (hs t ht) h
    have : t ≠ y := fun e => hyN (e ▸ ht)
    omega
  · rw [List.countP_eq_length_filter, List.countP_eq_length_filter]
    have h1 : (F.filter fun x => decide (y + 1 ≤ x)) = (F.filter fun x => decide (z ≤ x)).filter fun x => decide (y + 1 ≤ x) := by
      rw [List.filter_filter]
      refine List.filter_congr (fun x _ => ?_)
      by_cases h : y + 1 ≤ x
      · simp [h]; omega
      · simp [h]
    rw [h1]
    have hm : y ∈ F.filter fun x => decide (z ≤ x) := List.mem_filter.2 ⟨g1, by simpa using g2⟩
    have hle := List.length_filter_le (fun x => decide (y + 1 ≤ x)) (F.filter fun x => decide (z ≤ x))
    rcases Nat.lt_or_ge ((F.filter fun x => decide (z ≤ x)).filter fun x => decide (y + 1 ≤ x)).length (F.filter fun x => decide (z ≤ x)).length with h | h
    · exact h
    · have := List.length_filter_eq_length_iff.1 (Nat.le_antisymm hle h) y hm
      have := of_decide_eq_true this
      omega
end Cur
/-- an answer of a number, if there is one -/
def LstA (r : Option Int) (w : World) (e : Ending) (w' : World) : Prop := e = .returned (.tuple #[.int .i64 (r.getD 0), .bool r.isSome]) ∧ Below w.heap.size w w'
theorem bs2_any (l : List Int) (n : Int) (va : Value) (w : World) (ha : At w w.heap.size va l) (hi : Inc l) (hl : l.length ≤ 100000) :
    Calls Try.prog 45 #[va, .int .i64 n] w (fun e w' => e = .returned (.tuple #[.int .i64 (l.countP (fun x => decide (x < n)) : Nat), .bool (l.contains n)]) ∧ Below w.heap.size w w') := by
  obtain ⟨ao, ca, rfl, ⟨_, hca⟩, _, ka⟩ := ha
  by_cases h0 : l.length = 0
  · have hn : l = [] := List.eq_nil_of_length_eq_zero h0
    subst hn
    refine (Try.slices_BinarySearch_int_empty ao ca n w).mono ?_
    rintro e w' ⟨rfl, rfl⟩
    exact ⟨rfl, Below.refl _ _⟩
  · obtain ⟨ba, oa, rfl, hBa, hcell⟩ := ka (by omega)
    refine (Try.slices_BinarySearch_int ba oa l.length ca l n w (Nat.le_refl _) (by omega) hcell (by rw [List.take_of_length_le (Nat.le_refl _)]; exact List.Pairwise.imp (fun h => Int.le_of_lt h) hi)).mono ?_
    rintro e w' ⟨rfl, q, rfl⟩
    rw [List.take_of_length_le (Nat.le_refl _)]
    exact ⟨rfl, below_drewN (Below.refl _ _) _⟩
set_option maxHeartbeats 6400000 in
set_option maxRecDepth 100000 in
theorem lany_of (d : Nat) (n : Int) (HH : ∀ (x : Cur) (c : List Value) (w : World), curR d w w.heap.size c x → x.Ok → Calls Try.prog 34 #[.agg c.toArray, .int .i64 n] w (LstA (Cur.lst x.nums n) w))
    (l : List Cur) (v : Value) (w : World) (h : RowsAt 4 (curR d) w w.heap.size v l) (hok : ∀ c ∈ l, c.Ok) :
    Calls Try.prog 46 #[v, .int .i64 n] w (LstA (Cur.lst (mergeOf (l.map Cur.nums)) n) w) := by
  obtain ⟨m, hm⟩ : ∃ m, m = l.length := ⟨_, rfl⟩
  obtain ⟨ao, cap, rfl, hnc, hnm⟩ := h.form' hm
  unfold maxLen at hnm
  obtain ⟨b, hb⟩ : ∃ b, b = Cur.lst (mergeOf (l.map Cur.nums)) n := ⟨_, rfl⟩
  rw [← hb]
  have HB := Lib.hid hb
  have HL := Lib.hid h
  have HM := Lib.hid hm
  have HO := Lib.hid hok
  have HHH := Lib.hid HH
  clear h hm hok HH hb
  go_enter Try.func46, Try.ntmps46
  go_wp2
  go_loopw [6, 7, 14, 35] (fun f g i _ wr => ∃ k : Nat, i = .int .i64 k ∧ k ≤ m ∧ (∃ y : Option Int, f = .int .i64 (y.getD 0) ∧ g = .bool y.isSome ∧ Hid (Cur.Best ((l.map Cur.nums).take k) n y)) ∧ Below w.heap.size w wr) (fun _ _ i _ _ => m - (intOf i).toNat)
  case atStart => exact ⟨0, rfl, Nat.zero_le _, ⟨none, rfl, rfl, Cur.Best.nil n⟩, Below.refl _ _⟩
  case round =>
    obtain ⟨k, rfl, hk, ⟨y, rfl, rfl, HY⟩, hbl⟩ := hrel
    by_cases hlt : k < m
    · skip
      have hkI : (k : Int) < (m : Int) := by omega
      obtain ⟨x, hx⟩ : ∃ x, x = l.getD k default := ⟨_, rfl⟩
      obtain ⟨ba, oa, c, rfl, hbB, hcl, hR, hC⟩ := (HL.out.next (curR_steady d) hbl).get HM.out hlt default
      rw [← hx] at hR
      obtain ⟨lo, ln, lc, ko, kn, kc, rfl⟩ := cur_form hR
      have q0 : wr.cell? ⟨ba, oa + k * 4, none⟩ = _ := hC 0 _ rfl
      have q1 := hC 1 _ rfl
      have q2 := hC 2 _ rfl
      have q3 := hC 3 _ rfl
      have hxl : k < l.length := by rw [← HM.out]; exact hlt
      have hxe : x = l[k] := by rw [hx, List.getD_eq_getElem?_getD, List.getElem?_eq_getElem hxl]; rfl
      have HX : Hid (x ∈ l) := by show x ∈ l; rw [hxe]; exact List.getElem_mem _
      have HN : Hid ((l.map Cur.nums).take (k + 1) = (l.map Cur.nums).take k ++ [x.nums]) := by
        show _ = _
        rw [List.take_succ_eq_append_getElem (by rw [List.length_map]; exact hxl), List.getElem_map, hxe]
      obtain ⟨W2, hW2⟩ : ∃ W, W = wr.alloc (.cells #[.int .i64 x.k, .slice lo ln lc, .int .i64 x.a, .slice ko kn kc] 25) := ⟨_, rfl⟩
      have b2 : Below wr.heap.size wr W2 := by rw [hW2]; exact below1
      have HC := Lib.hid (HHH.out x _ W2 (curR_steady d _ _ _ _ _ _ hR b2 b2.size) (HO.out x HX.out))
      have B2 := Lib.hid (hbl.trans (b2.mono hbl.size))
      have HW2 := Lib.hid hW2
      have HS := Cur.Best.snoc (l := x.nums) HY.out
      rw [← HN.out] at HS
      obtain ⟨r, hr⟩ : ∃ r, r = Cur.lst x.nums n := ⟨_, rfl⟩
      rw [← hr] at HC HS
      have HSS := Lib.hid HS
      clear hR hC hx hxe hxl hcl hbB hbl b2 hW2 hr HS
      cases r with
      | none =>
        go_wp2_with fail
        rw [← HW2.out]
        (with_reducible refine HC.out.mono ?_)
        rintro e w3 ⟨rfl, b3⟩
        have B3 := Lib.hid (B2.out.trans (b3.mono B2.out.size))
        simp only [Option.getD_none, Option.isSome_none]
        clear b3
        cases y with
        | none =>
          simp only [Option.getD_none, Option.isSome_none]
          go_wp2
          go_roundw
          case rel => exact ⟨k + 1, by go_num, by omega, ⟨_, rfl, rfl, HSS.out⟩, B3.out⟩
          case measure => simp [intOf]; omega
        | some y =>
          simp only [Option.getD_some, Option.isSome_some]
          go_wp2
          go_roundw
          case rel => exact ⟨k + 1, by go_num, by omega, ⟨_, rfl, rfl, HSS.out⟩, B3.out⟩
          case measure => simp [intOf]; omega
      | some z =>
        cases y with
        | none =>
          go_wp2_with fail
          rw [← HW2.out]
          (with_reducible refine HC.out.mono ?_)
          rintro e w3 ⟨rfl, b3⟩
          have B3 := Lib.hid (B2.out.trans (b3.mono B2.out.size))
          simp only [Option.getD_some, Option.isSome_some]
          clear b3
          go_wp2
          go_roundw
          case rel => exact ⟨k + 1, by go_num, by omega, ⟨some z, rfl, rfl, HSS.out⟩, B3.out⟩
          case measure => simp [intOf]; omega
        | some y =>
          by_cases hzy : z < y
          · have HT : Hid (Cur.Best ((l.map Cur.nums).take (k + 1)) n (some z)) := by have := HSS.out; simp only [if_pos hzy] at this; exact this
            go_wp2_with fail
            rw [← HW2.out]
            (with_reducible refine HC.out.mono ?_)
            rintro e w3 ⟨rfl, b3⟩
            have B3 := Lib.hid (B2.out.trans (b3.mono B2.out.size))
            simp only [Option.getD_some, Option.isSome_some]
            clear b3
            go_wp2
            go_roundw
            case rel => exact ⟨k + 1, by go_num, by omega, ⟨some z, rfl, rfl, HT.out⟩, B3.out⟩
            case measure => simp [intOf]; omega
          · have HT : Hid (Cur.Best ((l.map Cur.nums).take (k + 1)) n (some y)) := by have := HSS.out; simp only [if_neg hzy] at this; exact this
            go_wp2_with fail
            rw [← HW2.out]
            (with_reducible refine HC.out.mono ?_)
            rintro e w3 ⟨rfl, b3⟩
            have B3 := Lib.hid (B2.out.trans (b3.mono B2.out.size))
            simp only [Option.getD_some, Option.isSome_some]
            clear b3
            go_wp2
            go_roundw
            case rel => exact ⟨k + 1, by go_num, by omega, ⟨some y, rfl, rfl, HT.out⟩, B3.out⟩
            case measure => simp [intOf]; omega
    · obtain rfl : k = m := by omega
      have HF : Hid (b = y) := by
        show b = y
        rw [HB.out]
        refine Cur.Best.merge (b := y) ?_ ?_
        · have := HY.out
          rwa [List.take_of_length_le (by rw [List.length_map, HM.out]; exact Nat.le_refl _)] at this
        · intro t ht
          obtain ⟨x, hx, rfl⟩ := List.mem_map.1 ht
          exact (HO.out x hx).gd
      have HBL := Lib.hid hbl
      clear hbl
      go_wp2
      refine bodyPost_ret (v := .tuple #[.int .i64 (y.getD 0), .bool y.isSome]) (by simp [results, Try.results46, go_sem]) rfl ?_
      rw [HF.out]; exact ⟨rfl, HBL.out⟩
end Go.Proofs.Ytojngbobecdpeaa
