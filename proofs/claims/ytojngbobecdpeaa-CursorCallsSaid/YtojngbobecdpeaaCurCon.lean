/- cursors: which numbers they have. -/
import Derived.Test.YtojngbobecdpeaaCurRight
namespace Go.Proofs.Ytojngbobecdpeaa
open Go Go.RowKit Go.ChangeShapes at_ pm cl
namespace Cur
/-- right, with however many within one another -/
def Ok (x : Cur) : Prop := ∃ d, right d x = true
theorem Ok.list {l : List Int} {a : Int} {ks : List Cur} (h : Ok (mk 1 l a ks)) : ks = [] ∧ 0 ≤ a ∧ a ≤ (l.length : Int) ∧ l.length ≤ 4000 ∧ rightOf l = true := by
  obtain ⟨d, h⟩ := h
  cases d with
  | zero => simp [right] at h
  | succ d => exact right_list h
theorem Ok.kids {k : Int} {l : List Int} {a : Int} {ks : List Cur} (h : Ok (mk k l a ks)) (hk : k ≠ 1) : (k = 2 ∨ k = 3 ∨ k = 4) ∧ (k = 4 → ks ≠ []) ∧ l = [] ∧ a = 0 ∧ ks.length ≤ 20 ∧ ∀ c ∈ ks, Ok c := by
  obtain ⟨d, h⟩ := h
  cases d with
  | zero => simp [right] at h
  | succ d =>
    obtain ⟨h1, h2, h3, h4, h5, h6⟩ := right_kids hk h
    exact ⟨h1, h2, h3, h4, h5, fun c hc => ⟨d, h6 c hc⟩⟩
theorem Ok.gd {x : Cur} (h : Ok x) : Gd x.nums := by obtain ⟨d, h⟩ := h; exact right_gd d x h
theorem has_both {ks : List Cur} {n : Int} (h : ks ≠ []) : has (allOf (ks.map nums)) n = !(ks.any fun c => !has (nums c) n) := by
  rw [Bool.eq_iff_iff, has_iff, allOf_mem (by simpa using h)]
  simp [has_iff]
theorem has_any {ks : List Cur} {n : Int} : has (mergeOf (ks.map nums)) n = ks.any fun c => has (nums c) n := by
  rw [Bool.eq_iff_iff, has_iff, mergeOf_mem, List.any_eq_true]
  constructor
  · rintro ⟨l, hl, hn⟩
    obtain ⟨x, hx, rfl⟩ := List.mem_map.1 hl
    exact ⟨x, hx, has_iff.2 hn⟩
  · rintro ⟨x, hx, hn⟩
    exact ⟨_, List.mem_map.2 ⟨x, hx, rfl⟩, has_iff.1 hn⟩
theorem has_sub {c : Cur} {r : List Cur} {n : Int} : has (subOf ((c :: r).map nums)) n = (has (nums c) n && !(r.any fun c => has (nums c) n)) := by
  rw [← has_any, Bool.eq_iff_iff, has_iff, List.map_cons]
  unfold subOf
  rw [mem_minus, Bool.and_eq_true, Bool.not_eq_true', has_iff, has_not]
end Cur
/-- l[i:] of rows -/
theorem rows_drop {α : Type} {k i cp : Nat} {R : Rel α} {w : World} {B n cap : Nat} {ao sp : Option Addr} {l : List α} (h : RowsAt k R w B (.slice ao n cap) l) (hn : n = l.length) (hi : i ≤ n) (hcp : n - i ≤ cp) (hsp : ∀ b o, ao = some ⟨b, o, none⟩ → 0 < n - i → sp = some ⟨b, o + i * k, none⟩) (hsn : sp = none → cp = 0) :
    RowsAt k R w B (.slice sp (n - i) cp) (l.drop i) := by
  subst hn
  obtain ⟨cs, h0, h1, h2⟩ := h
  have hk := RowsAt.len h0 h1
  have e : (cs.drop i).flatten = cs.flatten.drop (i * k) := by
    clear h0 h1 h2 hi hcp hsp
    induction cs generalizing i with
    | nil => simp
    | cons c r ih =>
      cases i with
      | zero => simp
      | succ i =>
        rw [List.drop_succ_cons, ih (fun x hx => hk x (List.mem_cons_of_mem _ hx)), List.flatten_cons, Nat.add_mul, Nat.one_mul, Nat.add_comm, ← hk c (by simp), List.drop_append]
        simp
  refine ⟨cs.drop i, by rw [List.length_drop, List.length_drop, h0], fun j c x hc hx => ?_, ?_⟩
  · rw [List.getElem?_drop] at hc hx
    exact h1 _ c x hc hx
  · obtain ⟨g0, ao', c', e', ⟨g1, g2⟩, g3, g4⟩ := h2
    simp only [Value.slice.injEq] at e'
    obtain ⟨rfl, _, rfl⟩ := e'
    refine ⟨by rw [e, List.length_drop, g0, List.length_drop, Nat.sub_mul], sp, cp, by rw [List.length_drop], ⟨hsn, by rw [List.length_drop]; exact hcp⟩, by rw [List.length_drop]; omega, fun hp => ?_⟩
    rw [List.length_drop] at hp
    obtain ⟨b, o, rfl, hB, hc⟩ := g4 (by omega)
    refine ⟨b, o + i * k, hsp b o rfl hp, hB, fun j u hj => ?_⟩
    rw [e, List.getElem?_drop] at hj
    rw [Nat.add_assoc]; exact hc _ u hj
/-- l[p:] -/
theorem at_drop {w : World} {B n cap p cp : Nat} {ao sp : Option Addr} {l : List Int} (h : At w B (.slice ao n cap) l) (hp : p ≤ n) (hcp : n - p ≤ cp) (hsp : ∀ b o, ao = some ⟨b, o, none⟩ → 0 < n - p → sp = some ⟨b, o + p, none⟩) (hsn : sp = none → cp = 0) :
    At w B (.slice sp (n - p) cp) (l.drop p) := by
  obtain ⟨ao', cap', e, ⟨h1, h2⟩, h3, h4⟩ := h
  simp only [Value.slice.injEq] at e
  obtain ⟨rfl, rfl, rfl⟩ := e
  refine ⟨sp, cp, by rw [List.length_drop], ⟨hsn, by rw [List.length_drop]; exact hcp⟩, by rw [List.length_drop]; omega, fun h0 => ?_⟩
  rw [List.length_drop] at h0
  obtain ⟨b, o, rfl, hB, hc⟩ := h4 (by omega)
  refine ⟨b, o + p, hsp b o rfl h0, hB, fun j hj => ?_⟩
  rw [List.length_drop] at hj
  rw [getD_drop, Nat.add_assoc]
  exact hc (p + j) (by omega)
set_option maxHeartbeats 1600000 in
set_option maxRecDepth 100000 in
theorem cl_all (d : Nat) (n : Int) (x : Cur) (c : List Value) (q : Nat) (w : World) (h : curR d w w.heap.size c x) (hq : w.heap[q]? = some (.cells #[.int .i64 n] 3))
    (HH : ∀ W, Below w.heap.size w W → Calls Try.prog 47 #[.agg c.toArray, .int .i64 n] W (Said (has x.nums n) W)) :
    Calls Try.prog 56 #[.agg c.toArray, .pointer (some ⟨q, 0, none⟩)] w (Said (!has x.nums n) w) := by
  obtain ⟨r, hr⟩ : ∃ r, r = has x.nums n := ⟨_, rfl⟩
  rw [← hr] at HH ⊢
  obtain ⟨lo, ln, lc, ko, kn, kc, rfl⟩ := cur_form h
  obtain ⟨W2, hW2⟩ : ∃ W, W = w.alloc (.cells #[.int .i64 x.k, .slice lo ln lc, .int .i64 x.a, .slice ko kn kc] 25) := ⟨_, rfl⟩
  have b2 : Below w.heap.size w W2 := by rw [hW2]; exact below1
  have hc := boxc ((b2.block q (lt_of_block hq)).trans hq) 0 _ rfl
  have HC := Lib.hid (HH W2 b2)
  have HW2 := Lib.hid hW2
  have B2 := Lib.hid b2
  rw [hW2] at hc
  clear h hr b2 hW2 HH hq
  go_enter Try.func56, Try.ntmps56
  go_wp2_with fail
  rw [← HW2.out]
  (with_reducible refine HC.out.mono ?_)
  rintro e w3 ⟨rfl, b3⟩
  have B3 := Lib.hid (B2.out.trans (b3.mono B2.out.size))
  clear b3
  cases r <;> (go_wp2; go_ret; exact ⟨rfl, B3.out⟩)
def IdxP (b : Bool) (w : World) (e : Ending) (w' : World) : Prop := (∃ z : Int, e = .returned (.int .i64 z) ∧ (b = true → 0 ≤ z) ∧ (b = false → z = -1)) ∧ Below w.heap.size w w'
set_option maxHeartbeats 3200000 in
set_option maxRecDepth 100000 in
theorem idx_all (d : Nat) (n : Int) (l : List Cur) (v : Value) (q : Nat) (w : World) (h : RowsAt 4 (curR d) w w.heap.size v l) (hq : w.heap[q]? = some (.cells #[.int .i64 n] 3))
    (HH : ∀ x ∈ l, ∀ (c : List Value) (W : World), curR d W W.heap.size c x → Calls Try.prog 47 #[.agg c.toArray, .int .i64 n] W (Said (has x.nums n) W)) :
    Calls Try.prog 60 #[v, .func (.func 56) #[] #[.pointer (some ⟨q, 0, none⟩)]] w (IdxP (l.any fun x => !has x.nums n) w) := by
  obtain ⟨m, hm⟩ : ∃ m, m = l.length := ⟨_, rfl⟩
  obtain ⟨ao, cap, rfl, hnc, hnm⟩ := h.form' hm
  unfold maxLen at hnm
  obtain ⟨b, hb⟩ : ∃ b, b = (l.any fun x => !has x.nums n) := ⟨_, rfl⟩
  rw [← hb]
  have HB := Lib.hid hb
  have HL := Lib.hid h
  have HM := Lib.hid hm
  have HQ := Lib.hid hq
  have eg : ∀ args w, (callFunc 56 args).run Try.prog w = .ok (.enter 56 args) w := enters_of Try.func56 (by kernel_rfl) rfl
  have HP : Hid (∀ x ∈ l, ∀ (c : List Value) (W : World), Below w.heap.size w W → curR d W W.heap.size c x → Calls Try.prog 56 #[.agg c.toArray, .pointer (some ⟨q, 0, none⟩)] W (Said (!has x.nums n) W)) := fun x hx c W hW hc =>
    cl_all d n x c q W hc ((hW.block q (lt_of_block hq)).trans hq) (fun W' hW' => HH x hx c W' (curR_steady d _ _ _ _ _ _ hc hW' hW'.size))
  clear h hm hb hq HH
  go_enter Try.func60, Try.ntmps60
  go_wp2
  go_loopw [5, 8] (fun _ i wr => ∃ k : Nat, i = .int .i64 k ∧ k ≤ m ∧ Hid (∀ j, j < k → (fun x : Cur => !has x.nums n) (l.getD j default) = false) ∧ Below w.heap.size w wr) (fun _ i _ => m - (intOf i).toNat)
  case atStart => exact ⟨0, rfl, Nat.zero_le _, fun j hj => absurd hj (Nat.not_lt_zero _), Below.refl _ _⟩
  case round =>
    obtain ⟨k, rfl, hk, HI, hbl⟩ := hrel
    by_cases hlt : k < m
    · skip
      have hkI : (k : Int) < (m : Int) := by omega
      obtain ⟨x, hx⟩ : ∃ x, x = l.getD k default := ⟨_, rfl⟩
      obtain ⟨ba, oa, c, rfl, hbB, hcl, hR, hC⟩ := (HL.out.next (curR_steady d) hbl).get HM.out hlt default
      rw [← hx] at hR
      obtain ⟨lo, ln, lc, ko, kn, kc, rfl⟩ := cur_form hR
      have q0 : wr.cell? ⟨ba, oa + k * 4, none⟩ = _ := hC 0 _ rfl
      have q1 := hC 1 _ rfl
      have q2 := hC 2 _ rfl
      have q3 := hC 3 _ rfl
      have hxl : k < l.length := by rw [← HM.out]; exact hlt
      have hxe : x = l[k] := by rw [hx, List.getD_eq_getElem?_getD, List.getElem?_eq_getElem hxl]; rfl
      have HX : Hid (x ∈ l) := by show x ∈ l; rw [hxe]; exact List.getElem_mem _
      have HXX := Lib.hid hx
      have HC := Lib.hid (HP.out x HX.out _ wr hbl hR)
      have HBL := Lib.hid hbl
      clear hR hC hx hxe hxl hcl hbB hbl
      obtain ⟨r, hr⟩ : ∃ r, r = (!has x.nums n) := ⟨_, rfl⟩
      rw [← hr] at HC
      have HRR := Lib.hid hr
      clear hr
      cases r with
      | true =>
        have HF : Hid (b = true) := by
          show b = true
          rw [HB.out, List.any_eq_true]
          exact ⟨x, HX.out, HRR.out.symm⟩
        go_wp2_with fail
        (with_reducible refine HC.out.mono ?_)
        rintro e w3 ⟨rfl, b3⟩
        have B3 := Lib.hid (HBL.out.trans (b3.mono HBL.out.size))
        clear b3
        go_wp2
        go_ret
        exact ⟨⟨(k : Int), rfl, fun _ => Int.natCast_nonneg _, fun h => absurd (HF.out.symm.trans h) (by decide)⟩, B3.out⟩
      | false =>
        have HI2 : Hid (∀ j, j < k + 1 → (fun x : Cur => !has x.nums n) (l.getD j default) = false) := fun j hj => by
          by_cases ej : j = k
          · subst ej; rw [← HXX.out]; exact HRR.out.symm
          · exact HI.out j (by omega)
        go_wp2_with fail
        (with_reducible refine HC.out.mono ?_)
        rintro e w3 ⟨rfl, b3⟩
        have B3 := Lib.hid (HBL.out.trans (b3.mono HBL.out.size))
        clear b3
        go_wp2
        go_roundw
        case rel => exact ⟨k + 1, by go_num, by omega, HI2, B3.out⟩
        case measure => simp [intOf]; omega
    · have HF : Hid (b = false) := by
        show b = false
        rw [HB.out, List.any_eq_false]
        intro x hx
        obtain ⟨j, hj, rfl⟩ := List.mem_iff_getElem.1 hx
        have := HI.out j (by have := HM.out; omega)
        rw [List.getD_eq_getElem?_getD, List.getElem?_eq_getElem hj] at this
        exact Bool.eq_false_iff.1 this
      have HBL := Lib.hid hbl
      clear hbl
      go_wp2
      go_ret
      exact ⟨⟨-1, rfl, fun h => absurd (HF.out.symm.trans h) (by decide), fun _ => rfl⟩, HBL.out⟩
set_option maxHeartbeats 1600000 in
set_option maxRecDepth 100000 in
theorem con_all (d : Nat) (n : Int) (l : List Cur) (v : Value) (q : Nat) (w : World) (h : RowsAt 4 (curR d) w w.heap.size v l) (hq : w.heap[q]? = some (.cells #[.int .i64 n] 3))
    (HH : ∀ x ∈ l, ∀ (c : List Value) (W : World), curR d W W.heap.size c x → Calls Try.prog 47 #[.agg c.toArray, .int .i64 n] W (Said (has x.nums n) W)) :
    Calls Try.prog 55 #[v, .func (.func 56) #[] #[.pointer (some ⟨q, 0, none⟩)]] w (Said (l.any fun x => !has x.nums n) w) := by
  have HI := Lib.hid (idx_all d n l v q w h hq HH)
  obtain ⟨b, hb⟩ : ∃ b, b = (l.any fun x => !has x.nums n) := ⟨_, rfl⟩
  rw [← hb] at HI ⊢
  obtain ⟨ao, cap, rfl, _, _⟩ := h.form
  obtain ⟨m, hm⟩ : ∃ m, m = l.length := ⟨_, rfl⟩
  rw [← hm] at HI ⊢
  clear h hb hq HH hm
  go_enter Try.func55, Try.ntmps55
  go_wp2_with fail
  (with_reducible refine HI.out.mono ?_)
  rintro e w3 ⟨⟨z, rfl, h1, h2⟩, b3⟩
  cases b with
  | true =>
    have hz : 0 ≤ z := h1 rfl
    have B3 := Lib.hid b3
    clear h1 h2 b3
    go_wp2
    go_ret
    exact ⟨by simp, B3.out⟩
  | false =>
    obtain rfl : z = -1 := h2 rfl
    have B3 := Lib.hid b3
    clear h1 h2 b3
    go_wp2
    go_ret
    exact ⟨by simp, B3.out⟩
set_option maxHeartbeats 1600000 in
set_option maxRecDepth 100000 in
theorem cl_any (d : Nat) (n : Int) (x : Cur) (c : List Value) (q : Nat) (w : World) (h : curR d w w.heap.size c x) (hq : w.heap[q]? = some (.cells #[.int .i64 n] 3))
    (HH : ∀ W, Below w.heap.size w W → Calls Try.prog 47 #[.agg c.toArray, .int .i64 n] W (Said (has x.nums n) W)) :
    Calls Try.prog 61 #[.agg c.toArray, .pointer (some ⟨q, 0, none⟩)] w (Said (has x.nums n) w) := by
  obtain ⟨r, hr⟩ : ∃ r, r = has x.nums n := ⟨_, rfl⟩
  rw [← hr] at HH ⊢
  obtain ⟨lo, ln, lc, ko, kn, kc, rfl⟩ := cur_form h
  obtain ⟨W2, hW2⟩ : ∃ W, W = w.alloc (.cells #[.int .i64 x.k, .slice lo ln lc, .int .i64 x.a, .slice ko kn kc] 25) := ⟨_, rfl⟩
  have b2 : Below w.heap.size w W2 := by rw [hW2]; exact below1
  have hc := boxc ((b2.block q (lt_of_block hq)).trans hq) 0 _ rfl
  have HC := Lib.hid (HH W2 b2)
  have HW2 := Lib.hid hW2
  have B2 := Lib.hid b2
  rw [hW2] at hc
  clear h hr b2 hW2 HH hq
  go_enter Try.func61, Try.ntmps61
  go_wp2_with fail
  rw [← HW2.out]
  (with_reducible refine HC.out.mono ?_)
  rintro e w3 ⟨rfl, b3⟩
  have B3 := Lib.hid (B2.out.trans (b3.mono B2.out.size))
  clear b3
  cases r <;> (go_wp2; go_ret; exact ⟨rfl, B3.out⟩)
set_option maxHeartbeats 3200000 in
set_option maxRecDepth 100000 in
theorem idx_any (d : Nat) (n : Int) (l : List Cur) (v : Value) (q : Nat) (w : World) (h : RowsAt 4 (curR d) w w.heap.size v l) (hq : w.heap[q]? = some (.cells #[.int .i64 n] 3))
    (HH : ∀ x ∈ l, ∀ (c : List Value) (W : World), curR d W W.heap.size c x → Calls Try.prog 47 #[.agg c.toArray, .int .i64 n] W (Said (has x.nums n) W)) :
    Calls Try.prog 60 #[v, .func (.func 61) #[] #[.pointer (some ⟨q, 0, none⟩)]] w (IdxP (l.any fun x => has x.nums n) w) := by
  obtain ⟨m, hm⟩ : ∃ m, m = l.length := ⟨_, rfl⟩
  obtain ⟨ao, cap, rfl, hnc, hnm⟩ := h.form' hm
  unfold maxLen at hnm
  obtain ⟨b, hb⟩ : ∃ b, b = (l.any fun x => has x.nums n) := ⟨_, rfl⟩
  rw [← hb]
  have HB := Lib.hid hb
  have HL := Lib.hid h
  have HM := Lib.hid hm
  have HQ := Lib.hid hq
  have eg : ∀ args w, (callFunc 61 args).run Try.prog w = .ok (.enter 61 args) w := enters_of Try.func61 (by kernel_rfl) rfl
  have HP : Hid (∀ x ∈ l, ∀ (c : List Value) (W : World), Below w.heap.size w W → curR d W W.heap.size c x → Calls Try.prog 61 #[.agg c.toArray, .pointer (some ⟨q, 0, none⟩)] W (Said (has x.nums n) W)) := fun x hx c W hW hc =>
    cl_any d n x c q W hc ((hW.block q (lt_of_block hq)).trans hq) (fun W' hW' => HH x hx c W' (curR_steady d _ _ _ _ _ _ hc hW' hW'.size))
  clear h hm hb hq HH
  go_enter Try.func60, Try.ntmps60
  go_wp2
  go_loopw [5, 8] (fun _ i wr => ∃ k : Nat, i = .int .i64 k ∧ k ≤ m ∧ Hid (∀ j, j < k → (fun x : Cur => has x.nums n) (l.getD j default) = false) ∧ Below w.heap.size w wr) (fun _ i _ => m - (intOf i).toNat)
  case atStart => exact ⟨0, rfl, Nat.zero_le _, fun j hj => absurd hj (Nat.not_lt_zero _), Below.refl _ _⟩
  case round =>
    obtain ⟨k, rfl, hk, HI, hbl⟩ := hrel
    by_cases hlt : k < m
    · skip
      have hkI : (k : Int) < (m : Int) := by omega
      obtain ⟨x, hx⟩ : ∃ x, x = l.getD k default := ⟨_, rfl⟩
      obtain ⟨ba, oa, c, rfl, hbB, hcl, hR, hC⟩ := (HL.out.next (curR_steady d) hbl).get HM.out hlt default
      rw [← hx] at hR
      obtain ⟨lo, ln, lc, ko, kn, kc, rfl⟩ := cur_form hR
      have q0 : wr.cell? ⟨ba, oa + k * 4, none⟩ = _ := hC 0 _ rfl
      have q1 := hC 1 _ rfl
      have q2 := hC 2 _ rfl
      have q3 := hC 3 _ rfl
      have hxl : k < l.length := by rw [← HM.out]; exact hlt
      have hxe : x = l[k] := by rw [hx, List.getD_eq_getElem?_getD, List.getElem?_eq_getElem hxl]; rfl
      have HX : Hid (x ∈ l) := by show x ∈ l; rw [hxe]; exact List.getElem_mem _
      have HXX := Lib.hid hx
      have HC := Lib.hid (HP.out x HX.out _ wr hbl hR)
      have HBL := Lib.hid hbl
      clear hR hC hx hxe hxl hcl hbB hbl
      obtain ⟨r, hr⟩ : ∃ r, r = (has x.nums n) := ⟨_, rfl⟩
      rw [← hr] at HC
      have HRR := Lib.hid hr
      clear hr
      cases r with
      | true =>
        have HF : Hid (b = true) := by
          show b = true
          rw [HB.out, List.any_eq_true]
          exact ⟨x, HX.out, HRR.out.symm⟩
        go_wp2_with fail
        (with_reducible refine HC.out.mono ?_)
        rintro e w3 ⟨rfl, b3⟩
        have B3 := Lib.hid (HBL.out.trans (b3.mono HBL.out.size))
        clear b3
        go_wp2
        go_ret
        exact ⟨⟨(k : Int), rfl, fun _ => Int.natCast_nonneg _, fun h => absurd (HF.out.symm.trans h) (by decide)⟩, B3.out⟩
      | false =>
        have HI2 : Hid (∀ j, j < k + 1 → (fun x : Cur => has x.nums n) (l.getD j default) = false) := fun j hj => by
          by_cases ej : j = k
          · subst ej; rw [← HXX.out]; exact HRR.out.symm
          · exact HI.out j (by omega)
        go_wp2_with fail
        (with_reducible refine HC.out.mono ?_)
        rintro e w3 ⟨rfl, b3⟩
        have B3 := Lib.hid (HBL.out.trans (b3.mono HBL.out.size))
        clear b3
        go_wp2
        go_roundw
        case rel => exact ⟨k + 1, by go_num, by omega, HI2, B3.out⟩
        case measure => simp [intOf]; omega
    · have HF : Hid (b = false) := by
        show b = false
        rw [HB.out, List.any_eq_false]
        intro x hx
        obtain ⟨j, hj, rfl⟩ := List.mem_iff_getElem.1 hx
        have := HI.out j (by have := HM.out; omega)
        rw [List.getD_eq_getElem?_getD, List.getElem?_eq_getElem hj] at this
        exact Bool.eq_false_iff.1 this
      have HBL := Lib.hid hbl
      clear hbl
      go_wp2
      go_ret
      exact ⟨⟨-1, rfl, fun h => absurd (HF.out.symm.trans h) (by decide), fun _ => rfl⟩, HBL.out⟩
set_option maxHeartbeats 1600000 in
set_option maxRecDepth 100000 in
theorem con_any (d : Nat) (n : Int) (l : List Cur) (v : Value) (q : Nat) (w : World) (h : RowsAt 4 (curR d) w w.heap.size v l) (hq : w.heap[q]? = some (.cells #[.int .i64 n] 3))
    (HH : ∀ x ∈ l, ∀ (c : List Value) (W : World), curR d W W.heap.size c x → Calls Try.prog 47 #[.agg c.toArray, .int .i64 n] W (Said (has x.nums n) W)) :
    Calls Try.prog 55 #[v, .func (.func 61) #[] #[.pointer (some ⟨q, 0, none⟩)]] w (Said (l.any fun x => has x.nums n) w) := by
  have HI := Lib.hid (idx_any d n l v q w h hq HH)
  obtain ⟨b, hb⟩ : ∃ b, b = (l.any fun x => has x.nums n) := ⟨_, rfl⟩
  rw [← hb] at HI ⊢
  obtain ⟨ao, cap, rfl, _, _⟩ := h.form
  obtain ⟨m, hm⟩ : ∃ m, m = l.length := ⟨_, rfl⟩
  rw [← hm] at HI ⊢
  clear h hb hq HH hm
  go_enter Try.func55, Try.ntmps55
  go_wp2_with fail
  (with_reducible refine HI.out.mono ?_)
  rintro e w3 ⟨⟨z, rfl, h1, h2⟩, b3⟩
  cases b with
  | true =>
    have hz : 0 ≤ z := h1 rfl
    have B3 := Lib.hid b3
    clear h1 h2 b3
    go_wp2
    go_ret
    exact ⟨by simp, B3.out⟩
  | false =>
    obtain rfl : z = -1 := h2 rfl
    have B3 := Lib.hid b3
    clear h1 h2 b3
    go_wp2
    go_ret
    exact ⟨by simp, B3.out⟩
set_option maxHeartbeats 1600000 in
set_option maxRecDepth 100000 in
theorem some_of (d : Nat) (n : Int) (l : List Cur) (v : Value) (w : World) (h : RowsAt 4 (curR d) w w.heap.size v l)
    (HH : ∀ x ∈ l, ∀ (c : List Value) (W : World), curR d W W.heap.size c x → Calls Try.prog 47 #[.agg c.toArray, .int .i64 n] W (Said (has x.nums n) W)) :
    Calls Try.prog 57 #[v, .int .i64 n] w (Said (l.any fun x => has x.nums n) w) := by
  have hmf : ∀ (fn : Fn) (first cap : Array Value) (w : World), (Instr.makeFunc fn first cap).run Try.prog w = .ok (.func fn first cap) w := fun _ _ _ _ => rfl
  obtain ⟨W2, hW2⟩ : ∃ W, W = w.alloc (.cells #[.int .i64 n] 3) := ⟨_, rfl⟩
  have b2 : Below w.heap.size w W2 := by rw [hW2]; exact below1
  obtain ⟨q0, hq0⟩ : ∃ q, q = w.heap.size := ⟨_, rfl⟩
  have x2 : W2.heap[q0]? = some (.cells #[.int .i64 n] 3) := by rw [hW2, hq0]; exact heap_alloc_new _ _
  have HI := Lib.hid (con_any d n l v q0 W2 (h.next (curR_steady d) b2) x2 HH)
  obtain ⟨b, hb⟩ : ∃ b, b = (l.any fun x => has x.nums n) := ⟨_, rfl⟩
  rw [← hb] at HI ⊢
  obtain ⟨ao, cap, rfl, _, _⟩ := h.form
  obtain ⟨m, hm⟩ : ∃ m, m = l.length := ⟨_, rfl⟩
  rw [← hm] at HI ⊢
  have HW2 := Lib.hid hW2
  have HQ0 := Lib.hid hq0
  have B2 := Lib.hid b2
  clear h hb hm HH hW2 hq0 b2 x2
  go_enter Try.func57, Try.ntmps57
  go_wp2_with fail
  rw [← HW2.out, ← HQ0.out]
  (with_reducible refine HI.out.mono ?_)
  rintro e w3 ⟨rfl, b3⟩
  go_wp2
  go_ret
  exact ⟨rfl, B2.out.trans (b3.mono B2.out.size)⟩
end Go.Proofs.Ytojngbobecdpeaa
