/- patterns that are right: rx.Right tells just which are. -/
import Derived.Test.YtbccejlemhgioaaRxRight
namespace Go.Proofs.Ytbccejlemhgioaa
open Go Go.RowKit Go.ChangeShapes cl rx
/-- bounds that are right -/
def bndB (mn mx : Int) : Bool := decide (0 ≤ mn ∧ mn ≤ 20 ∧ -1 ≤ mx ∧ mx ≤ 20 ∧ (mx = -1 ∨ (mn ≤ mx ∧ ¬ (mn = 1 ∧ mx = 1))))
/-- all are right, and none is of those kinds -/
def kidsF (f : Pat → Bool) (zs : List Int) (l : List Pat) : Bool := l.all (fun x => !(zs.contains x.k) && f x)
def okF : Nat → Pat → Bool
  | 0, _ => false
  | d + 1, .mk k cl ks mn mx =>
    if 60 < ks.length then false else
    if (k ≠ 2 ∧ cl ≠ Cls.zero) ∨ (k ≠ 5 ∧ (mn ≠ 0 ∨ mx ≠ 0)) then false else
    if k = 1 then decide (ks.length = 0) else
    if k = 2 then decide (ks.length = 0) && !cl.isz else
    if k = 3 then decide (2 ≤ ks.length) && kidsF (fun x => okF d x) [3, 1] ks else
    if k = 4 then decide (2 ≤ ks.length) && kidsF (fun x => okF d x) [4] ks else
    if k = 5 then decide (ks.length = 1) && (bndB mn mx && kidsF (fun x => okF d x) [] ks) else false
theorem con_any {v : Value} {zs : List Int} {w : World} (h : NotP v zs w) (k : Int) (W : World) (hW : Below w.heap.size w W) : Calls Try.prog 38 #[v, .int .i64 k] W (fun e w' => e = .returned (.bool (zs.contains k)) ∧ w' = W) := by
  rcases h with ⟨rfl, rfl⟩ | ⟨b, rfl, hb, hl, hc⟩
  · exact Try.slices_Contains_int_empty none 0 k W
  · have h1 := Try.slices_Contains_int b 0 zs.length zs.length zs k W (Nat.le_refl _) (by omega) (fun j hj => (hW.cell (p := ⟨b, _, none⟩) hb).trans (hc j hj))
    rw [List.take_length] at h1
    exact h1
theorem kidsF_no {f : Pat → Bool} {zs : List Int} {l : List Pat} {k : Nat} {x : Pat} (hk : k < l.length) (hx : x = l.getD k default) (h : (!(zs.contains x.k) && f x) = false) : kidsF f zs l = false := by
  unfold kidsF
  rw [List.all_eq_false]
  refine ⟨x, ?_, by rw [h]; simp⟩
  rw [hx, List.getD_eq_getElem?_getD, List.getElem?_eq_getElem hk]; exact List.getElem_mem _
theorem kidsF_yes {f : Pat → Bool} {zs : List Int} {l : List Pat} (h : ∀ j, j < l.length → (!(zs.contains (l.getD j default).k) && f (l.getD j default)) = true) : kidsF f zs l = true := by
  unfold kidsF
  rw [List.all_eq_true]
  intro x hx
  obtain ⟨j, hj, rfl⟩ := List.mem_iff_getElem.1 hx
  have := h j hj
  rw [List.getD_eq_getElem?_getD, List.getElem?_eq_getElem hj] at this
  exact this
set_option maxHeartbeats 3200000 in
theorem rbounds_any (n m : Int) (w : World) : Calls Try.prog 33 #[.int .i64 n, .int .i64 m] w (fun e w' => e = .returned (.bool (bndB n m)) ∧ w' = w) := by
  obtain ⟨A, hA⟩ : ∃ A, A = bndB n m := ⟨_, rfl⟩
  rw [← hA]
  unfold bndB at hA
  by_cases h1 : n < 0
  · have d1 : decide (n < 0) = true := decide_eq_true h1
    obtain rfl : A = false := by rw [hA]; exact decide_eq_false (by omega)
    clear hA
    go_enter Try.func33, Try.ntmps33
    go_wp2
    go_ret
    exact ⟨rfl, rfl⟩
  have d1 : decide (n < 0) = false := decide_eq_false h1
  by_cases h2 : 20 < n
  · have d2 : decide (20 < n) = true := decide_eq_true h2
    obtain rfl : A = false := by rw [hA]; exact decide_eq_false (by omega)
    clear hA
    go_enter Try.func33, Try.ntmps33
    go_wp2
    go_ret
    exact ⟨rfl, rfl⟩
  have d2 : decide (20 < n) = false := decide_eq_false h2
  by_cases h3 : m < -1
  · have d3 : decide (m < -1) = true := decide_eq_true h3
    obtain rfl : A = false := by rw [hA]; exact decide_eq_false (by omega)
    clear hA
    go_enter Try.func33, Try.ntmps33
    go_wp2
    go_ret
    exact ⟨rfl, rfl⟩
  have d3 : decide (m < -1) = false := decide_eq_false h3
  by_cases h4 : 20 < m
  · have d4 : decide (20 < m) = true := decide_eq_true h4
    obtain rfl : A = false := by rw [hA]; exact decide_eq_false (by omega)
    clear hA
    go_enter Try.func33, Try.ntmps33
    go_wp2
    go_ret
    exact ⟨rfl, rfl⟩
  have d4 : decide (20 < m) = false := decide_eq_false h4
  by_cases h5 : m = -1
  · have d5 : (m == -1) = true := beq_iff_eq.2 h5
    obtain rfl : A = true := by rw [hA]; exact decide_eq_true (by omega)
    clear hA
    go_enter Try.func33, Try.ntmps33
    go_wp2
    go_ret
    exact ⟨rfl, rfl⟩
  have d5 : (m == -1) = false := beq_eq_false_iff_ne.2 h5
  by_cases h6 : n ≤ m
  · have d6 : decide (n ≤ m) = true := decide_eq_true h6
    by_cases h7 : n = 1
    · have d7 : (n == 1) = true := beq_iff_eq.2 h7
      by_cases h8 : m = 1
      · have d8 : (m == 1) = true := beq_iff_eq.2 h8
        obtain rfl : A = false := by rw [hA]; exact decide_eq_false (by omega)
        clear hA
        go_enter Try.func33, Try.ntmps33
        go_wp2
        go_ret
        exact ⟨rfl, rfl⟩
      · have d8 : (m == 1) = false := beq_eq_false_iff_ne.2 h8
        obtain rfl : A = true := by rw [hA]; exact decide_eq_true (by omega)
        clear hA
        go_enter Try.func33, Try.ntmps33
        go_wp2
        go_ret
        exact ⟨rfl, rfl⟩
    · have d7 : (n == 1) = false := beq_eq_false_iff_ne.2 h7
      obtain rfl : A = true := by rw [hA]; exact decide_eq_true (by omega)
      clear hA
      go_enter Try.func33, Try.ntmps33
      go_wp2
      go_ret
      exact ⟨rfl, rfl⟩
  · have d6 : decide (n ≤ m) = false := decide_eq_false h6
    obtain rfl : A = false := by rw [hA]; exact decide_eq_false (by omega)
    clear hA
    go_enter Try.func33, Try.ntmps33
    go_wp2
    go_ret
    exact ⟨rfl, rfl⟩
set_option maxHeartbeats 6400000 in
set_option maxRecDepth 100000 in
theorem rkids_any (f : Pat → Bool) (e : Nat) (z : Int) (HR : ∀ (x : Pat) (c : List Value) (w : World), rxR e w w.heap.size c x → Calls Try.prog 24 #[.agg c.toArray, .int .i64 z] w (fun e w' => e = .returned (.bool (f x)) ∧ Below w.heap.size w w'))
    (l : List Pat) (v : Value) (nv : Value) (zs : List Int) (w : World) (h : RowsAt 8 (rxR e) w w.heap.size v l) (hn : NotP nv zs w) :
    Calls Try.prog 32 #[v, .int .i64 z, nv] w (fun e w' => e = .returned (.bool (kidsF f zs l)) ∧ Below w.heap.size w w') := by
  obtain ⟨m, hm⟩ : ∃ m, m = l.length := ⟨_, rfl⟩
  obtain ⟨ao, cap, rfl, hnc, hnm⟩ := h.form' hm
  unfold maxLen at hnm
  have HCN : Hid (∀ (k : Int), ∀ W, Below w.heap.size w W → Calls Try.prog 38 #[nv, .int .i64 k] W (fun e w' => e = .returned (.bool (zs.contains k)) ∧ w' = W)) := fun k W hW => con_any hn k W hW
  have hnf : ∃ no nn nc, nv = .slice no nn nc := by
    rcases hn with ⟨rfl, _⟩ | ⟨b, rfl, _⟩ <;> exact ⟨_, _, _, rfl⟩
  obtain ⟨no, nn, nc, rfl⟩ := hnf
  obtain ⟨A, hA⟩ : ∃ A, A = kidsF f zs l := ⟨_, rfl⟩
  rw [← hA]
  have HA := Lib.hid hA
  have HL := Lib.hid h
  have HM := Lib.hid hm
  have HH := Lib.hid HR
  clear h hm HR hn hA
  go_enter Try.func32, Try.ntmps32
  go_wp2
  go_loopw [11, 25] (fun i _ wr => ∃ k : Nat, i = .int .i64 k ∧ k ≤ m ∧ Below w.heap.size w wr ∧ ∀ j, j < k → (!(zs.contains (l.getD j default).k) && f (l.getD j default)) = true) (fun i _ _ => m - (intOf i).toNat)
  case atStart => exact ⟨0, rfl, Nat.zero_le _, Below.refl _ _, fun j hj => absurd hj (by omega)⟩
  case round =>
    obtain ⟨k, rfl, hk, hbl, hall⟩ := hrel
    have HBL := Lib.hid hbl
    have HALL := Lib.hid hall
    clear hall
    by_cases hlt : k < m
    · have hkI : (k : Int) < (m : Int) := by omega
      obtain ⟨x, hx⟩ : ∃ x, x = l.getD k default := ⟨_, rfl⟩
      obtain ⟨ba, oa, c, rfl, hbB, hcl, hR, hC⟩ := (HL.out.next (rxR_steady e) hbl).get HM.out hlt default
      rw [← hx] at hR
      have HX := Lib.hid hx
      have HLT := Lib.hid hlt
      obtain ⟨ko, kn, kc, rfl⟩ := rx_form hR
      have z0 : wr.cell? ⟨ba, oa + k * 8, none⟩ = _ := hC 0 _ rfl
      have z1 := hC 1 _ rfl
      have z2 := hC 2 _ rfl
      have z3 := hC 3 _ rfl
      have z4 := hC 4 _ rfl
      have z5 := hC 5 _ rfl
      have z6 := hC 6 _ rfl
      have z7 := hC 7 _ rfl
      obtain ⟨W4, hW4⟩ : ∃ W, W = wr.alloc (.cells #[.int .i64 x.k, .int .u64 x.cl.a, .int .u64 x.cl.b, .int .u64 x.cl.c, .int .u64 x.cl.d, .slice ko kn kc, .int .i64 x.mn, .int .i64 x.mx] 28) := ⟨_, rfl⟩
      have b4 : Below wr.heap.size wr W4 := by rw [hW4]; exact below1
      have x4 : W4.heap[wr.heap.size]? = some (.cells #[.int .i64 x.k, .int .u64 x.cl.a, .int .u64 x.cl.b, .int .u64 x.cl.c, .int .u64 x.cl.d, .slice ko kn kc, .int .i64 x.mn, .int .i64 x.mx] 28) := by rw [hW4]; exact heap_alloc_new _ _
      have HCO := Lib.hid (HCN.out x.k W4 (hbl.trans (b4.mono hbl.size)))
      have HRI := Lib.hid (HH.out x _ W4 (rxR_steady e _ _ _ _ _ _ hR b4 b4.size))
      have B4 := Lib.hid (hbl.trans (b4.mono hbl.size))
      obtain ⟨q4, hq4⟩ : ∃ q4, q4 = wr.heap.size := ⟨_, rfl⟩
      rw [← hq4] at x4
      have y0 := boxc x4 0 _ rfl
      have y1 := boxc x4 1 _ rfl
      have y2 := boxc x4 2 _ rfl
      have y3 := boxc x4 3 _ rfl
      have y4 := boxc x4 4 _ rfl
      have y5 := boxc x4 5 _ rfl
      have y6 := boxc x4 6 _ rfl
      have y7 := boxc x4 7 _ rfl
      have v0 := y0
      rw [hW4, hq4] at v0
      have HW4 := Lib.hid hW4
      have HQ4 := Lib.hid hq4
      obtain ⟨P1, hP1⟩ : ∃ P1, P1 = zs.contains x.k := ⟨_, rfl⟩
      obtain ⟨P2, hP2⟩ : ∃ P2, P2 = f x := ⟨_, rfl⟩
      rw [← hP1] at HCO
      rw [← hP2] at HRI
      have HP1 := Lib.hid hP1
      have HP2 := Lib.hid hP2
      clear hR hC hx hcl hbB hbl b4 x4 hW4 hq4 hP1 hP2 hlt
      go_wp2_with fail
      rw [← HW4.out, ← HQ4.out]
      clear v0
      (with_reducible refine HCO.out.mono ?_)
      rintro e5 w5 ⟨rfl, rfl⟩
      cases P1 with
      | true =>
        go_wp2
        go_ret
        exact ⟨by rw [HA.out, kidsF_no (by have := HM.out; have := HLT.out; omega) HX.out (by rw [← HP1.out]; rfl)]; rfl, B4.out⟩
      | false =>
        go_wp2_with fail
        (with_reducible refine HRI.out.mono ?_)
        rintro e6 w6 ⟨rfl, b6⟩
        have B6 := Lib.hid (B4.out.trans (b6.mono B4.out.size))
        clear b6 y0 y1 y2 y3 y4 y5 y6 y7
        cases P2 with
        | false =>
          go_wp2
          go_ret
          exact ⟨by rw [HA.out, kidsF_no (by have := HM.out; have := HLT.out; omega) HX.out (by rw [← HP1.out, ← HP2.out]; rfl)]; rfl, B6.out⟩
        | true =>
          go_wp2
          go_roundw
          case rel =>
            refine ⟨k + 1, by go_num, by have := HLT.out; omega, B6.out, fun j hj => ?_⟩
            rcases (by omega : j < k ∨ j = k) with hj | rfl
            · exact HALL.out j hj
            · rw [← HX.out, ← HP1.out, ← HP2.out]; rfl
          case measure => simp [intOf]; have := HLT.out; omega
    · obtain rfl : k = m := by omega
      clear hbl
      go_wp2
      go_ret
      exact ⟨by rw [HA.out, kidsF_yes (fun j hj => HALL.out j (by have := HM.out; omega))]; rfl, HBL.out⟩
end Go.Proofs.Ytbccejlemhgioaa
