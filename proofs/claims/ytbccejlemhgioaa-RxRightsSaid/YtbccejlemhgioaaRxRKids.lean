/- the document's kids. -/
import Derived.Test.YtbccejlemhgioaaRxOkF
namespace Go.Proofs.Ytbccejlemhgioaa
open Go Go.RowKit Go.ChangeShapes cl rx
theorem con1 (z k : Int) : ([z] : List Int).contains k = (k == z) := by
  show (k == z || false) = _
  rw [Bool.or_false]
theorem kidsF_31 {f : Pat → Bool} {l : List Pat} (h : ∀ j, j < l.length → (l.getD j default).k ≠ 1) : kidsF f [3, 1] l = kidsF f [3] l := by
  unfold kidsF
  rw [Bool.eq_iff_iff, List.all_eq_true, List.all_eq_true]
  have hx : ∀ x ∈ l, ([3, 1] : List Int).contains x.k = ([3] : List Int).contains x.k := by
    intro x hx
    obtain ⟨j, hj, rfl⟩ := List.mem_iff_getElem.1 hx
    have := h j hj
    rw [List.getD_eq_getElem?_getD, List.getElem?_eq_getElem hj] at this
    have h1 : (l[j].k == 1) = false := beq_eq_false_iff_ne.2 this
    show (l[j].k == 3 || (l[j].k == 1 || false)) = (l[j].k == 3 || false)
    rw [h1, Bool.or_false]
  exact ⟨fun h x hm => by rw [← hx x hm]; exact h x hm, fun h x hm => by rw [hx x hm]; exact h x hm⟩
theorem okF_0 : ∀ (d : Nat) (x : Pat), x.k = 0 → okF d x = false
  | 0, _, _ => by unfold okF; rfl
  | d + 1, .mk k cl ks mn mx, h => by
    have h : k = 0 := h
    subst h
    unfold okF
    split
    · rfl
    · split
      · rfl
      · rw [if_neg (by decide), if_neg (by decide), if_neg (by decide), if_neg (by decide), if_neg (by decide)]
theorem kidsF_0 {d : Nat} {l : List Pat} : kidsF (fun x => okF d x) [] l = kidsF (fun x => okF d x) [0] l := by
  unfold kidsF
  congr 1
  funext x
  rw [con1]
  by_cases h : x.k = 0
  · show (_ && okF d x) = (_ && okF d x)
    rw [okF_0 d x h, Bool.and_false, Bool.and_false]
  · rw [beq_eq_false_iff_ne.2 h]; rfl
set_option maxHeartbeats 6400000 in
set_option maxRecDepth 100000 in
theorem rrkids_any (f : Pat → Bool) (e : Nat) (z : Int) (hz : -1000 ≤ z ∧ z ≤ 1000) (zk : Int) (HR : ∀ (x : Pat) (c : List Value) (w : World), rxR e w w.heap.size c x → Calls Try.prog 25 #[.agg c.toArray, .int .i64 (z - 1)] w (fun e w' => e = .returned (.bool (f x)) ∧ Below w.heap.size w w'))
    (y : Pat) (c : List Value) (w : World) (h0 : rxR (e + 1) w w.heap.size c y) :
    Calls Try.prog 34 #[.agg c.toArray, .int .i64 z, .int .i64 zk] w (fun e w' => e = .returned (.bool (kidsF f [zk] y.ks)) ∧ Below w.heap.size w w') := by
  obtain ⟨ao, m, cap, rfl, h⟩ := h0
  have hzw : IntKind.i64.wrap (z - 1) = z - 1 := IntWalk.i64_in _ (by omega)
  obtain ⟨hm, hnc, hnm⟩ : m = y.ks.length ∧ m ≤ cap ∧ m ≤ maxLen := by
    obtain ⟨_, _, e, h1, h2⟩ := h.form
    simp only [Value.slice.injEq] at e
    obtain ⟨rfl, rfl, rfl⟩ := e
    exact ⟨rfl, h1, h2⟩
  unfold maxLen at hnm
  obtain ⟨l, hl⟩ : ∃ l, l = y.ks := ⟨_, rfl⟩
  rw [← hl] at h hm ⊢
  obtain ⟨A, hA⟩ : ∃ A, A = kidsF f [zk] l := ⟨_, rfl⟩
  rw [← hA]
  obtain ⟨W2, hW2⟩ : ∃ W, W = w.alloc (.cells #[.int .i64 y.k, .int .u64 y.cl.a, .int .u64 y.cl.b, .int .u64 y.cl.c, .int .u64 y.cl.d, .slice ao m cap, .int .i64 y.mn, .int .i64 y.mx] 28) := ⟨_, rfl⟩
  have b2 : Below w.heap.size w W2 := by rw [hW2]; exact below1
  have x2 : W2.heap[w.heap.size]? = some (.cells #[.int .i64 y.k, .int .u64 y.cl.a, .int .u64 y.cl.b, .int .u64 y.cl.c, .int .u64 y.cl.d, .slice ao m cap, .int .i64 y.mn, .int .i64 y.mx] 28) := by rw [hW2]; exact heap_alloc_new _ _
  have c5 := boxc x2 5 _ rfl
  rw [hW2] at c5
  have B2 := Lib.hid b2
  have HW2 := Lib.hid hW2
  have HA := Lib.hid hA
  have HL := Lib.hid h
  have HM := Lib.hid hm
  have HH := Lib.hid HR
  clear h hm HR hA hl b2 x2 hW2
  go_enter Try.func34, Try.ntmps34
  go_wp2
  clear c5
  rw [← HW2.out]
  go_loopw [12, 27] (fun i _ wr => ∃ k : Nat, i = .int .i64 k ∧ k ≤ m ∧ Below w.heap.size w wr ∧ ∀ j, j < k → (!(([zk] : List Int).contains (l.getD j default).k) && f (l.getD j default)) = true) (fun i _ _ => m - (intOf i).toNat)
  case atStart => exact ⟨0, rfl, Nat.zero_le _, B2.out, fun j hj => absurd hj (by omega)⟩
  case round =>
    obtain ⟨k, rfl, hk, hbl, hall⟩ := hrel
    have HBL := Lib.hid hbl
    have HALL := Lib.hid hall
    clear hall
    by_cases hlt : k < m
    · have hkI : (k : Int) < (m : Int) := by omega
      obtain ⟨x, hx⟩ : ∃ x, x = l.getD k default := ⟨_, rfl⟩
      obtain ⟨ba, oa, c, rfl, hbB, hcl, hR, hC⟩ := (HL.out.next (rxR_steady e) hbl).get HM.out hlt default
      rw [← hx] at hR
      have HX := Lib.hid hx
      have HLT := Lib.hid hlt
      obtain ⟨ko, kn, kc, rfl⟩ := rx_form hR
      have z0 : wr.cell? ⟨ba, oa + k * 8, none⟩ = _ := hC 0 _ rfl
      have z1 := hC 1 _ rfl
      have z2 := hC 2 _ rfl
      have z3 := hC 3 _ rfl
      have z4 := hC 4 _ rfl
      have z5 := hC 5 _ rfl
      have z6 := hC 6 _ rfl
      have z7 := hC 7 _ rfl
      obtain ⟨W4, hW4⟩ : ∃ W, W = wr.alloc (.cells #[.int .i64 x.k, .int .u64 x.cl.a, .int .u64 x.cl.b, .int .u64 x.cl.c, .int .u64 x.cl.d, .slice ko kn kc, .int .i64 x.mn, .int .i64 x.mx] 28) := ⟨_, rfl⟩
      have b4 : Below wr.heap.size wr W4 := by rw [hW4]; exact below1
      have x4 : W4.heap[wr.heap.size]? = some (.cells #[.int .i64 x.k, .int .u64 x.cl.a, .int .u64 x.cl.b, .int .u64 x.cl.c, .int .u64 x.cl.d, .slice ko kn kc, .int .i64 x.mn, .int .i64 x.mx] 28) := by rw [hW4]; exact heap_alloc_new _ _
      have HRI := Lib.hid (HH.out x _ W4 (rxR_steady e _ _ _ _ _ _ hR b4 b4.size))
      have B4 := Lib.hid (hbl.trans (b4.mono hbl.size))
      have y0 := boxc x4 0 _ rfl
      have y1 := boxc x4 1 _ rfl
      have y2 := boxc x4 2 _ rfl
      have y3 := boxc x4 3 _ rfl
      have y4 := boxc x4 4 _ rfl
      have y5 := boxc x4 5 _ rfl
      have y6 := boxc x4 6 _ rfl
      have y7 := boxc x4 7 _ rfl
      rw [hW4] at y0 y1 y2 y3 y4 y5 y6 y7
      have HW4 := Lib.hid hW4
      obtain ⟨P2, hP2⟩ : ∃ P2, P2 = f x := ⟨_, rfl⟩
      rw [← hP2] at HRI
      have HP2 := Lib.hid hP2
      clear hR hC hx hcl hbB hbl b4 x4 hW4 hP2 hlt
      by_cases hkz : x.k = zk
      · have e1 : (x.k == zk) = true := beq_iff_eq.2 hkz
        have HV : Hid (A = false) := by
          show _ = _
          rw [HA.out, kidsF_no (by have := HM.out; have := HLT.out; omega) HX.out (by rw [con1, e1]; rfl)]
        clear hkz
        go_wp2
        go_ret
        refine ⟨by rw [HV.out]; rfl, ?_⟩
        rw [← HW4.out]
        exact B4.out
      · have e1 : (x.k == zk) = false := beq_eq_false_iff_ne.2 hkz
        have HE := Lib.hid e1
        go_wp2_with fail
        rw [← HW4.out]
        (with_reducible refine HRI.out.mono ?_)
        rintro e6 w6 ⟨rfl, b6⟩
        have B6 := Lib.hid (B4.out.trans (b6.mono B4.out.size))
        clear b6 y0 y1 y2 y3 y4 y5 y6 y7
        cases P2 with
        | false =>
          go_wp2
          go_ret
          exact ⟨by rw [HA.out, kidsF_no (by have := HM.out; have := HLT.out; omega) HX.out (by rw [con1, HE.out, ← HP2.out]; rfl)]; rfl, B6.out⟩
        | true =>
          go_wp2
          go_roundw
          case rel =>
            refine ⟨k + 1, by go_num, by have := HLT.out; omega, B6.out, fun j hj => ?_⟩
            rcases (by omega : j < k ∨ j = k) with hj | rfl
            · exact HALL.out j hj
            · rw [← HX.out, con1, HE.out, ← HP2.out]; rfl
          case measure => simp [intOf]; have := HLT.out; omega
    · obtain rfl : k = m := by omega
      clear hbl
      go_wp2
      go_ret
      exact ⟨by rw [HA.out, kidsF_yes (fun j hj => HALL.out j (by have := HM.out; omega))]; rfl, HBL.out⟩
end Go.Proofs.Ytbccejlemhgioaa
