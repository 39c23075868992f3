/- texts put together: DelAlv. -/
import Derived.Test.YtonknpdalemjkaaGreatDe00
import Derived.Test.YtonknpdalemjkaaGreatDe01
import Derived.Test.YtonknpdalemjkaaGreatDe02
import Derived.Test.YtonknpdalemjkaaGreatDe03
import Derived.Test.YtonknpdalemjkaaGreatDe04
import Derived.Test.YtonknpdalemjkaaGreatDe05
import Derived.Test.YtonknpdalemjkaaGreatDe06
import Derived.Test.YtonknpdalemjkaaGreatDe07
import Derived.Test.YtonknpdalemjkaaGreatDe08
import Derived.Test.YtonknpdalemjkaaGreatDe09
import Derived.Test.YtonknpdalemjkaaGreatDe10
import Derived.Test.YtonknpdalemjkaaGreatDe11
import Derived.Test.YtonknpdalemjkaaGreatDe12
import Derived.Test.YtonknpdalemjkaaGreatDe13
import Derived.Test.YtonknpdalemjkaaGreatDe14
import Derived.Test.YtonknpdalemjkaaGreatDe15
import Derived.Test.YtonknpdalemjkaaGreatDe16
import Derived.Test.YtonknpdalemjkaaGreatDe17
import Derived.Test.YtonknpdalemjkaaGreatDe18
import Derived.Test.YtonknpdalemjkaaGreatDe19
import Derived.Test.YtonknpdalemjkaaGreatDe20
import Derived.Test.YtonknpdalemjkaaGreatDe21
import Derived.Test.YtonknpdalemjkaaGreatDe22
import Derived.Test.YtonknpdalemjkaaGreatDe23
import Derived.Test.YtonknpdalemjkaaGreatDe24
import Derived.Test.YtonknpdalemjkaaGreatDn00
import Derived.Test.YtonknpdalemjkaaGreatDn01
import Derived.Test.YtonknpdalemjkaaGreatDn11
import Derived.Test.YtonknpdalemjkaaGreatDn23
import Derived.Test.YtonknpdalemjkaaGreatDn25
import Derived.Test.YtonknpdalemjkaaGreatDn26
namespace Go.Proofs.YtonknpdalemjkaaGreat
open Go Go.RowKit Go.ChangeShapes cl
set_option maxHeartbeats 3200000 in
set_option maxRecDepth 100000 in
theorem alive_any (A : List Dot) (da db : Int) (ue ua uv uc : Option Addr) (ne ce na ca nv cv nc cc : Nat) (w : World) (h : Dots w w.heap.size (.slice ua na ca) A) :
  Calls Tryz.prog 87 #[.agg #[.slice ue ne ce, .slice ua na ca, .slice uv nv cv, .slice uc nc cc], .agg #[.int .i64 da, .int .i64 db]] w (Said (decide ((da, db) ∈ A)) w) := by
 obtain ⟨hn, hnm⟩ : na = A.length ∧ na ≤ 9223372036854775807 := by
  obtain ⟨ao, cap, e, _, h9⟩ := h.form
  unfold maxLen at h9
  simp only [Value.slice.injEq] at e
  obtain ⟨_, e2, _⟩ := e
  exact ⟨e2, by rw [e2]; exact h9⟩
 have HN := Lib.hid hn
 have HC := Lib.hid h
 obtain ⟨q0, hq0⟩ : ∃ b, b = w.heap.size + 1 := ⟨_, rfl⟩
 obtain ⟨WA, hWA⟩ : ∃ W, W = w.alloc (.cells #[.slice ue ne ce, .slice ua na ca, .slice uv nv cv, .slice uc nc cc] 29) := ⟨_, rfl⟩
 obtain ⟨W3, hW3⟩ : ∃ W, W = WA.alloc (.cells #[.int .i64 da, .int .i64 db] 51) := ⟨_, rfl⟩
 have sA : WA.heap.size = w.heap.size + 1 := by rw [hWA]; simp
 have bA : Below w.heap.size w WA := by rw [hWA]; exact below1
 have bB : Below WA.heap.size WA W3 := by rw [hW3]; exact below1
 have b3 : Below w.heap.size w W3 := bA.trans (bB.mono bA.size)
 have x1 : W3.heap[q0]? = some (.cells #[.int .i64 da, .int .i64 db] 51 (0, 0)) := by rw [hW3, hq0, ← sA]; exact heap_alloc_new WA _
 have x0 : W3.heap[w.heap.size]? = some (.cells #[.slice ue ne ce, .slice ua na ca, .slice uv nv cv, .slice uc nc cc] 29 (0, 0)) := (bB.block _ (by omega)).trans (by rw [hWA]; exact heap_alloc_new w _)
 have z1 := boxc x0 1 _ rfl
 have HW3 : Hid (W3 = (w.alloc (.cells #[.slice ue ne ce, .slice ua na ca, .slice uv nv cv, .slice uc nc cc] 29)).alloc (.cells #[.int .i64 da, .int .i64 db] 51)) := by show _ = _; rw [hW3, hWA]
 have X1 := Lib.hid x1
 have HB3 := Lib.hid b3
 have H0 := Lib.hid hq0
 rw [hW3, hWA] at z1
 clear h sA bA bB b3 hn x0 x1 hW3 hWA hq0
 go_enter Tryz.func87, Tryz.ntmps87
 go_wp2_with fail
 rw [← HW3.out, ← H0.out]
 go_loopw [10] (fun i wr => ∃ k : Nat, i = .int .i64 (k : Int) ∧ k ≤ na ∧ Hid (∀ j, j < k → A.getD j (0, 0) ≠ (da, db)) ∧ Hid (Below W3.heap.size W3 wr)) (fun i _ => na - (intOf i).toNat)
 case atStart => exact ⟨0, rfl, Nat.zero_le _, fun j hj => absurd hj (Nat.not_lt_zero _), Below.refl _ _⟩
 case round =>
  obtain ⟨k, rfl, hk, HNO, HB⟩ := hrel
  have HBw : Hid (Below w.heap.size w wr) := HB3.out.trans (HB.out.mono HB3.out.size)
  by_cases hlt : k < na
  ·
   have hkI : (k : Int) < (na : Int) := by omega
   obtain ⟨bb, off, rfl, hbB, p0, p1⟩ := Dots.get (Cells.next HC.out HBw.out) HN.out hlt
   obtain ⟨⟨xa, xb⟩, hx⟩ : ∃ x, x = A.getD k (0, 0) := ⟨_, rfl⟩
   rw [← hx] at p0 p1
   simp only at p0 p1
   have HX := Lib.hid hx
   have HM : Hid ((xa, xb) ∈ A) := by
    show _ ∈ A
    rw [hx, List.getD_eq_getElem?_getD, List.getElem?_eq_getElem (by rw [← HN.out]; exact hlt)]
    exact List.getElem_mem _
   obtain ⟨W1, hW1⟩ : ∃ W1, W1 = wr.alloc (.cells #[.int .i64 xa, .int .i64 xb] 51) := ⟨_, rfl⟩
   have hb1 : Below wr.heap.size wr W1 := by rw [hW1]; exact below1
   have HB1 : Hid (Below W3.heap.size W3 W1) := HB.out.trans (hb1.mono HB.out.size)
   have HBw1 : Hid (Below w.heap.size w W1) := HBw.out.trans (hb1.mono HBw.out.size)
   have v1 := (HB1.out.block _ (lt_of_block X1.out)).trans X1.out
   have d0 := boxc v1 0 _ rfl
   have d1 := boxc v1 1 _ rfl
   have n1 : ¬ q0 = wr.heap.size := by have := lt_of_block X1.out; have := HB.out.size; omega
   have HW1 := Lib.hid hW1
   rw [hW1] at d0 d1
   clear hW1 hb1 v1 hx
   by_cases e1 : da = xa
   ·
    subst e1
    by_cases e2 : db = xb
    ·
     subst e2
     have HY : Hid (decide ((da, db) ∈ A) = true) := decide_eq_true HM.out
     go_wp2_with fail
     rw [← HW1.out]
     go_ret
     refine ⟨?_, HBw1.out⟩
     rw [HY.out]
     rfl
    ·
     have en2 : (db == xb) = false := by simpa using e2
     have HNO' : Hid (∀ j, j < k + 1 → A.getD j (0, 0) ≠ (da, db)) := fun j hj => by
      by_cases e : j = k
      ·
       subst e; rw [← HX.out]; intro h; exact e2 (Prod.mk.inj h).2.symm
      ·
       exact HNO.out j (by omega)
     go_wp2_with fail
     go_roundw
     case rel => exact ⟨k + 1, by go_num, by omega, HNO', by rw [← HW1.out]; exact HB1⟩
     case measure => simp [intOf]; omega
   ·
    have en1 : (da == xa) = false := by simpa using e1
    have HNO' : Hid (∀ j, j < k + 1 → A.getD j (0, 0) ≠ (da, db)) := fun j hj => by
     by_cases e : j = k
     ·
      subst e; rw [← HX.out]; intro h; exact e1 (Prod.mk.inj h).1.symm
     ·
      exact HNO.out j (by omega)
    go_wp2_with fail
    go_roundw
    case rel => exact ⟨k + 1, by go_num, by omega, HNO', by rw [← HW1.out]; exact HB1⟩
    case measure => simp [intOf]; omega
  ·
   obtain rfl : k = na := by omega
   have HY : Hid (decide ((da, db) ∈ A) = false) := decide_eq_false fun h => by
    obtain ⟨j, hj, e⟩ := List.getElem_of_mem h
    have := HNO.out j (by rw [HN.out]; exact hj)
    rw [List.getD_eq_getElem?_getD, List.getElem?_eq_getElem hj] at this
    exact this e
   go_wp2_with fail
   go_ret
   refine ⟨?_, HBw.out⟩
   rw [HY.out]
   rfl
def spF (A : List Dot) (c : dm.Ctx) (d : Dot) : Bool := decide (d ∈ A) || !dm.hasF c d
set_option maxHeartbeats 3200000 in
set_option maxRecDepth 100000 in
theorem spares_any (A : List Dot) (c : dm.Ctx) (da db : Int) (ue ua uv uc : Option Addr) (ne ce na ca nv cv nc cc : Nat) (w : World) (h : Dots w w.heap.size (.slice ua na ca) A) (hc : CtxAt w w.heap.size (.agg #[.slice uv nv cv, .slice uc nc cc]) c) :
  Calls Tryz.prog 47 #[.agg #[.slice ue ne ce, .slice ua na ca, .slice uv nv cv, .slice uc nc cc], .agg #[.int .i64 da, .int .i64 db]] w (Said (spF A c (da, db)) w) := by
 obtain ⟨q0, hq0⟩ : ∃ b, b = w.heap.size + 1 := ⟨_, rfl⟩
 obtain ⟨WA, hWA⟩ : ∃ W, W = w.alloc (.cells #[.slice ue ne ce, .slice ua na ca, .slice uv nv cv, .slice uc nc cc] 29) := ⟨_, rfl⟩
 obtain ⟨W3, hW3⟩ : ∃ W, W = WA.alloc (.cells #[.int .i64 da, .int .i64 db] 51) := ⟨_, rfl⟩
 have sA : WA.heap.size = w.heap.size + 1 := by rw [hWA]; simp
 have bA : Below w.heap.size w WA := by rw [hWA]; exact below1
 have bB : Below WA.heap.size WA W3 := by rw [hW3]; exact below1
 have b3 : Below w.heap.size w W3 := bA.trans (bB.mono bA.size)
 have x1 : W3.heap[q0]? = some (.cells #[.int .i64 da, .int .i64 db] 51 (0, 0)) := by rw [hW3, hq0, ← sA]; exact heap_alloc_new WA _
 have x0 : W3.heap[w.heap.size]? = some (.cells #[.slice ue ne ce, .slice ua na ca, .slice uv nv cv, .slice uc nc cc] 29 (0, 0)) := (bB.block _ (by omega)).trans (by rw [hWA]; exact heap_alloc_new w _)
 have z0 := boxc x0 0 _ rfl
 have z1 := boxc x0 1 _ rfl
 have z2 := boxc x0 2 _ rfl
 have z3 := boxc x0 3 _ rfl
 have HW3 : Hid (W3 = (w.alloc (.cells #[.slice ue ne ce, .slice ua na ca, .slice uv nv cv, .slice uc nc cc] 29)).alloc (.cells #[.int .i64 da, .int .i64 db] 51)) := by show _ = _; rw [hW3, hWA]
 have X0 := Lib.hid x0
 have X1 := Lib.hid x1
 have HB3 := Lib.hid b3
 have H0 := Lib.hid hq0
 have HAL := Lib.hid (alive_any A da db ue ua uv uc ne ce na ca nv cv nc cc W3 (Cells.next h b3))
 have HHS : Hid (∀ W, Below W3.heap.size W3 W → Calls Tryz.prog 27 #[.agg #[.slice uv nv cv, .slice uc nc cc], .agg #[.int .i64 da, .int .i64 db]] W (SaidD (dm.hasF c (da, db)) W)) := fun W hW => has_any c (da, db) _ W (hc.next (b3.trans (hW.mono b3.size)))
 rw [hW3, hWA] at z0 z1 z2 z3
 clear h hc sA bA bB b3 x0 x1 hW3 hWA hq0
 unfold spF
 obtain ⟨r1, hr1⟩ : ∃ r, r = decide ((da, db) ∈ A) := ⟨_, rfl⟩
 obtain ⟨r2, hr2⟩ : ∃ r, r = dm.hasF c (da, db) := ⟨_, rfl⟩
 rw [← hr1] at HAL ⊢
 rw [← hr2] at HHS ⊢
 clear hr1 hr2
 go_enter Tryz.func47, Tryz.ntmps47
 go_wp2_with fail
 rw [← HW3.out]
 (with_reducible refine HAL.out.mono ?_)
 rintro e w1 ⟨rfl, hb1⟩
 have HB1 := Lib.hid hb1
 have HBW1 : Hid (Below w.heap.size w w1) := HB3.out.trans (hb1.mono HB3.out.size)
 cases r1
 ·
  have y0 := (hb1.block _ (lt_of_block X0.out)).trans X0.out
  have y1 := (hb1.block _ (lt_of_block X1.out)).trans X1.out
  have k2 := boxc y0 2 _ rfl
  have k3 := boxc y0 3 _ rfl
  have d0 := boxc y1 0 _ rfl
  have d1 := boxc y1 1 _ rfl
  rw [H0.out] at d0 d1
  clear hb1 y0 y1 z0 z1 z2 z3
  go_wp2_with fail
  (with_reducible refine (HHS.out w1 HB1.out).mono ?_)
  rintro e w2 ⟨rfl, hb2⟩
  have HBW2 : Hid (Below w.heap.size w w2) := HBW1.out.trans (hb2.mono HBW1.out.size)
  clear hb2
  go_wp2
  go_ret
  exact ⟨rfl, HBW2.out⟩
 ·
  clear hb1
  go_wp2
  go_ret
  exact ⟨rfl, HBW1.out⟩
end Go.Proofs.YtonknpdalemjkaaGreat

