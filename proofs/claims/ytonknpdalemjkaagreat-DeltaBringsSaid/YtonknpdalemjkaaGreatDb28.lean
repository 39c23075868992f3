/- texts put together: DelBr, DelFit. -/
import Derived.Test.YtonknpdalemjkaaGreatDe00
import Derived.Test.YtonknpdalemjkaaGreatDe01
import Derived.Test.YtonknpdalemjkaaGreatDe02
import Derived.Test.YtonknpdalemjkaaGreatDe03
import Derived.Test.YtonknpdalemjkaaGreatDe04
import Derived.Test.YtonknpdalemjkaaGreatDe05
import Derived.Test.YtonknpdalemjkaaGreatDe06
import Derived.Test.YtonknpdalemjkaaGreatDe07
import Derived.Test.YtonknpdalemjkaaGreatDe08
import Derived.Test.YtonknpdalemjkaaGreatDe09
import Derived.Test.YtonknpdalemjkaaGreatDe10
import Derived.Test.YtonknpdalemjkaaGreatDe11
import Derived.Test.YtonknpdalemjkaaGreatDe12
import Derived.Test.YtonknpdalemjkaaGreatDe13
import Derived.Test.YtonknpdalemjkaaGreatDe14
import Derived.Test.YtonknpdalemjkaaGreatDe15
import Derived.Test.YtonknpdalemjkaaGreatDe16
import Derived.Test.YtonknpdalemjkaaGreatDe17
import Derived.Test.YtonknpdalemjkaaGreatDe18
import Derived.Test.YtonknpdalemjkaaGreatDe19
import Derived.Test.YtonknpdalemjkaaGreatDe20
import Derived.Test.YtonknpdalemjkaaGreatDe21
import Derived.Test.YtonknpdalemjkaaGreatDe22
import Derived.Test.YtonknpdalemjkaaGreatDe23
import Derived.Test.YtonknpdalemjkaaGreatDe24
import Derived.Test.YtonknpdalemjkaaGreatDe25
import Derived.Test.YtonknpdalemjkaaGreatDe26
import Derived.Test.YtonknpdalemjkaaGreatDe27
import Derived.Test.YtonknpdalemjkaaGreatDe28
import Derived.Test.YtonknpdalemjkaaGreatDb11
import Derived.Test.YtonknpdalemjkaaGreatDb12
import Derived.Test.YtonknpdalemjkaaGreatDb13
namespace Go.Proofs.YtonknpdalemjkaaGreat
open Go Go.RowKit Go.ChangeShapes cl
def BrP (L : List Ent) (d : Dot) (y : Ent) (b : Bool) : Prop := (b = true ∧ y ∈ L ∧ y.d = d) ∨ (b = false ∧ ∀ x ∈ L, x.d ≠ d)
set_option maxHeartbeats 3200000 in
set_option maxRecDepth 100000 in
theorem brought_any (L : List Ent) (da db : Int) (ue ua uv uc : Option Addr) (ne ce na ca nv cv nc cc : Nat) (w : World) (h : Ents w w.heap.size (.slice ue ne ce) L) :
  Calls Tryz.prog 40 #[.agg #[.slice ue ne ce, .slice ua na ca, .slice uv nv cv, .slice uc nc cc], .agg #[.int .i64 da, .int .i64 db]] w fun e w' => ∃ y b, e = .returned (.tuple #[eval' y, .bool b]) ∧ BrP L (da, db) y b ∧ Below w.heap.size w w' := by
 obtain ⟨hn, hnm⟩ : ne = L.length ∧ ne ≤ 9223372036854775807 := by
  obtain ⟨ao, cap, e, _, h9⟩ := h.form
  unfold maxLen at h9
  simp only [Value.slice.injEq] at e
  obtain ⟨_, e2, _⟩ := e
  exact ⟨e2, by rw [e2]; exact h9⟩
 have HN := Lib.hid hn
 have HC := Lib.hid h
 obtain ⟨q0, hq0⟩ : ∃ b, b = w.heap.size + 1 := ⟨_, rfl⟩
 obtain ⟨q1, hq1⟩ : ∃ b, b = w.heap.size + 1 + 1 := ⟨_, rfl⟩
 obtain ⟨WA, hWA⟩ : ∃ W, W = w.alloc (.cells #[.slice ue ne ce, .slice ua na ca, .slice uv nv cv, .slice uc nc cc] 29) := ⟨_, rfl⟩
 obtain ⟨WB, hWB⟩ : ∃ W, W = WA.alloc (.cells #[.int .i64 da, .int .i64 db] 51) := ⟨_, rfl⟩
 obtain ⟨W3, hW3⟩ : ∃ W, W = WB.alloc (.cells #[.string ⟨#[]⟩, .int .i64 0, .int .i64 0, .int .i64 0, .slice none 0 0] 54) := ⟨_, rfl⟩
 have sA : WA.heap.size = w.heap.size + 1 := by rw [hWA]; simp
 have sB : WB.heap.size = w.heap.size + 2 := by rw [hWB]; simp [sA]
 have s3 : W3.heap.size = w.heap.size + 3 := by rw [hW3]; simp [sB]
 have bA : Below w.heap.size w WA := by rw [hWA]; exact below1
 have bB : Below WA.heap.size WA WB := by rw [hWB]; exact below1
 have bC : Below WB.heap.size WB W3 := by rw [hW3]; exact below1
 have b2 : Below WA.heap.size WA W3 := bB.trans (bC.mono bB.size)
 have b3 : Below w.heap.size w W3 := bA.trans (b2.mono bA.size)
 have x0 : W3.heap[w.heap.size]? = some (.cells #[.slice ue ne ce, .slice ua na ca, .slice uv nv cv, .slice uc nc cc] 29 (0, 0)) := (b2.block _ (by omega)).trans (by rw [hWA]; exact heap_alloc_new w _)
 have x1 : W3.heap[q0]? = some (.cells #[.int .i64 da, .int .i64 db] 51 (0, 0)) := (bC.block _ (by omega)).trans (by rw [hWB, hq0, ← sA]; exact heap_alloc_new WA _)
 have x2 : W3.heap[q1]? = some (.cells #[.string ⟨#[]⟩, .int .i64 0, .int .i64 0, .int .i64 0, .slice none 0 0] 54 (0, 0)) := by rw [hW3, hq1, ← sA, show WA.heap.size + 1 = WB.heap.size by omega]; exact heap_alloc_new WB _
 have z0 := boxc x0 0 _ rfl
 subst hWA hWB
 have HW3 := Lib.hid hW3
 have X0 := Lib.hid x0
 have X1 := Lib.hid x1
 have X2 := Lib.hid x2
 have HB3 := Lib.hid b3
 have H0 := Lib.hid hq0
 have H1 := Lib.hid hq1
 have HS3 : Hid (W3.heap.size = w.heap.size + 3) := s3
 rw [hW3] at z0
 clear h sA sB s3 bA bB bC b2 b3 hn x0 x1 x2 hW3 hq0 hq1
 go_enter Tryz.func40, Tryz.ntmps40
 go_wp2_with fail
 rw [← HW3.out, ← H1.out, ← H0.out]
 go_loopw [11] (fun i wr => ∃ k : Nat, i = .int .i64 k ∧ k ≤ ne ∧ Hid (∀ j, j < k → (L.getD j default).d ≠ (da, db)) ∧ Hid (Below (w.heap.size + 3) W3 wr)) (fun i _ => ne - (intOf i).toNat)
 case atStart => exact ⟨0, rfl, Nat.zero_le _, fun j hj => absurd hj (Nat.not_lt_zero _), Below.refl _ _⟩
 case round =>
  obtain ⟨k, rfl, hk, HNO, HB⟩ := hrel
  have hB3 : Below W3.heap.size W3 wr := by rw [HS3.out]; exact HB.out
  have HBr := Lib.hid hB3
  have HBw : Hid (Below w.heap.size w wr) := HB3.out.trans (HB.out.mono (by omega))
  have hz1 : q0 < W3.heap.size := by rw [H0.out, HS3.out]; omega
  have hz2 : q1 < W3.heap.size := by rw [H1.out, HS3.out]; omega
  have hzr := hB3.size
  clear hB3
  by_cases hlt : k < ne
  ·
   have hkI : (k : Int) < (ne : Int) := by omega
   obtain ⟨bb, off, rfl, hbB, p0, p1, p2, p3, p4⟩ := Ents.get (Cells.next HC.out HBw.out) HN.out hlt
   obtain ⟨⟨xs, ⟨xd1, xd2⟩, xt⟩, hx⟩ : ∃ x, x = L.getD k default := ⟨_, rfl⟩
   rw [← hx] at p0 p1 p2 p3
   simp only at p0 p1 p2 p3
   obtain ⟨W1, hW1⟩ : ∃ W1, W1 = wr.alloc (.cells #[.string xs, .int .i64 xd1, .int .i64 xd2, .int .i64 xt, .slice none 0 0] 54) := ⟨_, rfl⟩
   have hb1 : Below wr.heap.size wr W1 := by rw [hW1]; exact below1
   have y1 : W1.heap[wr.heap.size]? = some (.cells #[.string xs, .int .i64 xd1, .int .i64 xd2, .int .i64 xt, .slice none 0 0] 54) := by rw [hW1]; exact heap_alloc_new wr _
   have v1 := ((HBr.out.trans (hb1.mono hzr)).block _ (by omega)).trans X1.out
   have v2 := ((HBr.out.trans (hb1.mono hzr)).block _ (by omega)).trans X2.out
   have HV2 := Lib.hid v2
   have d0 := boxc v1 0 _ rfl
   have d1 := boxc v1 1 _ rfl
   have n1 : ¬ q0 = wr.heap.size := by omega
   have n2 : ¬ q1 = wr.heap.size := by omega
   have HX := Lib.hid hx
   have HXM : Hid ((⟨xs, (xd1, xd2), xt⟩ : Ent) ∈ L) := by
    show _ ∈ L
    rw [hx, List.getD_eq_getElem?_getD, List.getElem?_eq_getElem (by rw [← HN.out]; exact hlt)]
    exact List.getElem_mem _
   have HB1 : Hid (Below (w.heap.size + 3) W3 W1) := HB.out.trans (hb1.mono (by have := HS3.out; omega))
   have HW1 := Lib.hid hW1
   rw [hW1] at d0 d1
   by_cases e1 : xd1 = da
   ·
    subst e1
    by_cases e2 : xd2 = db
    ·
     subst e2
     have r0 := boxc y1 0 _ rfl
     have r1 := boxc y1 1 _ rfl
     have r2 := boxc y1 2 _ rfl
     have r3 := boxc y1 3 _ rfl
     have r4 := boxc y1 4 _ rfl
     have HT := Lib.hid (twent_any ⟨xs, (xd1, xd2), xt⟩ W1)
     have Y1 := Lib.hid y1
     unfold eval' at HT
     simp only at HT
     rw [hW1] at r0 r1 r2 r3 r4
     clear hW1 hb1 y1 v1 v2 hx
     go_wp2_with fail
     rw [← HW1.out]
     (with_reducible refine HT.out.mono ?_)
     rintro e w4 ⟨rfl, hb4⟩
     have v4 := (hb4.block _ (lt_of_block HV2.out)).trans HV2.out
     have f0 := boxf v4 0
     have f1 := boxf v4 1
     have f2 := boxf v4 2
     have f3 := boxf v4 3
     have f4 := boxf v4 4
     have c0 := boxc v4 0 _ rfl
     have c1 := boxc v4 1 _ rfl
     have c2 := boxc v4 2 _ rfl
     have c3 := boxc v4 3 _ rfl
     have c4 := boxc v4 4 _ rfl
     obtain ⟨w5, hw5⟩ : ∃ W, W = ((((w4.setCell ⟨q1, 0, none⟩ (.string xs)).setCell ⟨q1, 1, none⟩ (.int .i64 xd1)).setCell ⟨q1, 2, none⟩ (.int .i64 xd2)).setCell ⟨q1, 3, none⟩ (.int .i64 xt)).setCell ⟨q1, 4, none⟩ (.slice none 0 0) := ⟨_, rfl⟩
     have t0 := heap_setCell_same _ q1 0 _ _ (.string xs) v4
     have t1 := heap_setCell_same _ q1 1 _ _ (.int .i64 xd1) t0
     have t2 := heap_setCell_same _ q1 2 _ _ (.int .i64 xd2) t1
     have t3 := heap_setCell_same _ q1 3 _ _ (.int .i64 xt) t2
     have t4 := heap_setCell_same _ q1 4 _ _ (.slice none 0 0) t3
     have HT4 : Hid (w5.heap[q1]? = some (.cells #[.string xs, .int .i64 xd1, .int .i64 xd2, .int .i64 xt, .slice none 0 0] 54 (0, 0))) := by show _ = _; rw [hw5]; exact t4
     have hq1w : w.heap.size ≤ q1 := by rw [H1.out]; omega
     have hbw4 : Below w.heap.size w w4 := HB3.out.trans ((HB1.out.mono (by omega)).trans (hb4.mono (by have := HB1.out.size; have := HS3.out; omega)))
     have HB5 : Hid (Below w.heap.size w w5) := by
      show Below _ _ _
      rw [hw5]
      exact ((((hbw4.setCell hq1w _).setCell hq1w _).setCell hq1w _).setCell hq1w _).setCell hq1w _
     have HW5 := Lib.hid hw5
     clear v4 hw5 t0 t1 t2 t3 t4 hbw4 hb4 HT HB HBr HB1
     go_wp2_with fail
     rw [← HW5.out]
     have g0 := boxc HT4.out 0 _ rfl
     have g1 := boxc HT4.out 1 _ rfl
     have g2 := boxc HT4.out 2 _ rfl
     have g3 := boxc HT4.out 3 _ rfl
     have g4 := boxc HT4.out 4 _ rfl
     exact bodyPost_ret (v := .tuple #[.agg #[.string xs, .int .i64 xd1, .int .i64 xd2, .int .i64 xt, .slice none 0 0], .bool true]) (by simp [results, Tryz.results40, go_sem, g0, g1, g2, g3, g4]) rfl ⟨⟨xs, (xd1, xd2), xt⟩, true, rfl, Or.inl ⟨rfl, HXM.out, rfl⟩, HB5.out⟩
    ·
     have en2 : (xd2 == db) = false := by simpa using e2
     have HNO' : Hid (∀ j, j < k + 1 → (L.getD j default).d ≠ (xd1, db)) := fun j hj => by
      by_cases e : j = k
      ·
       subst e; rw [← HX.out]; intro h; exact e2 (Prod.mk.inj h).2
      ·
       exact HNO.out j (by omega)
     clear hW1 hb1 y1 v1 v2 hx
     go_wp2_with fail
     go_roundw
     case rel => exact ⟨k + 1, by go_num, by omega, HNO', by rw [← HW1.out]; exact HB1⟩
     case measure => simp [intOf]; omega
   ·
    have en1 : (xd1 == da) = false := by simpa using e1
    have HNO' : Hid (∀ j, j < k + 1 → (L.getD j default).d ≠ (da, db)) := fun j hj => by
     by_cases e : j = k
     ·
      subst e; rw [← HX.out]; intro h; exact e1 (Prod.mk.inj h).1
     ·
      exact HNO.out j (by omega)
    clear hW1 hb1 y1 v1 v2 hx
    go_wp2_with fail
    go_roundw
    case rel => exact ⟨k + 1, by go_num, by omega, HNO', by rw [← HW1.out]; exact HB1⟩
    case measure => simp [intOf]; omega
  ·
   obtain rfl : k = ne := by omega
   have HALL : Hid (∀ x ∈ L, x.d ≠ (da, db)) := fun x hx => by
    obtain ⟨j, hj, rfl⟩ := List.getElem_of_mem hx
    have := HNO.out j (by rw [HN.out]; exact hj)
    rwa [List.getD_eq_getElem?_getD, List.getElem?_eq_getElem hj] at this
   have v2 := (HBr.out.block _ hz2).trans X2.out
   have f0 := boxf v2 0
   have f1 := boxf v2 1
   have f2 := boxf v2 2
   have f3 := boxf v2 3
   have f4 := boxf v2 4
   have c0 := boxc v2 0 _ rfl
   have c1 := boxc v2 1 _ rfl
   have c2 := boxc v2 2 _ rfl
   have c3 := boxc v2 3 _ rfl
   have c4 := boxc v2 4 _ rfl
   obtain ⟨w5, hw5⟩ : ∃ W, W = ((((wr.setCell ⟨q1, 0, none⟩ (.string ⟨#[]⟩)).setCell ⟨q1, 1, none⟩ (.int .i64 0)).setCell ⟨q1, 2, none⟩ (.int .i64 0)).setCell ⟨q1, 3, none⟩ (.int .i64 0)).setCell ⟨q1, 4, none⟩ (.slice none 0 0) := ⟨_, rfl⟩
   have t0 := heap_setCell_same _ q1 0 _ _ (.string ⟨#[]⟩) v2
   have t1 := heap_setCell_same _ q1 1 _ _ (.int .i64 0) t0
   have t2 := heap_setCell_same _ q1 2 _ _ (.int .i64 0) t1
   have t3 := heap_setCell_same _ q1 3 _ _ (.int .i64 0) t2
   have t4 := heap_setCell_same _ q1 4 _ _ (.slice none 0 0) t3
   have HT4 : Hid (w5.heap[q1]? = some (.cells #[.string ⟨#[]⟩, .int .i64 0, .int .i64 0, .int .i64 0, .slice none 0 0] 54 (0, 0))) := by show _ = _; rw [hw5]; exact t4
   have hq1w : w.heap.size ≤ q1 := by rw [H1.out]; omega
   have HB5 : Hid (Below w.heap.size w w5) := by
    show Below _ _ _
    rw [hw5]
    exact ((((HBw.out.setCell hq1w _).setCell hq1w _).setCell hq1w _).setCell hq1w _).setCell hq1w _
   have HW5 := Lib.hid hw5
   clear v2 hw5 t0 t1 t2 t3 t4 HB HBr
   go_wp2_with fail
   rw [← HW5.out]
   have g0 := boxc HT4.out 0 _ rfl
   have g1 := boxc HT4.out 1 _ rfl
   have g2 := boxc HT4.out 2 _ rfl
   have g3 := boxc HT4.out 3 _ rfl
   have g4 := boxc HT4.out 4 _ rfl
   exact bodyPost_ret (v := .tuple #[.agg #[.string ⟨#[]⟩, .int .i64 0, .int .i64 0, .int .i64 0, .slice none 0 0], .bool false]) (by simp [results, Tryz.results40, go_sem, g0, g1, g2, g3, g4]) rfl ⟨⟨⟨#[]⟩, (0, 0), 0⟩, false, rfl, Or.inr ⟨rfl, HALL.out⟩, HB5.out⟩
end Go.Proofs.YtonknpdalemjkaaGreat
namespace Go.Proofs.YtonknpdalemjkaaGreat
open Go Go.RowKit Go.ChangeShapes cl
set_option maxHeartbeats 3200000 in
set_option maxRecDepth 100000 in
theorem idx_no (l : List Dot) (f : Nat) (cap : Array Value) (v : Value) (w : World) (h : Dots w w.heap.size v l) (en : ∀ (args : Array Value) (W : World), (callFunc f args).run Tryz.prog W = .ok (.enter f args) W)
  (hs : ∀ x ∈ l, ∀ W, Below w.heap.size w W → Calls Tryz.prog f (#[.agg #[.int .i64 x.1, .int .i64 x.2]] ++ cap) W (Said false W)) :
  Calls Tryz.prog 62 #[v, .func (.func f) #[] cap] w fun e w' => e = .returned (.int .i64 (-1)) ∧ Below w.heap.size w w' := by
 obtain ⟨n, hn⟩ : ∃ n, n = l.length := ⟨_, rfl⟩
 have HN := Lib.hid hn
 obtain ⟨ao, cap', rfl, hn63⟩ : ∃ ao cap, v = .slice ao n cap ∧ n ≤ 9223372036854775807 := by
  obtain ⟨ao, cap, e, _, h9⟩ := h.form
  unfold maxLen at h9
  exact ⟨ao, cap, by rw [hn]; exact e, by rw [hn]; exact h9⟩
 have HC := Lib.hid h
 have HE := Lib.hid en
 have HS := Lib.hid hs
 clear h hn en hs
 go_enter Tryz.func62, Tryz.ntmps62
 go_wp2
 go_loopw [5, 8] (fun _ i wr => ∃ k : Nat, i = .int .i64 k ∧ k ≤ n ∧ Hid (Below w.heap.size w wr)) (fun _ i _ => n - (intOf i).toNat)
 case atStart => exact ⟨0, rfl, Nat.zero_le _, Below.refl _ _⟩
 case round =>
  obtain ⟨k, rfl, hk, HB⟩ := hrel
  by_cases hlt : k < n
  ·
   obtain ⟨b0, off, rfl, hB0, p0, p1⟩ := Dots.get HC.out HN.out hlt
   obtain ⟨x, hx⟩ : ∃ x, x = l.getD k (0, 0) := ⟨_, rfl⟩
   rw [← hx] at p0 p1
   have e0 := (HB.out.cell (p := ⟨b0, off + k * 2, none⟩) hB0).trans p0
   have e1 := (HB.out.cell (p := ⟨b0, off + k * 2 + 1, none⟩) hB0).trans p1
   have hkI : (k : Int) < (n : Int) := by omega
   have HPC := Lib.hid (HS.out x (by rw [hx]; exact getD_memD (by rw [← HN.out]; exact hlt)) wr HB.out)
   clear p0 p1 hx
   go_wp2_with fail
   rw [HE.out, Oper.upon_enter]
   (with_reducible refine HPC.out.mono ?_)
   rintro e w' ⟨rfl, hb'⟩
   have hb2 := Lib.hid (HB.out.trans (hb'.mono HB.out.size))
   clear hb'
   go_wp2
   go_roundw
   case rel => exact ⟨k + 1, by go_num, by omega, hb2⟩
   case measure => simp [intOf]; omega
  ·
   obtain rfl : k = n := by omega
   go_wp2
   go_ret
   exact ⟨rfl, HB.out⟩
set_option maxHeartbeats 3200000 in
set_option maxRecDepth 100000 in
theorem cont_no (l : List Dot) (f : Nat) (cap : Array Value) (v : Value) (w : World) (h : Dots w w.heap.size v l) (en : ∀ (args : Array Value) (W : World), (callFunc f args).run Tryz.prog W = .ok (.enter f args) W)
  (hs : ∀ x ∈ l, ∀ W, Below w.heap.size w W → Calls Tryz.prog f (#[.agg #[.int .i64 x.1, .int .i64 x.2]] ++ cap) W (Said false W)) :
  Calls Tryz.prog 38 #[v, .func (.func f) #[] cap] w (Said false w) := by
 have HI := Lib.hid (idx_no l f cap v w h en hs)
 obtain ⟨ao, cap', rfl⟩ : ∃ ao cap, v = .slice ao l.length cap := by
  obtain ⟨ao, cap, e, _⟩ := h.form
  exact ⟨ao, cap, e⟩
 clear h en hs
 go_enter Tryz.func38, Tryz.ntmps38
 go_wp2_with fail
 (with_reducible refine HI.out.mono ?_)
 rintro e w' ⟨rfl, hb'⟩
 go_wp2
 go_ret
 exact ⟨rfl, hb'⟩
set_option maxHeartbeats 3200000 in
set_option maxRecDepth 100000 in
theorem fits1_any (L : List Ent) (c : dm.Ctx) (x : Dot) (ue ua uv uc : Option Addr) (ne ce na ca nv cv nc cc : Nat) (kv kc : Option Addr) (pv dv pc dc q0 q1 : Nat) (w : World) (h : Ents w w.heap.size (.slice ue ne ce) L) (hc : CtxAt w w.heap.size (.agg #[.slice kv pv dv, .slice kc pc dc]) c)
  (x0 : w.heap[q0]? = some (.cells #[.slice ue ne ce, .slice ua na ca, .slice uv nv cv, .slice uc nc cc] 29 (0, 0))) (x1 : w.heap[q1]? = some (.cells #[.slice kv pv dv, .slice kc pc dc] 25 (0, 0))) (hx : x ∈ L.map Ent.d ∨ dm.Knows c x) :
  Calls Tryz.prog 39 #[.agg #[.int .i64 x.1, .int .i64 x.2], .pointer (some ⟨q0, 0, none⟩), .pointer (some ⟨q1, 0, none⟩)] w (Said false w) := by
 obtain ⟨da, db⟩ := x
 show Calls _ _ #[.agg #[.int .i64 da, .int .i64 db], _, _] _ _
 obtain ⟨q2, hq2⟩ : ∃ b, b = w.heap.size := ⟨_, rfl⟩
 obtain ⟨W1, hW1⟩ : ∃ W, W = w.alloc (.cells #[.int .i64 da, .int .i64 db] 51) := ⟨_, rfl⟩
 have b1 : Below w.heap.size w W1 := by rw [hW1]; exact below1
 have y0 := (b1.block _ (lt_of_block x0)).trans x0
 have y1 := (b1.block _ (lt_of_block x1)).trans x1
 have y2 : W1.heap[q2]? = some (.cells #[.int .i64 da, .int .i64 db] 51 (0, 0)) := by rw [hW1, hq2]; exact heap_alloc_new w _
 have n0 : ¬ q0 = w.heap.size := by have := lt_of_block x0; omega
 have HBR : Hid (Calls Tryz.prog 40 #[.agg #[.slice ue ne ce, .slice ua na ca, .slice uv nv cv, .slice uc nc cc], .agg #[.int .i64 da, .int .i64 db]] W1 fun e w' => ∃ y b, e = .returned (.tuple #[eval' y, .bool b]) ∧ BrP L (da, db) y b ∧ Below W1.heap.size W1 w') := brought_any L da db ue ua uv uc ne ce na ca nv cv nc cc W1 (Cells.next h b1)
 have HHS : Hid (∀ W, Below W1.heap.size W1 W → Calls Tryz.prog 27 #[.agg #[.slice kv pv dv, .slice kc pc dc], .agg #[.int .i64 da, .int .i64 db]] W (SaidD (dm.hasF c (da, db)) W)) := fun W hW => has_any c (da, db) _ W (hc.next (b1.trans (hW.mono b1.size)))
 have HX := Lib.hid hx
 have HB1 := Lib.hid b1
 have Y1 := Lib.hid y1
 have Y2 := Lib.hid y2
 have HW1 := Lib.hid hW1
 have HQ2 := Lib.hid hq2
 have c0 := boxc y0 0 _ rfl
 have c1 := boxc y0 1 _ rfl
 have c2 := boxc y0 2 _ rfl
 have c3 := boxc y0 3 _ rfl
 rw [hW1] at c0 c1 c2 c3
 clear h hc hx b1 y0 y1 y2 x0 x1 hW1 hq2
 go_enter Tryz.func39, Tryz.ntmps39
 go_wp2_with fail
 rw [← HW1.out]
 (with_reducible refine HBR.out.mono ?_)
 rintro e w2 ⟨y, b, rfl, hbr, hb2⟩
 unfold eval'
 have HB2 := Lib.hid (HB1.out.trans (hb2.mono HB1.out.size))
 have HBB := Lib.hid hb2
 cases b
 ·
  have hk : dm.Knows c (da, db) := by
   rcases hbr with ⟨h, _⟩ | ⟨_, h⟩
   ·
    cases h
   ·
    rcases HX.out with hx | hx
    ·
     obtain ⟨z, hz, e⟩ := List.mem_map.1 hx
     exact absurd e (h z hz)
    ·
     exact hx
  have hh : dm.hasF c (da, db) = true := dm.hasF_iff.2 hk
  rw [hh] at HHS
  obtain ⟨q5, hq5⟩ : ∃ b, b = w2.heap.size := ⟨_, rfl⟩
  obtain ⟨w3, hw3⟩ : ∃ W, W = w2.alloc (.cells #[.string y.s, .int .i64 y.d.1, .int .i64 y.d.2, .int .i64 y.t, .slice none 0 0] 54) := ⟨_, rfl⟩
  have b3 : Below w2.heap.size w2 w3 := by rw [hw3]; exact below1
  have b13 := hb2.trans (b3.mono hb2.size)
  have y1 := (b13.block _ (lt_of_block Y1.out)).trans Y1.out
  have y2 := (b13.block _ (lt_of_block Y2.out)).trans Y2.out
  have k0 := boxc y1 0 _ rfl
  have k1 := boxc y1 1 _ rfl
  have d0 := boxc y2 0 _ rfl
  have d1 := boxc y2 1 _ rfl
  have m1 : ¬ q1 = w2.heap.size := by have := lt_of_block Y1.out; have := hb2.size; omega
  have m2 : ¬ q2 = w2.heap.size := by have := lt_of_block Y2.out; have := hb2.size; omega
  have HB3 := Lib.hid b13
  have HBW : Hid (Below w.heap.size w w3) := HB2.out.trans (b3.mono HB2.out.size)
  have HW3 := Lib.hid hw3
  rw [hw3] at k0 k1 d0 d1
  rw [HQ2.out] at d0 d1 m2
  clear hk hh hbr hb2 b3 b13 y1 y2 hw3 hq5
  go_wp2_with fail
  rw [← HW3.out]
  (with_reducible refine (HHS.out w3 HB3.out).mono ?_)
  rintro e w4 ⟨rfl, hb4⟩
  have HB4 : Hid (Below w.heap.size w w4) := HBW.out.trans (hb4.mono HBW.out.size)
  clear hb4 k0 k1 d0 d1
  go_wp2
  go_ret
  exact ⟨rfl, HB4.out⟩
 ·
  have HB4 : Hid (Below w.heap.size w (w2.alloc (.cells #[.string y.s, .int .i64 y.d.1, .int .i64 y.d.2, .int .i64 y.t, .slice none 0 0] 54))) := HB2.out.trans (below1.mono HB2.out.size)
  clear hbr hb2
  go_wp2
  go_ret
  exact ⟨rfl, HB4.out⟩
set_option maxHeartbeats 3200000 in
set_option maxRecDepth 100000 in
theorem fits_v (l : List Ent) (c dc kc0 : dm.Ctx) (d u1 u2 : Value) (w : World) (hd : SncV 0 l c dc d w) (hc : OwnC 0 w (.agg #[u1, u2]) kc0) (hr : RSet l c) (hk : dm.Right kc0) (hl : l.length ≤ 1000) (hkn : ∀ d, dm.Knows dc d → dm.Knows kc0 d) (hm : MX w) :
  Calls Tryz.prog 17 #[d, .agg #[u1, u2]] w (Said true w) := by
 obtain ⟨ue, ne, ce, ua, na, ca, uv, nv, cv, uc, nc, cc, rfl, g1, g2, g3⟩ := hd
 obtain ⟨kv, pv, dv, kc, pc, dc', e⟩ := hc.form
 simp only [Value.agg.injEq, Array.mk.injEq, List.cons.injEq, and_true] at e
 obtain ⟨rfl, rfl⟩ := e
 obtain ⟨q0, hq0⟩ : ∃ b, b = w.heap.size := ⟨_, rfl⟩
 obtain ⟨q1, hq1⟩ : ∃ b, b = w.heap.size + 1 := ⟨_, rfl⟩
 obtain ⟨WA, hWA⟩ : ∃ W, W = w.alloc (.cells #[.slice ue ne ce, .slice ua na ca, .slice uv nv cv, .slice uc nc cc] 29) := ⟨_, rfl⟩
 obtain ⟨WB, hWB⟩ : ∃ W, W = WA.alloc (.cells #[.slice kv pv dv, .slice kc pc dc'] 25) := ⟨_, rfl⟩
 have sA : WA.heap.size = w.heap.size + 1 := by rw [hWA]; simp
 have bA : Below w.heap.size w WA := by rw [hWA]; exact below1
 have bB : Below WA.heap.size WA WB := by rw [hWB]; exact below1
 have b2 : Below w.heap.size w WB := bA.trans (bB.mono bA.size)
 have x0 : WB.heap[q0]? = some (.cells #[.slice ue ne ce, .slice ua na ca, .slice uv nv cv, .slice uc nc cc] 29 (0, 0)) := (bB.block _ (by omega)).trans (by rw [hWA, hq0]; exact heap_alloc_new w _)
 have x1 : WB.heap[q1]? = some (.cells #[.slice kv pv dv, .slice kc pc dc'] 25 (0, 0)) := by rw [hWB, hq1, ← sA]; exact heap_alloc_new WA _
 have c0 := boxc x0 0 _ rfl
 have c1 := boxc x0 1 _ rfl
 have c2 := boxc x0 2 _ rfl
 have c3 := boxc x0 3 _ rfl
 have HE : Hid (∀ W, Below w.heap.size w W → Ents W W.heap.size (.slice ue ne ce) (newOf dc l)) := fun W hW => (g1.on hW).at
 have HA : Hid (∀ W, Below w.heap.size w W → Dots W W.heap.size (.slice ua na ca) (l.map Ent.d)) := fun W hW => (g2.on hW).at
 have HC : Hid (∀ W, Below w.heap.size w W → CtxAt W W.heap.size (.agg #[.slice kv pv dv, .slice kc pc dc']) kc0) := fun W hW => (hc.on hW).at
 have HG : Hid (∀ W, Below w.heap.size w W → CtxAt W W.heap.size (.agg #[.slice uv nv cv, .slice uc nc cc]) c) := fun W hW => (g3.on hW).at
 have HRD : Hid (∀ W, Below w.heap.size w W → Calls Tryz.prog 29 #[.agg #[.slice ue ne ce, .slice ua na ca, .slice uv nv cv, .slice uc nc cc]] W (Said true W)) := fun W hW =>
  rdelta_yes (newOf dc l) (l.map Ent.d) c _ _ _ _ W (HE.out W hW) (HA.out W hW) (HG.out W hW) (rdel_since hr dc) (by rw [List.length_map]; omega) (MX.next hm hW)
 have HRC : Hid (∀ W, Below w.heap.size w W → Calls Tryz.prog 31 #[.agg #[.slice kv pv dv, .slice kc pc dc']] W (SaidD true W)) := fun W hW => right_yes hk _ W (HC.out W hW)
 have X0 := Lib.hid x0
 have X1 := Lib.hid x1
 have H0 := Lib.hid hq0
 have H1 := Lib.hid hq1
 have HB := Lib.hid b2
 have HCF : Hid (∀ W, Below WB.heap.size WB W → Calls Tryz.prog 38 #[.slice ua na ca, .func (.func 39) #[] #[.pointer (some ⟨q0, 0, none⟩), .pointer (some ⟨q1, 0, none⟩)]] W (Said false W)) := fun W hW => by
  refine cont_no (l.map Ent.d) _ _ _ W (HA.out W (HB.out.trans (hW.mono HB.out.size))) (fun _ _ => rfl) fun x hx W2 hW2 => ?_
  have hb := hW.trans (hW2.mono hW.size)
  have hbw := HB.out.trans (hb.mono HB.out.size)
  refine fits1_any (newOf dc l) kc0 x ue ua uv uc ne ce na ca nv cv nc cc kv kc pv dv pc dc' q0 q1 W2 (HE.out W2 hbw) (HC.out W2 hbw) ((hb.block _ (lt_of_block X0.out)).trans X0.out) ((hb.block _ (lt_of_block X1.out)).trans X1.out) ?_
  exact (told_since l dc x hx).imp id (hkn x)
 have HW : Hid (WB = (w.alloc (.cells #[.slice ue ne ce, .slice ua na ca, .slice uv nv cv, .slice uc nc cc] 29)).alloc (.cells #[.slice kv pv dv, .slice kc pc dc'] 25)) := by show _ = _; rw [hWB, hWA]
 rw [hWB, hWA, hq0] at c0 c1 c2 c3
 clear g1 g2 g3 hc hr hk hl hkn hm hq0 hq1 hWA hWB sA bA bB b2 x0 x1
 go_enter Tryz.func17, Tryz.ntmps17
 go_wp2_with fail
 rw [← HW.out]
 (with_reducible refine (HRD.out _ HB.out).mono ?_)
 rintro e w1 ⟨rfl, hb1⟩
 have y1 := (hb1.block _ (lt_of_block X1.out)).trans X1.out
 have k0 := boxc y1 0 _ rfl
 have k1 := boxc y1 1 _ rfl
 have HB1 := Lib.hid hb1
 have HBW1 : Hid (Below w.heap.size w w1) := HB.out.trans (hb1.mono HB.out.size)
 rw [H1.out] at k0 k1
 clear y1 hb1 c0 c1 c2 c3
 go_wp2_with fail
 (with_reducible refine (HRC.out _ HBW1.out).mono ?_)
 rintro e w2 ⟨rfl, hb2⟩
 have HB2 : Hid (Below WB.heap.size WB w2) := HB1.out.trans (hb2.mono HB1.out.size)
 have HBW2 : Hid (Below w.heap.size w w2) := HBW1.out.trans (hb2.mono HBW1.out.size)
 have y0 := (HB2.out.block _ (lt_of_block X0.out)).trans X0.out
 have k1 := boxc y0 1 _ rfl
 have HC2 := Lib.hid (HCF.out w2 HB2.out)
 rw [H0.out] at k1 HC2
 rw [H1.out] at HC2
 clear y0 hb2 k0
 go_wp2_with fail
 (with_reducible refine HC2.out.mono ?_)
 rintro e w3 ⟨rfl, hb3⟩
 have HBW3 : Hid (Below w.heap.size w w3) := HBW2.out.trans (hb3.mono HBW2.out.size)
 clear hb3 HC2
 go_wp2
 go_ret
 exact ⟨rfl, HBW3.out⟩
end Go.Proofs.YtonknpdalemjkaaGreat

