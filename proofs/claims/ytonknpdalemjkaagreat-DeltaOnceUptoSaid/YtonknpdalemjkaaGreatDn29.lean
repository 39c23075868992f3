/- texts put together: DelBr, DelM3. -/
import Derived.Test.YtonknpdalemjkaaGreatDe00
import Derived.Test.YtonknpdalemjkaaGreatDe01
import Derived.Test.YtonknpdalemjkaaGreatDe02
import Derived.Test.YtonknpdalemjkaaGreatDe03
import Derived.Test.YtonknpdalemjkaaGreatDe04
import Derived.Test.YtonknpdalemjkaaGreatDe05
import Derived.Test.YtonknpdalemjkaaGreatDe06
import Derived.Test.YtonknpdalemjkaaGreatDe07
import Derived.Test.YtonknpdalemjkaaGreatDe08
import Derived.Test.YtonknpdalemjkaaGreatDe09
import Derived.Test.YtonknpdalemjkaaGreatDe10
import Derived.Test.YtonknpdalemjkaaGreatDe11
import Derived.Test.YtonknpdalemjkaaGreatDe12
import Derived.Test.YtonknpdalemjkaaGreatDe13
import Derived.Test.YtonknpdalemjkaaGreatDe14
import Derived.Test.YtonknpdalemjkaaGreatDe15
import Derived.Test.YtonknpdalemjkaaGreatDe16
import Derived.Test.YtonknpdalemjkaaGreatDe17
import Derived.Test.YtonknpdalemjkaaGreatDe18
import Derived.Test.YtonknpdalemjkaaGreatDe19
import Derived.Test.YtonknpdalemjkaaGreatDe20
import Derived.Test.YtonknpdalemjkaaGreatDe21
import Derived.Test.YtonknpdalemjkaaGreatDe22
import Derived.Test.YtonknpdalemjkaaGreatDe23
import Derived.Test.YtonknpdalemjkaaGreatDe24
import Derived.Test.YtonknpdalemjkaaGreatDn00
import Derived.Test.YtonknpdalemjkaaGreatDn01
import Derived.Test.YtonknpdalemjkaaGreatDn11
import Derived.Test.YtonknpdalemjkaaGreatDn23
import Derived.Test.YtonknpdalemjkaaGreatDn25
import Derived.Test.YtonknpdalemjkaaGreatDn26
import Derived.Test.YtonknpdalemjkaaGreatDn27
import Derived.Test.YtonknpdalemjkaaGreatDn28
namespace Go.Proofs.YtonknpdalemjkaaGreat
open Go Go.RowKit Go.ChangeShapes cl
def BrP (L : List Ent) (d : Dot) (y : Ent) (b : Bool) : Prop := (b = true ∧ y ∈ L ∧ y.d = d) ∨ (b = false ∧ ∀ x ∈ L, x.d ≠ d)
set_option maxHeartbeats 3200000 in
set_option maxRecDepth 100000 in
theorem brought_any (L : List Ent) (da db : Int) (ue ua uv uc : Option Addr) (ne ce na ca nv cv nc cc : Nat) (w : World) (h : Ents w w.heap.size (.slice ue ne ce) L) :
  Calls Tryz.prog 40 #[.agg #[.slice ue ne ce, .slice ua na ca, .slice uv nv cv, .slice uc nc cc], .agg #[.int .i64 da, .int .i64 db]] w fun e w' => ∃ y b, e = .returned (.tuple #[eval' y, .bool b]) ∧ BrP L (da, db) y b ∧ Below w.heap.size w w' := by
 obtain ⟨hn, hnm⟩ : ne = L.length ∧ ne ≤ 9223372036854775807 := by
  obtain ⟨ao, cap, e, _, h9⟩ := h.form
  unfold maxLen at h9
  simp only [Value.slice.injEq] at e
  obtain ⟨_, e2, _⟩ := e
  exact ⟨e2, by rw [e2]; exact h9⟩
 have HN := Lib.hid hn
 have HC := Lib.hid h
 obtain ⟨q0, hq0⟩ : ∃ b, b = w.heap.size + 1 := ⟨_, rfl⟩
 obtain ⟨q1, hq1⟩ : ∃ b, b = w.heap.size + 1 + 1 := ⟨_, rfl⟩
 obtain ⟨WA, hWA⟩ : ∃ W, W = w.alloc (.cells #[.slice ue ne ce, .slice ua na ca, .slice uv nv cv, .slice uc nc cc] 29) := ⟨_, rfl⟩
 obtain ⟨WB, hWB⟩ : ∃ W, W = WA.alloc (.cells #[.int .i64 da, .int .i64 db] 51) := ⟨_, rfl⟩
 obtain ⟨W3, hW3⟩ : ∃ W, W = WB.alloc (.cells #[.string ⟨#[]⟩, .int .i64 0, .int .i64 0, .int .i64 0, .slice none 0 0] 54) := ⟨_, rfl⟩
 have sA : WA.heap.size = w.heap.size + 1 := by rw [hWA]; simp
 have sB : WB.heap.size = w.heap.size + 2 := by rw [hWB]; simp [sA]
 have s3 : W3.heap.size = w.heap.size + 3 := by rw [hW3]; simp [sB]
 have bA : Below w.heap.size w WA := by rw [hWA]; exact below1
 have bB : Below WA.heap.size WA WB := by rw [hWB]; exact below1
 have bC : Below WB.heap.size WB W3 := by rw [hW3]; exact below1
 have b2 : Below WA.heap.size WA W3 := bB.trans (bC.mono bB.size)
 have b3 : Below w.heap.size w W3 := bA.trans (b2.mono bA.size)
 have x0 : W3.heap[w.heap.size]? = some (.cells #[.slice ue ne ce, .slice ua na ca, .slice uv nv cv, .slice uc nc cc] 29 (0, 0)) := (b2.block _ (by omega)).trans (by rw [hWA]; exact heap_alloc_new w _)
 have x1 : W3.heap[q0]? = some (.cells #[.int .i64 da, .int .i64 db] 51 (0, 0)) := (bC.block _ (by omega)).trans (by rw [hWB, hq0, ← sA]; exact heap_alloc_new WA _)
 have x2 : W3.heap[q1]? = some (.cells #[.string ⟨#[]⟩, .int .i64 0, .int .i64 0, .int .i64 0, .slice none 0 0] 54 (0, 0)) := by rw [hW3, hq1, ← sA, show WA.heap.size + 1 = WB.heap.size by omega]; exact heap_alloc_new WB _
 have z0 := boxc x0 0 _ rfl
 subst hWA hWB
 have HW3 := Lib.hid hW3
 have X0 := Lib.hid x0
 have X1 := Lib.hid x1
 have X2 := Lib.hid x2
 have HB3 := Lib.hid b3
 have H0 := Lib.hid hq0
 have H1 := Lib.hid hq1
 have HS3 : Hid (W3.heap.size = w.heap.size + 3) := s3
 rw [hW3] at z0
 clear h sA sB s3 bA bB bC b2 b3 hn x0 x1 x2 hW3 hq0 hq1
 go_enter Tryz.func40, Tryz.ntmps40
 go_wp2_with fail
 rw [← HW3.out, ← H1.out, ← H0.out]
 go_loopw [11] (fun i wr => ∃ k : Nat, i = .int .i64 k ∧ k ≤ ne ∧ Hid (∀ j, j < k → (L.getD j default).d ≠ (da, db)) ∧ Hid (Below (w.heap.size + 3) W3 wr)) (fun i _ => ne - (intOf i).toNat)
 case atStart => exact ⟨0, rfl, Nat.zero_le _, fun j hj => absurd hj (Nat.not_lt_zero _), Below.refl _ _⟩
 case round =>
  obtain ⟨k, rfl, hk, HNO, HB⟩ := hrel
  have hB3 : Below W3.heap.size W3 wr := by rw [HS3.out]; exact HB.out
  have HBr := Lib.hid hB3
  have HBw : Hid (Below w.heap.size w wr) := HB3.out.trans (HB.out.mono (by omega))
  have hz1 : q0 < W3.heap.size := by rw [H0.out, HS3.out]; omega
  have hz2 : q1 < W3.heap.size := by rw [H1.out, HS3.out]; omega
  have hzr := hB3.size
  clear hB3
  by_cases hlt : k < ne
  ·
   have hkI : (k : Int) < (ne : Int) := by omega
   obtain ⟨bb, off, rfl, hbB, p0, p1, p2, p3, p4⟩ := Ents.get (Cells.next HC.out HBw.out) HN.out hlt
   obtain ⟨⟨xs, ⟨xd1, xd2⟩, xt⟩, hx⟩ : ∃ x, x = L.getD k default := ⟨_, rfl⟩
   rw [← hx] at p0 p1 p2 p3
   simp only at p0 p1 p2 p3
   obtain ⟨W1, hW1⟩ : ∃ W1, W1 = wr.alloc (.cells #[.string xs, .int .i64 xd1, .int .i64 xd2, .int .i64 xt, .slice none 0 0] 54) := ⟨_, rfl⟩
   have hb1 : Below wr.heap.size wr W1 := by rw [hW1]; exact below1
   have y1 : W1.heap[wr.heap.size]? = some (.cells #[.string xs, .int .i64 xd1, .int .i64 xd2, .int .i64 xt, .slice none 0 0] 54) := by rw [hW1]; exact heap_alloc_new wr _
   have v1 := ((HBr.out.trans (hb1.mono hzr)).block _ (by omega)).trans X1.out
   have v2 := ((HBr.out.trans (hb1.mono hzr)).block _ (by omega)).trans X2.out
   have HV2 := Lib.hid v2
   have d0 := boxc v1 0 _ rfl
   have d1 := boxc v1 1 _ rfl
   have n1 : ¬ q0 = wr.heap.size := by omega
   have n2 : ¬ q1 = wr.heap.size := by omega
   have HX := Lib.hid hx
   have HXM : Hid ((⟨xs, (xd1, xd2), xt⟩ : Ent) ∈ L) := by
    show _ ∈ L
    rw [hx, List.getD_eq_getElem?_getD, List.getElem?_eq_getElem (by rw [← HN.out]; exact hlt)]
    exact List.getElem_mem _
   have HB1 : Hid (Below (w.heap.size + 3) W3 W1) := HB.out.trans (hb1.mono (by have := HS3.out; omega))
   have HW1 := Lib.hid hW1
   rw [hW1] at d0 d1
   by_cases e1 : xd1 = da
   ·
    subst e1
    by_cases e2 : xd2 = db
    ·
     subst e2
     have r0 := boxc y1 0 _ rfl
     have r1 := boxc y1 1 _ rfl
     have r2 := boxc y1 2 _ rfl
     have r3 := boxc y1 3 _ rfl
     have r4 := boxc y1 4 _ rfl
     have HT := Lib.hid (twent_any ⟨xs, (xd1, xd2), xt⟩ W1)
     have Y1 := Lib.hid y1
     unfold eval' at HT
     simp only at HT
     rw [hW1] at r0 r1 r2 r3 r4
     clear hW1 hb1 y1 v1 v2 hx
     go_wp2_with fail
     rw [← HW1.out]
     (with_reducible refine HT.out.mono ?_)
     rintro e w4 ⟨rfl, hb4⟩
     have v4 := (hb4.block _ (lt_of_block HV2.out)).trans HV2.out
     have f0 := boxf v4 0
     have f1 := boxf v4 1
     have f2 := boxf v4 2
     have f3 := boxf v4 3
     have f4 := boxf v4 4
     have c0 := boxc v4 0 _ rfl
     have c1 := boxc v4 1 _ rfl
     have c2 := boxc v4 2 _ rfl
     have c3 := boxc v4 3 _ rfl
     have c4 := boxc v4 4 _ rfl
     obtain ⟨w5, hw5⟩ : ∃ W, W = ((((w4.setCell ⟨q1, 0, none⟩ (.string xs)).setCell ⟨q1, 1, none⟩ (.int .i64 xd1)).setCell ⟨q1, 2, none⟩ (.int .i64 xd2)).setCell ⟨q1, 3, none⟩ (.int .i64 xt)).setCell ⟨q1, 4, none⟩ (.slice none 0 0) := ⟨_, rfl⟩
     have t0 := heap_setCell_same _ q1 0 _ _ (.string xs) v4
     have t1 := heap_setCell_same _ q1 1 _ _ (.int .i64 xd1) t0
     have t2 := heap_setCell_same _ q1 2 _ _ (.int .i64 xd2) t1
     have t3 := heap_setCell_same _ q1 3 _ _ (.int .i64 xt) t2
     have t4 := heap_setCell_same _ q1 4 _ _ (.slice none 0 0) t3
     have HT4 : Hid (w5.heap[q1]? = some (.cells #[.string xs, .int .i64 xd1, .int .i64 xd2, .int .i64 xt, .slice none 0 0] 54 (0, 0))) := by show _ = _; rw [hw5]; exact t4
     have hq1w : w.heap.size ≤ q1 := by rw [H1.out]; omega
     have hbw4 : Below w.heap.size w w4 := HB3.out.trans ((HB1.out.mono (by omega)).trans (hb4.mono (by have := HB1.out.size; have := HS3.out; omega)))
     have HB5 : Hid (Below w.heap.size w w5) := by
      show Below _ _ _
      rw [hw5]
      exact ((((hbw4.setCell hq1w _).setCell hq1w _).setCell hq1w _).setCell hq1w _).setCell hq1w _
     have HW5 := Lib.hid hw5
     clear v4 hw5 t0 t1 t2 t3 t4 hbw4 hb4 HT HB HBr HB1
     go_wp2_with fail
     rw [← HW5.out]
     have g0 := boxc HT4.out 0 _ rfl
     have g1 := boxc HT4.out 1 _ rfl
     have g2 := boxc HT4.out 2 _ rfl
     have g3 := boxc HT4.out 3 _ rfl
     have g4 := boxc HT4.out 4 _ rfl
     exact bodyPost_ret (v := .tuple #[.agg #[.string xs, .int .i64 xd1, .int .i64 xd2, .int .i64 xt, .slice none 0 0], .bool true]) (by simp [results, Tryz.results40, go_sem, g0, g1, g2, g3, g4]) rfl ⟨⟨xs, (xd1, xd2), xt⟩, true, rfl, Or.inl ⟨rfl, HXM.out, rfl⟩, HB5.out⟩
    ·
     have en2 : (xd2 == db) = false := by simpa using e2
     have HNO' : Hid (∀ j, j < k + 1 → (L.getD j default).d ≠ (xd1, db)) := fun j hj => by
      by_cases e : j = k
      ·
       subst e; rw [← HX.out]; intro h; exact e2 (Prod.mk.inj h).2
      ·
       exact HNO.out j (by omega)
     clear hW1 hb1 y1 v1 v2 hx
     go_wp2_with fail
     go_roundw
     case rel => exact ⟨k + 1, by go_num, by omega, HNO', by rw [← HW1.out]; exact HB1⟩
     case measure => simp [intOf]; omega
   ·
    have en1 : (xd1 == da) = false := by simpa using e1
    have HNO' : Hid (∀ j, j < k + 1 → (L.getD j default).d ≠ (da, db)) := fun j hj => by
     by_cases e : j = k
     ·
      subst e; rw [← HX.out]; intro h; exact e1 (Prod.mk.inj h).1
     ·
      exact HNO.out j (by omega)
    clear hW1 hb1 y1 v1 v2 hx
    go_wp2_with fail
    go_roundw
    case rel => exact ⟨k + 1, by go_num, by omega, HNO', by rw [← HW1.out]; exact HB1⟩
    case measure => simp [intOf]; omega
  ·
   obtain rfl : k = ne := by omega
   have HALL : Hid (∀ x ∈ L, x.d ≠ (da, db)) := fun x hx => by
    obtain ⟨j, hj, rfl⟩ := List.getElem_of_mem hx
    have := HNO.out j (by rw [HN.out]; exact hj)
    rwa [List.getD_eq_getElem?_getD, List.getElem?_eq_getElem hj] at this
   have v2 := (HBr.out.block _ hz2).trans X2.out
   have f0 := boxf v2 0
   have f1 := boxf v2 1
   have f2 := boxf v2 2
   have f3 := boxf v2 3
   have f4 := boxf v2 4
   have c0 := boxc v2 0 _ rfl
   have c1 := boxc v2 1 _ rfl
   have c2 := boxc v2 2 _ rfl
   have c3 := boxc v2 3 _ rfl
   have c4 := boxc v2 4 _ rfl
   obtain ⟨w5, hw5⟩ : ∃ W, W = ((((wr.setCell ⟨q1, 0, none⟩ (.string ⟨#[]⟩)).setCell ⟨q1, 1, none⟩ (.int .i64 0)).setCell ⟨q1, 2, none⟩ (.int .i64 0)).setCell ⟨q1, 3, none⟩ (.int .i64 0)).setCell ⟨q1, 4, none⟩ (.slice none 0 0) := ⟨_, rfl⟩
   have t0 := heap_setCell_same _ q1 0 _ _ (.string ⟨#[]⟩) v2
   have t1 := heap_setCell_same _ q1 1 _ _ (.int .i64 0) t0
   have t2 := heap_setCell_same _ q1 2 _ _ (.int .i64 0) t1
   have t3 := heap_setCell_same _ q1 3 _ _ (.int .i64 0) t2
   have t4 := heap_setCell_same _ q1 4 _ _ (.slice none 0 0) t3
   have HT4 : Hid (w5.heap[q1]? = some (.cells #[.string ⟨#[]⟩, .int .i64 0, .int .i64 0, .int .i64 0, .slice none 0 0] 54 (0, 0))) := by show _ = _; rw [hw5]; exact t4
   have hq1w : w.heap.size ≤ q1 := by rw [H1.out]; omega
   have HB5 : Hid (Below w.heap.size w w5) := by
    show Below _ _ _
    rw [hw5]
    exact ((((HBw.out.setCell hq1w _).setCell hq1w _).setCell hq1w _).setCell hq1w _).setCell hq1w _
   have HW5 := Lib.hid hw5
   clear v2 hw5 t0 t1 t2 t3 t4 HB HBr
   go_wp2_with fail
   rw [← HW5.out]
   have g0 := boxc HT4.out 0 _ rfl
   have g1 := boxc HT4.out 1 _ rfl
   have g2 := boxc HT4.out 2 _ rfl
   have g3 := boxc HT4.out 3 _ rfl
   have g4 := boxc HT4.out 4 _ rfl
   exact bodyPost_ret (v := .tuple #[.agg #[.string ⟨#[]⟩, .int .i64 0, .int .i64 0, .int .i64 0, .slice none 0 0], .bool false]) (by simp [results, Tryz.results40, go_sem, g0, g1, g2, g3, g4]) rfl ⟨⟨⟨#[]⟩, (0, 0), 0⟩, false, rfl, Or.inr ⟨rfl, HALL.out⟩, HB5.out⟩
end Go.Proofs.YtonknpdalemjkaaGreat
namespace Go.Proofs.YtonknpdalemjkaaGreat
open Go Go.RowKit Go.ChangeShapes cl
def brF (L : List Ent) (d : Dot) : Option Ent := L.find? fun x => decide (x.d = d)
theorem brF_some {L : List Ent} {d : Dot} {y : Ent} (hu : os.Up L) (h : BrP L d y true) : brF L d = some y := by
 rcases h with ⟨_, hy, rfl⟩ | ⟨h, _⟩
 ·
  unfold brF
  cases hf : L.find? fun x => decide (x.d = y.d) with
  | none =>
   rw [List.find?_eq_none] at hf
   exact absurd (decide_eq_true rfl) (hf y hy)
  | some z =>
   have h1 := List.find?_some hf
   have h2 := List.mem_of_find?_eq_some hf
   rw [up_dot hu h2 hy (by simpa using h1)]
 ·
  cases h
theorem brF_none {L : List Ent} {d : Dot} {y : Ent} (h : BrP L d y false) : brF L d = none := by
 rcases h with ⟨h, _⟩ | ⟨_, h⟩
 ·
  cases h
 ·
  unfold brF
  rw [List.find?_eq_none]
  intro x hx e
  exact h x hx (by simpa using e)
theorem brF_iff {L : List Ent} {d : Dot} {y : Ent} (hu : os.Up L) : brF L d = some y ↔ y ∈ L ∧ y.d = d := by
 constructor
 ·
  intro hf
  exact ⟨List.mem_of_find?_eq_some hf, by simpa using List.find?_some hf⟩
 ·
  rintro ⟨h, rfl⟩
  exact brF_some hu (Or.inl ⟨rfl, h, rfl⟩)
theorem brF_no {L : List Ent} {d : Dot} : brF L d = none ↔ d ∉ L.map Ent.d := by
 unfold brF
 rw [List.find?_eq_none]
 constructor
 ·
  intro h hd
  obtain ⟨x, hx, rfl⟩ := List.mem_map.1 hd
  exact h x hx (decide_eq_true rfl)
 ·
  intro h x hx e
  exact h (List.mem_map.2 ⟨x, hx, by simpa using e⟩)
def briF (La Lb : List Ent) (d : Dot) : Option Ent := (brF La d).or (brF Lb d)
def jdA (Aa Ab : List Dot) (ca cb : dm.Ctx) (R : List Dot) : List Dot := R.filter fun d => spF Aa ca d && spF Ab cb d
def jdL (La Lb : List Ent) (A : List Dot) : List Ent := A.filterMap (briF La Lb)
theorem spF_iff {A : List Dot} {c : dm.Ctx} {d : Dot} : spF A c d = true ↔ d ∈ A ∨ ¬ dm.Knows c d := by
 unfold spF
 rw [← dm.hasF_iff]
 cases h : dm.hasF c d <;> simp
theorem mem_jdA {Aa Ab : List Dot} {ca cb : dm.Ctx} {R : List Dot} (hR : ∀ d, d ∈ R ↔ d ∈ Aa ∨ d ∈ Ab) {d : Dot} : d ∈ jdA Aa Ab ca cb R ↔ (d ∈ Aa ∨ d ∈ Ab) ∧ (d ∈ Aa ∨ ¬ dm.Knows ca d) ∧ (d ∈ Ab ∨ ¬ dm.Knows cb d) := by
 unfold jdA
 rw [List.mem_filter, hR, Bool.and_eq_true, spF_iff, spF_iff]
theorem mem_jdL {La Lb : List Ent} {A : List Dot} (ha : os.Up La) (hb : os.Up Lb) {x : Ent} : x ∈ jdL La Lb A ↔ x.d ∈ A ∧ (x ∈ La ∨ x.d ∉ La.map Ent.d ∧ x ∈ Lb) := by
 unfold jdL
 rw [List.mem_filterMap]
 constructor
 ·
  rintro ⟨d, hd, h⟩
  unfold briF at h
  cases h1 : brF La d with
  | some y =>
   rw [h1] at h
   obtain rfl : y = x := by simpa using h
   obtain ⟨h2, rfl⟩ := (brF_iff ha).1 h1
   exact ⟨hd, Or.inl h2⟩
  | none =>
   rw [h1] at h
   obtain ⟨h2, rfl⟩ := (brF_iff hb).1 (by simpa using h)
   exact ⟨hd, Or.inr ⟨brF_no.1 h1, h2⟩⟩
 ·
  rintro ⟨hd, h | ⟨h1, h2⟩⟩
  ·
   exact ⟨x.d, hd, by unfold briF; rw [(brF_iff ha).2 ⟨h, rfl⟩]; rfl⟩
  ·
   exact ⟨x.d, hd, by unfold briF; rw [brF_no.2 h1, (brF_iff hb).2 ⟨h2, rfl⟩]; rfl⟩
theorem jdL_len (La Lb : List Ent) (A : List Dot) : (jdL La Lb A).length ≤ A.length := List.length_filterMap_le _ _
theorem jdA_len (Aa Ab : List Dot) (ca cb : dm.Ctx) (R : List Dot) : (jdA Aa Ab ca cb R).length ≤ R.length := List.length_filter_le _ _
theorem jdA_snoc (Aa Ab : List Dot) (ca cb : dm.Ctx) (R : List Dot) (d : Dot) : jdA Aa Ab ca cb (R ++ [d]) = if spF Aa ca d && spF Ab cb d then jdA Aa Ab ca cb R ++ [d] else jdA Aa Ab ca cb R := by
 unfold jdA
 rw [List.filter_append]
 cases h : spF Aa ca d && spF Ab cb d <;> simp [h]
theorem jdL_snoc (La Lb : List Ent) (A : List Dot) (d : Dot) : jdL La Lb (A ++ [d]) = jdL La Lb A ++ (briF La Lb d).toList := by
 unfold jdL
 rw [List.filterMap_append]
 cases h : briF La Lb d <;> simp [h]
theorem upd_ext {a b : List Dot} (ha : UpD a) (hb : UpD b) (h : ∀ x, x ∈ a ↔ x ∈ b) : a = b := by
 have key : ∀ {l : List Dot}, UpD l → l.Nodup := fun hl => hl.imp fun {x y} h e => by
  rw [e] at h
  exact dm.dless_irrefl _ h
 refine List.Perm.eq_of_pairwise (le := fun x y => dless x y = true) (fun x y _ _ h1 h2 => absurd (dless_trans' h1 h2) (dm.dless_irrefl x)) ha hb ((List.perm_ext_iff_of_nodup (key ha) (key hb)).2 h)
structure JD (La : List Ent) (Aa : List Dot) (ca : dm.Ctx) (Lb : List Ent) (Ab : List Dot) (cb : dm.Ctx) (R : List Dot) (cj : dm.Ctx) : Prop where
 a : RDel La Aa ca
 b : RDel Lb Ab cb
 up : UpD R
 mem : ∀ d, d ∈ R ↔ d ∈ Aa ∨ d ∈ Ab
 ctx : ∃ m, dm.Is cj (fun e => dm.Knows ca e ∨ dm.Knows cb e) m
theorem JD.rdel {La Lb : List Ent} {Aa Ab R : List Dot} {ca cb cj : dm.Ctx} (h : JD La Aa ca Lb Ab cb R cj) : RDel (jdL La Lb (jdA Aa Ab ca cb R)) (jdA Aa Ab ca cb R) cj := by
 obtain ⟨m, hc⟩ := h.ctx
 have hm : ∀ {x : Ent}, x ∈ jdL La Lb (jdA Aa Ab ca cb R) → x ∈ La ∨ x ∈ Lb := fun hx => ((mem_jdL h.a.set.up h.b.set.up).1 hx).2.imp id And.right
 refine ⟨⟨hc.right, ?_, fun x hx => ?_, fun x hx => ?_⟩, h.up.sublist List.filter_sublist, fun d hd => ?_, fun x hx => ((mem_jdL h.a.set.up h.b.set.up).1 hx).1⟩
 ·
  unfold jdL os.Up
  refine List.Pairwise.filterMap (R := fun x y => dless x y = true) _ (fun x y hxy u hu v hv => ?_) (h.up.sublist List.filter_sublist)
  have key : ∀ {d : Dot} {z : Ent}, briF La Lb d = some z → z.d = d := fun {d z} hz => by
   unfold briF at hz
   cases h1 : brF La d with
   | some y =>
    rw [h1] at hz
    obtain rfl : y = z := by simpa using hz
    exact ((brF_iff h.a.set.up).1 h1).2
   | none =>
    rw [h1] at hz
    exact ((brF_iff h.b.set.up).1 (by simpa using hz)).2
  rw [key hu, key hv]; exact hxy
 ·
  rcases hm hx with hx | hx
  ·
   exact h.a.set.fine x hx
  ·
   exact h.b.set.fine x hx
 ·
  rcases hm hx with hx | hx
  ·
   exact (hc.know _).2 (Or.inl (h.a.set.kn x hx))
  ·
   exact (hc.know _).2 (Or.inr (h.b.set.kn x hx))
 ·
  rcases ((mem_jdA h.mem).1 hd).1 with hd | hd
  ·
   exact (hc.know _).2 (Or.inl (h.a.kn d hd))
  ·
   exact (hc.know _).2 (Or.inr (h.b.kn d hd))
theorem JD.told {La Lb : List Ent} {Aa Ab R : List Dot} {ca cb cj : dm.Ctx} (h : JD La Aa ca Lb Ab cb R cj) (ha : ∀ d ∈ Aa, d ∈ La.map Ent.d) (hb : ∀ d ∈ Ab, d ∈ Lb.map Ent.d) : ∀ d ∈ jdA Aa Ab ca cb R, d ∈ (jdL La Lb (jdA Aa Ab ca cb R)).map Ent.d := fun d hd => by
 by_cases h1 : d ∈ La.map Ent.d
 ·
  obtain ⟨x, hx, rfl⟩ := List.mem_map.1 h1
  exact List.mem_map.2 ⟨x, (mem_jdL h.a.set.up h.b.set.up).2 ⟨hd, Or.inl hx⟩, rfl⟩
 ·
  rcases ((mem_jdA h.mem).1 hd).1 with h2 | h2
  ·
   exact absurd (ha d h2) h1
  ·
   obtain ⟨x, hx, rfl⟩ := List.mem_map.1 (hb d h2)
   exact List.mem_map.2 ⟨x, (mem_jdL h.a.set.up h.b.set.up).2 ⟨hd, Or.inr ⟨h1, hx⟩⟩, rfl⟩
def apl (l : List Ent) (c : dm.Ctx) (L : List Ent) (A : List Dot) (C : dm.Ctx) : List Ent := staysOf (deadF A C) l ++ newOf c L
theorem mem_apl {l L : List Ent} {c C : dm.Ctx} {A : List Dot} {x : Ent} : x ∈ apl l c L A C ↔ (x ∈ l ∧ (x.d ∈ A ∨ ¬ dm.Knows C x.d)) ∨ (x ∈ L ∧ ¬ dm.Knows c x.d) := by
 unfold apl
 rw [List.mem_append, mem_stays, mem_new, tdead_iff]
theorem JD.does {La Lb : List Ent} {Aa Ab R : List Dot} {ca cb cj : dm.Ctx} (h : JD La Aa ca Lb Ab cb R cj) (ha : ∀ d ∈ Aa, d ∈ La.map Ent.d) {l l1 l2 l3 : List Ent} {c c1 c2 c3 : dm.Ctx} {m1 m2 m3 : Nat}
  (p1 : l1.Perm (apl l c La Aa ca)) (i1 : dm.Is c1 (fun e => dm.Knows c e ∨ dm.Knows ca e) m1) (p2 : l2.Perm (apl l1 c1 Lb Ab cb)) (u2 : os.Up l2) (i2 : dm.Is c2 (fun e => dm.Knows c1 e ∨ dm.Knows cb e) m2)
  (p3 : l3.Perm (apl l c (jdL La Lb (jdA Aa Ab ca cb R)) (jdA Aa Ab ca cb R) cj)) (u3 : os.Up l3) (i3 : dm.Is c3 (fun e => dm.Knows c e ∨ dm.Knows cj e) m3) : l3 = l2 ∧ c3 = c2 := by
 obtain ⟨m, hc⟩ := h.ctx
 refine ⟨up_ext u3 u2 fun x => ?_, dm.Is.eq i3 i2 fun d => ?_⟩
 ·
  rw [p3.mem_iff, p2.mem_iff, mem_apl, mem_apl, p1.mem_iff, mem_apl, mem_jdA h.mem, mem_jdL h.a.set.up h.b.set.up, mem_jdA h.mem, hc.know, i1.know]
  have e1 : x ∈ La → x.d ∈ Aa := h.a.mem x
  have e2 : x ∈ Lb → x.d ∈ Ab := h.b.mem x
  have e3 : x.d ∈ Aa → dm.Knows ca x.d := h.a.kn _
  have e4 : x.d ∈ Ab → dm.Knows cb x.d := h.b.kn _
  have e5 : x.d ∈ La.map Ent.d ↔ x.d ∈ Aa := ⟨fun hh => by obtain ⟨y, hy, e⟩ := List.mem_map.1 hh; rw [← e]; exact h.a.mem y hy, ha _⟩
  rw [e5]
  by_cases q1 : x.d ∈ Aa <;> by_cases q2 : x.d ∈ Ab <;> by_cases q3 : dm.Knows ca x.d <;> by_cases q4 : dm.Knows cb x.d <;> by_cases q5 : dm.Knows c x.d <;> simp_all
 ·
  rw [hc.know, i1.know]
  constructor
  ·
   rintro (h | h | h)
   ·
    exact Or.inl (Or.inl h)
   ·
    exact Or.inl (Or.inr h)
   ·
    exact Or.inr h
  ·
   rintro ((h | h) | h)
   ·
    exact Or.inl h
   ·
    exact Or.inr (Or.inl h)
   ·
    exact Or.inr (Or.inr h)
theorem JD.swap {La Lb : List Ent} {Aa Ab R R2 : List Dot} {ca cb cj cj2 : dm.Ctx} (h : JD La Aa ca Lb Ab cb R cj) (h2 : JD Lb Ab cb La Aa ca R2 cj2) (hg : Agree La Lb) :
  jdL La Lb (jdA Aa Ab ca cb R) = jdL Lb La (jdA Ab Aa cb ca R2) ∧ jdA Aa Ab ca cb R = jdA Ab Aa cb ca R2 ∧ cj = cj2 := by
 obtain ⟨m, hc⟩ := h.ctx
 obtain ⟨m2, hc2⟩ := h2.ctx
 have hA : jdA Aa Ab ca cb R = jdA Ab Aa cb ca R2 := upd_ext h.rdel.up h2.rdel.up fun d => by
  rw [mem_jdA h.mem, mem_jdA h2.mem]
  constructor
  ·
   rintro ⟨q1, q2, q3⟩; exact ⟨q1.symm, q3, q2⟩
  ·
   rintro ⟨q1, q2, q3⟩; exact ⟨q1.symm, q3, q2⟩
 refine ⟨up_ext h.rdel.set.up h2.rdel.set.up fun x => ?_, hA, dm.Is.eq hc hc2 fun d => Or.comm⟩
 rw [mem_jdL h.a.set.up h.b.set.up, mem_jdL h.b.set.up h.a.set.up, hA]
 constructor
 ·
  rintro ⟨q, h1 | ⟨h1, h3⟩⟩
  ·
   refine ⟨q, ?_⟩
   by_cases e : x.d ∈ Lb.map Ent.d
   ·
    obtain ⟨y, hy, e2⟩ := List.mem_map.1 e
    rw [hg x h1 y hy e2.symm]; exact Or.inl hy
   ·
    exact Or.inr ⟨e, h1⟩
  ·
   exact ⟨q, Or.inl h3⟩
 ·
  rintro ⟨q, h1 | ⟨h1, h3⟩⟩
  ·
   refine ⟨q, ?_⟩
   by_cases e : x.d ∈ La.map Ent.d
   ·
    obtain ⟨y, hy, e2⟩ := List.mem_map.1 e
    rw [← hg y hy x h1 e2]; exact Or.inl hy
   ·
    exact Or.inr ⟨e, h1⟩
  ·
   exact ⟨q, Or.inl h3⟩
end Go.Proofs.YtonknpdalemjkaaGreat

