/- texts put together: OrsRem. -/
import Derived.Test.YtonknpdalemjkaaGreatDe18
namespace Go.Proofs.YtonknpdalemjkaaGreat
open Go Go.RowKit Go.ChangeShapes cl
def DropR (p : Ent → Bool) (l : List Ent) (c : dm.Ctx) (d : Dot) (va : Value) (w : World) (e : Ending) (w' : World) : Prop := (goneOf p l = [] ∧ DropN va w e w') ∨ (goneOf p l ≠ [] ∧ DropY p l c d w e w')
set_option maxHeartbeats 6400000 in
set_option maxRecDepth 100000 in
theorem orem_any (l : List Ent) (c : dm.Ctx) (d : Dot) (s : ByteArray) (ve v1 v2 : Value) (w : World) (h : Ents w w.heap.size ve l) (hc : CtxAt w w.heap.size (.agg #[v1, v2]) c) (hr : RSet l c) (hd : valid d = true) (hn : ¬ dm.Knows c d) (hl : l.length ≤ 1000) (hcl : c.2.length ≤ 1000) (hm : MX w) :
  Calls Tryz.prog 51 #[.agg #[ve, v1, v2], .string s, .agg #[.int .i64 d.1, .int .i64 d.2]] w (DropR (fun x => decide (x.s = s)) l c d (.agg #[ve, v1, v2]) w) := by
 obtain ⟨n0, hn0⟩ : ∃ n, n = l.length := ⟨_, rfl⟩
 obtain ⟨ao, cap, rfl⟩ : ∃ ao cap, ve = .slice ao n0 cap := by
  obtain ⟨ao, cap, e, _⟩ := h.form
  exact ⟨ao, cap, by rw [hn0]; exact e⟩
 obtain ⟨s1, p1, c1, s2, p2, c2, e0, hp1, hp2⟩ := hc.form
 simp only [Value.agg.injEq, Array.mk.injEq, List.cons.injEq, and_true] at e0
 obtain ⟨rfl, rfl⟩ := e0
 clear hp1 hp2 hn0
 obtain ⟨WA, hWA⟩ : ∃ W, W = w.alloc (.cells #[.slice ao n0 cap, .slice s1 p1 c1, .slice s2 p2 c2] 27) := ⟨_, rfl⟩
 obtain ⟨WB, hWB⟩ : ∃ W, W = WA.alloc (.cells #[.string s] 9) := ⟨_, rfl⟩
 obtain ⟨WC, hWC⟩ : ∃ W, W = WB.alloc (.cells #[.int .i64 d.1, .int .i64 d.2] 51) := ⟨_, rfl⟩
 obtain ⟨WD, hWD⟩ : ∃ W, W = WC.alloc (.cells #[.slice none 0 0, .slice none 0 0, .slice none 0 0] 27) := ⟨_, rfl⟩
 obtain ⟨W5, hW5⟩ : ∃ W, W = WD.alloc (.cells #[.slice none 0 0, .slice none 0 0, .slice none 0 0, .slice none 0 0] 29) := ⟨_, rfl⟩
 have sA : WA.heap.size = w.heap.size + 1 := by rw [hWA]; simp
 have sB : WB.heap.size = w.heap.size + 2 := by rw [hWB]; simp [sA]
 have sC : WC.heap.size = w.heap.size + 3 := by rw [hWC]; simp [sB]
 have sD : WD.heap.size = w.heap.size + 4 := by rw [hWD]; simp [sC]
 have bA : Below w.heap.size w WA := by rw [hWA]; exact below1
 have bB : Below WA.heap.size WA WB := by rw [hWB]; exact below1
 have bC : Below WB.heap.size WB WC := by rw [hWC]; exact below1
 have bD : Below WC.heap.size WC WD := by rw [hWD]; exact below1
 have bE : Below WD.heap.size WD W5 := by rw [hW5]; exact below1
 have b4 : Below WC.heap.size WC W5 := bD.trans (bE.mono bD.size)
 have b3 : Below WB.heap.size WB W5 := bC.trans (b4.mono bC.size)
 have b2 : Below WA.heap.size WA W5 := bB.trans (b3.mono bB.size)
 have b5 : Below w.heap.size w W5 := bA.trans (b2.mono bA.size)
 have x0 : W5.heap[w.heap.size]? = some (.cells #[.slice ao n0 cap, .slice s1 p1 c1, .slice s2 p2 c2] 27) := (b2.block _ (by omega)).trans (by rw [hWA]; exact heap_alloc_new w _)
 have x1 : W5.heap[w.heap.size + 1]? = some (.cells #[.string s] 9) := (b3.block _ (by omega)).trans (by rw [hWB, ← sA]; exact heap_alloc_new WA _)
 have x2 : W5.heap[w.heap.size + 2]? = some (.cells #[.int .i64 d.1, .int .i64 d.2] 51) := (b4.block _ (by omega)).trans (by rw [hWC, ← sB]; exact heap_alloc_new WB _)
 have x3 : W5.heap[w.heap.size + 3]? = some (.cells #[.slice none 0 0, .slice none 0 0, .slice none 0 0] 27) := (bE.block _ (by omega)).trans (by rw [hWD, ← sC]; exact heap_alloc_new WC _)
 have x4 : W5.heap[w.heap.size + 4]? = some (.cells #[.slice none 0 0, .slice none 0 0, .slice none 0 0, .slice none 0 0] 29) := by rw [hW5, ← sD]; exact heap_alloc_new WD _
 subst hWA hWB hWC hWD
 have HW5 := Lib.hid hW5
 have X3 := Lib.hid x3
 have X4 := Lib.hid x4
 have HB5 := Lib.hid b5
 have HDR := Lib.hid (odrop_any 89 #[.pointer (some ⟨w.heap.size + 1, 0, none⟩)] (fun x => decide (x.s = s)) l c d _ _ _ W5 (Cells.next h b5) (hc.next b5) hr hd hn hl hcl (MX.next hm b5) (asks_rem _ (w.heap.size + 1) W5 (lt_of_block x1) (boxc x1 0 _ rfl)))
 clear h hc hr hd hn hm sA sB sC sD bA bB bC bD bE b4 b3 b2 b5 x0 x1 x2 x3 x4 hW5
 go_enter Tryz.func51, Tryz.ntmps51
 go_wp2_with fail
 rw [← HW5.out]
 (with_reducible refine HDR.out.mono ?_)
 rintro e wD (⟨hG, rfl, hbD⟩ | ⟨hG, u0, u1, u2, t2, t3, c', dc, rfl, hE, hC, hD, hI, hJ, hbD⟩)
 ·
  have y3 := (hbD.block _ (lt_of_block X3.out)).trans X3.out
  have y4 := (hbD.block _ (lt_of_block X4.out)).trans X4.out
  obtain ⟨r4, hr4⟩ : ∃ r, r = w.heap.size + 1 + 1 + 1 + 1 := ⟨_, rfl⟩
  obtain ⟨r3, hr3⟩ : ∃ r, r = w.heap.size + 1 + 1 + 1 := ⟨_, rfl⟩
  replace y3 : wD.heap[r3]? = some (.cells #[.slice none 0 0, .slice none 0 0, .slice none 0 0] 27 (0, 0)) := by rw [hr3]; exact y3
  replace y4 : wD.heap[r4]? = some (.cells #[.slice none 0 0, .slice none 0 0, .slice none 0 0, .slice none 0 0] 29 (0, 0)) := by rw [hr4]; exact y4
  have h43 : r4 ≠ r3 := by omega
  have j0 := boxc y3 0 _ rfl
  have j1 := boxc y3 1 _ rfl
  have j2 := boxc y3 2 _ rfl
  have fj0 := boxf y3 0
  have fj1 := boxf y3 1
  have fj2 := boxf y3 2
  have z0 := boxc y4 0 _ rfl
  have z1 := boxc y4 1 _ rfl
  have z2 := boxc y4 2 _ rfl
  have z3 := boxc y4 3 _ rfl
  have fz0 := boxf y4 0
  have fz1 := boxf y4 1
  have fz2 := boxf y4 2
  have fz3 := boxf y4 3
  obtain ⟨WM, hWM⟩ : ∃ W, W = (((wD.setCell ⟨r3, 0, none⟩ (.slice ao n0 cap)).setCell ⟨r3, 1, none⟩ (.slice s1 p1 c1)).setCell ⟨r3, 2, none⟩ (.slice s2 p2 c2)) := ⟨_, rfl⟩
  obtain ⟨W3, hW3⟩ : ∃ W, W = ((((WM.setCell ⟨r4, 0, none⟩ (.slice none 0 0)).setCell ⟨r4, 1, none⟩ (.slice none 0 0)).setCell ⟨r4, 2, none⟩ (.slice none 0 0)).setCell ⟨r4, 3, none⟩ (.slice none 0 0)) := ⟨_, rfl⟩
  have hm3 : WM.heap[r3]? = some (.cells #[.slice ao n0 cap, .slice s1 p1 c1, .slice s2 p2 c2] 27 (0, 0)) := by
   rw [hWM]; exact (heap_setCell_same _ r3 2 _ _ _ (heap_setCell_same _ r3 1 _ _ _ (heap_setCell_same _ r3 0 _ _ _ y3)))
  have hm4 : WM.heap[r4]? = some (.cells #[.slice none 0 0, .slice none 0 0, .slice none 0 0, .slice none 0 0] 29 (0, 0)) := by
   rw [hWM, Below.heap_setCell _ _ _ _ h43, Below.heap_setCell _ _ _ _ h43, Below.heap_setCell _ _ _ _ h43]
   exact y4
  have hv4 : W3.heap[r4]? = some (.cells #[.slice none 0 0, .slice none 0 0, .slice none 0 0, .slice none 0 0] 29 (0, 0)) := by
   rw [hW3]; exact (heap_setCell_same _ r4 3 _ _ _ (heap_setCell_same _ r4 2 _ _ _ (heap_setCell_same _ r4 1 _ _ _ (heap_setCell_same _ r4 0 _ _ _ hm4))))
  have hv3 : W3.heap[r3]? = some (.cells #[.slice ao n0 cap, .slice s1 p1 c1, .slice s2 p2 c2] 27 (0, 0)) := by
   rw [hW3, Below.heap_setCell _ _ _ _ h43.symm, Below.heap_setCell _ _ _ _ h43.symm, Below.heap_setCell _ _ _ _ h43.symm, Below.heap_setCell _ _ _ _ h43.symm]
   exact hm3
  have hz3 : w.heap.size ≤ r3 := by omega
  have hz4 : w.heap.size ≤ r4 := by omega
  have hb3 : Below w.heap.size w W3 := by
   rw [hW3, hWM]; exact (((((((HB5.out.trans (hbD.mono HB5.out.size)).setCell hz3 _).setCell hz3 _).setCell hz3 _).setCell hz4 _).setCell hz4 _).setCell hz4 _).setCell hz4 _
  have HRET : Hid (DropR (fun x => decide (x.s = s)) l c d (.agg #[.slice ao n0 cap, .slice s1 p1 c1, .slice s2 p2 c2]) w (.returned (.tuple #[.agg #[.slice ao n0 cap, .slice s1 p1 c1, .slice s2 p2 c2], .agg #[.slice none 0 0, .slice none 0 0, .slice none 0 0, .slice none 0 0]])) W3) := Or.inl ⟨hG, rfl, hb3⟩
  have HV4 := Lib.hid hv4
  have HV3 := Lib.hid hv3
  rw [hWM] at hW3
  have HW3 := Lib.hid hW3
  have h34 : r3 ≠ r4 := h43.symm
  clear y3 y4 hm3 hm4 hv3 hv4 hb3 hWM hW3 hz3 hz4 hbD
  rw [← hr4, ← hr3]
  clear hr3 hr4
  go_wp2_with fail
  rw [← HW3.out]
  have d0 := boxc HV4.out 0 _ rfl
  have d1 := boxc HV4.out 1 _ rfl
  have d2 := boxc HV4.out 2 _ rfl
  have d3 := boxc HV4.out 3 _ rfl
  have s0 := boxc HV3.out 0 _ rfl
  have s1' := boxc HV3.out 1 _ rfl
  have s2' := boxc HV3.out 2 _ rfl
  exact bodyPost_ret (v := .tuple #[.agg #[.slice ao n0 cap, .slice s1 p1 c1, .slice s2 p2 c2], .agg #[.slice none 0 0, .slice none 0 0, .slice none 0 0, .slice none 0 0]]) (by simp [results, Tryz.results51, go_sem, d0, d1, d2, d3, s0, s1', s2']) rfl (HRET.out)
 ·
  obtain ⟨g0a, g0c, rfl⟩ := own_slice hE
  obtain ⟨g1a, g1b, g1c, g2a, g2b, g2c, e1⟩ := hC.form
  simp only [Value.agg.injEq, Array.mk.injEq, List.cons.injEq, and_true] at e1
  obtain ⟨rfl, rfl⟩ := e1
  obtain ⟨g3a, g3b, g3c, g4a, g4b, g4c, e2⟩ := hD.form
  simp only [Value.agg.injEq, Array.mk.injEq, List.cons.injEq, and_true] at e2
  obtain ⟨rfl, rfl⟩ := e2
  obtain ⟨g0b, hg0b⟩ : ∃ n, n = (staysOf (fun x => decide (x.s = s)) l).length := ⟨_, rfl⟩
  unfold EntO at hE
  rw [← hg0b] at hE ⊢
  have HG0B := Lib.hid hg0b
  clear hg0b
  have y3 := (hbD.block _ (lt_of_block X3.out)).trans X3.out
  have y4 := (hbD.block _ (lt_of_block X4.out)).trans X4.out
  obtain ⟨r4, hr4⟩ : ∃ r, r = w.heap.size + 1 + 1 + 1 + 1 := ⟨_, rfl⟩
  obtain ⟨r3, hr3⟩ : ∃ r, r = w.heap.size + 1 + 1 + 1 := ⟨_, rfl⟩
  replace y3 : wD.heap[r3]? = some (.cells #[.slice none 0 0, .slice none 0 0, .slice none 0 0] 27 (0, 0)) := by rw [hr3]; exact y3
  replace y4 : wD.heap[r4]? = some (.cells #[.slice none 0 0, .slice none 0 0, .slice none 0 0, .slice none 0 0] 29 (0, 0)) := by rw [hr4]; exact y4
  have h43 : r4 ≠ r3 := by omega
  have j0 := boxc y3 0 _ rfl
  have j1 := boxc y3 1 _ rfl
  have j2 := boxc y3 2 _ rfl
  have fj0 := boxf y3 0
  have fj1 := boxf y3 1
  have fj2 := boxf y3 2
  have z0 := boxc y4 0 _ rfl
  have z1 := boxc y4 1 _ rfl
  have z2 := boxc y4 2 _ rfl
  have z3 := boxc y4 3 _ rfl
  have fz0 := boxf y4 0
  have fz1 := boxf y4 1
  have fz2 := boxf y4 2
  have fz3 := boxf y4 3
  obtain ⟨WM, hWM⟩ : ∃ W, W = (((wD.setCell ⟨r3, 0, none⟩ (.slice g0a g0b g0c)).setCell ⟨r3, 1, none⟩ (.slice g1a g1b g1c)).setCell ⟨r3, 2, none⟩ (.slice g2a g2b g2c)) := ⟨_, rfl⟩
  obtain ⟨W3, hW3⟩ : ∃ W, W = ((((WM.setCell ⟨r4, 0, none⟩ (.slice none 0 0)).setCell ⟨r4, 1, none⟩ (.slice none 0 0)).setCell ⟨r4, 2, none⟩ (.slice g3a g3b g3c)).setCell ⟨r4, 3, none⟩ (.slice g4a g4b g4c)) := ⟨_, rfl⟩
  have hm3 : WM.heap[r3]? = some (.cells #[.slice g0a g0b g0c, .slice g1a g1b g1c, .slice g2a g2b g2c] 27 (0, 0)) := by
   rw [hWM]; exact (heap_setCell_same _ r3 2 _ _ _ (heap_setCell_same _ r3 1 _ _ _ (heap_setCell_same _ r3 0 _ _ _ y3)))
  have hm4 : WM.heap[r4]? = some (.cells #[.slice none 0 0, .slice none 0 0, .slice none 0 0, .slice none 0 0] 29 (0, 0)) := by
   rw [hWM, Below.heap_setCell _ _ _ _ h43, Below.heap_setCell _ _ _ _ h43, Below.heap_setCell _ _ _ _ h43]
   exact y4
  have hv4 : W3.heap[r4]? = some (.cells #[.slice none 0 0, .slice none 0 0, .slice g3a g3b g3c, .slice g4a g4b g4c] 29 (0, 0)) := by
   rw [hW3]; exact (heap_setCell_same _ r4 3 _ _ _ (heap_setCell_same _ r4 2 _ _ _ (heap_setCell_same _ r4 1 _ _ _ (heap_setCell_same _ r4 0 _ _ _ hm4))))
  have hv3 : W3.heap[r3]? = some (.cells #[.slice g0a g0b g0c, .slice g1a g1b g1c, .slice g2a g2b g2c] 27 (0, 0)) := by
   rw [hW3, Below.heap_setCell _ _ _ _ h43.symm, Below.heap_setCell _ _ _ _ h43.symm, Below.heap_setCell _ _ _ _ h43.symm, Below.heap_setCell _ _ _ _ h43.symm]
   exact hm3
  have hz3 : w.heap.size ≤ r3 := by omega
  have hz4 : w.heap.size ≤ r4 := by omega
  have hb3 : Below w.heap.size w W3 := by
   rw [hW3, hWM]; exact (((((((HB5.out.trans (hbD.mono HB5.out.size)).setCell hz3 _).setCell hz3 _).setCell hz3 _).setCell hz4 _).setCell hz4 _).setCell hz4 _).setCell hz4 _
  have sb3 := sl_blk3 y3
  have sb4 := sl_blk4 hm4
  have hs3 : W3.heap.size = wD.heap.size := by rw [hW3, hWM]; simp
  have hk1 : Kt 27 wD WM := by rw [hWM]; exact set3_kt y3 _ _ _
  have hk2 : Kt 29 WM W3 := by rw [hW3]; exact set4_kt hm4 _ _ _ _
  have hE3 : EntO w.heap.size W3 (.slice g0a g0b g0c) (staysOf (fun x => decide (x.s = s)) l) := by
   unfold EntO
   rw [← HG0B.out]
   exact own_base (own_kt (own_kt hE hk1 (by decide)) hk2 (by decide)) HB5.out.size
  have hC3 := ((hC.kt hk1 (by decide)).kt hk2 (by decide)).low HB5.out.size
  have hD3 := ((hD.kt hk1 (by decide)).kt hk2 (by decide)).low HB5.out.size
  have HRET : Hid (DropR (fun x => decide (x.s = s)) l c d (.agg #[.slice ao n0 cap, .slice s1 p1 c1, .slice s2 p2 c2]) w (.returned (.tuple #[.agg #[.slice g0a g0b g0c, .slice g1a g1b g1c, .slice g2a g2b g2c], .agg #[.slice none 0 0, .slice none 0 0, .slice g3a g3b g3c, .slice g4a g4b g4c]])) W3) := Or.inr ⟨hG, _, _, _, _, _, c', dc, rfl, hE3, hC3, hD3, hI, hJ, hb3⟩
  have HV4 := Lib.hid hv4
  have HV3 := Lib.hid hv3
  rw [hWM] at hW3
  have HW3 := Lib.hid hW3
  have h34 : r3 ≠ r4 := h43.symm
  clear y3 y4 hm3 hm4 hv3 hv4 hb3 hWM hW3 hz3 hz4 hbD sb3 sb4 hs3 hk1 hk2 hE3 hC3 hD3 hE hC hD
  rw [← hr4, ← hr3]
  clear hr3 hr4
  go_wp2_with fail
  rw [← HW3.out]
  have d0 := boxc HV4.out 0 _ rfl
  have d1 := boxc HV4.out 1 _ rfl
  have d2 := boxc HV4.out 2 _ rfl
  have d3 := boxc HV4.out 3 _ rfl
  have s0 := boxc HV3.out 0 _ rfl
  have s1' := boxc HV3.out 1 _ rfl
  have s2' := boxc HV3.out 2 _ rfl
  exact bodyPost_ret (v := .tuple #[.agg #[.slice g0a g0b g0c, .slice g1a g1b g1c, .slice g2a g2b g2c], .agg #[.slice none 0 0, .slice none 0 0, .slice g3a g3b g3c, .slice g4a g4b g4c]]) (by simp [results, Tryz.results51, go_sem, d0, d1, d2, d3, s0, s1', s2']) rfl (HRET.out)
set_option maxHeartbeats 6400000 in
set_option maxRecDepth 100000 in
theorem oexp_any (l : List Ent) (c : dm.Ctx) (d : Dot) (k : Int) (ve v1 v2 : Value) (w : World) (h : Ents w w.heap.size ve l) (hc : CtxAt w w.heap.size (.agg #[v1, v2]) c) (hr : RSet l c) (hd : valid d = true) (hn : ¬ dm.Knows c d) (hl : l.length ≤ 1000) (hcl : c.2.length ≤ 1000) (hm : MX w) :
  Calls Tryz.prog 52 #[.agg #[ve, v1, v2], .int .i64 k, .agg #[.int .i64 d.1, .int .i64 d.2]] w (DropR (fun x => decide (x.t < k)) l c d (.agg #[ve, v1, v2]) w) := by
 obtain ⟨n0, hn0⟩ : ∃ n, n = l.length := ⟨_, rfl⟩
 obtain ⟨ao, cap, rfl⟩ : ∃ ao cap, ve = .slice ao n0 cap := by
  obtain ⟨ao, cap, e, _⟩ := h.form
  exact ⟨ao, cap, by rw [hn0]; exact e⟩
 obtain ⟨s1, p1, c1, s2, p2, c2, e0, hp1, hp2⟩ := hc.form
 simp only [Value.agg.injEq, Array.mk.injEq, List.cons.injEq, and_true] at e0
 obtain ⟨rfl, rfl⟩ := e0
 clear hp1 hp2 hn0
 obtain ⟨WA, hWA⟩ : ∃ W, W = w.alloc (.cells #[.slice ao n0 cap, .slice s1 p1 c1, .slice s2 p2 c2] 27) := ⟨_, rfl⟩
 obtain ⟨WB, hWB⟩ : ∃ W, W = WA.alloc (.cells #[.int .i64 k] 3) := ⟨_, rfl⟩
 obtain ⟨WC, hWC⟩ : ∃ W, W = WB.alloc (.cells #[.int .i64 d.1, .int .i64 d.2] 51) := ⟨_, rfl⟩
 obtain ⟨WD, hWD⟩ : ∃ W, W = WC.alloc (.cells #[.slice none 0 0, .slice none 0 0, .slice none 0 0] 27) := ⟨_, rfl⟩
 obtain ⟨W5, hW5⟩ : ∃ W, W = WD.alloc (.cells #[.slice none 0 0, .slice none 0 0, .slice none 0 0, .slice none 0 0] 29) := ⟨_, rfl⟩
 have sA : WA.heap.size = w.heap.size + 1 := by rw [hWA]; simp
 have sB : WB.heap.size = w.heap.size + 2 := by rw [hWB]; simp [sA]
 have sC : WC.heap.size = w.heap.size + 3 := by rw [hWC]; simp [sB]
 have sD : WD.heap.size = w.heap.size + 4 := by rw [hWD]; simp [sC]
 have bA : Below w.heap.size w WA := by rw [hWA]; exact below1
 have bB : Below WA.heap.size WA WB := by rw [hWB]; exact below1
 have bC : Below WB.heap.size WB WC := by rw [hWC]; exact below1
 have bD : Below WC.heap.size WC WD := by rw [hWD]; exact below1
 have bE : Below WD.heap.size WD W5 := by rw [hW5]; exact below1
 have b4 : Below WC.heap.size WC W5 := bD.trans (bE.mono bD.size)
 have b3 : Below WB.heap.size WB W5 := bC.trans (b4.mono bC.size)
 have b2 : Below WA.heap.size WA W5 := bB.trans (b3.mono bB.size)
 have b5 : Below w.heap.size w W5 := bA.trans (b2.mono bA.size)
 have x0 : W5.heap[w.heap.size]? = some (.cells #[.slice ao n0 cap, .slice s1 p1 c1, .slice s2 p2 c2] 27) := (b2.block _ (by omega)).trans (by rw [hWA]; exact heap_alloc_new w _)
 have x1 : W5.heap[w.heap.size + 1]? = some (.cells #[.int .i64 k] 3) := (b3.block _ (by omega)).trans (by rw [hWB, ← sA]; exact heap_alloc_new WA _)
 have x2 : W5.heap[w.heap.size + 2]? = some (.cells #[.int .i64 d.1, .int .i64 d.2] 51) := (b4.block _ (by omega)).trans (by rw [hWC, ← sB]; exact heap_alloc_new WB _)
 have x3 : W5.heap[w.heap.size + 3]? = some (.cells #[.slice none 0 0, .slice none 0 0, .slice none 0 0] 27) := (bE.block _ (by omega)).trans (by rw [hWD, ← sC]; exact heap_alloc_new WC _)
 have x4 : W5.heap[w.heap.size + 4]? = some (.cells #[.slice none 0 0, .slice none 0 0, .slice none 0 0, .slice none 0 0] 29) := by rw [hW5, ← sD]; exact heap_alloc_new WD _
 subst hWA hWB hWC hWD
 have HW5 := Lib.hid hW5
 have X3 := Lib.hid x3
 have X4 := Lib.hid x4
 have HB5 := Lib.hid b5
 have HDR := Lib.hid (odrop_any 90 #[.pointer (some ⟨w.heap.size + 1, 0, none⟩)] (fun x => decide (x.t < k)) l c d _ _ _ W5 (Cells.next h b5) (hc.next b5) hr hd hn hl hcl (MX.next hm b5) (asks_exp _ (w.heap.size + 1) W5 (lt_of_block x1) (boxc x1 0 _ rfl)))
 clear h hc hr hd hn hm sA sB sC sD bA bB bC bD bE b4 b3 b2 b5 x0 x1 x2 x3 x4 hW5
 go_enter Tryz.func52, Tryz.ntmps52
 go_wp2_with fail
 rw [← HW5.out]
 (with_reducible refine HDR.out.mono ?_)
 rintro e wD (⟨hG, rfl, hbD⟩ | ⟨hG, u0, u1, u2, t2, t3, c', dc, rfl, hE, hC, hD, hI, hJ, hbD⟩)
 ·
  have y3 := (hbD.block _ (lt_of_block X3.out)).trans X3.out
  have y4 := (hbD.block _ (lt_of_block X4.out)).trans X4.out
  obtain ⟨r4, hr4⟩ : ∃ r, r = w.heap.size + 1 + 1 + 1 + 1 := ⟨_, rfl⟩
  obtain ⟨r3, hr3⟩ : ∃ r, r = w.heap.size + 1 + 1 + 1 := ⟨_, rfl⟩
  replace y3 : wD.heap[r3]? = some (.cells #[.slice none 0 0, .slice none 0 0, .slice none 0 0] 27 (0, 0)) := by rw [hr3]; exact y3
  replace y4 : wD.heap[r4]? = some (.cells #[.slice none 0 0, .slice none 0 0, .slice none 0 0, .slice none 0 0] 29 (0, 0)) := by rw [hr4]; exact y4
  have h43 : r4 ≠ r3 := by omega
  have j0 := boxc y3 0 _ rfl
  have j1 := boxc y3 1 _ rfl
  have j2 := boxc y3 2 _ rfl
  have fj0 := boxf y3 0
  have fj1 := boxf y3 1
  have fj2 := boxf y3 2
  have z0 := boxc y4 0 _ rfl
  have z1 := boxc y4 1 _ rfl
  have z2 := boxc y4 2 _ rfl
  have z3 := boxc y4 3 _ rfl
  have fz0 := boxf y4 0
  have fz1 := boxf y4 1
  have fz2 := boxf y4 2
  have fz3 := boxf y4 3
  obtain ⟨WM, hWM⟩ : ∃ W, W = (((wD.setCell ⟨r3, 0, none⟩ (.slice ao n0 cap)).setCell ⟨r3, 1, none⟩ (.slice s1 p1 c1)).setCell ⟨r3, 2, none⟩ (.slice s2 p2 c2)) := ⟨_, rfl⟩
  obtain ⟨W3, hW3⟩ : ∃ W, W = ((((WM.setCell ⟨r4, 0, none⟩ (.slice none 0 0)).setCell ⟨r4, 1, none⟩ (.slice none 0 0)).setCell ⟨r4, 2, none⟩ (.slice none 0 0)).setCell ⟨r4, 3, none⟩ (.slice none 0 0)) := ⟨_, rfl⟩
  have hm3 : WM.heap[r3]? = some (.cells #[.slice ao n0 cap, .slice s1 p1 c1, .slice s2 p2 c2] 27 (0, 0)) := by
   rw [hWM]; exact (heap_setCell_same _ r3 2 _ _ _ (heap_setCell_same _ r3 1 _ _ _ (heap_setCell_same _ r3 0 _ _ _ y3)))
  have hm4 : WM.heap[r4]? = some (.cells #[.slice none 0 0, .slice none 0 0, .slice none 0 0, .slice none 0 0] 29 (0, 0)) := by
   rw [hWM, Below.heap_setCell _ _ _ _ h43, Below.heap_setCell _ _ _ _ h43, Below.heap_setCell _ _ _ _ h43]
   exact y4
  have hv4 : W3.heap[r4]? = some (.cells #[.slice none 0 0, .slice none 0 0, .slice none 0 0, .slice none 0 0] 29 (0, 0)) := by
   rw [hW3]; exact (heap_setCell_same _ r4 3 _ _ _ (heap_setCell_same _ r4 2 _ _ _ (heap_setCell_same _ r4 1 _ _ _ (heap_setCell_same _ r4 0 _ _ _ hm4))))
  have hv3 : W3.heap[r3]? = some (.cells #[.slice ao n0 cap, .slice s1 p1 c1, .slice s2 p2 c2] 27 (0, 0)) := by
   rw [hW3, Below.heap_setCell _ _ _ _ h43.symm, Below.heap_setCell _ _ _ _ h43.symm, Below.heap_setCell _ _ _ _ h43.symm, Below.heap_setCell _ _ _ _ h43.symm]
   exact hm3
  have hz3 : w.heap.size ≤ r3 := by omega
  have hz4 : w.heap.size ≤ r4 := by omega
  have hb3 : Below w.heap.size w W3 := by
   rw [hW3, hWM]; exact (((((((HB5.out.trans (hbD.mono HB5.out.size)).setCell hz3 _).setCell hz3 _).setCell hz3 _).setCell hz4 _).setCell hz4 _).setCell hz4 _).setCell hz4 _
  have HRET : Hid (DropR (fun x => decide (x.t < k)) l c d (.agg #[.slice ao n0 cap, .slice s1 p1 c1, .slice s2 p2 c2]) w (.returned (.tuple #[.agg #[.slice ao n0 cap, .slice s1 p1 c1, .slice s2 p2 c2], .agg #[.slice none 0 0, .slice none 0 0, .slice none 0 0, .slice none 0 0]])) W3) := Or.inl ⟨hG, rfl, hb3⟩
  have HV4 := Lib.hid hv4
  have HV3 := Lib.hid hv3
  rw [hWM] at hW3
  have HW3 := Lib.hid hW3
  have h34 : r3 ≠ r4 := h43.symm
  clear y3 y4 hm3 hm4 hv3 hv4 hb3 hWM hW3 hz3 hz4 hbD
  rw [← hr4, ← hr3]
  clear hr3 hr4
  go_wp2_with fail
  rw [← HW3.out]
  have d0 := boxc HV4.out 0 _ rfl
  have d1 := boxc HV4.out 1 _ rfl
  have d2 := boxc HV4.out 2 _ rfl
  have d3 := boxc HV4.out 3 _ rfl
  have s0 := boxc HV3.out 0 _ rfl
  have s1' := boxc HV3.out 1 _ rfl
  have s2' := boxc HV3.out 2 _ rfl
  exact bodyPost_ret (v := .tuple #[.agg #[.slice ao n0 cap, .slice s1 p1 c1, .slice s2 p2 c2], .agg #[.slice none 0 0, .slice none 0 0, .slice none 0 0, .slice none 0 0]]) (by simp [results, Tryz.results52, go_sem, d0, d1, d2, d3, s0, s1', s2']) rfl (HRET.out)
 ·
  obtain ⟨g0a, g0c, rfl⟩ := own_slice hE
  obtain ⟨g1a, g1b, g1c, g2a, g2b, g2c, e1⟩ := hC.form
  simp only [Value.agg.injEq, Array.mk.injEq, List.cons.injEq, and_true] at e1
  obtain ⟨rfl, rfl⟩ := e1
  obtain ⟨g3a, g3b, g3c, g4a, g4b, g4c, e2⟩ := hD.form
  simp only [Value.agg.injEq, Array.mk.injEq, List.cons.injEq, and_true] at e2
  obtain ⟨rfl, rfl⟩ := e2
  obtain ⟨g0b, hg0b⟩ : ∃ n, n = (staysOf (fun x => decide (x.t < k)) l).length := ⟨_, rfl⟩
  unfold EntO at hE
  rw [← hg0b] at hE ⊢
  have HG0B := Lib.hid hg0b
  clear hg0b
  have y3 := (hbD.block _ (lt_of_block X3.out)).trans X3.out
  have y4 := (hbD.block _ (lt_of_block X4.out)).trans X4.out
  obtain ⟨r4, hr4⟩ : ∃ r, r = w.heap.size + 1 + 1 + 1 + 1 := ⟨_, rfl⟩
  obtain ⟨r3, hr3⟩ : ∃ r, r = w.heap.size + 1 + 1 + 1 := ⟨_, rfl⟩
  replace y3 : wD.heap[r3]? = some (.cells #[.slice none 0 0, .slice none 0 0, .slice none 0 0] 27 (0, 0)) := by rw [hr3]; exact y3
  replace y4 : wD.heap[r4]? = some (.cells #[.slice none 0 0, .slice none 0 0, .slice none 0 0, .slice none 0 0] 29 (0, 0)) := by rw [hr4]; exact y4
  have h43 : r4 ≠ r3 := by omega
  have j0 := boxc y3 0 _ rfl
  have j1 := boxc y3 1 _ rfl
  have j2 := boxc y3 2 _ rfl
  have fj0 := boxf y3 0
  have fj1 := boxf y3 1
  have fj2 := boxf y3 2
  have z0 := boxc y4 0 _ rfl
  have z1 := boxc y4 1 _ rfl
  have z2 := boxc y4 2 _ rfl
  have z3 := boxc y4 3 _ rfl
  have fz0 := boxf y4 0
  have fz1 := boxf y4 1
  have fz2 := boxf y4 2
  have fz3 := boxf y4 3
  obtain ⟨WM, hWM⟩ : ∃ W, W = (((wD.setCell ⟨r3, 0, none⟩ (.slice g0a g0b g0c)).setCell ⟨r3, 1, none⟩ (.slice g1a g1b g1c)).setCell ⟨r3, 2, none⟩ (.slice g2a g2b g2c)) := ⟨_, rfl⟩
  obtain ⟨W3, hW3⟩ : ∃ W, W = ((((WM.setCell ⟨r4, 0, none⟩ (.slice none 0 0)).setCell ⟨r4, 1, none⟩ (.slice none 0 0)).setCell ⟨r4, 2, none⟩ (.slice g3a g3b g3c)).setCell ⟨r4, 3, none⟩ (.slice g4a g4b g4c)) := ⟨_, rfl⟩
  have hm3 : WM.heap[r3]? = some (.cells #[.slice g0a g0b g0c, .slice g1a g1b g1c, .slice g2a g2b g2c] 27 (0, 0)) := by
   rw [hWM]; exact (heap_setCell_same _ r3 2 _ _ _ (heap_setCell_same _ r3 1 _ _ _ (heap_setCell_same _ r3 0 _ _ _ y3)))
  have hm4 : WM.heap[r4]? = some (.cells #[.slice none 0 0, .slice none 0 0, .slice none 0 0, .slice none 0 0] 29 (0, 0)) := by
   rw [hWM, Below.heap_setCell _ _ _ _ h43, Below.heap_setCell _ _ _ _ h43, Below.heap_setCell _ _ _ _ h43]
   exact y4
  have hv4 : W3.heap[r4]? = some (.cells #[.slice none 0 0, .slice none 0 0, .slice g3a g3b g3c, .slice g4a g4b g4c] 29 (0, 0)) := by
   rw [hW3]; exact (heap_setCell_same _ r4 3 _ _ _ (heap_setCell_same _ r4 2 _ _ _ (heap_setCell_same _ r4 1 _ _ _ (heap_setCell_same _ r4 0 _ _ _ hm4))))
  have hv3 : W3.heap[r3]? = some (.cells #[.slice g0a g0b g0c, .slice g1a g1b g1c, .slice g2a g2b g2c] 27 (0, 0)) := by
   rw [hW3, Below.heap_setCell _ _ _ _ h43.symm, Below.heap_setCell _ _ _ _ h43.symm, Below.heap_setCell _ _ _ _ h43.symm, Below.heap_setCell _ _ _ _ h43.symm]
   exact hm3
  have hz3 : w.heap.size ≤ r3 := by omega
  have hz4 : w.heap.size ≤ r4 := by omega
  have hb3 : Below w.heap.size w W3 := by
   rw [hW3, hWM]; exact (((((((HB5.out.trans (hbD.mono HB5.out.size)).setCell hz3 _).setCell hz3 _).setCell hz3 _).setCell hz4 _).setCell hz4 _).setCell hz4 _).setCell hz4 _
  have sb3 := sl_blk3 y3
  have sb4 := sl_blk4 hm4
  have hs3 : W3.heap.size = wD.heap.size := by rw [hW3, hWM]; simp
  have hk1 : Kt 27 wD WM := by rw [hWM]; exact set3_kt y3 _ _ _
  have hk2 : Kt 29 WM W3 := by rw [hW3]; exact set4_kt hm4 _ _ _ _
  have hE3 : EntO w.heap.size W3 (.slice g0a g0b g0c) (staysOf (fun x => decide (x.t < k)) l) := by
   unfold EntO
   rw [← HG0B.out]
   exact own_base (own_kt (own_kt hE hk1 (by decide)) hk2 (by decide)) HB5.out.size
  have hC3 := ((hC.kt hk1 (by decide)).kt hk2 (by decide)).low HB5.out.size
  have hD3 := ((hD.kt hk1 (by decide)).kt hk2 (by decide)).low HB5.out.size
  have HRET : Hid (DropR (fun x => decide (x.t < k)) l c d (.agg #[.slice ao n0 cap, .slice s1 p1 c1, .slice s2 p2 c2]) w (.returned (.tuple #[.agg #[.slice g0a g0b g0c, .slice g1a g1b g1c, .slice g2a g2b g2c], .agg #[.slice none 0 0, .slice none 0 0, .slice g3a g3b g3c, .slice g4a g4b g4c]])) W3) := Or.inr ⟨hG, _, _, _, _, _, c', dc, rfl, hE3, hC3, hD3, hI, hJ, hb3⟩
  have HV4 := Lib.hid hv4
  have HV3 := Lib.hid hv3
  rw [hWM] at hW3
  have HW3 := Lib.hid hW3
  have h34 : r3 ≠ r4 := h43.symm
  clear y3 y4 hm3 hm4 hv3 hv4 hb3 hWM hW3 hz3 hz4 hbD sb3 sb4 hs3 hk1 hk2 hE3 hC3 hD3 hE hC hD
  rw [← hr4, ← hr3]
  clear hr3 hr4
  go_wp2_with fail
  rw [← HW3.out]
  have d0 := boxc HV4.out 0 _ rfl
  have d1 := boxc HV4.out 1 _ rfl
  have d2 := boxc HV4.out 2 _ rfl
  have d3 := boxc HV4.out 3 _ rfl
  have s0 := boxc HV3.out 0 _ rfl
  have s1' := boxc HV3.out 1 _ rfl
  have s2' := boxc HV3.out 2 _ rfl
  exact bodyPost_ret (v := .tuple #[.agg #[.slice g0a g0b g0c, .slice g1a g1b g1c, .slice g2a g2b g2c], .agg #[.slice none 0 0, .slice none 0 0, .slice g3a g3b g3c, .slice g4a g4b g4c]]) (by simp [results, Tryz.results52, go_sem, d0, d1, d2, d3, s0, s1', s2']) rfl (HRET.out)
end Go.Proofs.YtonknpdalemjkaaGreat
