/- texts put together: OrsSt2. -/
import Derived.Test.YthpdmfkpiekonaaGreatOh23
open List (setIfInBounds_toArray set_cons_zero set_cons_succ take_succ_cons take_zero drop_succ_cons drop_zero)
namespace Go.Proofs.YthpdmfkpiekonaaGreat
open Go Go.RowKit Go.ChangeShapes cl
set_option maxHeartbeats 12800000 in
set_option maxRecDepth 100000 in
theorem step_exp (B q n : Nat) (s : PS) (g : Nat → Value) (oW oA oB : Int) (w : World) (hb : Box16 w q g) (hp : PIn B w g s) (hv : Inv n s) (hn : n ≤ 60) (hB : B ≤ q) (hm : MX w) (h0 : 0 < B) :
  Calls Tryz.prog 16 #[.pointer (some ⟨q, 0, none⟩), .agg #[.int .i64 2, .int .i64 oW, .int .i64 oA, .int .i64 oB]] w (StepP B q n w) := by
 obtain ⟨i, hi0, hi3⟩ := u64_rem oW 3 (by decide)
 have hie : (IntKind.u64.wrap oW).tmod 3 = (i : Int) := hi0
 obtain ⟨J, hJ0, hJ4⟩ := u64_rem oA 4 (by decide)
 have hJe : (IntKind.u64.wrap oA).tmod 4 = (J : Int) := hJ0
 obtain ⟨tk, ht0, ht1⟩ := u64_rem oB 1000 (by decide)
 have hte : (IntKind.u64.wrap oB).tmod 1000 = (tk : Int) := ht0
 have hii : IntKind.i64.wrap (i : Int) = (i : Int) := IntWalk.i64_in _ (by omega)
 have hti : IntKind.i64.wrap (tk : Int) = (tk : Int) := IntWalk.i64_in _ (by omega)
 clear hi0 hJ0 ht0
 obtain ⟨b0, hb0⟩ : ∃ b, b = w.heap.size := ⟨_, rfl⟩
 obtain ⟨w1, hw1⟩ : ∃ W, W = w.alloc (.cells #[.int .i64 2, .int .i64 oW, .int .i64 oA, .int .i64 oB] 46) := ⟨_, rfl⟩
 have hb1 : Below w.heap.size w w1 := by rw [hw1]; exact below1
 have x0 : w1.heap[b0]? = some (.cells #[.int .i64 2, .int .i64 oW, .int .i64 oA, .int .i64 oB] 46 (0, 0)) := by rw [hw1, hb0]; exact heap_alloc_new w _
 have HB1 := Lib.hid hb1
 have X0 := Lib.hid x0
 have HE0 := Lib.hid hb0
 have HW1 := Lib.hid hw1
 have HBX := Lib.hid hb
 have HPI := Lib.hid hp
 have HINV := Lib.hid hv
 have HMX := Lib.hid hm
 have HJ := Lib.hid hJ4
 have HNM : Hid (∀ W, Calls Tryz.prog 19 #[] W fun e w' => ∃ b, e = .returned (.slice (some ⟨b, 0, none⟩) 4 4) ∧ Strs w' w'.heap.size (.slice (some ⟨b, 0, none⟩) 4 4) NM ∧ Below W.heap.size W w') := names_any
 have XO : Hid (∀ ww, Below w1.heap.size w1 ww → ww.cell? ⟨b0, 0, none⟩ = some (.int .i64 2) ∧ ww.cell? ⟨b0, 1, none⟩ = some (.int .i64 oW) ∧ ww.cell? ⟨b0, 2, none⟩ = some (.int .i64 oA) ∧ ww.cell? ⟨b0, 3, none⟩ = some (.int .i64 oB)) := fun ww hw => by
  have y := (hw.block _ (lt_of_block X0.out)).trans X0.out
  exact ⟨boxc y 0 _ rfl, boxc y 1 _ rfl, boxc y 2 _ rfl, boxc y 3 _ rfl⟩
 obtain ⟨y0, y1, y2, y3⟩ := XO.out w1 (Below.refl _ _)
 clear hb hp hv hm hb0 hw1 hb1 x0
 go_enter Tryz.func16, Tryz.ntmps16
 go_wp2_with fail
 rw [← HW1.out, ← HE0.out]
 refine wp_flow 7 (fun _ => 1000) (fun ww => RowKit.Below w1.heap.size w1 ww) (fun _ w w' => (fun (w w' : World) => RowKit.Below w.heap.size w w') w w') (fun kF vF wF => match kF with | 0 => (∃ b, vF = .slice (some ⟨b, 0, none⟩) 4 4 ∧ Strs wF wF.heap.size (.slice (some ⟨b, 0, none⟩) 4 4) NM) | 1 => (vF = .pointer (some ⟨b0, 2, none⟩)) | 2 => (vF = .int .i64 oA) | 3 => (vF = .int .u64 (IntKind.u64.wrap oA)) | 4 => (vF = .int .u64 (J : Int)) | 5 => (∃ b, vF = .pointer (some ⟨b, J, none⟩) ∧ b < wF.heap.size ∧ wF.cell? ⟨b, J, none⟩ = some (.string (nam J))) | 6 => (vF = .string (nam J)) | _ => True) (fun _ _ _ _ => True) (by kernel_rfl) (by kernel_rfl) ?_ ?_ ?_ ?_ ?_
 ·
  exact (Below.refl _ _).drew
 ·
  intro iF wF1 wF2 hR hT; exact hR.trans (hT.mono hR.size)
 ·
  intro kF hkF iF hiF hne hdd hanc hdan vF wF1 wF2 h hT
  rcases (by omega : kF = 0 ∨ kF = 1 ∨ kF = 2 ∨ kF = 3 ∨ kF = 4 ∨ kF = 5 ∨ kF = 6) with rfl | rfl | rfl | rfl | rfl | rfl | rfl
  ·
   have h : (∃ b, vF = .slice (some ⟨b, 0, none⟩) 4 4 ∧ Strs wF1 wF1.heap.size (.slice (some ⟨b, 0, none⟩) 4 4) NM) := h
   show (∃ b, vF = .slice (some ⟨b, 0, none⟩) 4 4 ∧ Strs wF2 wF2.heap.size (.slice (some ⟨b, 0, none⟩) 4 4) NM)
   have hT : (fun (w w' : World) => RowKit.Below w.heap.size w w') wF1 wF2 := hT
   simp only at hT
   obtain ⟨b, e, h1⟩ := h
   exact ⟨b, e, Cells.next h1 hT⟩
  iterate 4 exact h
  ·
   have h : (∃ b, vF = .pointer (some ⟨b, J, none⟩) ∧ b < wF1.heap.size ∧ wF1.cell? ⟨b, J, none⟩ = some (.string (nam J))) := h
   show (∃ b, vF = .pointer (some ⟨b, J, none⟩) ∧ b < wF2.heap.size ∧ wF2.cell? ⟨b, J, none⟩ = some (.string (nam J)))
   have hT : (fun (w w' : World) => RowKit.Below w.heap.size w w') wF1 wF2 := hT
   simp only at hT
   obtain ⟨b, e, h1, h2⟩ := h
   exact ⟨b, e, Nat.lt_of_lt_of_le h1 hT.size, (hT.cell (p := ⟨b, J, none⟩) h1).trans h2⟩
  ·
   exact h
 ·
  generalize hAF : fillOf _ _ _ = AF
  replace hAF := fun x => congrFun hAF x
  simp only [take_succ_cons, take_zero, fillOf, Act.put, setIfInBounds_toArray, set_cons_zero, set_cons_succ, Nat.reduceAdd, Nat.zero_add] at hAF
  refine .cons ?_ (.cons ?_ (.cons ?_ (.cons ?_ (.cons ?_ (.cons ?_ (.cons ?_ (.nil)))))))
  all_goals
   intro xF w2 hR hd K hK
   first | simp only [← hAF, Act.put, setIfInBounds_toArray, set_cons_zero, set_cons_succ] at hK ⊢ | simp only [← hAF, Act.put] at hK ⊢
   clear hAF
   try simp only [Nat.zero_add, Nat.reduceAdd] at hK ⊢
  ·
   clear hd
   rw [if_pos (by rfl)]
   go_simp
   (go_at_call 19; (with_reducible refine (HNM.out _).mono ?_); rintro e wK ⟨b, rfl, hs, hbK⟩)
   try go_wp2_with fail
   exact hK.out _ _ (hbK) (⟨_, rfl, hs⟩) (fun _ _ _ => ⟨trivial, trivial⟩)
  ·
   clear hd
   rw [if_pos (by rfl)]
   go_simp
   exact hK.out _ _ (Below.refl _ _) (rfl) (fun _ _ _ => ⟨trivial, trivial⟩)
  ·
   have dd1 := hd 1 (by kernel_rfl)
   clear hd
   try generalize xF 1 = yy1 at *
   obtain rfl := dd1
   obtain ⟨x0, x1, x2, x3⟩ := XO.out _ hR
   rw [if_pos (by rfl)]
   go_simp
   exact hK.out _ _ (Below.refl _ _) (rfl) (fun _ _ _ => ⟨trivial, trivial⟩)
  ·
   have dd2 := hd 2 (by kernel_rfl)
   clear hd
   try generalize xF 2 = yy2 at *
   obtain rfl := dd2
   rw [if_pos (by rfl)]
   go_simp
   exact hK.out _ _ (Below.refl _ _) (rfl) (fun _ _ _ => ⟨trivial, trivial⟩)
  ·
   have dd3 := hd 3 (by kernel_rfl)
   clear hd
   try generalize xF 3 = yy3 at *
   obtain rfl := dd3
   rw [if_pos (by rfl)]
   go_simp
   exact hK.out _ _ (Below.refl _ _) (rfl) (fun _ _ _ => ⟨trivial, trivial⟩)
  ·
   have dd0 := hd 0 (by kernel_rfl)
   have dd4 := hd 4 (by kernel_rfl)
   clear hd
   try generalize xF 0 = yy0 at *
   try generalize xF 4 = yy4 at *
   obtain ⟨bN, rfl, hsN⟩ := dd0
   obtain rfl := dd4
   have hj4 := HJ.out
   have hj4i : (J : Int) < 4 := by omega
   have hj0 : 0 ≤ (J : Int) := by omega
   rw [if_pos (by rfl)]
   go_simp
   exact hK.out _ _ (Below.refl _ _) (⟨_, rfl, names_lt hsN, names_cell hsN J HJ.out⟩) (fun _ _ _ => ⟨trivial, trivial⟩)
  ·
   have dd5 := hd 5 (by kernel_rfl)
   clear hd
   try generalize xF 5 = yy5 at *
   obtain ⟨bJ, rfl, hJl, hJc⟩ := dd5
   rw [if_pos (by rfl)]
   go_simp
   exact hK.out _ _ (Below.refl _ _) (rfl) (fun _ _ _ => ⟨trivial, trivial⟩)
 intro xF w2 hR hF hP
 clear hP
 have dd0 := hF 0 (by omega) (by decide)
 have dd1 := hF 1 (by omega) (by decide)
 have dd2 := hF 2 (by omega) (by decide)
 have dd3 := hF 3 (by omega) (by decide)
 have dd4 := hF 4 (by omega) (by decide)
 have dd5 := hF 5 (by omega) (by decide)
 have dd6 := hF 6 (by omega) (by decide)
 clear hF
 simp only [take_succ_cons, take_zero, drop_succ_cons, drop_zero, fillOf, Act.put, setIfInBounds_toArray, set_cons_zero, set_cons_succ, Nat.reduceAdd, Nat.zero_add]
 try generalize xF 0 = yy0 at *
 try generalize xF 1 = yy1 at *
 try generalize xF 2 = yy2 at *
 try generalize xF 3 = yy3 at *
 try generalize xF 4 = yy4 at *
 try generalize xF 5 = yy5 at *
 try generalize xF 6 = yy6 at *
 clear xF
 obtain ⟨bN, rfl, hsN⟩ := dd0
 obtain rfl := dd1
 obtain rfl := dd2
 obtain rfl := dd3
 obtain rfl := dd4
 obtain ⟨bJ, rfl, hJl, hJc⟩ := dd5
 obtain rfl := dd6
 have hRE := Lib.hid hR
 clear hR
 have HB2 := Lib.hid hRE
 obtain ⟨x0, x1, x2, x3⟩ := XO.out w2 hRE
 clear hRE y0 y1 y2 y3
 have HB02 := Lib.hid (HB1.out.trans (HB2.out.mono HB1.out.size))
 have HBX2 := Lib.hid (HBX.out.on HB02.out)
 have HPI2 := Lib.hid (HPI.out.on HB02.out)
 obtain ⟨ne, hne⟩ : ∃ n, n = (s.l i).length := ⟨_, rfl⟩
 obtain ⟨ae, ce, hge⟩ := own_slice (HPI2.out.ent i hi3)
 rw [← hne] at hge
 obtain ⟨av, nv, cv, ac, nc, cc, hgc⟩ := (HPI2.out.ctx i hi3).form
 simp only [Value.agg.injEq, Array.mk.injEq, List.cons.injEq, and_true] at hgc
 have c0 := HBX2.out.cell (j := i * 3) (by omega)
 have c1 := HBX2.out.cell (j := i * 3 + 1) (by omega)
 have c2 := HBX2.out.cell (j := i * 3 + 2) (by omega)
 rw [hge] at c0
 rw [hgc.1] at c1
 rw [hgc.2] at c2
 have HGE := Lib.hid hge
 have HGC := Lib.hid hgc
 have HNE := Lib.hid hne
 have hi0 : 0 ≤ (i : Int) := by omega
 have hi3i : (i : Int) < 3 := by omega
 obtain ⟨b8, hb8⟩ : ∃ b, b = w2.heap.size := ⟨_, rfl⟩
 obtain ⟨b9, hb9⟩ : ∃ b, b = w2.heap.size + 1 := ⟨_, rfl⟩
 obtain ⟨w3, hw3⟩ : ∃ W, W = w2.alloc (.cells #[.slice ae ne ce, .slice av nv cv, .slice ac nc cc] 27) := ⟨_, rfl⟩
 obtain ⟨w4, hw4⟩ : ∃ W, W = w3.alloc (.cells #[.slice none 0 0, .slice none 0 0, .slice none 0 0, .slice none 0 0] 29) := ⟨_, rfl⟩
 have hs3 : w3.heap.size = w2.heap.size + 1 := by rw [hw3, World.size_alloc]
 have hb3 : Below w2.heap.size w2 w3 := by rw [hw3]; exact below1
 have hb4 : Below w3.heap.size w3 w4 := by rw [hw4]; exact below1
 have hb24 : Below w2.heap.size w2 w4 := hb3.trans (hb4.mono hb3.size)
 have r8 : w4.heap[b8]? = some (.cells #[.slice ae ne ce, .slice av nv cv, .slice ac nc cc] 27 (0, 0)) := (hb4.block _ (by omega)).trans (by rw [hw3, hb8]; exact heap_alloc_new w2 _)
 have r9 : w4.heap[b9]? = some (.cells #[.slice none 0 0, .slice none 0 0, .slice none 0 0, .slice none 0 0] 29 (0, 0)) := by rw [hw4, hb9, ← hs3]; exact heap_alloc_new w3 _
 have HB4 := Lib.hid (HB2.out.trans (hb24.mono HB2.out.size))
 have HB04 := Lib.hid (HB02.out.trans (hb24.mono HB02.out.size))
 have HBX4 := Lib.hid (HBX2.out.on hb24)
 have HPI4 := Lib.hid (HPI2.out.on hb24)
 have R8 := Lib.hid r8
 have R9 := Lib.hid r9
 have HE8 := Lib.hid hb8
 have HE9 := Lib.hid hb9
 have HQL : Hid (q < w.heap.size) := HBX.out.lt
 have HQ8 : Hid (q < b8 ∧ b8 < b9 ∧ b0 < b8) := by
  refine ⟨?_, ?_, ?_⟩
  ·
   have h1 := HBX2.out.lt; omega
  ·
   omega
  ·
   have h1 := lt_of_block X0.out
   have h2 := HB2.out.size
   omega
 have HD9 : Hid ((g 12).ownBlock ≠ some b9) := by
  obtain ⟨D, _, _, h2⟩ := HPI2.out.chg
  intro e
  have := (h2.lt _ e).2
  omega
 obtain ⟨k0, _, _, _⟩ := XO.out w4 HB4.out
 subst hw3
 have HW4 := Lib.hid hw4
 rw [hw4] at k0
 clear hge hgc hne hb8 hb9 hw4 hs3 hb3 hb4 hb24 r8 r9 x0 x2
 go_wp2_with fail
 rw [← HW4.out, ← HE9.out, ← HE8.out]
 clear k0 c0 c1 c2 x1 x3
 have hin := HINV.out.len hi3
 have hic := HINV.out.cloud hi3
 have him := HINV.out.made_le hi3
 obtain ⟨mi, hmi⟩ : ∃ m, m = s.made i := ⟨_, rfl⟩
 rw [← hmi] at him
 have HMI := Lib.hid hmi
 have hm60 : (mi : Int) ≤ 60 := by omega
 have hwr : IntKind.i64.wrap ((mi : Int) + 1) = (mi : Int) + 1 := IntWalk.i64_in _ (by omega)
 have HBG : Hid (∀ ww, w4.grownBy ww (some q) → Below B w4 ww) := fun ww hw => (Below.refl B w4).grown hw (Nat.le_trans hB (Nat.le_of_lt HBX4.out.lt)) (fun j hj => by cases hj; exact hB)
 have HBL : Hid (∀ ww, w4.grownBy ww (some q) → Below B w ww) := fun ww hw => (HB04.out.mono (Nat.le_trans hB (Nat.le_of_lt HQL.out))).trans (HBG.out ww hw)
 have bR : ∀ {ww : World}, w4.grownBy ww (some q) → B ≤ ww.heap.size := fun {ww} hw => Nat.le_trans (Nat.le_trans hB (Nat.le_of_lt HBX4.out.lt)) hw.size
 have HPG : Hid (∀ ww, w4.grownBy ww (some q) → PIn B ww g s) := fun ww hw => HPI4.out.kt (HBX4.out.ktg hw) (by decide) (by decide) (by decide) (by decide)
 have XS : Hid (∀ ww, w4.grownBy ww (some q) → ww.cell? ⟨b8, 0, none⟩ = some (.slice ae ne ce) ∧ ww.cell? ⟨b8, 1, none⟩ = some (.slice av nv cv) ∧ ww.cell? ⟨b8, 2, none⟩ = some (.slice ac nc cc)) := fun ww hw => by
  have y := (hw.block _ (lt_of_block R8.out) (fun e => by have := Option.some.inj e; have := HQ8.out; omega)).trans R8.out
  exact ⟨boxc y 0 _ rfl, boxc y 1 _ rfl, boxc y 2 _ rfl⟩
 have HDR : Hid (∀ ww, w4.grownBy ww (some q) → Calls Tryz.prog 49 #[.agg #[.slice ae ne ce, .slice av nv cv, .slice ac nc cc], .int .i64 (tk : Int), .agg #[.int .i64 (i : Int), .int .i64 ((mi : Int) + 1)]] ww (DropR (fun x => decide (x.t < (tk : Int))) (s.l i) (s.c i) (s.nd i) (.agg #[.slice ae ne ce, .slice av nv cv, .slice ac nc cc]) ww)) := fun ww hw => by
  have hE := (HPG.out ww hw).ent i hi3
  have hC := (HPG.out ww hw).ctx i hi3
  rw [HGE.out] at hE
  rw [HGC.out.1, HGC.out.2] at hC
  have := oexp_any (s.l i) (s.c i) (s.nd i) ((tk : Int)) _ _ _ ww hE.at hC.at (HINV.out.set i hi3) (HINV.out.nd_valid hi3 (by omega)) (HINV.out.fresh hi3) (by omega) (by omega) (HMX.out.b (HBL.out ww hw) h0)
  unfold PS.nd at this
  rw [← HMI.out] at this
  rw [HMI.out]
  rw [HMI.out] at this
  exact this
 clear hin hic hmi
 by_cases hgn : goneOf (fun x => decide (x.t < (tk : Int))) (s.l i) = []
 ·
  have HGN := Lib.hid hgn
  clear hgn
  refine wp_flowG 21 (fun _ => 1000) (fun ww => w4.grownBy ww (some q)) (fun i w w' => if i = 20 then (fun (w w' : World) => Kt 43 w w' ∧ w.grownBy w' (some q)) w w' else (fun (w w' : World) => RowKit.Below w.heap.size w w') w w') (fun sF wF => match sF with | 20 => (Box16 wF q g) | _ => True) (fun kF vF wF => match kF with | 0 => (vF = .pointer (some ⟨q, 0, none⟩)) | 1 => (vF = .int .i64 (i : Int)) | 2 => (vF = .agg #[.slice ae ne ce, .slice av nv cv, .slice ac nc cc]) | 3 => (vF = .int .i64 (tk : Int)) | 4 => (vF = .int .i64 (i : Int)) | 5 => (vF = .pointer (some ⟨q, 0, none⟩)) | 6 => (vF = .int .i64 (i : Int)) | 7 => (vF = .pointer (some ⟨q, 0, none⟩)) | 8 => (vF = .pointer (some ⟨q, 9, none⟩)) | 9 => (vF = .pointer (some ⟨q, 9 + i, none⟩)) | 10 => (vF = .int .i64 (mi : Int)) | 11 => (vF = .int .i64 ((mi : Int) + 1)) | 12 => (vF = .agg #[.int .i64 (i : Int), .int .i64 ((mi : Int) + 1)]) | 13 => (vF = .tuple #[.agg #[.slice ae ne ce, .slice av nv cv, .slice ac nc cc], .agg #[.slice none 0 0, .slice none 0 0, .slice none 0 0, .slice none 0 0]]) | 14 => (vF = .tuple #[.agg #[.slice ae ne ce, .slice av nv cv, .slice ac nc cc], .agg #[.slice none 0 0, .slice none 0 0, .slice none 0 0, .slice none 0 0]]) | 15 => (vF = .agg #[.slice ae ne ce, .slice av nv cv, .slice ac nc cc]) | 16 => (vF = .agg #[.slice none 0 0, .slice none 0 0, .slice none 0 0, .slice none 0 0]) | 17 => (vF = .pointer (some ⟨q, 0, none⟩)) | 18 => (vF = .pointer (some ⟨q, 0, none⟩)) | 19 => (vF = .pointer (some ⟨q, i * 3, none⟩)) | 20 => (Box16 wF q g) | _ => True) (fun _ _ _ _ => True) (by kernel_rfl) (by kernel_rfl) ?_ ?_ ?_ ?_ ?_ ?_ ?_
  ·
   exact grown_below' ((Below.refl _ _).drew)
  ·
   intro sF hsF
   rcases (by omega : sF = 0 ∨ sF = 1 ∨ sF = 2 ∨ sF = 3 ∨ sF = 4 ∨ sF = 5 ∨ sF = 6 ∨ sF = 7 ∨ sF = 8 ∨ sF = 9 ∨ sF = 10 ∨ sF = 11 ∨ sF = 12 ∨ sF = 13 ∨ sF = 14 ∨ sF = 15 ∨ sF = 16 ∨ sF = 17 ∨ sF = 18 ∨ sF = 19 ∨ sF = 20) with rfl | rfl | rfl | rfl | rfl | rfl | rfl | rfl | rfl | rfl | rfl | rfl | rfl | rfl | rfl | rfl | rfl | rfl | rfl | rfl | rfl
   iterate 20 exact trivial
   ·
    exact HBX4.out.on ((Below.refl _ _).drew)
  ·
   intro iF wF1 wF2 hR hT
   have hT : (fun i w w' => if i = 20 then (fun (w w' : World) => Kt 43 w w' ∧ w.grownBy w' (some q)) w w' else (fun (w w' : World) => RowKit.Below w.heap.size w w') w w') iF wF1 wF2 := hT
   simp only at hT
   by_cases hi20 : iF = 20
   ·
    rw [if_pos hi20] at hT; exact grown_trans hR hT.2
   rw [if_neg hi20] at hT
   exact grown_trans hR (grown_below' hT)
  ·
   intro sF hsF iF hiF hne hanc wF1 wF2 hRF hgF hT
   rcases (by omega : sF = 0 ∨ sF = 1 ∨ sF = 2 ∨ sF = 3 ∨ sF = 4 ∨ sF = 5 ∨ sF = 6 ∨ sF = 7 ∨ sF = 8 ∨ sF = 9 ∨ sF = 10 ∨ sF = 11 ∨ sF = 12 ∨ sF = 13 ∨ sF = 14 ∨ sF = 15 ∨ sF = 16 ∨ sF = 17 ∨ sF = 18 ∨ sF = 19 ∨ sF = 20) with rfl | rfl | rfl | rfl | rfl | rfl | rfl | rfl | rfl | rfl | rfl | rfl | rfl | rfl | rfl | rfl | rfl | rfl | rfl | rfl | rfl
   iterate 20 exact trivial
   ·
    have hg : (Box16 wF1 q g) := hgF
    show (Box16 wF2 q g)
    have hT : (fun i w w' => if i = 20 then (fun (w w' : World) => Kt 43 w w' ∧ w.grownBy w' (some q)) w w' else (fun (w w' : World) => RowKit.Below w.heap.size w w') w w') iF wF1 wF2 := hT
    simp only at hT
    by_cases hi20 : iF = 20
    ·
     exact absurd hi20.symm hne
    rw [if_neg hi20] at hT
    exact hg.on hT
  ·
   intro kF hkF iF hiF hne hdd hanc hdan vF wF1 wF2 h hT
   rcases (by omega : kF = 0 ∨ kF = 1 ∨ kF = 2 ∨ kF = 3 ∨ kF = 4 ∨ kF = 5 ∨ kF = 6 ∨ kF = 7 ∨ kF = 8 ∨ kF = 9 ∨ kF = 10 ∨ kF = 11 ∨ kF = 12 ∨ kF = 13 ∨ kF = 14 ∨ kF = 15 ∨ kF = 16 ∨ kF = 17 ∨ kF = 18 ∨ kF = 19 ∨ kF = 20) with rfl | rfl | rfl | rfl | rfl | rfl | rfl | rfl | rfl | rfl | rfl | rfl | rfl | rfl | rfl | rfl | rfl | rfl | rfl | rfl | rfl
   iterate 20 exact h
   ·
    have h : (Box16 wF1 q g) := h
    show (Box16 wF2 q g)
    have hT : (fun i w w' => if i = 20 then (fun (w w' : World) => Kt 43 w w' ∧ w.grownBy w' (some q)) w w' else (fun (w w' : World) => RowKit.Below w.heap.size w w') w w') iF wF1 wF2 := hT
    simp only at hT
    by_cases hi20 : iF = 20
    ·
     exact absurd hi20.symm hne
    rw [if_neg hi20] at hT
    exact h.on hT
  ·
   generalize hAF : fillOf _ _ _ = AF
   replace hAF := fun x => congrFun hAF x
   simp only [take_succ_cons, take_zero, fillOf, Act.put, setIfInBounds_toArray, set_cons_zero, set_cons_succ, Nat.reduceAdd, Nat.zero_add] at hAF
   refine .cons ?_ (.cons ?_ (.cons ?_ (.cons ?_ (.cons ?_ (.cons ?_ (.cons ?_ (.cons ?_ (.cons ?_ (.cons ?_ (.cons ?_ (.cons ?_ (.cons ?_ (.cons ?_ (.cons ?_ (.cons ?_ (.cons ?_ (.cons ?_ (.cons ?_ (.cons ?_ (.cons ?_ (.nil)))))))))))))))))))))
   all_goals
    intro xF w5 hR hg hd K hK
    first | simp only [← hAF, Act.put, setIfInBounds_toArray, set_cons_zero, set_cons_succ] at hK ⊢ | simp only [← hAF, Act.put] at hK ⊢
    clear hAF
    try simp only [Nat.zero_add, Nat.reduceAdd] at hK ⊢
   ·
    clear hg hd
    rw [if_pos (by rfl)]
    go_simp
    exact hK.out _ _ (Below.refl _ _) (rfl) (fun _ _ _ => ⟨trivial, trivial⟩)
   ·
    clear hg hd
    rw [if_pos (by rfl)]
    go_simp
    exact hK.out _ _ (Below.refl _ _) (rfl) (fun _ _ _ => ⟨trivial, trivial⟩)
   ·
    clear hg hd
    obtain ⟨e0, e1, e2⟩ := XS.out _ hR
    rw [if_pos (by rfl)]
    go_simp
    exact hK.out _ _ (Below.refl _ _) (rfl) (fun _ _ _ => ⟨trivial, trivial⟩)
   ·
    clear hg hd
    rw [if_pos (by rfl)]
    go_simp
    exact hK.out _ _ (Below.refl _ _) (rfl) (fun _ _ _ => ⟨trivial, trivial⟩)
   ·
    clear hg hd
    rw [if_pos (by rfl)]
    go_simp
    exact hK.out _ _ (Below.refl _ _) (rfl) (fun _ _ _ => ⟨trivial, trivial⟩)
   ·
    clear hg hd
    rw [if_pos (by rfl)]
    go_simp
    exact hK.out _ _ (Below.refl _ _) (rfl) (fun _ _ _ => ⟨trivial, trivial⟩)
   ·
    clear hg hd
    rw [if_pos (by rfl)]
    go_simp
    exact hK.out _ _ (Below.refl _ _) (rfl) (fun _ _ _ => ⟨trivial, trivial⟩)
   ·
    clear hg
    have dd5 := hd 5 (by kernel_rfl)
    clear hd
    try generalize xF 5 = yy5 at *
    obtain rfl := dd5
    rw [if_pos (by rfl)]
    go_simp
    exact hK.out _ _ (Below.refl _ _) (rfl) (fun _ _ _ => ⟨trivial, trivial⟩)
   ·
    clear hg
    have dd7 := hd 7 (by kernel_rfl)
    clear hd
    try generalize xF 7 = yy7 at *
    obtain rfl := dd7
    rw [if_pos (by rfl)]
    go_simp
    exact hK.out _ _ (Below.refl _ _) (rfl) (fun _ _ _ => ⟨trivial, trivial⟩)
   ·
    clear hg
    have dd6 := hd 6 (by kernel_rfl)
    have dd8 := hd 8 (by kernel_rfl)
    clear hd
    try generalize xF 6 = yy6 at *
    try generalize xF 8 = yy8 at *
    obtain rfl := dd6
    obtain rfl := dd8
    rw [if_pos (by rfl)]
    go_simp
    exact hK.out _ _ (Below.refl _ _) (rfl) (fun _ _ _ => ⟨trivial, trivial⟩)
   ·
    have gg20 : (Box16 w5 q g) := hg 20 (by omega) (by decide)
    clear hg
    have dd9 := hd 9 (by kernel_rfl)
    clear hd
    try generalize xF 9 = yy9 at *
    obtain rfl := dd9
    have k9 := gg20.cell (j := 9 + i) (by omega)
    rw [HPI4.out.made i hi3, ← HMI.out] at k9
    rw [if_pos (by rfl)]
    go_simp
    exact hK.out _ _ (Below.refl _ _) (rfl) (fun _ _ _ => ⟨trivial, trivial⟩)
   ·
    clear hg
    have dd10 := hd 10 (by kernel_rfl)
    clear hd
    try generalize xF 10 = yy10 at *
    obtain rfl := dd10
    rw [if_pos (by rfl)]
    go_simp
    exact hK.out _ _ (Below.refl _ _) (rfl) (fun _ _ _ => ⟨trivial, trivial⟩)
   ·
    clear hg
    have dd4 := hd 4 (by kernel_rfl)
    have dd11 := hd 11 (by kernel_rfl)
    clear hd
    try generalize xF 4 = yy4 at *
    try generalize xF 11 = yy11 at *
    obtain rfl := dd4
    obtain rfl := dd11
    rw [if_pos (by rfl)]
    go_simp
    exact hK.out _ _ (Below.refl _ _) (rfl) (fun _ _ _ => ⟨trivial, trivial⟩)
   ·
    clear hg
    have dd2 := hd 2 (by kernel_rfl)
    have dd3 := hd 3 (by kernel_rfl)
    have dd12 := hd 12 (by kernel_rfl)
    clear hd
    try generalize xF 2 = yy2 at *
    try generalize xF 3 = yy3 at *
    try generalize xF 12 = yy12 at *
    obtain rfl := dd2
    obtain rfl := dd3
    obtain rfl := dd12
    rw [if_pos (by rfl)]
    go_simp
    (go_at_call 49; (with_reducible refine (HDR.out _ hR).mono ?_); intro e wK hK2; obtain ⟨rfl, hbK⟩ := dropN_eq hK2 HGN.out)
    try go_wp2_with fail
    exact hK.out _ _ (hbK) (rfl) (fun _ _ _ => ⟨trivial, trivial⟩)
   ·
    clear hg
    have dd13 := hd 13 (by kernel_rfl)
    clear hd
    try generalize xF 13 = yy13 at *
    obtain rfl := dd13
    rw [if_pos (by rfl)]
    go_simp
    exact hK.out _ _ (Below.refl _ _) (rfl) (fun _ _ _ => ⟨trivial, trivial⟩)
   ·
    clear hg
    have dd14 := hd 14 (by kernel_rfl)
    clear hd
    try generalize xF 14 = yy14 at *
    obtain rfl := dd14
    rw [if_pos (by rfl)]
    go_simp
    exact hK.out _ _ (Below.refl _ _) (rfl) (fun _ _ _ => ⟨trivial, trivial⟩)
   ·
    clear hg
    have dd14 := hd 14 (by kernel_rfl)
    clear hd
    try generalize xF 14 = yy14 at *
    obtain rfl := dd14
    rw [if_pos (by rfl)]
    go_simp
    exact hK.out _ _ (Below.refl _ _) (rfl) (fun _ _ _ => ⟨trivial, trivial⟩)
   ·
    clear hg
    have dd0 := hd 0 (by kernel_rfl)
    clear hd
    try generalize xF 0 = yy0 at *
    obtain rfl := dd0
    rw [if_pos (by rfl)]
    go_simp
    exact hK.out _ _ (Below.refl _ _) (rfl) (fun _ _ _ => ⟨trivial, trivial⟩)
   ·
    clear hg
    have dd17 := hd 17 (by kernel_rfl)
    clear hd
    try generalize xF 17 = yy17 at *
    obtain rfl := dd17
    rw [if_pos (by rfl)]
    go_simp
    exact hK.out _ _ (Below.refl _ _) (rfl) (fun _ _ _ => ⟨trivial, trivial⟩)
   ·
    clear hg
    have dd1 := hd 1 (by kernel_rfl)
    have dd18 := hd 18 (by kernel_rfl)
    clear hd
    try generalize xF 1 = yy1 at *
    try generalize xF 18 = yy18 at *
    obtain rfl := dd1
    obtain rfl := dd18
    rw [if_pos (by rfl)]
    go_simp
    exact hK.out _ _ (Below.refl _ _) (rfl) (fun _ _ _ => ⟨trivial, trivial⟩)
   ·
    have gg20 : (Box16 w5 q g) := hg 20 (by omega) (by decide)
    clear hg
    have dd15 := hd 15 (by kernel_rfl)
    have dd19 := hd 19 (by kernel_rfl)
    clear hd
    try generalize xF 15 = yy15 at *
    try generalize xF 19 = yy19 at *
    obtain rfl := dd15
    obtain rfl := dd19
    have k0 := gg20.cell (j := i * 3) (by omega)
    have k1 := gg20.cell (j := i * 3 + 1) (by omega)
    have k2 := gg20.cell (j := i * 3 + 2) (by omega)
    rw [HGE.out] at k0
    rw [HGC.out.1] at k1
    rw [HGC.out.2] at k2
    have q0 := gg20.fro (i * 3)
    have q1 := gg20.fro (i * 3 + 1)
    have q2 := gg20.fro (i * 3 + 2)
    rw [if_pos (by rfl)]
    go_simp
    exact hK.out undef _ (⟨kt3 gg20 _ _ _ _ _ _, grown3 _ _ _ _ _ _⟩) ((by have h3 := ((gg20.set (j := i * 3) (by omega) (.slice ae ne ce)).set (j := i * 3 + 1) (by omega) (.slice av nv cv)).set (j := i * 3 + 2) (by omega) (.slice ac nc cc); rwa [upd3_same HGE.out HGC.out.1 HGC.out.2] at h3)) (fun _ _ _ => ⟨trivial, trivial⟩)
  intro xF w5 hR hF hP
  clear hP
  have dd0 := hF 0 (by omega) (by decide)
  have dd1 := hF 1 (by omega) (by decide)
  have dd2 := hF 2 (by omega) (by decide)
  have dd3 := hF 3 (by omega) (by decide)
  have dd4 := hF 4 (by omega) (by decide)
  have dd5 := hF 5 (by omega) (by decide)
  have dd6 := hF 6 (by omega) (by decide)
  have dd7 := hF 7 (by omega) (by decide)
  have dd8 := hF 8 (by omega) (by decide)
  have dd9 := hF 9 (by omega) (by decide)
  have dd10 := hF 10 (by omega) (by decide)
  have dd11 := hF 11 (by omega) (by decide)
  have dd12 := hF 12 (by omega) (by decide)
  have dd13 := hF 13 (by omega) (by decide)
  have dd14 := hF 14 (by omega) (by decide)
  have dd15 := hF 15 (by omega) (by decide)
  have dd16 := hF 16 (by omega) (by decide)
  have dd17 := hF 17 (by omega) (by decide)
  have dd18 := hF 18 (by omega) (by decide)
  have dd19 := hF 19 (by omega) (by decide)
  have dd20 : (Box16 w5 q g) := hF 20 (by omega) (by decide)
  clear hF
  simp only [take_succ_cons, take_zero, drop_succ_cons, drop_zero, fillOf, Act.put, setIfInBounds_toArray, set_cons_zero, set_cons_succ, Nat.reduceAdd, Nat.zero_add]
  try generalize xF 0 = yy0 at *
  try generalize xF 1 = yy1 at *
  try generalize xF 2 = yy2 at *
  try generalize xF 3 = yy3 at *
  try generalize xF 4 = yy4 at *
  try generalize xF 5 = yy5 at *
  try generalize xF 6 = yy6 at *
  try generalize xF 7 = yy7 at *
  try generalize xF 8 = yy8 at *
  try generalize xF 9 = yy9 at *
  try generalize xF 10 = yy10 at *
  try generalize xF 11 = yy11 at *
  try generalize xF 12 = yy12 at *
  try generalize xF 13 = yy13 at *
  try generalize xF 14 = yy14 at *
  try generalize xF 15 = yy15 at *
  try generalize xF 16 = yy16 at *
  try generalize xF 17 = yy17 at *
  try generalize xF 18 = yy18 at *
  try generalize xF 19 = yy19 at *
  try generalize xF 20 = yy20 at *
  clear xF
  obtain rfl := dd0
  obtain rfl := dd1
  obtain rfl := dd2
  obtain rfl := dd3
  obtain rfl := dd4
  obtain rfl := dd5
  obtain rfl := dd6
  obtain rfl := dd7
  obtain rfl := dd8
  obtain rfl := dd9
  obtain rfl := dd10
  obtain rfl := dd11
  obtain rfl := dd12
  obtain rfl := dd13
  obtain rfl := dd14
  obtain rfl := dd15
  obtain rfl := dd16
  obtain rfl := dd17
  obtain rfl := dd18
  obtain rfl := dd19
  have hp20 := dd20
  have hRE := Lib.hid hR
  clear hR
  have hg5 := hRE
  have y9 := (hg5.block _ (lt_of_block R9.out) (fun e => by have := Option.some.inj e; have := HQ8.out; omega)).trans R9.out
  have hb6k : ∀ W, w5.grownBy W (some b9) → (W.cell? ⟨b0, 0, none⟩ = some (.int .i64 2)) := fun W hW => by
   have y0 := (HB4.out.block _ (lt_of_block X0.out)).trans X0.out
   have y1 := (hg5.block _ (lt_of_block y0) (fun e => by have := Option.some.inj e; have := lt_of_block X0.out; have := HQL.out; have := HE0.out; omega)).trans y0
   have y2 := (hW.block _ (lt_of_block y1) (fun e => by have := Option.some.inj e; have := HQ8.out; omega)).trans y1
   exact boxc y2 0 _ rfl
  obtain ⟨W6, hW6⟩ : ∃ W, W = (((w5.setCell ⟨b9, 0, none⟩ (.slice none 0 0)).setCell ⟨b9, 1, none⟩ (.slice none 0 0)).setCell ⟨b9, 2, none⟩ (.slice none 0 0)).setCell ⟨b9, 3, none⟩ (.slice none 0 0) := ⟨_, rfl⟩
  have hg6 : w5.grownBy W6 (some b9) := by rw [hW6]; exact grown_trans (grown_trans (grown_trans (set1_grown _) (set1_grown _)) (set1_grown _)) (set1_grown _)
  have r9 : W6.heap[b9]? = some (.cells #[.slice none 0 0, .slice none 0 0, .slice none 0 0, .slice none 0 0] 29 (0, 0)) := by
   rw [hW6]
   exact heap_setCell_same _ b9 3 _ _ _ (heap_setCell_same _ b9 2 _ _ _ (heap_setCell_same _ b9 1 _ _ _ (heap_setCell_same _ b9 0 _ _ _ y9)))
  have k0 := hb6k _ hg6
  have k2 := boxc r9 2 _ rfl
  have k3 := boxc r9 3 _ rfl
  have z0 := boxc y9 0 _ rfl
  have z1 := boxc y9 1 _ rfl
  have z2 := boxc y9 2 _ rfl
  have z3 := boxc y9 3 _ rfl
  have fz0 := boxf y9 0
  have fz1 := boxf y9 1
  have fz2 := boxf y9 2
  have fz3 := boxf y9 3
  have HB6 : Hid (Box16 W6 q g) := Box16.far hp20 hg6 (fun e => by have := Option.some.inj e; have := HQ8.out; omega)
  have HP6 : Hid (PIn B W6 g s) := (HPG.out w5 hg5).far hg6 y9 HD9.out
  have HL6 : Hid (Below B w W6) := (HBL.out w5 hg5).trans ((Below.refl B w5).grown hg6 (bR hg5) (fun j hj => by cases hj; have := HQ8.out; omega))
  have R86 : Hid (W6.heap[b8]? = some (.cells #[.slice ae ne ce, .slice av nv cv, .slice ac nc cc] 27 (0, 0))) :=
   (hg6.block _ (Nat.lt_of_lt_of_le (lt_of_block R8.out) hg5.size) (fun e => by have := Option.some.inj e; have := HQ8.out; omega)).trans ((hg5.block _ (lt_of_block R8.out) (fun e => by have := Option.some.inj e; have := HQ8.out; omega)).trans R8.out)
  have HW6 := Lib.hid hW6
  rw [hW6] at k0 k2 k3
  clear hg5 y9 hb6k hg6 r9 hW6 hRE hp20
  go_wp2_with fail
  rw [← HW6.out]
  clear k0 k2 k3 z0 z1 z2 z3 fz0 fz1 fz2 fz3
  have HSM : Hid (∀ W, Below W6.heap.size W6 W → Calls Tryz.prog 14 #[.agg #[.slice ae ne ce, .slice av nv cv, .slice ac nc cc], .agg #[.slice ae ne ce, .slice av nv cv, .slice ac nc cc]] W (Said true W)) := fun W hW => by
   have hE := ((HP6.out.on hW).ent i hi3)
   have hC := ((HP6.out.on hW).ctx i hi3)
   rw [HGE.out] at hE
   rw [HGC.out.1, HGC.out.2] at hC
   exact osame_yes (s.l i) (s.c i) _ _ _ _ _ _ W hE.at hC.at hE.at hC.at
  refine wp_flow 8 (fun _ => 1000) (fun ww => RowKit.Below W6.heap.size W6 ww) (fun _ w w' => (fun (w w' : World) => RowKit.Below w.heap.size w w') w w') (fun kF vF wF => match kF with | 0 => (vF = .pointer (some ⟨q, 0, none⟩)) | 1 => (vF = .int .i64 (i : Int)) | 2 => (vF = .pointer (some ⟨q, 0, none⟩)) | 3 => (vF = .pointer (some ⟨q, 0, none⟩)) | 4 => (vF = .pointer (some ⟨q, i * 3, none⟩)) | 5 => (vF = .agg #[.slice ae ne ce, .slice av nv cv, .slice ac nc cc]) | 6 => (vF = .agg #[.slice ae ne ce, .slice av nv cv, .slice ac nc cc]) | 7 => (vF = .bool true) | _ => True) (fun _ _ _ _ => True) (by kernel_rfl) (by kernel_rfl) ?_ ?_ ?_ ?_ ?_
  ·
   exact (Below.refl _ _).drew
  ·
   intro iF wF1 wF2 hR hT; exact hR.trans (hT.mono hR.size)
  ·
   intro kF hkF iF hiF hne hdd hanc hdan vF wF1 wF2 h hT
   rcases (by omega : kF = 0 ∨ kF = 1 ∨ kF = 2 ∨ kF = 3 ∨ kF = 4 ∨ kF = 5 ∨ kF = 6 ∨ kF = 7) with rfl | rfl | rfl | rfl | rfl | rfl | rfl | rfl
   iterate 8 exact h
  ·
   generalize hAF : fillOf _ _ _ = AF
   replace hAF := fun x => congrFun hAF x
   simp only [take_succ_cons, take_zero, fillOf, Act.put, setIfInBounds_toArray, set_cons_zero, set_cons_succ, Nat.reduceAdd, Nat.zero_add] at hAF
   refine .cons ?_ (.cons ?_ (.cons ?_ (.cons ?_ (.cons ?_ (.cons ?_ (.cons ?_ (.cons ?_ (.nil))))))))
   all_goals
    intro xF w7 hR hd K hK
    first | simp only [← hAF, Act.put, setIfInBounds_toArray, set_cons_zero, set_cons_succ] at hK ⊢ | simp only [← hAF, Act.put] at hK ⊢
    clear hAF
    try simp only [Nat.zero_add, Nat.reduceAdd] at hK ⊢
   ·
    clear hd
    rw [if_pos (by rfl)]
    go_simp
    exact hK.out _ _ (Below.refl _ _) (rfl) (fun _ _ _ => ⟨trivial, trivial⟩)
   ·
    clear hd
    rw [if_pos (by rfl)]
    go_simp
    exact hK.out _ _ (Below.refl _ _) (rfl) (fun _ _ _ => ⟨trivial, trivial⟩)
   ·
    have dd0 := hd 0 (by kernel_rfl)
    clear hd
    try generalize xF 0 = yy0 at *
    obtain rfl := dd0
    rw [if_pos (by rfl)]
    go_simp
    exact hK.out _ _ (Below.refl _ _) (rfl) (fun _ _ _ => ⟨trivial, trivial⟩)
   ·
    have dd2 := hd 2 (by kernel_rfl)
    clear hd
    try generalize xF 2 = yy2 at *
    obtain rfl := dd2
    rw [if_pos (by rfl)]
    go_simp
    exact hK.out _ _ (Below.refl _ _) (rfl) (fun _ _ _ => ⟨trivial, trivial⟩)
   ·
    have dd1 := hd 1 (by kernel_rfl)
    have dd3 := hd 3 (by kernel_rfl)
    clear hd
    try generalize xF 1 = yy1 at *
    try generalize xF 3 = yy3 at *
    obtain rfl := dd1
    obtain rfl := dd3
    rw [if_pos (by rfl)]
    go_simp
    exact hK.out _ _ (Below.refl _ _) (rfl) (fun _ _ _ => ⟨trivial, trivial⟩)
   ·
    have dd4 := hd 4 (by kernel_rfl)
    clear hd
    try generalize xF 4 = yy4 at *
    obtain rfl := dd4
    have bx := HB6.out.on hR
    have k0 := bx.cell (j := i * 3) (by omega)
    have k1 := bx.cell (j := i * 3 + 1) (by omega)
    have k2 := bx.cell (j := i * 3 + 2) (by omega)
    rw [HGE.out] at k0
    rw [HGC.out.1] at k1
    rw [HGC.out.2] at k2
    rw [if_pos (by rfl)]
    go_simp
    exact hK.out _ _ (Below.refl _ _) (rfl) (fun _ _ _ => ⟨trivial, trivial⟩)
   ·
    clear hd
    have y8 := (hR.block _ (lt_of_block R86.out)).trans R86.out
    have e0 := boxc y8 0 _ rfl
    have e1 := boxc y8 1 _ rfl
    have e2 := boxc y8 2 _ rfl
    rw [if_pos (by rfl)]
    go_simp
    exact hK.out _ _ (Below.refl _ _) (rfl) (fun _ _ _ => ⟨trivial, trivial⟩)
   ·
    have dd5 := hd 5 (by kernel_rfl)
    have dd6 := hd 6 (by kernel_rfl)
    clear hd
    try generalize xF 5 = yy5 at *
    try generalize xF 6 = yy6 at *
    obtain rfl := dd5
    obtain rfl := dd6
    rw [if_pos (by rfl)]
    go_simp
    (go_at_call 14; (with_reducible refine (HSM.out _ hR).mono ?_); rintro e wK ⟨rfl, hbK⟩)
    try go_wp2_with fail
    exact hK.out _ _ (hbK) (rfl) (fun _ _ _ => ⟨trivial, trivial⟩)
  intro xF w7 hR hF hP
  clear hP
  have dd0 := hF 0 (by omega) (by decide)
  have dd1 := hF 1 (by omega) (by decide)
  have dd2 := hF 2 (by omega) (by decide)
  have dd3 := hF 3 (by omega) (by decide)
  have dd4 := hF 4 (by omega) (by decide)
  have dd5 := hF 5 (by omega) (by decide)
  have dd6 := hF 6 (by omega) (by decide)
  have dd7 := hF 7 (by omega) (by decide)
  clear hF
  simp only [take_succ_cons, take_zero, drop_succ_cons, drop_zero, fillOf, Act.put, setIfInBounds_toArray, set_cons_zero, set_cons_succ, Nat.reduceAdd, Nat.zero_add]
  try generalize xF 0 = yy0 at *
  try generalize xF 1 = yy1 at *
  try generalize xF 2 = yy2 at *
  try generalize xF 3 = yy3 at *
  try generalize xF 4 = yy4 at *
  try generalize xF 5 = yy5 at *
  try generalize xF 6 = yy6 at *
  try generalize xF 7 = yy7 at *
  clear xF
  obtain rfl := dd0
  obtain rfl := dd1
  obtain rfl := dd2
  obtain rfl := dd3
  obtain rfl := dd4
  obtain rfl := dd5
  obtain rfl := dd6
  obtain rfl := dd7
  have hRE := Lib.hid hR
  clear hR
  go_wp2_with fail
  go_ret
  exact ⟨rfl, g, s, HB6.out.on hRE, HP6.out.on hRE, HINV.out.mono (Nat.le_succ _), HL6.out.trans (hRE.mono (Nat.le_trans (Nat.le_trans hB (Nat.le_of_lt HB6.out.lt)) (Nat.le_refl _)))⟩
 ·
  have HGN : Hid (goneOf (fun x => decide (x.t < (tk : Int))) (s.l i) ≠ []) := hgn
  clear hgn
  refine wp_flowG 21 (fun kF => match kF with | 15 => 20 | _ => 1000) (fun ww => w4.grownBy ww (some q)) (fun i w w' => if i = 20 then (fun (w w' : World) => Kt 43 w w' ∧ w.grownBy w' (some q)) w w' else (fun (w w' : World) => RowKit.Below w.heap.size w w') w w') (fun sF wF => match sF with | 20 => (Box16 wF q g) | _ => True) (fun kF vF wF => match kF with | 0 => (vF = .pointer (some ⟨q, 0, none⟩)) | 1 => (vF = .int .i64 (i : Int)) | 2 => (vF = .agg #[.slice ae ne ce, .slice av nv cv, .slice ac nc cc]) | 3 => (vF = .int .i64 (tk : Int)) | 4 => (vF = .int .i64 (i : Int)) | 5 => (vF = .pointer (some ⟨q, 0, none⟩)) | 6 => (vF = .int .i64 (i : Int)) | 7 => (vF = .pointer (some ⟨q, 0, none⟩)) | 8 => (vF = .pointer (some ⟨q, 9, none⟩)) | 9 => (vF = .pointer (some ⟨q, 9 + i, none⟩)) | 10 => (vF = .int .i64 (mi : Int)) | 11 => (vF = .int .i64 ((mi : Int) + 1)) | 12 => (vF = .agg #[.int .i64 (i : Int), .int .i64 ((mi : Int) + 1)]) | 13 => (PairV (SetV B (staysOf (fun x => decide (x.t < (tk : Int))) (s.l i)) (fun e => dm.Knows (s.c i) e ∨ e = s.nd i)) (ChgV B [] [] (fun e => valid e = true ∧ e ∈ goneOf (fun x => decide (x.t < (tk : Int))) (s.l i) ++ [s.nd i])) vF wF) | 14 => (PairV (SetV B (staysOf (fun x => decide (x.t < (tk : Int))) (s.l i)) (fun e => dm.Knows (s.c i) e ∨ e = s.nd i)) (ChgV B [] [] (fun e => valid e = true ∧ e ∈ goneOf (fun x => decide (x.t < (tk : Int))) (s.l i) ++ [s.nd i])) vF wF) | 15 => (SetV B (staysOf (fun x => decide (x.t < (tk : Int))) (s.l i)) (fun e => dm.Knows (s.c i) e ∨ e = s.nd i) vF wF) | 16 => (ChgV B [] [] (fun e => valid e = true ∧ e ∈ goneOf (fun x => decide (x.t < (tk : Int))) (s.l i) ++ [s.nd i]) vF wF) | 17 => (vF = .pointer (some ⟨q, 0, none⟩)) | 18 => (vF = .pointer (some ⟨q, 0, none⟩)) | 19 => (vF = .pointer (some ⟨q, i * 3, none⟩)) | 20 => (StoA B q i g (staysOf (fun x => decide (x.t < (tk : Int))) (s.l i)) (fun e => dm.Knows (s.c i) e ∨ e = s.nd i) wF) | _ => True) (fun _ _ _ _ => True) (by kernel_rfl) (by kernel_rfl) ?_ ?_ ?_ ?_ ?_ ?_ ?_
  ·
   exact grown_below' ((Below.refl _ _).drew)
  ·
   intro sF hsF
   rcases (by omega : sF = 0 ∨ sF = 1 ∨ sF = 2 ∨ sF = 3 ∨ sF = 4 ∨ sF = 5 ∨ sF = 6 ∨ sF = 7 ∨ sF = 8 ∨ sF = 9 ∨ sF = 10 ∨ sF = 11 ∨ sF = 12 ∨ sF = 13 ∨ sF = 14 ∨ sF = 15 ∨ sF = 16 ∨ sF = 17 ∨ sF = 18 ∨ sF = 19 ∨ sF = 20) with rfl | rfl | rfl | rfl | rfl | rfl | rfl | rfl | rfl | rfl | rfl | rfl | rfl | rfl | rfl | rfl | rfl | rfl | rfl | rfl | rfl
   iterate 20 exact trivial
   ·
    exact HBX4.out.on ((Below.refl _ _).drew)
  ·
   intro iF wF1 wF2 hR hT
   have hT : (fun i w w' => if i = 20 then (fun (w w' : World) => Kt 43 w w' ∧ w.grownBy w' (some q)) w w' else (fun (w w' : World) => RowKit.Below w.heap.size w w') w w') iF wF1 wF2 := hT
   simp only at hT
   by_cases hi20 : iF = 20
   ·
    rw [if_pos hi20] at hT; exact grown_trans hR hT.2
   rw [if_neg hi20] at hT
   exact grown_trans hR (grown_below' hT)
  ·
   intro sF hsF iF hiF hne hanc wF1 wF2 hRF hgF hT
   rcases (by omega : sF = 0 ∨ sF = 1 ∨ sF = 2 ∨ sF = 3 ∨ sF = 4 ∨ sF = 5 ∨ sF = 6 ∨ sF = 7 ∨ sF = 8 ∨ sF = 9 ∨ sF = 10 ∨ sF = 11 ∨ sF = 12 ∨ sF = 13 ∨ sF = 14 ∨ sF = 15 ∨ sF = 16 ∨ sF = 17 ∨ sF = 18 ∨ sF = 19 ∨ sF = 20) with rfl | rfl | rfl | rfl | rfl | rfl | rfl | rfl | rfl | rfl | rfl | rfl | rfl | rfl | rfl | rfl | rfl | rfl | rfl | rfl | rfl
   iterate 20 exact trivial
   ·
    have hg : (Box16 wF1 q g) := hgF
    show (Box16 wF2 q g)
    have hT : (fun i w w' => if i = 20 then (fun (w w' : World) => Kt 43 w w' ∧ w.grownBy w' (some q)) w w' else (fun (w w' : World) => RowKit.Below w.heap.size w w') w w') iF wF1 wF2 := hT
    simp only at hT
    by_cases hi20 : iF = 20
    ·
     exact absurd hi20.symm hne
    rw [if_neg hi20] at hT
    exact hg.on hT
  ·
   intro kF hkF iF hiF hne hdd hanc hdan vF wF1 wF2 h hT
   rcases (by omega : kF = 0 ∨ kF = 1 ∨ kF = 2 ∨ kF = 3 ∨ kF = 4 ∨ kF = 5 ∨ kF = 6 ∨ kF = 7 ∨ kF = 8 ∨ kF = 9 ∨ kF = 10 ∨ kF = 11 ∨ kF = 12 ∨ kF = 13 ∨ kF = 14 ∨ kF = 15 ∨ kF = 16 ∨ kF = 17 ∨ kF = 18 ∨ kF = 19 ∨ kF = 20) with rfl | rfl | rfl | rfl | rfl | rfl | rfl | rfl | rfl | rfl | rfl | rfl | rfl | rfl | rfl | rfl | rfl | rfl | rfl | rfl | rfl
   iterate 13 exact h
   ·
    have h : (PairV (SetV B (staysOf (fun x => decide (x.t < (tk : Int))) (s.l i)) (fun e => dm.Knows (s.c i) e ∨ e = s.nd i)) (ChgV B [] [] (fun e => valid e = true ∧ e ∈ goneOf (fun x => decide (x.t < (tk : Int))) (s.l i) ++ [s.nd i])) vF wF1) := h
    show (PairV (SetV B (staysOf (fun x => decide (x.t < (tk : Int))) (s.l i)) (fun e => dm.Knows (s.c i) e ∨ e = s.nd i)) (ChgV B [] [] (fun e => valid e = true ∧ e ∈ goneOf (fun x => decide (x.t < (tk : Int))) (s.l i) ++ [s.nd i])) vF wF2)
    have hT : (fun i w w' => if i = 20 then (fun (w w' : World) => Kt 43 w w' ∧ w.grownBy w' (some q)) w w' else (fun (w w' : World) => RowKit.Below w.heap.size w w') w w') iF wF1 wF2 := hT
    simp only at hT
    by_cases hi20 : iF = 20
    ·
     rw [if_pos hi20] at hT
     exact (pair_kept (setV_kept _ _ _) (chgV_kept _ _ _ _)).kt h hT.1
    rw [if_neg hi20] at hT
    exact (pair_kept (setV_kept _ _ _) (chgV_kept _ _ _ _)).on h hT
   ·
    have h : (PairV (SetV B (staysOf (fun x => decide (x.t < (tk : Int))) (s.l i)) (fun e => dm.Knows (s.c i) e ∨ e = s.nd i)) (ChgV B [] [] (fun e => valid e = true ∧ e ∈ goneOf (fun x => decide (x.t < (tk : Int))) (s.l i) ++ [s.nd i])) vF wF1) := h
    show (PairV (SetV B (staysOf (fun x => decide (x.t < (tk : Int))) (s.l i)) (fun e => dm.Knows (s.c i) e ∨ e = s.nd i)) (ChgV B [] [] (fun e => valid e = true ∧ e ∈ goneOf (fun x => decide (x.t < (tk : Int))) (s.l i) ++ [s.nd i])) vF wF2)
    have hT : (fun i w w' => if i = 20 then (fun (w w' : World) => Kt 43 w w' ∧ w.grownBy w' (some q)) w w' else (fun (w w' : World) => RowKit.Below w.heap.size w w') w w') iF wF1 wF2 := hT
    simp only at hT
    by_cases hi20 : iF = 20
    ·
     rw [if_pos hi20] at hT
     exact (pair_kept (setV_kept _ _ _) (chgV_kept _ _ _ _)).kt h hT.1
    rw [if_neg hi20] at hT
    exact (pair_kept (setV_kept _ _ _) (chgV_kept _ _ _ _)).on h hT
   ·
    have h : (SetV B (staysOf (fun x => decide (x.t < (tk : Int))) (s.l i)) (fun e => dm.Knows (s.c i) e ∨ e = s.nd i) vF wF1) := h
    show (SetV B (staysOf (fun x => decide (x.t < (tk : Int))) (s.l i)) (fun e => dm.Knows (s.c i) e ∨ e = s.nd i) vF wF2)
    have hT : (fun i w w' => if i = 20 then (fun (w w' : World) => Kt 43 w w' ∧ w.grownBy w' (some q)) w w' else (fun (w w' : World) => RowKit.Below w.heap.size w w') w w') iF wF1 wF2 := hT
    simp only at hT
    by_cases hi20 : iF = 20
    ·
     exact absurd hi20.symm hdd
    rw [if_neg hi20] at hT
    exact (setV_kept _ _ _).on h hT
   ·
    have h : (ChgV B [] [] (fun e => valid e = true ∧ e ∈ goneOf (fun x => decide (x.t < (tk : Int))) (s.l i) ++ [s.nd i]) vF wF1) := h
    show (ChgV B [] [] (fun e => valid e = true ∧ e ∈ goneOf (fun x => decide (x.t < (tk : Int))) (s.l i) ++ [s.nd i]) vF wF2)
    have hT : (fun i w w' => if i = 20 then (fun (w w' : World) => Kt 43 w w' ∧ w.grownBy w' (some q)) w w' else (fun (w w' : World) => RowKit.Below w.heap.size w w') w w') iF wF1 wF2 := hT
    simp only at hT
    by_cases hi20 : iF = 20
    ·
     rw [if_pos hi20] at hT
     exact (chgV_kept _ _ _ _).kt h hT.1
    rw [if_neg hi20] at hT
    exact (chgV_kept _ _ _ _).on h hT
   iterate 3 exact h
   ·
    have h : (StoA B q i g (staysOf (fun x => decide (x.t < (tk : Int))) (s.l i)) (fun e => dm.Knows (s.c i) e ∨ e = s.nd i) wF1) := h
    show (StoA B q i g (staysOf (fun x => decide (x.t < (tk : Int))) (s.l i)) (fun e => dm.Knows (s.c i) e ∨ e = s.nd i) wF2)
    have hT : (fun i w w' => if i = 20 then (fun (w w' : World) => Kt 43 w w' ∧ w.grownBy w' (some q)) w w' else (fun (w w' : World) => RowKit.Below w.heap.size w w') w w') iF wF1 wF2 := hT
    simp only at hT
    by_cases hi20 : iF = 20
    ·
     exact absurd hi20.symm hne
    rw [if_neg hi20] at hT
    exact h.on hT
  ·
   generalize hAF : fillOf _ _ _ = AF
   replace hAF := fun x => congrFun hAF x
   simp only [take_succ_cons, take_zero, fillOf, Act.put, setIfInBounds_toArray, set_cons_zero, set_cons_succ, Nat.reduceAdd, Nat.zero_add] at hAF
   refine .cons ?_ (.cons ?_ (.cons ?_ (.cons ?_ (.cons ?_ (.cons ?_ (.cons ?_ (.cons ?_ (.cons ?_ (.cons ?_ (.cons ?_ (.cons ?_ (.cons ?_ (.cons ?_ (.cons ?_ (.cons ?_ (.cons ?_ (.cons ?_ (.cons ?_ (.cons ?_ (.cons ?_ (.nil)))))))))))))))))))))
   all_goals
    intro xF w5 hR hg hd K hK
    first | simp only [← hAF, Act.put, setIfInBounds_toArray, set_cons_zero, set_cons_succ] at hK ⊢ | simp only [← hAF, Act.put] at hK ⊢
    clear hAF
    try simp only [Nat.zero_add, Nat.reduceAdd] at hK ⊢
   ·
    clear hg hd
    rw [if_pos (by rfl)]
    go_simp
    exact hK.out _ _ (Below.refl _ _) (rfl) (fun _ _ _ => ⟨trivial, trivial⟩)
   ·
    clear hg hd
    rw [if_pos (by rfl)]
    go_simp
    exact hK.out _ _ (Below.refl _ _) (rfl) (fun _ _ _ => ⟨trivial, trivial⟩)
   ·
    clear hg hd
    obtain ⟨e0, e1, e2⟩ := XS.out _ hR
    rw [if_pos (by rfl)]
    go_simp
    exact hK.out _ _ (Below.refl _ _) (rfl) (fun _ _ _ => ⟨trivial, trivial⟩)
   ·
    clear hg hd
    rw [if_pos (by rfl)]
    go_simp
    exact hK.out _ _ (Below.refl _ _) (rfl) (fun _ _ _ => ⟨trivial, trivial⟩)
   ·
    clear hg hd
    rw [if_pos (by rfl)]
    go_simp
    exact hK.out _ _ (Below.refl _ _) (rfl) (fun _ _ _ => ⟨trivial, trivial⟩)
   ·
    clear hg hd
    rw [if_pos (by rfl)]
    go_simp
    exact hK.out _ _ (Below.refl _ _) (rfl) (fun _ _ _ => ⟨trivial, trivial⟩)
   ·
    clear hg hd
    rw [if_pos (by rfl)]
    go_simp
    exact hK.out _ _ (Below.refl _ _) (rfl) (fun _ _ _ => ⟨trivial, trivial⟩)
   ·
    clear hg
    have dd5 := hd 5 (by kernel_rfl)
    clear hd
    try generalize xF 5 = yy5 at *
    obtain rfl := dd5
    rw [if_pos (by rfl)]
    go_simp
    exact hK.out _ _ (Below.refl _ _) (rfl) (fun _ _ _ => ⟨trivial, trivial⟩)
   ·
    clear hg
    have dd7 := hd 7 (by kernel_rfl)
    clear hd
    try generalize xF 7 = yy7 at *
    obtain rfl := dd7
    rw [if_pos (by rfl)]
    go_simp
    exact hK.out _ _ (Below.refl _ _) (rfl) (fun _ _ _ => ⟨trivial, trivial⟩)
   ·
    clear hg
    have dd6 := hd 6 (by kernel_rfl)
    have dd8 := hd 8 (by kernel_rfl)
    clear hd
    try generalize xF 6 = yy6 at *
    try generalize xF 8 = yy8 at *
    obtain rfl := dd6
    obtain rfl := dd8
    rw [if_pos (by rfl)]
    go_simp
    exact hK.out _ _ (Below.refl _ _) (rfl) (fun _ _ _ => ⟨trivial, trivial⟩)
   ·
    have gg20 : (Box16 w5 q g) := hg 20 (by omega) (by decide)
    clear hg
    have dd9 := hd 9 (by kernel_rfl)
    clear hd
    try generalize xF 9 = yy9 at *
    obtain rfl := dd9
    have k9 := gg20.cell (j := 9 + i) (by omega)
    rw [HPI4.out.made i hi3, ← HMI.out] at k9
    rw [if_pos (by rfl)]
    go_simp
    exact hK.out _ _ (Below.refl _ _) (rfl) (fun _ _ _ => ⟨trivial, trivial⟩)
   ·
    clear hg
    have dd10 := hd 10 (by kernel_rfl)
    clear hd
    try generalize xF 10 = yy10 at *
    obtain rfl := dd10
    rw [if_pos (by rfl)]
    go_simp
    exact hK.out _ _ (Below.refl _ _) (rfl) (fun _ _ _ => ⟨trivial, trivial⟩)
   ·
    clear hg
    have dd4 := hd 4 (by kernel_rfl)
    have dd11 := hd 11 (by kernel_rfl)
    clear hd
    try generalize xF 4 = yy4 at *
    try generalize xF 11 = yy11 at *
    obtain rfl := dd4
    obtain rfl := dd11
    rw [if_pos (by rfl)]
    go_simp
    exact hK.out _ _ (Below.refl _ _) (rfl) (fun _ _ _ => ⟨trivial, trivial⟩)
   ·
    clear hg
    have dd2 := hd 2 (by kernel_rfl)
    have dd3 := hd 3 (by kernel_rfl)
    have dd12 := hd 12 (by kernel_rfl)
    clear hd
    try generalize xF 2 = yy2 at *
    try generalize xF 3 = yy3 at *
    try generalize xF 12 = yy12 at *
    obtain rfl := dd2
    obtain rfl := dd3
    obtain rfl := dd12
    rw [if_pos (by rfl)]
    go_simp
    (go_at_call 49; (with_reducible refine (HDR.out _ hR).mono ?_); intro e wK hK2; obtain ⟨vK, rfl, hpK, hbK⟩ := dropY_pair hK2 HGN.out (bR hR))
    try go_wp2_with fail
    exact hK.out _ _ (hbK) (hpK) (fun _ _ _ => ⟨trivial, trivial⟩)
   ·
    clear hg
    have dd13 : (PairV (SetV B (staysOf (fun x => decide (x.t < (tk : Int))) (s.l i)) (fun e => dm.Knows (s.c i) e ∨ e = s.nd i)) (ChgV B [] [] (fun e => valid e = true ∧ e ∈ goneOf (fun x => decide (x.t < (tk : Int))) (s.l i) ++ [s.nd i])) (xF 13) w5) := hd 13 (by kernel_rfl)
    clear hd
    try generalize xF 13 = yy13 at *
    have hp13 := dd13
    rw [if_pos (by rfl)]
    go_simp
    exact hK.out _ _ (Below.refl _ _) (hp13) (fun _ _ _ => ⟨trivial, trivial⟩)
   ·
    clear hg
    have dd14 : (PairV (SetV B (staysOf (fun x => decide (x.t < (tk : Int))) (s.l i)) (fun e => dm.Knows (s.c i) e ∨ e = s.nd i)) (ChgV B [] [] (fun e => valid e = true ∧ e ∈ goneOf (fun x => decide (x.t < (tk : Int))) (s.l i) ++ [s.nd i])) (xF 14) w5) := hd 14 (by kernel_rfl)
    clear hd
    try generalize xF 14 = yy14 at *
    have hp14 := dd14
    obtain ⟨s0, s1, rfl, hs0, hs1⟩ := hp14
    rw [if_pos (by rfl)]
    go_simp
    exact hK.out _ _ (Below.refl _ _) (hs0) (fun _ _ _ => ⟨trivial, trivial⟩)
   ·
    clear hg
    have dd14 : (PairV (SetV B (staysOf (fun x => decide (x.t < (tk : Int))) (s.l i)) (fun e => dm.Knows (s.c i) e ∨ e = s.nd i)) (ChgV B [] [] (fun e => valid e = true ∧ e ∈ goneOf (fun x => decide (x.t < (tk : Int))) (s.l i) ++ [s.nd i])) (xF 14) w5) := hd 14 (by kernel_rfl)
    clear hd
    try generalize xF 14 = yy14 at *
    have hp14 := dd14
    obtain ⟨s0, s1, rfl, hs0, hs1⟩ := hp14
    rw [if_pos (by rfl)]
    go_simp
    exact hK.out _ _ (Below.refl _ _) (hs1) (fun _ _ _ => ⟨trivial, trivial⟩)
   ·
    clear hg
    have dd0 := hd 0 (by kernel_rfl)
    clear hd
    try generalize xF 0 = yy0 at *
    obtain rfl := dd0
    rw [if_pos (by rfl)]
    go_simp
    exact hK.out _ _ (Below.refl _ _) (rfl) (fun _ _ _ => ⟨trivial, trivial⟩)
   ·
    clear hg
    have dd17 := hd 17 (by kernel_rfl)
    clear hd
    try generalize xF 17 = yy17 at *
    obtain rfl := dd17
    rw [if_pos (by rfl)]
    go_simp
    exact hK.out _ _ (Below.refl _ _) (rfl) (fun _ _ _ => ⟨trivial, trivial⟩)
   ·
    clear hg
    have dd1 := hd 1 (by kernel_rfl)
    have dd18 := hd 18 (by kernel_rfl)
    clear hd
    try generalize xF 1 = yy1 at *
    try generalize xF 18 = yy18 at *
    obtain rfl := dd1
    obtain rfl := dd18
    rw [if_pos (by rfl)]
    go_simp
    exact hK.out _ _ (Below.refl _ _) (rfl) (fun _ _ _ => ⟨trivial, trivial⟩)
   ·
    have gg20 : (Box16 w5 q g) := hg 20 (by omega) (by decide)
    clear hg
    have dd15 : (SetV B (staysOf (fun x => decide (x.t < (tk : Int))) (s.l i)) (fun e => dm.Knows (s.c i) e ∨ e = s.nd i) (xF 15) w5) := hd 15 (by kernel_rfl)
    have dd19 := hd 19 (by kernel_rfl)
    clear hd
    try generalize xF 15 = yy15 at *
    try generalize xF 19 = yy19 at *
    have hp15 := dd15
    obtain rfl := dd19
    obtain ⟨a0, n0, c0, a1, n1, c1, a2, n2, c2, cc0, rfl, hE0, hC0, hI0⟩ := hp15
    have k0 := gg20.cell (j := i * 3) (by omega)
    have k1 := gg20.cell (j := i * 3 + 1) (by omega)
    have k2 := gg20.cell (j := i * 3 + 2) (by omega)
    rw [HGE.out] at k0
    rw [HGC.out.1] at k1
    rw [HGC.out.2] at k2
    have q0 := gg20.fro (i * 3)
    have q1 := gg20.fro (i * 3 + 1)
    have q2 := gg20.fro (i * 3 + 2)
    rw [if_pos (by rfl)]
    go_simp
    exact hK.out undef _ (⟨kt3 gg20 _ _ _ _ _ _, grown3 _ _ _ _ _ _⟩) (⟨_, _, _, _, _, _, _, _, _, cc0, ((gg20.set (by omega) _).set (by omega) _).set (by omega) _, hE0.kt (kt3 gg20 _ _ _ _ _ _) (by decide), hC0.kt (kt3 gg20 _ _ _ _ _ _) (by decide), hI0⟩) (fun _ _ _ => ⟨trivial, trivial⟩)
  intro xF w5 hR hF hP
  clear hP
  have dd0 := hF 0 (by omega) (by decide)
  have dd1 := hF 1 (by omega) (by decide)
  have dd2 := hF 2 (by omega) (by decide)
  have dd3 := hF 3 (by omega) (by decide)
  have dd4 := hF 4 (by omega) (by decide)
  have dd5 := hF 5 (by omega) (by decide)
  have dd6 := hF 6 (by omega) (by decide)
  have dd7 := hF 7 (by omega) (by decide)
  have dd8 := hF 8 (by omega) (by decide)
  have dd9 := hF 9 (by omega) (by decide)
  have dd10 := hF 10 (by omega) (by decide)
  have dd11 := hF 11 (by omega) (by decide)
  have dd12 := hF 12 (by omega) (by decide)
  have dd13 : (PairV (SetV B (staysOf (fun x => decide (x.t < (tk : Int))) (s.l i)) (fun e => dm.Knows (s.c i) e ∨ e = s.nd i)) (ChgV B [] [] (fun e => valid e = true ∧ e ∈ goneOf (fun x => decide (x.t < (tk : Int))) (s.l i) ++ [s.nd i])) (xF 13) w5) := hF 13 (by omega) (by decide)
  have dd14 : (PairV (SetV B (staysOf (fun x => decide (x.t < (tk : Int))) (s.l i)) (fun e => dm.Knows (s.c i) e ∨ e = s.nd i)) (ChgV B [] [] (fun e => valid e = true ∧ e ∈ goneOf (fun x => decide (x.t < (tk : Int))) (s.l i) ++ [s.nd i])) (xF 14) w5) := hF 14 (by omega) (by decide)
  have dd16 : (ChgV B [] [] (fun e => valid e = true ∧ e ∈ goneOf (fun x => decide (x.t < (tk : Int))) (s.l i) ++ [s.nd i]) (xF 16) w5) := hF 16 (by omega) (by decide)
  have dd17 := hF 17 (by omega) (by decide)
  have dd18 := hF 18 (by omega) (by decide)
  have dd19 := hF 19 (by omega) (by decide)
  have dd20 : (StoA B q i g (staysOf (fun x => decide (x.t < (tk : Int))) (s.l i)) (fun e => dm.Knows (s.c i) e ∨ e = s.nd i) w5) := hF 20 (by omega) (by decide)
  clear hF
  simp only [take_succ_cons, take_zero, drop_succ_cons, drop_zero, fillOf, Act.put, setIfInBounds_toArray, set_cons_zero, set_cons_succ, Nat.reduceAdd, Nat.zero_add]
  try generalize xF 0 = yy0 at *
  try generalize xF 1 = yy1 at *
  try generalize xF 2 = yy2 at *
  try generalize xF 3 = yy3 at *
  try generalize xF 4 = yy4 at *
  try generalize xF 5 = yy5 at *
  try generalize xF 6 = yy6 at *
  try generalize xF 7 = yy7 at *
  try generalize xF 8 = yy8 at *
  try generalize xF 9 = yy9 at *
  try generalize xF 10 = yy10 at *
  try generalize xF 11 = yy11 at *
  try generalize xF 12 = yy12 at *
  try generalize xF 13 = yy13 at *
  try generalize xF 14 = yy14 at *
  try generalize xF 15 = yy15 at *
  try generalize xF 16 = yy16 at *
  try generalize xF 17 = yy17 at *
  try generalize xF 18 = yy18 at *
  try generalize xF 19 = yy19 at *
  try generalize xF 20 = yy20 at *
  clear xF
  obtain rfl := dd0
  obtain rfl := dd1
  obtain rfl := dd2
  obtain rfl := dd3
  obtain rfl := dd4
  obtain rfl := dd5
  obtain rfl := dd6
  obtain rfl := dd7
  obtain rfl := dd8
  obtain rfl := dd9
  obtain rfl := dd10
  obtain rfl := dd11
  obtain rfl := dd12
  have hp13 := dd13
  have hp14 := dd14
  have hp16 := dd16
  obtain rfl := dd17
  obtain rfl := dd18
  obtain rfl := dd19
  have hp20 := dd20
  have hRE := Lib.hid hR
  clear hR
  have hg5 := hRE
  obtain ⟨a0, n0, c0, a1, n1, c1, a2, n2, c2, cc0, hbx5, hE5, hC5, hI5⟩ := hp20
  obtain ⟨a3, n3, c3, a4, n4, c4, a5, n5, c5, a6, n6, c6, dc, rfl, hL9, hA9, hC9, hI9⟩ := hp16
  have y9 := (hg5.block _ (lt_of_block R9.out) (fun e => by have := Option.some.inj e; have := HQ8.out; omega)).trans R9.out
  have hb6k : ∀ W, w5.grownBy W (some b9) → (W.cell? ⟨b0, 0, none⟩ = some (.int .i64 2)) := fun W hW => by
   have y0 := (HB4.out.block _ (lt_of_block X0.out)).trans X0.out
   have y1 := (hg5.block _ (lt_of_block y0) (fun e => by have := Option.some.inj e; have := lt_of_block X0.out; have := HQL.out; have := HE0.out; omega)).trans y0
   have y2 := (hW.block _ (lt_of_block y1) (fun e => by have := Option.some.inj e; have := HQ8.out; omega)).trans y1
   exact boxc y2 0 _ rfl
  obtain ⟨W6, hW6⟩ : ∃ W, W = (((w5.setCell ⟨b9, 0, none⟩ (.slice a3 n3 c3)).setCell ⟨b9, 1, none⟩ (.slice a4 n4 c4)).setCell ⟨b9, 2, none⟩ (.slice a5 n5 c5)).setCell ⟨b9, 3, none⟩ (.slice a6 n6 c6) := ⟨_, rfl⟩
  have hg6 : w5.grownBy W6 (some b9) := by rw [hW6]; exact grown_trans (grown_trans (grown_trans (set1_grown _) (set1_grown _)) (set1_grown _)) (set1_grown _)
  have hk6 : Kt 29 w5 W6 := Kt.of_grown hg6 y9
  have r9 : W6.heap[b9]? = some (.cells #[.slice a3 n3 c3, .slice a4 n4 c4, .slice a5 n5 c5, .slice a6 n6 c6] 29 (0, 0)) := by
   rw [hW6]
   exact heap_setCell_same _ b9 3 _ _ _ (heap_setCell_same _ b9 2 _ _ _ (heap_setCell_same _ b9 1 _ _ _ (heap_setCell_same _ b9 0 _ _ _ y9)))
  have k0 := hb6k _ hg6
  have k2 := boxc r9 2 _ rfl
  have k3 := boxc r9 3 _ rfl
  have z0 := boxc y9 0 _ rfl
  have z1 := boxc y9 1 _ rfl
  have z2 := boxc y9 2 _ rfl
  have z3 := boxc y9 3 _ rfl
  have fz0 := boxf y9 0
  have fz1 := boxf y9 1
  have fz2 := boxf y9 2
  have fz3 := boxf y9 3
  have hnz : n5 + n6 ≠ 0 ∧ n5 ≤ 1000 ∧ n6 ≤ 1000 := chg_some hC9 hI9 (HINV.out.nd_valid hi3 (by omega)) (Nat.le_trans (gone_le (HINV.out.len hi3)) (by omega))
  have hnzb : (((n5 : Int) + (n6 : Int)) == 0) = false := by simp; omega
  have hn5 : n5 ≤ 1000 := hnz.2.1
  have hn6 : n6 ≤ 1000 := hnz.2.2
  obtain ⟨g5, hg5e⟩ : ∃ f, f = upd (upd (upd g (i * 3) (.slice a0 n0 c0)) (i * 3 + 1) (.slice a1 n1 c1)) (i * 3 + 2) (.slice a2 n2 c2) := ⟨_, rfl⟩
  have hp5 := (HPG.out w5 hg5).put hi3 hE5 hC5
  rw [← hg5e] at hbx5 hp5
  have hd5 : (g5 12).ownBlock ≠ some b9 := by
   rw [hg5e, upd_other _ _ (by omega), upd_other _ _ (by omega), upd_other _ _ (by omega)]
   exact HD9.out
  have HB6 : Hid (Box16 W6 q g5) := Box16.far hbx5 hg6 (fun e => by have := Option.some.inj e; have := HQ8.out; omega)
  have HP6 : Hid (PIn B W6 g5 { s with l := upd s.l i (staysOf (fun x => decide (x.t < (tk : Int))) (s.l i)), c := upd s.c i cc0 }) := hp5.far hg6 y9 hd5
  have HL6 : Hid (Below B w W6) := (HBL.out w5 hg5).trans ((Below.refl B w5).grown hg6 (bR hg5) (fun j hj => by cases hj; have := HQ8.out; omega))
  have R86 : Hid (W6.heap[b8]? = some (.cells #[.slice ae ne ce, .slice av nv cv, .slice ac nc cc] 27 (0, 0))) :=
   (hg6.block _ (Nat.lt_of_lt_of_le (lt_of_block R8.out) hg5.size) (fun e => by have := Option.some.inj e; have := HQ8.out; omega)).trans ((hg5.block _ (lt_of_block R8.out) (fun e => by have := Option.some.inj e; have := HQ8.out; omega)).trans R8.out)
  have R96 := Lib.hid r9
  have hpo := (HPG.out w5 hg5)
  have hEo := hpo.ent i hi3
  have hCo := hpo.ctx i hi3
  rw [HGE.out] at hEo
  rw [HGC.out.1, HGC.out.2] at hCo
  have HEO : Hid (EntO B W6 (.slice ae ne ce) (s.l i)) := hEo.kt hk6 (by decide)
  have HCO : Hid (OwnC B W6 (.agg #[.slice av nv cv, .slice ac nc cc]) (s.c i)) := hCo.kt hk6 (by decide)
  have HDL : Hid (DltO B W6 [.slice a3 n3 c3, .slice a4 n4 c4, .slice a5 n5 c5, .slice a6 n6 c6] ⟨[], [], dc⟩) := ⟨_, _, _, _, rfl, hL9.kt hk6 (by decide), hA9.kt hk6 (by decide), hC9.kt hk6 (by decide)⟩
  have HD5 := Lib.hid hd5
  obtain ⟨m5, hI5⟩ := hI5
  obtain ⟨m9, hI9⟩ := hI9
  have HINN := Lib.hid (inv_drop HINV.out hi3 (by omega) hI5 hI9)
  have HRDL : Hid (RDel [] [] dc) := rdel_drop hI9
  have HEQ : Hid (∀ L' c' m', L'.Perm (staysOf (deadF [] dc) (s.l i) ++ newOf (s.c i) []) → os.Up L' → dm.Is c' (fun e => dm.Knows (s.c i) e ∨ dm.Knows dc e) m' → L' = staysOf (fun x => decide (x.t < (tk : Int))) (s.l i) ∧ c' = cc0) := fun L' c' m' h1 h2 h3 =>
   ⟨(home_drop (HINV.out.set i hi3) (HINV.out.fresh hi3) hI9 h1 h2).symm, (home_ctx (HINV.out.set i hi3) (HINV.out.nd_valid hi3 (by omega)) hI9 hI5 h3).symm⟩
  have HTO : Hid (∀ d ∈ ([] : List Dot), d ∈ ([] : List Ent).map Ent.d ∨ dm.Knows (s.c i) d) := fun d hd => by cases hd
  have HCD : Hid (dc.2.length ≤ 1000) := Nat.le_trans (chg_cloud HINN.out) (by omega)
  have HG5 : Hid (g5 (9 + i) = .int .i64 (mi : Int)) := by
   show _ = _
   rw [HMI.out, hg5e, upd_other _ _ (by omega), upd_other _ _ (by omega), upd_other _ _ (by omega)]
   exact HPI4.out.made i hi3
  have HG5E := Lib.hid hg5e
  have HW6 := Lib.hid hW6
  rw [hW6] at k0 k2 k3
  clear hg5 y9 hb6k hg6 hk6 r9 hW6 hRE hp5 hd5 hg5e hbx5 hE5 hC5 hI5 hI9 hL9 hA9 hC9 hpo hEo hCo hnz
  go_wp2_with fail
  rw [← HW6.out]
  clear k0 k2 k3 z0 z1 z2 z3 fz0 fz1 fz2 fz3 hnzb hn5 hn6
  refine wp_flow 10 (fun _ => 1000) (fun ww => RowKit.Below W6.heap.size W6 ww) (fun _ w w' => (fun (w w' : World) => RowKit.Below w.heap.size w w') w w') (fun kF vF wF => match kF with | 0 => (vF = .pointer (some ⟨q, 0, none⟩)) | 1 => (vF = .int .i64 (i : Int)) | 2 => (vF = .pointer (some ⟨q, 0, none⟩)) | 3 => (vF = .pointer (some ⟨q, 9, none⟩)) | 4 => (vF = .pointer (some ⟨q, 9 + i, none⟩)) | 5 => (vF = .int .i64 (mi : Int)) | 6 => (vF = .int .i64 ((mi : Int) + 1)) | 7 => (vF = .pointer (some ⟨q, 0, none⟩)) | 8 => (vF = .pointer (some ⟨q, 9, none⟩)) | 9 => (vF = .pointer (some ⟨q, 9 + i, none⟩)) | _ => True) (fun _ _ _ _ => True) (by kernel_rfl) (by kernel_rfl) ?_ ?_ ?_ ?_ ?_
  ·
   exact (Below.refl _ _).drew
  ·
   intro iF wF1 wF2 hR hT; exact hR.trans (hT.mono hR.size)
  ·
   intro kF hkF iF hiF hne hdd hanc hdan vF wF1 wF2 h hT
   rcases (by omega : kF = 0 ∨ kF = 1 ∨ kF = 2 ∨ kF = 3 ∨ kF = 4 ∨ kF = 5 ∨ kF = 6 ∨ kF = 7 ∨ kF = 8 ∨ kF = 9) with rfl | rfl | rfl | rfl | rfl | rfl | rfl | rfl | rfl | rfl
   iterate 10 exact h
  ·
   generalize hAF : fillOf _ _ _ = AF
   replace hAF := fun x => congrFun hAF x
   simp only [take_succ_cons, take_zero, fillOf, Act.put, setIfInBounds_toArray, set_cons_zero, set_cons_succ, Nat.reduceAdd, Nat.zero_add] at hAF
   refine .cons ?_ (.cons ?_ (.cons ?_ (.cons ?_ (.cons ?_ (.cons ?_ (.cons ?_ (.cons ?_ (.cons ?_ (.cons ?_ (.nil))))))))))
   all_goals
    intro xF w7 hR hd K hK
    first | simp only [← hAF, Act.put, setIfInBounds_toArray, set_cons_zero, set_cons_succ] at hK ⊢ | simp only [← hAF, Act.put] at hK ⊢
    clear hAF
    try simp only [Nat.zero_add, Nat.reduceAdd] at hK ⊢
   ·
    clear hd
    rw [if_pos (by rfl)]
    go_simp
    exact hK.out _ _ (Below.refl _ _) (rfl) (fun _ _ _ => ⟨trivial, trivial⟩)
   ·
    clear hd
    rw [if_pos (by rfl)]
    go_simp
    exact hK.out _ _ (Below.refl _ _) (rfl) (fun _ _ _ => ⟨trivial, trivial⟩)
   ·
    have dd0 := hd 0 (by kernel_rfl)
    clear hd
    try generalize xF 0 = yy0 at *
    obtain rfl := dd0
    rw [if_pos (by rfl)]
    go_simp
    exact hK.out _ _ (Below.refl _ _) (rfl) (fun _ _ _ => ⟨trivial, trivial⟩)
   ·
    have dd2 := hd 2 (by kernel_rfl)
    clear hd
    try generalize xF 2 = yy2 at *
    obtain rfl := dd2
    rw [if_pos (by rfl)]
    go_simp
    exact hK.out _ _ (Below.refl _ _) (rfl) (fun _ _ _ => ⟨trivial, trivial⟩)
   ·
    have dd1 := hd 1 (by kernel_rfl)
    have dd3 := hd 3 (by kernel_rfl)
    clear hd
    try generalize xF 1 = yy1 at *
    try generalize xF 3 = yy3 at *
    obtain rfl := dd1
    obtain rfl := dd3
    rw [if_pos (by rfl)]
    go_simp
    exact hK.out _ _ (Below.refl _ _) (rfl) (fun _ _ _ => ⟨trivial, trivial⟩)
   ·
    have dd4 := hd 4 (by kernel_rfl)
    clear hd
    try generalize xF 4 = yy4 at *
    obtain rfl := dd4
    have k9 := (HB6.out.on hR).cell (j := 9 + i) (by omega)
    rw [HG5.out] at k9
    rw [if_pos (by rfl)]
    go_simp
    exact hK.out _ _ (Below.refl _ _) (rfl) (fun _ _ _ => ⟨trivial, trivial⟩)
   ·
    have dd5 := hd 5 (by kernel_rfl)
    clear hd
    try generalize xF 5 = yy5 at *
    obtain rfl := dd5
    rw [if_pos (by rfl)]
    go_simp
    exact hK.out _ _ (Below.refl _ _) (rfl) (fun _ _ _ => ⟨trivial, trivial⟩)
   ·
    have dd0 := hd 0 (by kernel_rfl)
    clear hd
    try generalize xF 0 = yy0 at *
    obtain rfl := dd0
    rw [if_pos (by rfl)]
    go_simp
    exact hK.out _ _ (Below.refl _ _) (rfl) (fun _ _ _ => ⟨trivial, trivial⟩)
   ·
    have dd7 := hd 7 (by kernel_rfl)
    clear hd
    try generalize xF 7 = yy7 at *
    obtain rfl := dd7
    rw [if_pos (by rfl)]
    go_simp
    exact hK.out _ _ (Below.refl _ _) (rfl) (fun _ _ _ => ⟨trivial, trivial⟩)
   ·
    have dd1 := hd 1 (by kernel_rfl)
    have dd8 := hd 8 (by kernel_rfl)
    clear hd
    try generalize xF 1 = yy1 at *
    try generalize xF 8 = yy8 at *
    obtain rfl := dd1
    obtain rfl := dd8
    rw [if_pos (by rfl)]
    go_simp
    exact hK.out _ _ (Below.refl _ _) (rfl) (fun _ _ _ => ⟨trivial, trivial⟩)
  intro xF w7 hR hF hP
  clear hP
  have dd0 := hF 0 (by omega) (by decide)
  have dd1 := hF 1 (by omega) (by decide)
  have dd2 := hF 2 (by omega) (by decide)
  have dd3 := hF 3 (by omega) (by decide)
  have dd4 := hF 4 (by omega) (by decide)
  have dd5 := hF 5 (by omega) (by decide)
  have dd6 := hF 6 (by omega) (by decide)
  have dd7 := hF 7 (by omega) (by decide)
  have dd8 := hF 8 (by omega) (by decide)
  have dd9 := hF 9 (by omega) (by decide)
  clear hF
  simp only [take_succ_cons, take_zero, drop_succ_cons, drop_zero, fillOf, Act.put, setIfInBounds_toArray, set_cons_zero, set_cons_succ, Nat.reduceAdd, Nat.zero_add]
  try generalize xF 0 = yy0 at *
  try generalize xF 1 = yy1 at *
  try generalize xF 2 = yy2 at *
  try generalize xF 3 = yy3 at *
  try generalize xF 4 = yy4 at *
  try generalize xF 5 = yy5 at *
  try generalize xF 6 = yy6 at *
  try generalize xF 7 = yy7 at *
  try generalize xF 8 = yy8 at *
  try generalize xF 9 = yy9 at *
  clear xF
  obtain rfl := dd0
  obtain rfl := dd1
  obtain rfl := dd2
  obtain rfl := dd3
  obtain rfl := dd4
  obtain rfl := dd5
  obtain rfl := dd6
  obtain rfl := dd7
  obtain rfl := dd8
  obtain rfl := dd9
  have hRE := Lib.hid hR
  clear hR
  have hb7 := HB6.out.on hRE
  have c9 := hb7.cell (j := 9 + i) (by omega)
  have f9 := hb7.fro (9 + i)
  rw [HG5.out] at c9
  obtain ⟨W7, hW7⟩ : ∃ W, W = w7.setCell ⟨q, 9 + i, none⟩ (.int .i64 ((mi : Int) + 1)) := ⟨_, rfl⟩
  have hk7 : Kt 43 w7 W7 := by rw [hW7]; exact hb7.kt _ _
  have hg7 : w7.grownBy W7 (some q) := by rw [hW7]; exact set1_grown _
  have HB7 : Hid (Box16 W7 q (upd g5 (9 + i) (.int .i64 ((mi : Int) + 1)))) := by show Box16 _ _ _; rw [hW7]; exact hb7.set (by omega) _
  have hp7 := (((HP6.out.on hRE).kt hk7 (by decide) (by decide) (by decide) (by decide)).make (m := s.made i + 1) (u := .int .i64 ((mi : Int) + 1)) hi3 (by rw [HMI.out]; rfl))
  obtain ⟨gT, hgT⟩ : ∃ f, f = upd g5 (9 + i) (.int .i64 ((mi : Int) + 1)) := ⟨_, rfl⟩
  rw [← hgT] at HB7 hp7
  have HP7 := Lib.hid hp7
  have HL7 : Hid (Below B w W7) := (HL6.out.trans (hRE.mono (Nat.le_trans hB (Nat.le_of_lt HB6.out.lt)))).trans ((Below.refl B w7).grown hg7 (Nat.le_trans hB (Nat.le_of_lt hb7.lt)) (fun j hj => by cases hj; exact hB))
  have r8 := (hg7.block _ (Nat.lt_of_lt_of_le (lt_of_block R86.out) hRE.size) (fun e => by have := Option.some.inj e; have := HQ8.out; omega)).trans ((hRE.block _ (lt_of_block R86.out)).trans R86.out)
  have r9 := (hg7.block _ (Nat.lt_of_lt_of_le (lt_of_block R96.out) hRE.size) (fun e => by have := Option.some.inj e; have := HQ8.out; omega)).trans ((hRE.block _ (lt_of_block R96.out)).trans R96.out)
  have HD7 : Hid ((gT 12).ownBlock ≠ some b9) := by
   show _ ≠ _
   rw [hgT, upd_other _ _ (by omega)]; exact HD5.out
  have HEO7 : Hid (EntO B W7 (.slice ae ne ce) (s.l i)) := (HEO.out.on hRE).kt hk7 (by decide)
  have HCO7 : Hid (OwnC B W7 (.agg #[.slice av nv cv, .slice ac nc cc]) (s.c i)) := (HCO.out.on hRE).kt hk7 (by decide)
  have HDL7 : Hid (DltO B W7 [.slice a3 n3 c3, .slice a4 n4 c4, .slice a5 n5 c5, .slice a6 n6 c6] ⟨[], [], dc⟩) := (HDL.out.on hRE).kt hk7 (by decide) (by decide)
  have R87 := Lib.hid r8
  have R97 := Lib.hid r9
  have HGN : Hid (gT (i * 3) = .slice a0 n0 c0 ∧ gT (i * 3 + 1) = .slice a1 n1 c1 ∧ gT (i * 3 + 2) = .slice a2 n2 c2) := by
   have hh : ∀ k, k < 9 → gT k = g5 k := fun k hk => by rw [hgT, upd_other _ _ (by omega)]
   refine ⟨?_, ?_, ?_⟩
   ·
    rw [hh _ (by omega), HG5E.out, upd_other _ _ (by omega), upd_other _ _ (by omega), upd_same]
   ·
    rw [hh _ (by omega), HG5E.out, upd_other _ _ (by omega), upd_same]
   ·
    rw [hh _ (by omega), HG5E.out, upd_same]
  have HW7 := Lib.hid hW7
  obtain ⟨nC, hnC⟩ : ∃ n, n = s.C.length := ⟨_, rfl⟩
  obtain ⟨aC, cC, hgC⟩ : ∃ a c, gT 12 = .slice a nC c := by
   obtain ⟨a, c, e⟩ := HP7.out.chg.len
   exact ⟨a, c, by rw [e, hnC]⟩
  have hC60 : nC ≤ 60 := by rw [hnC]; have := HINV.out.many; omega
  have c12 := HB7.out.cell (j := 12) (by omega)
  rw [hgC] at c12
  rw [HW7.out] at c12
  have HNC := Lib.hid hnC
  have HGCT := Lib.hid hgC
  have HAP := Lib.hid (applies_any B q nC i nC gT s.has W7 HB7.out HP7.out.hin (fun j hj => by rw [hnC]; exact HINV.out.hasl j hj) hi3 (by omega) (by omega) hB)
  clear hnC hgC hgT hb7 hk7 hg7 hp7 r8 r9 hW7 hRE
  go_wp2_with fail
  rw [← HW7.out]
  (with_reducible refine HAP.out.mono ?_)
  rintro e w8 ⟨rfl, g8, hb8, hg8, hh8, hk8, hl8⟩
  have hp8 := HP7.out.hset hk8 hg8 hh8
  have hgc8 : g8 12 = .slice aC nC cC := (hg8 12 (by omega)).trans HGCT.out
  have HB8X := Lib.hid hb8
  have HEO8 : Hid (EntO B w8 (.slice ae ne ce) (s.l i)) := HEO7.out.kb hk8
  have HCO8 : Hid (OwnC B w8 (.agg #[.slice av nv cv, .slice ac nc cc]) (s.c i)) := HCO7.out.kb hk8
  have HDL8 : Hid (DltO B w8 [.slice a3 n3 c3, .slice a4 n4 c4, .slice a5 n5 c5, .slice a6 n6 c6] ⟨[], [], dc⟩) := HDL7.out.kb hk8
  have R88 := Lib.hid (hk8.box R87.out (by decide) (by decide))
  have R98 := Lib.hid (hk8.box R97.out (by decide) (by decide))
  have HL8 := Lib.hid (HL7.out.trans hl8)
  obtain ⟨D, hD0, hD1, hD2⟩ := id hp8.chg
  have HO8 : Hid (w8.ownsRow B 29 4 (.slice aC nC cC) nC D.flatten) := by
   show World.ownsRow _ _ _ _ _ _ _
   rw [← hgc8, HNC.out]; exact hD2
  have HDL0 : Hid (D.length = s.C.length) := hD0
  have HDL1 := Lib.hid hD1
  have HP8 := Lib.hid hp8
  have HGC8 := Lib.hid hgc8
  have HG8E := Lib.hid hg8
  have HBR8 : Hid (B ≤ w8.heap.size) := Nat.le_trans hB (Nat.le_of_lt hb8.lt)
  have HGK : Hid (∀ b, (Value.slice aC nC cC).ownBlock = some b → B ≤ b ∧ b < w8.heap.size) := fun b hb => HO8.out.lt b hb
  have HNQ8 : Hid (some q ≠ (Value.slice aC nC cC).ownBlock) := box_noD hb8 HO8.out
  have HN98 : Hid (some b9 ≠ (Value.slice aC nC cC).ownBlock) := fun e => HD7.out (by rw [HGCT.out]; exact e.symm)
  have HN88 : Hid (some b8 ≠ (Value.slice aC nC cC).ownBlock) := kinds_ne R88.out HO8.out (by decide)
  have HBC : Hid (∀ ww, w8.grownBy ww (Value.slice aC nC cC).ownBlock → Box16 ww q g8) := fun ww hw => HB8X.out.far hw HNQ8.out
  have HR9 : Hid (∀ ww, w8.grownBy ww (Value.slice aC nC cC).ownBlock → ww.heap[b9]? = some (.cells #[.slice a3 n3 c3, .slice a4 n4 c4, .slice a5 n5 c5, .slice a6 n6 c6] 29 (0, 0))) := fun ww hw => (hw.block _ (lt_of_block R98.out) HN98.out).trans R98.out
  clear hb8 hg8 hh8 hk8 hl8 hp8 hgc8 hD0 hD1 hD2 HAP c12
  go_wp2_with fail
  refine wp_flowG 10 (fun kF => match kF with | 6 => 7 | _ => 1000) (fun ww => w8.grownBy ww (Value.slice aC nC cC).ownBlock) (fun i w w' => if i = 7 then (fun (w w' : World) => w.grownBy w' (Value.slice aC nC cC).ownBlock) w w' else (fun (w w' : World) => RowKit.Below w.heap.size w w') w w') (fun sF wF => match sF with | 7 => (wF.ownsRow B 29 4 (.slice aC nC cC) nC D.flatten) | _ => True) (fun kF vF wF => match kF with | 0 => (vF = .pointer (some ⟨q, 0, none⟩)) | 1 => (vF = .pointer (some ⟨q, 0, none⟩)) | 2 => (vF = .pointer (some ⟨q, 0, none⟩)) | 3 => (vF = .pointer (some ⟨q, 12, none⟩)) | 4 => (vF = .slice aC nC cC) | 5 => (vF = .agg #[.slice a3 n3 c3, .slice a4 n4 c4, .slice a5 n5 c5, .slice a6 n6 c6]) | 6 => (∃ g, vF = .slice (some ⟨g, 0, none⟩) 1 1 ∧ wF.heap[g]? = some (.cells #[.slice a3 n3 c3, .slice a4 n4 c4, .slice a5 n5 c5, .slice a6 n6 c6] 29 (0, 0)) ∧ w8.heap.size ≤ g) | 7 => (∃ v, vF = v ∧ wF.ownsRow B 29 4 v (nC + 1) (D.flatten ++ [.slice a3 n3 c3, .slice a4 n4 c4, .slice a5 n5 c5, .slice a6 n6 c6])) | 8 => (vF = .pointer (some ⟨q, 0, none⟩)) | 9 => (vF = .pointer (some ⟨q, 12, none⟩)) | _ => True) (fun _ _ _ _ => True) (by kernel_rfl) (by kernel_rfl) ?_ ?_ ?_ ?_ ?_ ?_ ?_
  ·
   exact grown_below' ((Below.refl _ _).drew)
  ·
   intro sF hsF
   rcases (by omega : sF = 0 ∨ sF = 1 ∨ sF = 2 ∨ sF = 3 ∨ sF = 4 ∨ sF = 5 ∨ sF = 6 ∨ sF = 7 ∨ sF = 8 ∨ sF = 9) with rfl | rfl | rfl | rfl | rfl | rfl | rfl | rfl | rfl | rfl
   iterate 7 exact trivial
   ·
    exact own_stay HO8.out ((Below.refl _ _).drew)
   iterate 2 exact trivial
  ·
   intro iF wF1 wF2 hR hT
   have hT : (fun i w w' => if i = 7 then (fun (w w' : World) => w.grownBy w' (Value.slice aC nC cC).ownBlock) w w' else (fun (w w' : World) => RowKit.Below w.heap.size w w') w w') iF wF1 wF2 := hT
   simp only at hT
   by_cases hi7 : iF = 7
   ·
    rw [if_pos hi7] at hT; exact grown_trans hR hT
   rw [if_neg hi7] at hT
   exact grown_trans hR (grown_below' hT)
  ·
   intro sF hsF iF hiF hne hanc wF1 wF2 hRF hgF hT
   rcases (by omega : sF = 0 ∨ sF = 1 ∨ sF = 2 ∨ sF = 3 ∨ sF = 4 ∨ sF = 5 ∨ sF = 6 ∨ sF = 7 ∨ sF = 8 ∨ sF = 9) with rfl | rfl | rfl | rfl | rfl | rfl | rfl | rfl | rfl | rfl
   iterate 7 exact trivial
   ·
    have hg : (wF1.ownsRow B 29 4 (.slice aC nC cC) nC D.flatten) := hgF
    show (wF2.ownsRow B 29 4 (.slice aC nC cC) nC D.flatten)
    have hT : (fun i w w' => if i = 7 then (fun (w w' : World) => w.grownBy w' (Value.slice aC nC cC).ownBlock) w w' else (fun (w w' : World) => RowKit.Below w.heap.size w w') w w') iF wF1 wF2 := hT
    simp only at hT
    by_cases hi7 : iF = 7
    ·
     exact absurd hi7.symm hne
    rw [if_neg hi7] at hT
    exact own_stay hg hT
   iterate 2 exact trivial
  ·
   intro kF hkF iF hiF hne hdd hanc hdan vF wF1 wF2 h hT
   rcases (by omega : kF = 0 ∨ kF = 1 ∨ kF = 2 ∨ kF = 3 ∨ kF = 4 ∨ kF = 5 ∨ kF = 6 ∨ kF = 7 ∨ kF = 8 ∨ kF = 9) with rfl | rfl | rfl | rfl | rfl | rfl | rfl | rfl | rfl | rfl
   iterate 6 exact h
   ·
    have h : (∃ g, vF = .slice (some ⟨g, 0, none⟩) 1 1 ∧ wF1.heap[g]? = some (.cells #[.slice a3 n3 c3, .slice a4 n4 c4, .slice a5 n5 c5, .slice a6 n6 c6] 29 (0, 0)) ∧ w8.heap.size ≤ g) := h
    show (∃ g, vF = .slice (some ⟨g, 0, none⟩) 1 1 ∧ wF2.heap[g]? = some (.cells #[.slice a3 n3 c3, .slice a4 n4 c4, .slice a5 n5 c5, .slice a6 n6 c6] 29 (0, 0)) ∧ w8.heap.size ≤ g)
    have hT : (fun i w w' => if i = 7 then (fun (w w' : World) => w.grownBy w' (Value.slice aC nC cC).ownBlock) w w' else (fun (w w' : World) => RowKit.Below w.heap.size w w') w w') iF wF1 wF2 := hT
    simp only at hT
    by_cases hi7 : iF = 7
    ·
     exact absurd hi7.symm hdd
    rw [if_neg hi7] at hT
    obtain ⟨g, e, h1, h2⟩ := h
    exact ⟨g, e, (hT.block _ (lt_of_block h1)).trans h1, h2⟩
   ·
    have h : (∃ v, vF = v ∧ wF1.ownsRow B 29 4 v (nC + 1) (D.flatten ++ [.slice a3 n3 c3, .slice a4 n4 c4, .slice a5 n5 c5, .slice a6 n6 c6])) := h
    show (∃ v, vF = v ∧ wF2.ownsRow B 29 4 v (nC + 1) (D.flatten ++ [.slice a3 n3 c3, .slice a4 n4 c4, .slice a5 n5 c5, .slice a6 n6 c6]))
    have hT : (fun i w w' => if i = 7 then (fun (w w' : World) => w.grownBy w' (Value.slice aC nC cC).ownBlock) w w' else (fun (w w' : World) => RowKit.Below w.heap.size w w') w w') iF wF1 wF2 := hT
    simp only at hT
    by_cases hi7 : iF = 7
    ·
     exact absurd hi7.symm hne
    rw [if_neg hi7] at hT
    obtain ⟨v, e, h1⟩ := h
    exact ⟨v, e, own_stay h1 hT⟩
   iterate 2 exact h
  ·
   generalize hAF : fillOf _ _ _ = AF
   replace hAF := fun x => congrFun hAF x
   simp only [take_succ_cons, take_zero, fillOf, Act.put, setIfInBounds_toArray, set_cons_zero, set_cons_succ, Nat.reduceAdd, Nat.zero_add] at hAF
   refine .cons ?_ (.cons ?_ (.cons ?_ (.cons ?_ (.cons ?_ (.cons ?_ (.cons ?_ (.cons ?_ (.cons ?_ (.cons ?_ (.nil))))))))))
   all_goals
    intro xF w9 hR hg hd K hK
    first | simp only [← hAF, Act.put, setIfInBounds_toArray, set_cons_zero, set_cons_succ] at hK ⊢ | simp only [← hAF, Act.put] at hK ⊢
    clear hAF
    try simp only [Nat.zero_add, Nat.reduceAdd] at hK ⊢
   ·
    clear hg hd
    rw [if_pos (by rfl)]
    go_simp
    exact hK.out _ _ (Below.refl _ _) (rfl) (fun _ _ _ => ⟨trivial, trivial⟩)
   ·
    clear hg hd
    rw [if_pos (by rfl)]
    go_simp
    exact hK.out _ _ (Below.refl _ _) (rfl) (fun _ _ _ => ⟨trivial, trivial⟩)
   ·
    clear hg
    have dd1 := hd 1 (by kernel_rfl)
    clear hd
    try generalize xF 1 = yy1 at *
    obtain rfl := dd1
    rw [if_pos (by rfl)]
    go_simp
    exact hK.out _ _ (Below.refl _ _) (rfl) (fun _ _ _ => ⟨trivial, trivial⟩)
   ·
    clear hg
    have dd2 := hd 2 (by kernel_rfl)
    clear hd
    try generalize xF 2 = yy2 at *
    obtain rfl := dd2
    rw [if_pos (by rfl)]
    go_simp
    exact hK.out _ _ (Below.refl _ _) (rfl) (fun _ _ _ => ⟨trivial, trivial⟩)
   ·
    clear hg
    have dd3 := hd 3 (by kernel_rfl)
    clear hd
    try generalize xF 3 = yy3 at *
    obtain rfl := dd3
    have kc := (HBC.out _ hR).cell (j := 12) (by omega)
    rw [HGC8.out] at kc
    rw [if_pos (by rfl)]
    go_simp
    exact hK.out _ _ (Below.refl _ _) (rfl) (fun _ _ _ => ⟨trivial, trivial⟩)
   ·
    clear hg hd
    have y9 := HR9.out _ hR
    have e0 := boxc y9 0 _ rfl
    have e1 := boxc y9 1 _ rfl
    have e2 := boxc y9 2 _ rfl
    have e3 := boxc y9 3 _ rfl
    rw [if_pos (by rfl)]
    go_simp
    exact hK.out _ _ (Below.refl _ _) (rfl) (fun _ _ _ => ⟨trivial, trivial⟩)
   ·
    clear hg
    have dd5 := hd 5 (by kernel_rfl)
    clear hd
    try generalize xF 5 = yy5 at *
    obtain rfl := dd5
    rw [if_pos (by rfl)]
    go_simp
    exact hK.out _ _ (below1) (⟨_, rfl, heap_alloc_new _ _, hR.size⟩) (fun _ _ _ => ⟨trivial, trivial⟩)
   ·
    have gg7 : (w9.ownsRow B 29 4 (.slice aC nC cC) nC D.flatten) := hg 7 (by omega) (by decide)
    clear hg
    have dd4 := hd 4 (by kernel_rfl)
    have dd6 := hd 6 (by kernel_rfl)
    clear hd
    try generalize xF 4 = yy4 at *
    try generalize xF 6 = yy6 at *
    obtain rfl := dd4
    obtain ⟨gD, rfl, hgD, hlD⟩ := dd6
    rw [if_pos (by rfl)]
    refine wp_of_list1 (fun Q' hQ' => ?_)
    refine appNg (.tmp 204) (.tmp 206) 39 rfl rfl B Tryz.underlying39 infoDlt rfl (by decide) (by decide) gg7 rfl rfl [.slice a3 n3 c3, .slice a4 n4 c4, .slice a5 n5 c5, .slice a6 n6 c6] rfl (fun j u hu => by rw [Addr.add_lit, Nat.zero_add]; exact boxc' hgD j u (by simpa using hu)) (by intro u hu; simp at hu; rcases hu with rfl | rfl | rfl | rfl <;> rfl) (by omega) (Nat.le_trans HBR8.out hR.size) ?_
    intro vN wN hownN hgN
    refine hQ' _ _ ?_
    simp only [Act.put, setIfInBounds_toArray, set_cons_zero, set_cons_succ]
    exact hK.out _ _ (hgN) (⟨vN, rfl, hownN⟩) (fun _ _ _ => ⟨trivial, trivial⟩)
   ·
    clear hg
    have dd0 := hd 0 (by kernel_rfl)
    clear hd
    try generalize xF 0 = yy0 at *
    obtain rfl := dd0
    rw [if_pos (by rfl)]
    go_simp
    exact hK.out _ _ (Below.refl _ _) (rfl) (fun _ _ _ => ⟨trivial, trivial⟩)
   ·
    clear hg
    have dd8 := hd 8 (by kernel_rfl)
    clear hd
    try generalize xF 8 = yy8 at *
    obtain rfl := dd8
    rw [if_pos (by rfl)]
    go_simp
    exact hK.out _ _ (Below.refl _ _) (rfl) (fun _ _ _ => ⟨trivial, trivial⟩)
  intro xF w9 hR hF hP
  clear hP
  have dd0 := hF 0 (by omega) (by decide)
  have dd1 := hF 1 (by omega) (by decide)
  have dd2 := hF 2 (by omega) (by decide)
  have dd3 := hF 3 (by omega) (by decide)
  have dd4 := hF 4 (by omega) (by decide)
  have dd5 := hF 5 (by omega) (by decide)
  have dd7 := hF 7 (by omega) (by decide)
  have dd8 := hF 8 (by omega) (by decide)
  have dd9 := hF 9 (by omega) (by decide)
  clear hF
  simp only [take_succ_cons, take_zero, drop_succ_cons, drop_zero, fillOf, Act.put, setIfInBounds_toArray, set_cons_zero, set_cons_succ, Nat.reduceAdd, Nat.zero_add]
  try generalize xF 0 = yy0 at *
  try generalize xF 1 = yy1 at *
  try generalize xF 2 = yy2 at *
  try generalize xF 3 = yy3 at *
  try generalize xF 4 = yy4 at *
  try generalize xF 5 = yy5 at *
  try generalize xF 6 = yy6 at *
  try generalize xF 7 = yy7 at *
  try generalize xF 8 = yy8 at *
  try generalize xF 9 = yy9 at *
  clear xF
  obtain rfl := dd0
  obtain rfl := dd1
  obtain rfl := dd2
  obtain rfl := dd3
  obtain rfl := dd4
  obtain rfl := dd5
  obtain ⟨v27, rfl, ho27⟩ := dd7
  obtain rfl := dd8
  obtain rfl := dd9
  have hRE := Lib.hid hR
  clear hR
  have hb9x := HBC.out _ hRE
  obtain ⟨a27, c27, rfl⟩ := own_slice ho27
  have c12 := hb9x.cell (j := 12) (by omega)
  have f12 := hb9x.fro 12
  rw [HGC8.out] at c12
  obtain ⟨W10, hW10⟩ : ∃ W, W = w9.setCell ⟨q, 12, none⟩ (.slice a27 (nC + 1) c27) := ⟨_, rfl⟩
  have hkD : Kt 29 w8 w9 := Kt.append HO8.out hRE
  have hkP : Kt 43 w9 W10 := by rw [hW10]; exact hb9x.kt _ _
  have hgP : w9.grownBy W10 (some q) := by rw [hW10]; exact set1_grown _
  have HBX10 : Hid (Box16 W10 q (upd g8 12 (.slice a27 (nC + 1) c27))) := by show Box16 _ _ _; rw [hW10]; exact hb9x.set (by omega) _
  have hch : ChO B w9 (.slice a27 (nC + 1) c27) (s.C ++ [⟨[], [], dc⟩]) := ChO.snocD HDL0.out HDL1.out hkD HDL8.out (by rw [← HNC.out]; exact ho27)
  have HP10 := Lib.hid ((HP8.out.chgs hkD hch).kt hkP (by decide) (by decide) (by decide) (by decide))
  have HL10 : Hid (Below B w W10) := (HL8.out.trans (grown_below HO8.out HBR8.out hRE)).trans ((Below.refl B w9).grown hgP (Nat.le_trans hB (Nat.le_of_lt hb9x.lt)) (fun j hj => by cases hj; exact hB))
  have R8X : Hid (W10.heap[b8]? = some (.cells #[.slice ae ne ce, .slice av nv cv, .slice ac nc cc] 27 (0, 0))) := by
   have y := (hRE.block _ (lt_of_block R88.out) HN88.out).trans R88.out
   exact (hgP.block _ (lt_of_block y) (fun e => by have := Option.some.inj e; have := HQ8.out; omega)).trans y
  have R9X : Hid (W10.heap[b9]? = some (.cells #[.slice a3 n3 c3, .slice a4 n4 c4, .slice a5 n5 c5, .slice a6 n6 c6] 29 (0, 0))) := by
   have y := HR9.out _ hRE
   exact (hgP.block _ (lt_of_block y) (fun e => by have := Option.some.inj e; have := HQ8.out; omega)).trans y
  have HEOX : Hid (EntO B W10 (.slice ae ne ce) (s.l i)) := (HEO8.out.kt hkD (by decide)).kt hkP (by decide)
  have HCOX : Hid (OwnC B W10 (.agg #[.slice av nv cv, .slice ac nc cc]) (s.c i)) := (HCO8.out.kt hkD (by decide)).kt hkP (by decide)
  have HDLX : Hid (DltO B W10 [.slice a3 n3 c3, .slice a4 n4 c4, .slice a5 n5 c5, .slice a6 n6 c6] ⟨[], [], dc⟩) := (HDL8.out.kt hkD (by decide) (by decide)).kt hkP (by decide) (by decide)
  obtain ⟨gN, hgN⟩ : ∃ f, f = upd g8 12 (.slice a27 (nC + 1) c27) := ⟨_, rfl⟩
  rw [← hgN] at HBX10 HP10
  have hgn : ∀ k, k < 12 → gN k = gT k := fun k hk => by rw [hgN, upd_other _ _ (by omega)]; exact HG8E.out k (by omega)
  have hg0 : gN (i * 3) = .slice a0 n0 c0 := (hgn _ (by omega)).trans HGN.out.1
  have hg1 : gN (i * 3 + 1) = .slice a1 n1 c1 := (hgn _ (by omega)).trans HGN.out.2.1
  have hg2 : gN (i * 3 + 2) = .slice a2 n2 c2 := (hgn _ (by omega)).trans HGN.out.2.2
  have XN : Hid (∀ W, Below W10.heap.size W10 W → W.cell? ⟨q, i * 3, none⟩ = some (.slice a0 n0 c0) ∧ W.cell? ⟨q, i * 3 + 1, none⟩ = some (.slice a1 n1 c1) ∧ W.cell? ⟨q, i * 3 + 2, none⟩ = some (.slice a2 n2 c2)) := fun W hW => by
   have hb := HBX10.out.on hW
   refine ⟨?_, ?_, ?_⟩
   ·
    rw [← hg0]; exact hb.cell (by omega)
   ·
    rw [← hg1]; exact hb.cell (by omega)
   ·
    rw [← hg2]; exact hb.cell (by omega)
  have HEN : Hid (EntO B W10 (.slice a0 n0 c0) (staysOf (fun x => decide (x.t < (tk : Int))) (s.l i))) := by
   have hx : EntO B W10 (gN (i * 3)) (upd s.l i (staysOf (fun x => decide (x.t < (tk : Int))) (s.l i)) i) := HP10.out.ent i hi3
   rw [upd_same s.l i, hg0] at hx
   exact hx
  have HCN : Hid (OwnC B W10 (.agg #[.slice a1 n1 c1, .slice a2 n2 c2]) cc0) := by
   have hx : OwnC B W10 (.agg #[gN (i * 3 + 1), gN (i * 3 + 2)]) (upd s.c i cc0 i) := HP10.out.ctx i hi3
   rw [upd_same s.c i, hg1, hg2] at hx
   exact hx
  have HBW : Hid (∀ W, Below W10.heap.size W10 W → Below B w W) := fun W hW => HL10.out.trans (hW.mono (Nat.le_trans hB (Nat.le_of_lt HBX10.out.lt)))
  have HAPL : Hid (∀ W, Below W10.heap.size W10 W → Calls Tryz.prog 9 #[.agg #[.slice ae ne ce, .slice av nv cv, .slice ac nc cc], .agg #[.slice a3 n3 c3, .slice a4 n4 c4, .slice a5 n5 c5, .slice a6 n6 c6]] W (fun e w' => ∃ u0 u1 u2, e = .returned (.agg #[u0, u1, u2]) ∧ Ents w' w'.heap.size u0 (staysOf (fun x => decide (x.t < (tk : Int))) (s.l i)) ∧ CtxAt w' w'.heap.size (.agg #[u1, u2]) cc0 ∧ Below W.heap.size W w')) := fun W hW => by
   obtain ⟨t0, t1, t2, t3, e, h1, h2, h3⟩ := HDLX.out.on hW
   simp only [List.cons.injEq, and_true] at e
   obtain ⟨rfl, rfl, rfl, rfl⟩ := e
   refine (oapply_yes (s.l i) (s.c i) (⟨[], [], dc⟩ : Chg).L (⟨[], [], dc⟩ : Chg).A dc _ _ _ _ _ _ _ W (HEOX.out.on hW).at (HCOX.out.on hW).at h1.at h2.at h3.at (HINV.out.set i hi3) HRDL.out HTO.out (Nat.le_trans (HINV.out.len hi3) (by omega)) (by simp) (by simp) (Nat.le_trans (HINV.out.cloud hi3) (by omega)) HCD.out (HMX.out.b (HBW.out W hW) h0)).mono ?_
   rintro e w' ⟨u0, u1, u2, L', c', rfl, g1, g2, g3, g4, g5, g6⟩
   obtain ⟨rfl, rfl⟩ := HEQ.out L' c' _ g3 g4 g5
   exact ⟨u0, u1, u2, rfl, g1.at, g2.at, g6⟩
  have HSAM : Hid (∀ (W : World) (u0 u1 u2 : Value), Below W10.heap.size W10 W → Ents W W.heap.size u0 (staysOf (fun x => decide (x.t < (tk : Int))) (s.l i)) → CtxAt W W.heap.size (.agg #[u1, u2]) cc0 → Calls Tryz.prog 14 #[.agg #[.slice a0 n0 c0, .slice a1 n1 c1, .slice a2 n2 c2], .agg #[u0, u1, u2]] W (Said true W)) := fun W u0 u1 u2 hW h1 h2 =>
   osame_yes _ _ _ _ _ _ _ _ W (HEN.out.on hW).at (HCN.out.on hW).at h1 h2
  have HRDC : Hid (∀ W, Below W10.heap.size W10 W → Calls Tryz.prog 12 #[.agg #[.slice a3 n3 c3, .slice a4 n4 c4, .slice a5 n5 c5, .slice a6 n6 c6]] W (Said true W)) := fun W hW => by
   obtain ⟨t0, t1, t2, t3, e, h1, h2, h3⟩ := HDLX.out.on hW
   simp only [List.cons.injEq, and_true] at e
   obtain ⟨rfl, rfl, rfl, rfl⟩ := e
   exact rdelta_yes (⟨[], [], dc⟩ : Chg).L (⟨[], [], dc⟩ : Chg).A dc _ _ _ _ W h1.at h2.at h3.at HRDL.out (by simp) (HMX.out.b (HBW.out W hW) h0)
  have HPZ : Hid (PIn B W10 gN (s.mk1 i (staysOf (fun x => decide (x.t < (tk : Int))) (s.l i)) cc0 ⟨[], [], dc⟩)) := by
   have hp := HP10.out
   rw [hasN_last (by rw [HNC.out]; exact HINV.out.hasl i hi3)] at hp
   exact hp
  have HW10 := Lib.hid hW10
  clear hb9x hkD hkP hgP hch hgN hgn hg0 hg1 hg2 hW10 hRE ho27 HP10
  go_wp2_with fail
  rw [← HW10.out]
  clear c12 f12
  refine wp_flow 14 (fun _ => 1000) (fun ww => RowKit.Below W10.heap.size W10 ww) (fun _ w w' => (fun (w w' : World) => RowKit.Below w.heap.size w w') w w') (fun kF vF wF => match kF with | 0 => (vF = .pointer (some ⟨q, 0, none⟩)) | 1 => (vF = .int .i64 (i : Int)) | 2 => (vF = .pointer (some ⟨q, 0, none⟩)) | 3 => (vF = .pointer (some ⟨q, 0, none⟩)) | 4 => (vF = .pointer (some ⟨q, i * 3, none⟩)) | 5 => (vF = .agg #[.slice a0 n0 c0, .slice a1 n1 c1, .slice a2 n2 c2]) | 6 => (vF = .agg #[.slice ae ne ce, .slice av nv cv, .slice ac nc cc]) | 7 => (vF = .agg #[.slice a3 n3 c3, .slice a4 n4 c4, .slice a5 n5 c5, .slice a6 n6 c6]) | 8 => (∃ u0 u1 u2, vF = .agg #[u0, u1, u2] ∧ Ents wF wF.heap.size u0 (staysOf (fun x => decide (x.t < (tk : Int))) (s.l i)) ∧ CtxAt wF wF.heap.size (.agg #[u1, u2]) cc0) | 9 => (vF = .bool true) | 10 => (vF = .bool true) | 11 => (vF = .agg #[.slice a3 n3 c3, .slice a4 n4 c4, .slice a5 n5 c5, .slice a6 n6 c6]) | 12 => (vF = .bool true) | 13 => (vF = .bool true) | _ => True) (fun _ _ _ _ => True) (by kernel_rfl) (by kernel_rfl) ?_ ?_ ?_ ?_ ?_
  ·
   exact (Below.refl _ _).drew
  ·
   intro iF wF1 wF2 hR hT; exact hR.trans (hT.mono hR.size)
  ·
   intro kF hkF iF hiF hne hdd hanc hdan vF wF1 wF2 h hT
   rcases (by omega : kF = 0 ∨ kF = 1 ∨ kF = 2 ∨ kF = 3 ∨ kF = 4 ∨ kF = 5 ∨ kF = 6 ∨ kF = 7 ∨ kF = 8 ∨ kF = 9 ∨ kF = 10 ∨ kF = 11 ∨ kF = 12 ∨ kF = 13) with rfl | rfl | rfl | rfl | rfl | rfl | rfl | rfl | rfl | rfl | rfl | rfl | rfl | rfl
   iterate 8 exact h
   ·
    have h : (∃ u0 u1 u2, vF = .agg #[u0, u1, u2] ∧ Ents wF1 wF1.heap.size u0 (staysOf (fun x => decide (x.t < (tk : Int))) (s.l i)) ∧ CtxAt wF1 wF1.heap.size (.agg #[u1, u2]) cc0) := h
    show (∃ u0 u1 u2, vF = .agg #[u0, u1, u2] ∧ Ents wF2 wF2.heap.size u0 (staysOf (fun x => decide (x.t < (tk : Int))) (s.l i)) ∧ CtxAt wF2 wF2.heap.size (.agg #[u1, u2]) cc0)
    have hT : (fun (w w' : World) => RowKit.Below w.heap.size w w') wF1 wF2 := hT
    simp only at hT
    obtain ⟨u0, u1, u2, e, h1, h2⟩ := h
    exact ⟨u0, u1, u2, e, Cells.next h1 hT, h2.next hT⟩
   iterate 5 exact h
  ·
   generalize hAF : fillOf _ _ _ = AF
   replace hAF := fun x => congrFun hAF x
   simp only [take_succ_cons, take_zero, fillOf, Act.put, setIfInBounds_toArray, set_cons_zero, set_cons_succ, Nat.reduceAdd, Nat.zero_add] at hAF
   refine .cons ?_ (.cons ?_ (.cons ?_ (.cons ?_ (.cons ?_ (.cons ?_ (.cons ?_ (.cons ?_ (.cons ?_ (.cons ?_ (.cons ?_ (.cons ?_ (.cons ?_ (.cons ?_ (.nil))))))))))))))
   all_goals
    intro xF wz hR hd K hK
    first | simp only [← hAF, Act.put, setIfInBounds_toArray, set_cons_zero, set_cons_succ] at hK ⊢ | simp only [← hAF, Act.put] at hK ⊢
    clear hAF
    try simp only [Nat.zero_add, Nat.reduceAdd] at hK ⊢
   ·
    clear hd
    rw [if_pos (by rfl)]
    go_simp
    exact hK.out _ _ (Below.refl _ _) (rfl) (fun _ _ _ => ⟨trivial, trivial⟩)
   ·
    clear hd
    rw [if_pos (by rfl)]
    go_simp
    exact hK.out _ _ (Below.refl _ _) (rfl) (fun _ _ _ => ⟨trivial, trivial⟩)
   ·
    have dd0 := hd 0 (by kernel_rfl)
    clear hd
    try generalize xF 0 = yy0 at *
    obtain rfl := dd0
    rw [if_pos (by rfl)]
    go_simp
    exact hK.out _ _ (Below.refl _ _) (rfl) (fun _ _ _ => ⟨trivial, trivial⟩)
   ·
    have dd2 := hd 2 (by kernel_rfl)
    clear hd
    try generalize xF 2 = yy2 at *
    obtain rfl := dd2
    rw [if_pos (by rfl)]
    go_simp
    exact hK.out _ _ (Below.refl _ _) (rfl) (fun _ _ _ => ⟨trivial, trivial⟩)
   ·
    have dd1 := hd 1 (by kernel_rfl)
    have dd3 := hd 3 (by kernel_rfl)
    clear hd
    try generalize xF 1 = yy1 at *
    try generalize xF 3 = yy3 at *
    obtain rfl := dd1
    obtain rfl := dd3
    rw [if_pos (by rfl)]
    go_simp
    exact hK.out _ _ (Below.refl _ _) (rfl) (fun _ _ _ => ⟨trivial, trivial⟩)
   ·
    have dd4 := hd 4 (by kernel_rfl)
    clear hd
    try generalize xF 4 = yy4 at *
    obtain rfl := dd4
    obtain ⟨k0, k1, k2⟩ := XN.out _ hR
    rw [if_pos (by rfl)]
    go_simp
    exact hK.out _ _ (Below.refl _ _) (rfl) (fun _ _ _ => ⟨trivial, trivial⟩)
   ·
    clear hd
    have y8 := (hR.block _ (lt_of_block R8X.out)).trans R8X.out
    have e0 := boxc y8 0 _ rfl
    have e1 := boxc y8 1 _ rfl
    have e2 := boxc y8 2 _ rfl
    rw [if_pos (by rfl)]
    go_simp
    exact hK.out _ _ (Below.refl _ _) (rfl) (fun _ _ _ => ⟨trivial, trivial⟩)
   ·
    clear hd
    have y9 := (hR.block _ (lt_of_block R9X.out)).trans R9X.out
    have e0 := boxc y9 0 _ rfl
    have e1 := boxc y9 1 _ rfl
    have e2 := boxc y9 2 _ rfl
    have e3 := boxc y9 3 _ rfl
    rw [if_pos (by rfl)]
    go_simp
    exact hK.out _ _ (Below.refl _ _) (rfl) (fun _ _ _ => ⟨trivial, trivial⟩)
   ·
    have dd6 := hd 6 (by kernel_rfl)
    have dd7 := hd 7 (by kernel_rfl)
    clear hd
    try generalize xF 6 = yy6 at *
    try generalize xF 7 = yy7 at *
    obtain rfl := dd6
    obtain rfl := dd7
    rw [if_pos (by rfl)]
    go_simp
    (go_at_call 9; (with_reducible refine (HAPL.out _ hR).mono ?_); rintro e wK ⟨u0, u1, u2, rfl, hu0, hu1, hbK⟩)
    try go_wp2_with fail
    exact hK.out _ _ (hbK) (⟨_, _, _, rfl, hu0, hu1⟩) (fun _ _ _ => ⟨trivial, trivial⟩)
   ·
    have dd5 := hd 5 (by kernel_rfl)
    have dd8 := hd 8 (by kernel_rfl)
    clear hd
    try generalize xF 5 = yy5 at *
    try generalize xF 8 = yy8 at *
    obtain rfl := dd5
    obtain ⟨u0, u1, u2, rfl, hu0, hu1⟩ := dd8
    rw [if_pos (by rfl)]
    go_simp
    (go_at_call 14; (with_reducible refine (HSAM.out _ u0 u1 u2 hR hu0 hu1).mono ?_); rintro e wK ⟨rfl, hbK⟩)
    try go_wp2_with fail
    exact hK.out _ _ (hbK) (rfl) (fun _ _ _ => ⟨trivial, trivial⟩)
   ·
    have dd9 := hd 9 (by kernel_rfl)
    clear hd
    try generalize xF 9 = yy9 at *
    obtain rfl := dd9
    rw [if_pos (by rfl)]
    go_simp
    exact hK.out _ _ (Below.refl _ _) (rfl) (fun _ _ _ => ⟨trivial, trivial⟩)
   ·
    have dd10 := hd 10 (by kernel_rfl)
    clear hd
    try generalize xF 10 = yy10 at *
    obtain rfl := dd10
    have y9 := (hR.block _ (lt_of_block R9X.out)).trans R9X.out
    have e0 := boxc y9 0 _ rfl
    have e1 := boxc y9 1 _ rfl
    have e2 := boxc y9 2 _ rfl
    have e3 := boxc y9 3 _ rfl
    rw [if_pos (by rfl)]
    go_simp
    exact hK.out _ _ (Below.refl _ _) (rfl) (fun _ _ _ => ⟨trivial, trivial⟩)
   ·
    have dd10 := hd 10 (by kernel_rfl)
    have dd11 := hd 11 (by kernel_rfl)
    clear hd
    try generalize xF 10 = yy10 at *
    try generalize xF 11 = yy11 at *
    obtain rfl := dd10
    obtain rfl := dd11
    rw [if_pos (by rfl)]
    go_simp
    (go_at_call 12; (with_reducible refine (HRDC.out _ hR).mono ?_); rintro e wK ⟨rfl, hbK⟩)
    try go_wp2_with fail
    exact hK.out _ _ (hbK) (rfl) (fun _ _ _ => ⟨trivial, trivial⟩)
   ·
    have dd10 := hd 10 (by kernel_rfl)
    have dd12 := hd 12 (by kernel_rfl)
    clear hd
    try generalize xF 10 = yy10 at *
    try generalize xF 12 = yy12 at *
    obtain rfl := dd10
    obtain rfl := dd12
    rw [if_pos (by rfl)]
    go_simp
    exact hK.out _ _ (Below.refl _ _) (rfl) (fun _ _ _ => ⟨trivial, trivial⟩)
  intro xF wz hR hF hP
  clear hP
  have dd0 := hF 0 (by omega) (by decide)
  have dd1 := hF 1 (by omega) (by decide)
  have dd2 := hF 2 (by omega) (by decide)
  have dd3 := hF 3 (by omega) (by decide)
  have dd4 := hF 4 (by omega) (by decide)
  have dd5 := hF 5 (by omega) (by decide)
  have dd6 := hF 6 (by omega) (by decide)
  have dd7 := hF 7 (by omega) (by decide)
  have dd8 := hF 8 (by omega) (by decide)
  have dd9 := hF 9 (by omega) (by decide)
  have dd10 := hF 10 (by omega) (by decide)
  have dd11 := hF 11 (by omega) (by decide)
  have dd12 := hF 12 (by omega) (by decide)
  have dd13 := hF 13 (by omega) (by decide)
  clear hF
  simp only [take_succ_cons, take_zero, drop_succ_cons, drop_zero, fillOf, Act.put, setIfInBounds_toArray, set_cons_zero, set_cons_succ, Nat.reduceAdd, Nat.zero_add]
  try generalize xF 0 = yy0 at *
  try generalize xF 1 = yy1 at *
  try generalize xF 2 = yy2 at *
  try generalize xF 3 = yy3 at *
  try generalize xF 4 = yy4 at *
  try generalize xF 5 = yy5 at *
  try generalize xF 6 = yy6 at *
  try generalize xF 7 = yy7 at *
  try generalize xF 8 = yy8 at *
  try generalize xF 9 = yy9 at *
  try generalize xF 10 = yy10 at *
  try generalize xF 11 = yy11 at *
  try generalize xF 12 = yy12 at *
  try generalize xF 13 = yy13 at *
  clear xF
  obtain rfl := dd0
  obtain rfl := dd1
  obtain rfl := dd2
  obtain rfl := dd3
  obtain rfl := dd4
  obtain rfl := dd5
  obtain rfl := dd6
  obtain rfl := dd7
  obtain ⟨u0, u1, u2, rfl, hu0, hu1⟩ := dd8
  obtain rfl := dd9
  obtain rfl := dd10
  obtain rfl := dd11
  obtain rfl := dd12
  obtain rfl := dd13
  have hRE := Lib.hid hR
  clear hR
  go_wp2_with fail
  go_ret
  exact ⟨rfl, gN, _, HBX10.out.on hRE, HPZ.out.on hRE, HINN.out, HBW.out _ hRE⟩
end Go.Proofs.YthpdmfkpiekonaaGreat
