/- texts put together: DelEnds, Close. -/
import Derived.Test.YtonknpdalemjkaaGreatDe23
import Derived.Test.YtonknpdalemjkaaGreatDe26
import Derived.Carry
import Derived.Deep.DeepHandedRow
import Derived.JoinedCond
import Derived.Lib.LaidTab
import Derived.OpenShut
import Derived.ProofKit
import Derived.Test.YtonknpdalemjkaaGreatRows
import Derived.WalkKit
open List (setIfInBounds_toArray set_cons_zero set_cons_succ take_succ_cons take_zero drop_succ_cons drop_zero)
namespace Go.Proofs.YtonknpdalemjkaaGreat
open Go Go.RowKit Go.ChangeShapes cl
set_option maxHeartbeats 12800000 in
set_option maxRecDepth 100000 in
theorem ends_any (l : List (List Int)) (f : Int) (v : Value) (w : World) (hm : MX w) (h : KInts 4 w w.heap.size v l) :
  Calls Tryz.prog 6 #[v, .int .i64 f] w (Said true w) := by
 have HTWO := Lib.hid (two_any l v w h hm)
 have HAW : Hid (∀ W, Below w.heap.size w W → Calls Tryz.prog 11 #[] W (Said true W)) := fun W hW => awake_any W (MX.next hm hW)
 have HMM := Lib.hid hm
 obtain ⟨ao, n, cap, rfl⟩ : ∃ ao n cap, v = .slice ao n cap := by
  obtain ⟨ao, cap, e, _, h9⟩ := h.form
  exact ⟨ao, _, cap, e⟩
 obtain ⟨i, hi0, hi2⟩ := u64_rem f 2 (by decide)
 have hie : (IntKind.u64.wrap f).tmod 2 = (i : Int) := hi0
 have hii : IntKind.i64.wrap (i : Int) = (i : Int) := IntWalk.i64_in _ (by omega)
 have hi2i : (i : Int) < 2 := by omega
 have hi0i : 0 ≤ (i : Int) := by omega
 clear hi0
 clear h hm
 go_enter Tryz.func6, Tryz.ntmps6
 go_wp2_with fail
 (with_reducible refine HTWO.out.mono ?_)
 rintro e w1 hT
 rcases two_says HMM.out hT with ⟨_, rfl, hb⟩ | ⟨za0, zn0, zc0, za1, zn1, zc1, za2, zn2, zc2, za3, zn3, zc3, za4, zn4, zc4, za5, zn5, zc5, s, rfl, hLT, hS0, hS1, hAd, h50, hb⟩
 ·
  have HB := Lib.hid (hb.trans (below1 (o := .cells #[.slice none 0 0, .slice none 0 0, .slice none 0 0, .slice none 0 0, .slice none 0 0, .slice none 0 0] 41)|>.mono hb.size))
  clear hT hb
  go_wp2_with fail
  (with_reducible refine (HAW.out _ HB.out).mono ?_)
  rintro e w2 ⟨rfl, hb2⟩
  have HB2 := Lib.hid (HB.out.trans (hb2.mono HB.out.size))
  clear hb2
  go_wp2_with fail
  go_ret
  exact ⟨rfl, HB2.out⟩
 obtain ⟨b4, hb4⟩ : ∃ b, b = w1.heap.size := ⟨_, rfl⟩
 obtain ⟨W0, hW0⟩ : ∃ W, W = w1.alloc (.cells #[.slice za0 zn0 zc0, .slice za1 zn1 zc1, .slice za2 zn2 zc2, .slice za3 zn3 zc3, .slice za4 zn4 zc4, .slice za5 zn5 zc5] 41) := ⟨_, rfl⟩
 have hb0 : Below w1.heap.size w1 W0 := by rw [hW0]; exact below1
 have HLT := Lib.hid (hLT W0 b4 hb0 (by rw [hW0, hb4]; exact heap_alloc_new w1 _))
 have HB := Lib.hid (hb.trans (hb0.mono hb.size))
 have HW0 := Lib.hid hW0
 have HB4 := Lib.hid hb4
 have HAD := Lib.hid hAd
 have HS0 := Lib.hid hS0
 have HS1 := Lib.hid hS1
 have HW1 := Lib.hid hb0
 clear hT hLT hAd h50 hb hb0 hW0 hb4 hS0 hS1
 obtain ⟨j, hj⟩ : ∃ j : Nat, j = 1 - i := ⟨_, rfl⟩
 have hj2 : j < 2 := by omega
 have hj2i : (j : Int) < 2 := by omega
 have hj0i : 0 ≤ (j : Int) := by omega
 have HSUB : Hid (IntKind.i64.wrap (1 - (i : Int)) = (j : Int)) := by
  show _ = _
  rw [IntWalk.i64_in _ (by omega)]; omega
 clear hj
 obtain ⟨pa0, pn0, pc0, pa1, pn1, pc1, pa2, pn2, pc2, Np, Xp, Ep, Op⟩ := HLT.out.get (i := i) (hi2)
 replace Np := Lib.hid Np
 replace Xp := Lib.hid Xp
 replace Ep := Lib.hid Ep
 replace Op := Lib.hid Op
 obtain ⟨qa0, qn0, qc0, qa1, qn1, qc1, qa2, qn2, qc2, Nq, Xq, Eq, Oq⟩ := HLT.out.get (i := j) (hj2)
 replace Nq := Lib.hid Nq
 replace Xq := Lib.hid Xq
 replace Eq := Lib.hid Eq
 replace Oq := Lib.hid Oq
 have HS1 : Hid (∀ W, Below W0.heap.size W0 W → Calls Tryz.prog 13 #[.agg #[.slice qa0 qn0 qc0, .slice qa1 qn1 qc1, .slice qa2 qn2 qc2], .agg #[.slice pa1 pn1 pc1, .slice pa2 pn2 pc2]] W fun e w' => ∃ d, e = .returned d ∧ SncV 0 (s.l j) (s.c j) (s.c i) d w' ∧ Below W.heap.size W w') := fun W hW => (HLT.out.on hW).since hj2 (Eq.out W hW) (Op.out W hW) (HLT.out.inv.set i hi2).right
 have HA1 : Hid (∀ W d, Below W0.heap.size W0 W → SncV 0 (s.l j) (s.c j) (s.c i) d W → Calls Tryz.prog 24 #[.agg #[.slice pa0 pn0 pc0, .slice pa1 pn1 pc1, .slice pa2 pn2 pc2], d] W fun e w' => ∃ v', e = .returned v' ∧ MrgV 0 (s.l i) (s.c i) (s.l j) (s.c j) v' w' ∧ Below W.heap.size W w') := fun W d hW hd => (HLT.out.on hW).apply hi2 hj2 (Ep.out W hW) hd (fun _ h => h)
 have HS3 : Hid (∀ W, Below W0.heap.size W0 W → Calls Tryz.prog 13 #[.agg #[.slice pa0 pn0 pc0, .slice pa1 pn1 pc1, .slice pa2 pn2 pc2], .agg #[.slice qa1 qn1 qc1, .slice qa2 qn2 qc2]] W fun e w' => ∃ d, e = .returned d ∧ SncV 0 (s.l i) (s.c i) (s.c j) d w' ∧ Below W.heap.size W w') := fun W hW => (HLT.out.on hW).since hi2 (Ep.out W hW) (Oq.out W hW) (HLT.out.inv.set j hj2).right
 have HA3 : Hid (∀ W d, Below W0.heap.size W0 W → SncV 0 (s.l i) (s.c i) (s.c j) d W → Calls Tryz.prog 24 #[.agg #[.slice qa0 qn0 qc0, .slice qa1 qn1 qc1, .slice qa2 qn2 qc2], d] W fun e w' => ∃ v', e = .returned v' ∧ MrgV 0 (s.l j) (s.c j) (s.l i) (s.c i) v' w' ∧ Below W.heap.size W w') := fun W d hW hd => (HLT.out.on hW).apply hj2 hi2 (Eq.out W hW) hd (fun _ h => h)
 go_wp2_with fail
 rw [← HW0.out, ← HB4.out]
 refine wp_flow 14 (fun _ => 1000) (fun ww => RowKit.Below W0.heap.size W0 ww) (fun _ w w' => (fun (w w' : World) => RowKit.Below w.heap.size w w') w w') (fun kF vF wF => match kF with | 0 => (vF = .int .i64 (i : Int)) | 1 => (vF = .pointer (some ⟨b4, i * 3, none⟩)) | 2 => (vF = .agg #[.slice pa0 pn0 pc0, .slice pa1 pn1 pc1, .slice pa2 pn2 pc2]) | 3 => (vF = .int .i64 (i : Int)) | 4 => (vF = .int .i64 (j : Int)) | 5 => (vF = .pointer (some ⟨b4, j * 3, none⟩)) | 6 => (vF = .agg #[.slice qa0 qn0 qc0, .slice qa1 qn1 qc1, .slice qa2 qn2 qc2]) | 7 => (vF = .int .i64 (i : Int)) | 8 => (vF = .pointer (some ⟨b4, i * 3, none⟩)) | 9 => (vF = .pointer (some ⟨b4, i * 3 + 1, none⟩)) | 10 => (vF = .agg #[.slice pa1 pn1 pc1, .slice pa2 pn2 pc2]) | 11 => (SncV 0 (s.l j) (s.c j) (s.c i) vF wF) | 12 => (MrgV 0 (s.l i) (s.c i) (s.l j) (s.c j) vF wF) | 13 => (∃ g, vF = .pointer (some ⟨g, 0, none⟩) ∧ wF.heap[g]? = some (.cells #[.slice none 0 0, .slice none 0 0, .slice none 0 0] 27 (0, 0)) ∧ W0.heap.size ≤ g) | _ => True) (fun _ _ _ _ => True) (by kernel_rfl) (by kernel_rfl) ?_ ?_ ?_ ?_ ?_
 ·
  exact (Below.refl _ _).drew
 ·
  intro iF wF1 wF2 hR hT; exact hR.trans (hT.mono hR.size)
 ·
  intro kF hkF iF hiF hne hdd hanc hdan vF wF1 wF2 h hT
  rcases (by omega : kF = 0 ∨ kF = 1 ∨ kF = 2 ∨ kF = 3 ∨ kF = 4 ∨ kF = 5 ∨ kF = 6 ∨ kF = 7 ∨ kF = 8 ∨ kF = 9 ∨ kF = 10 ∨ kF = 11 ∨ kF = 12 ∨ kF = 13) with rfl | rfl | rfl | rfl | rfl | rfl | rfl | rfl | rfl | rfl | rfl | rfl | rfl | rfl
  iterate 11 exact h
  ·
   have h : (SncV 0 (s.l j) (s.c j) (s.c i) vF wF1) := h
   show (SncV 0 (s.l j) (s.c j) (s.c i) vF wF2)
   have hT : (fun (w w' : World) => RowKit.Below w.heap.size w w') wF1 wF2 := hT
   simp only at hT
   exact (sncV_kept _ _ _ _).on h hT
  ·
   have h : (MrgV 0 (s.l i) (s.c i) (s.l j) (s.c j) vF wF1) := h
   show (MrgV 0 (s.l i) (s.c i) (s.l j) (s.c j) vF wF2)
   have hT : (fun (w w' : World) => RowKit.Below w.heap.size w w') wF1 wF2 := hT
   simp only at hT
   exact (mrgV_kept _ _ _ _ _).on h hT
  ·
   have h : (∃ g, vF = .pointer (some ⟨g, 0, none⟩) ∧ wF1.heap[g]? = some (.cells #[.slice none 0 0, .slice none 0 0, .slice none 0 0] 27 (0, 0)) ∧ W0.heap.size ≤ g) := h
   show (∃ g, vF = .pointer (some ⟨g, 0, none⟩) ∧ wF2.heap[g]? = some (.cells #[.slice none 0 0, .slice none 0 0, .slice none 0 0] 27 (0, 0)) ∧ W0.heap.size ≤ g)
   have hT : (fun (w w' : World) => RowKit.Below w.heap.size w w') wF1 wF2 := hT
   simp only at hT
   obtain ⟨g, e, h1, h2⟩ := h
   exact ⟨g, e, (hT.block _ (lt_of_block h1)).trans h1, h2⟩
 ·
  generalize hAF : fillOf _ _ _ = AF
  replace hAF := fun x => congrFun hAF x
  simp only [take_succ_cons, take_zero, fillOf, Act.put, setIfInBounds_toArray, set_cons_zero, set_cons_succ, Nat.reduceAdd, Nat.zero_add] at hAF
  refine .cons ?_ (.cons ?_ (.cons ?_ (.cons ?_ (.cons ?_ (.cons ?_ (.cons ?_ (.cons ?_ (.cons ?_ (.cons ?_ (.cons ?_ (.cons ?_ (.cons ?_ (.cons ?_ (.nil))))))))))))))
  all_goals
   intro xF w3 hR hd K hK
   first | simp only [← hAF, Act.put, setIfInBounds_toArray, set_cons_zero, set_cons_succ] at hK ⊢ | simp only [← hAF, Act.put] at hK ⊢
   clear hAF
   try simp only [Nat.zero_add, Nat.reduceAdd] at hK ⊢
  ·
   clear hd
   rw [if_pos (by rfl)]
   go_simp
   exact hK.out _ _ (Below.refl _ _) (rfl) (fun _ _ _ => ⟨trivial, trivial⟩)
  ·
   have dd0 := hd 0 (by kernel_rfl)
   clear hd
   try generalize xF 0 = yy0 at *
   obtain rfl := dd0
   rw [if_pos (by rfl)]
   go_simp
   exact hK.out _ _ (Below.refl _ _) (rfl) (fun _ _ _ => ⟨trivial, trivial⟩)
  ·
   have dd1 := hd 1 (by kernel_rfl)
   clear hd
   try generalize xF 1 = yy1 at *
   obtain rfl := dd1
   obtain ⟨e0, e1, e2⟩ := Xp.out _ hR
   rw [if_pos (by rfl)]
   go_simp
   exact hK.out _ _ (Below.refl _ _) (rfl) (fun _ _ _ => ⟨trivial, trivial⟩)
  ·
   clear hd
   rw [if_pos (by rfl)]
   go_simp
   exact hK.out _ _ (Below.refl _ _) (rfl) (fun _ _ _ => ⟨trivial, trivial⟩)
  ·
   have dd3 := hd 3 (by kernel_rfl)
   clear hd
   try generalize xF 3 = yy3 at *
   obtain rfl := dd3
   have hs := HSUB.out
   rw [if_pos (by rfl)]
   go_simp
   exact hK.out _ _ (Below.refl _ _) (rfl) (fun _ _ _ => ⟨trivial, trivial⟩)
  ·
   have dd4 := hd 4 (by kernel_rfl)
   clear hd
   try generalize xF 4 = yy4 at *
   obtain rfl := dd4
   rw [if_pos (by rfl)]
   go_simp
   exact hK.out _ _ (Below.refl _ _) (rfl) (fun _ _ _ => ⟨trivial, trivial⟩)
  ·
   have dd5 := hd 5 (by kernel_rfl)
   clear hd
   try generalize xF 5 = yy5 at *
   obtain rfl := dd5
   obtain ⟨e0, e1, e2⟩ := Xq.out _ hR
   rw [if_pos (by rfl)]
   go_simp
   exact hK.out _ _ (Below.refl _ _) (rfl) (fun _ _ _ => ⟨trivial, trivial⟩)
  ·
   clear hd
   rw [if_pos (by rfl)]
   go_simp
   exact hK.out _ _ (Below.refl _ _) (rfl) (fun _ _ _ => ⟨trivial, trivial⟩)
  ·
   have dd7 := hd 7 (by kernel_rfl)
   clear hd
   try generalize xF 7 = yy7 at *
   obtain rfl := dd7
   rw [if_pos (by rfl)]
   go_simp
   exact hK.out _ _ (Below.refl _ _) (rfl) (fun _ _ _ => ⟨trivial, trivial⟩)
  ·
   have dd8 := hd 8 (by kernel_rfl)
   clear hd
   try generalize xF 8 = yy8 at *
   obtain rfl := dd8
   rw [if_pos (by rfl)]
   go_simp
   exact hK.out _ _ (Below.refl _ _) (rfl) (fun _ _ _ => ⟨trivial, trivial⟩)
  ·
   have dd9 := hd 9 (by kernel_rfl)
   clear hd
   try generalize xF 9 = yy9 at *
   obtain rfl := dd9
   obtain ⟨e0, e1, e2⟩ := Xp.out _ hR
   rw [if_pos (by rfl)]
   go_simp
   exact hK.out _ _ (Below.refl _ _) (rfl) (fun _ _ _ => ⟨trivial, trivial⟩)
  ·
   have dd6 := hd 6 (by kernel_rfl)
   have dd10 := hd 10 (by kernel_rfl)
   clear hd
   try generalize xF 6 = yy6 at *
   try generalize xF 10 = yy10 at *
   obtain rfl := dd6
   obtain rfl := dd10
   rw [if_pos (by rfl)]
   go_simp
   (go_at_call 13; (with_reducible refine (HS1.out _ hR).mono ?_); rintro e wK ⟨vK, rfl, hpK, hbK⟩)
   try go_wp2_with fail
   exact hK.out _ _ (hbK) (hpK) (fun _ _ _ => ⟨trivial, trivial⟩)
  ·
   have dd2 := hd 2 (by kernel_rfl)
   have dd11 : (SncV 0 (s.l j) (s.c j) (s.c i) (xF 11) w3) := hd 11 (by kernel_rfl)
   clear hd
   try generalize xF 2 = yy2 at *
   try generalize xF 11 = yy11 at *
   obtain rfl := dd2
   have hp11 := dd11
   rw [if_pos (by rfl)]
   go_simp
   (go_at_call 24; (with_reducible refine (HA1.out _ _ hR hp11).mono ?_); rintro e wK ⟨vK, rfl, hpK, hbK⟩)
   try go_wp2_with fail
   exact hK.out _ _ (hbK) (hpK) (fun _ _ _ => ⟨trivial, trivial⟩)
  ·
   clear hd
   rw [if_pos (by rfl)]
   go_simp
   exact hK.out _ _ (below1) (⟨_, rfl, heap_alloc_new _ _, hR.size⟩) (fun _ _ _ => ⟨trivial, trivial⟩)
 intro xF w3 hR hF hP
 clear hP
 have dd0 := hF 0 (by omega) (by decide)
 have dd1 := hF 1 (by omega) (by decide)
 have dd2 := hF 2 (by omega) (by decide)
 have dd3 := hF 3 (by omega) (by decide)
 have dd4 := hF 4 (by omega) (by decide)
 have dd5 := hF 5 (by omega) (by decide)
 have dd6 := hF 6 (by omega) (by decide)
 have dd7 := hF 7 (by omega) (by decide)
 have dd8 := hF 8 (by omega) (by decide)
 have dd9 := hF 9 (by omega) (by decide)
 have dd10 := hF 10 (by omega) (by decide)
 have dd11 : (SncV 0 (s.l j) (s.c j) (s.c i) (xF 11) w3) := hF 11 (by omega) (by decide)
 have dd12 : (MrgV 0 (s.l i) (s.c i) (s.l j) (s.c j) (xF 12) w3) := hF 12 (by omega) (by decide)
 have dd13 := hF 13 (by omega) (by decide)
 clear hF
 simp only [take_succ_cons, take_zero, drop_succ_cons, drop_zero, fillOf, Act.put, setIfInBounds_toArray, set_cons_zero, set_cons_succ, Nat.reduceAdd, Nat.zero_add]
 try generalize xF 0 = yy0 at *
 try generalize xF 1 = yy1 at *
 try generalize xF 2 = yy2 at *
 try generalize xF 3 = yy3 at *
 try generalize xF 4 = yy4 at *
 try generalize xF 5 = yy5 at *
 try generalize xF 6 = yy6 at *
 try generalize xF 7 = yy7 at *
 try generalize xF 8 = yy8 at *
 try generalize xF 9 = yy9 at *
 try generalize xF 10 = yy10 at *
 try generalize xF 11 = yy11 at *
 try generalize xF 12 = yy12 at *
 try generalize xF 13 = yy13 at *
 clear xF
 obtain rfl := dd0
 obtain rfl := dd1
 obtain rfl := dd2
 obtain rfl := dd3
 obtain rfl := dd4
 obtain rfl := dd5
 obtain rfl := dd6
 obtain rfl := dd7
 obtain rfl := dd8
 obtain rfl := dd9
 obtain rfl := dd10
 have hp11 := dd11
 have hp12 := dd12
 obtain ⟨gA, rfl, hgA, hlA⟩ := dd13
 have hRE := Lib.hid hR
 clear hR
 obtain ⟨M, D, ⟨xa0, xn0, xc0, xa1, xn1, xc1, xa2, xn2, xc2, rfl, hE, hC⟩, hG⟩ := hp12.mg
 have HLA := Lib.hid hlA
 have HGA := Lib.hid hgA
 have k0 := boxc hgA 0 _ rfl
 have f0 := boxf hgA 0
 have k1 := boxc hgA 1 _ rfl
 have f1 := boxf hgA 1
 have k2 := boxc hgA 2 _ rfl
 have f2 := boxf hgA 2
 obtain ⟨W4, hW4⟩ : ∃ W, W = ((w3.setCell ⟨gA, 0, none⟩ (.slice xa0 xn0 xc0)).setCell ⟨gA, 1, none⟩ (.slice xa1 xn1 xc1)).setCell ⟨gA, 2, none⟩ (.slice xa2 xn2 xc2) := ⟨_, rfl⟩
 have t0 := heap_setCell_same _ gA 0 _ _ (.slice xa0 xn0 xc0) hgA
 have t1 := heap_setCell_same _ gA 1 _ _ (.slice xa1 xn1 xc1) t0
 have t2 := heap_setCell_same _ gA 2 _ _ (.slice xa2 xn2 xc2) t1
 have Ya : Hid (W4.heap[gA]? = some (.cells #[.slice xa0 xn0 xc0, .slice xa1 xn1 xc1, .slice xa2 xn2 xc2] 27 (0, 0))) := by show _ = _; rw [hW4]; exact t2
 have hkt : Kt 27 w3 W4 := by rw [hW4]; exact set3_kt hgA _ _ _
 have SEa : Hid (SetE 0 M D (.agg #[.slice xa0 xn0 xc0, .slice xa1 xn1 xc1, .slice xa2 xn2 xc2]) W4) := ⟨_, _, _, _, _, _, _, _, _, rfl, hE.kt hkt (by decide), hC.kt hkt (by decide)⟩
 have DW0W4 : Hid (Below W0.heap.size W0 W4) := by
  show Below _ _ _
  rw [hW4]
  exact (Below.setCell (Below.setCell (Below.setCell hRE.out HLA.out _) HLA.out _) HLA.out _)
 have HWW4 := Lib.hid hW4
 clear hgA hlA hW4 hkt hRE t0 t1 t2
 go_wp2_with fail
 rw [← HWW4.out]
 obtain ⟨ga, hga⟩ : ∃ g, g = gA := ⟨_, rfl⟩
 rw [← hga] at Ya ⊢
 clear HGA HLA hga k0 f0 k1 f1 k2 f2
 have HG := Lib.hid hG
 clear hG
 have HLM := Lib.hid (HG.out.len HLT.out.inv hi2 hj2)
 have HS2 : Hid (∀ W, Below W4.heap.size W4 W → Calls Tryz.prog 13 #[.agg #[.slice xa0 xn0 xc0, .slice xa1 xn1 xc1, .slice xa2 xn2 xc2], .agg #[.slice qa1 qn1 qc1, .slice qa2 qn2 qc2]] W fun e w' => ∃ d, e = .returned d ∧ SncV 0 M D (s.c j) d w' ∧ Below W.heap.size W w') := fun W hW => since_v M D (s.c j) _ _ _ W ((setE_kept _ _ _).on SEa.out hW) (Oq.out W (DW0W4.out.trans (hW.mono DW0W4.out.size))) HLM.out.2.2.2 (HLT.out.inv.set j hj2).right (by have := HLM.out.1; omega) (by have := HLM.out.2.2.1; omega) (by have := HLM.out.2.1; omega) (HLT.out.on (DW0W4.out.trans (hW.mono DW0W4.out.size))).mx
 have HA2 : Hid (∀ W d, Below W4.heap.size W4 W → SncV 0 M D (s.c j) d W → Calls Tryz.prog 24 #[.agg #[.slice qa0 qn0 qc0, .slice qa1 qn1 qc1, .slice qa2 qn2 qc2], d] W fun e w' => ∃ v', e = .returned v' ∧ MrgV 0 (s.l j) (s.c j) M D v' w' ∧ Below W.heap.size W w') := fun W d hW hd => apply_w (s.l j) M (s.c j) D (s.c j) _ _ W (Eq.out W (DW0W4.out.trans (hW.mono DW0W4.out.size))) hd (HLT.out.inv.set j hj2) HLM.out.2.2.2 (fun _ h => h) (by have := HLT.out.inv.len hj2; omega) (by have := HLM.out.1; omega) (by have := HLT.out.inv.cloud hj2; omega) (by have := HLM.out.2.1; omega) (HLT.out.on (DW0W4.out.trans (hW.mono DW0W4.out.size))).mx
 refine wp_flow 13 (fun _ => 1000) (fun ww => RowKit.Below W4.heap.size W4 ww) (fun _ w w' => (fun (w w' : World) => RowKit.Below w.heap.size w w') w w') (fun kF vF wF => match kF with | 0 => (vF = .int .i64 (i : Int)) | 1 => (vF = .int .i64 (j : Int)) | 2 => (vF = .pointer (some ⟨b4, j * 3, none⟩)) | 3 => (vF = .agg #[.slice qa0 qn0 qc0, .slice qa1 qn1 qc1, .slice qa2 qn2 qc2]) | 4 => (vF = .agg #[.slice xa0 xn0 xc0, .slice xa1 xn1 xc1, .slice xa2 xn2 xc2]) | 5 => (vF = .int .i64 (i : Int)) | 6 => (vF = .int .i64 (j : Int)) | 7 => (vF = .pointer (some ⟨b4, j * 3, none⟩)) | 8 => (vF = .pointer (some ⟨b4, j * 3 + 1, none⟩)) | 9 => (vF = .agg #[.slice qa1 qn1 qc1, .slice qa2 qn2 qc2]) | 10 => (SncV 0 M D (s.c j) vF wF) | 11 => (MrgV 0 (s.l j) (s.c j) M D vF wF) | 12 => (∃ g, vF = .pointer (some ⟨g, 0, none⟩) ∧ wF.heap[g]? = some (.cells #[.slice none 0 0, .slice none 0 0, .slice none 0 0] 27 (0, 0)) ∧ W4.heap.size ≤ g) | _ => True) (fun _ _ _ _ => True) (by kernel_rfl) (by kernel_rfl) ?_ ?_ ?_ ?_ ?_
 ·
  exact (Below.refl _ _).drew
 ·
  intro iF wF1 wF2 hR hT; exact hR.trans (hT.mono hR.size)
 ·
  intro kF hkF iF hiF hne hdd hanc hdan vF wF1 wF2 h hT
  rcases (by omega : kF = 0 ∨ kF = 1 ∨ kF = 2 ∨ kF = 3 ∨ kF = 4 ∨ kF = 5 ∨ kF = 6 ∨ kF = 7 ∨ kF = 8 ∨ kF = 9 ∨ kF = 10 ∨ kF = 11 ∨ kF = 12) with rfl | rfl | rfl | rfl | rfl | rfl | rfl | rfl | rfl | rfl | rfl | rfl | rfl
  iterate 10 exact h
  ·
   have h : (SncV 0 M D (s.c j) vF wF1) := h
   show (SncV 0 M D (s.c j) vF wF2)
   have hT : (fun (w w' : World) => RowKit.Below w.heap.size w w') wF1 wF2 := hT
   simp only at hT
   exact (sncV_kept _ _ _ _).on h hT
  ·
   have h : (MrgV 0 (s.l j) (s.c j) M D vF wF1) := h
   show (MrgV 0 (s.l j) (s.c j) M D vF wF2)
   have hT : (fun (w w' : World) => RowKit.Below w.heap.size w w') wF1 wF2 := hT
   simp only at hT
   exact (mrgV_kept _ _ _ _ _).on h hT
  ·
   have h : (∃ g, vF = .pointer (some ⟨g, 0, none⟩) ∧ wF1.heap[g]? = some (.cells #[.slice none 0 0, .slice none 0 0, .slice none 0 0] 27 (0, 0)) ∧ W4.heap.size ≤ g) := h
   show (∃ g, vF = .pointer (some ⟨g, 0, none⟩) ∧ wF2.heap[g]? = some (.cells #[.slice none 0 0, .slice none 0 0, .slice none 0 0] 27 (0, 0)) ∧ W4.heap.size ≤ g)
   have hT : (fun (w w' : World) => RowKit.Below w.heap.size w w') wF1 wF2 := hT
   simp only at hT
   obtain ⟨g, e, h1, h2⟩ := h
   exact ⟨g, e, (hT.block _ (lt_of_block h1)).trans h1, h2⟩
 ·
  generalize hAF : fillOf _ _ _ = AF
  replace hAF := fun x => congrFun hAF x
  simp only [take_succ_cons, take_zero, fillOf, Act.put, setIfInBounds_toArray, set_cons_zero, set_cons_succ, Nat.reduceAdd, Nat.zero_add] at hAF
  refine .cons ?_ (.cons ?_ (.cons ?_ (.cons ?_ (.cons ?_ (.cons ?_ (.cons ?_ (.cons ?_ (.cons ?_ (.cons ?_ (.cons ?_ (.cons ?_ (.cons ?_ (.nil)))))))))))))
  all_goals
   intro xF w5 hR hd K hK
   first | simp only [← hAF, Act.put, setIfInBounds_toArray, set_cons_zero, set_cons_succ] at hK ⊢ | simp only [← hAF, Act.put] at hK ⊢
   clear hAF
   try simp only [Nat.zero_add, Nat.reduceAdd] at hK ⊢
  ·
   clear hd
   rw [if_pos (by rfl)]
   go_simp
   exact hK.out _ _ (Below.refl _ _) (rfl) (fun _ _ _ => ⟨trivial, trivial⟩)
  ·
   have dd0 := hd 0 (by kernel_rfl)
   clear hd
   try generalize xF 0 = yy0 at *
   obtain rfl := dd0
   have hs := HSUB.out
   rw [if_pos (by rfl)]
   go_simp
   exact hK.out _ _ (Below.refl _ _) (rfl) (fun _ _ _ => ⟨trivial, trivial⟩)
  ·
   have dd1 := hd 1 (by kernel_rfl)
   clear hd
   try generalize xF 1 = yy1 at *
   obtain rfl := dd1
   rw [if_pos (by rfl)]
   go_simp
   exact hK.out _ _ (Below.refl _ _) (rfl) (fun _ _ _ => ⟨trivial, trivial⟩)
  ·
   have dd2 := hd 2 (by kernel_rfl)
   clear hd
   try generalize xF 2 = yy2 at *
   obtain rfl := dd2
   obtain ⟨e0, e1, e2⟩ := Xq.out _ (DW0W4.out.trans (hR.mono DW0W4.out.size))
   rw [if_pos (by rfl)]
   go_simp
   exact hK.out _ _ (Below.refl _ _) (rfl) (fun _ _ _ => ⟨trivial, trivial⟩)
  ·
   clear hd
   have k9 := (hR.block _ (lt_of_block Ya.out)).trans Ya.out
   have k90 := boxc k9 0 _ rfl
   have k91 := boxc k9 1 _ rfl
   have k92 := boxc k9 2 _ rfl
   rw [if_pos (by rfl)]
   go_simp
   exact hK.out _ _ (Below.refl _ _) (rfl) (fun _ _ _ => ⟨trivial, trivial⟩)
  ·
   clear hd
   rw [if_pos (by rfl)]
   go_simp
   exact hK.out _ _ (Below.refl _ _) (rfl) (fun _ _ _ => ⟨trivial, trivial⟩)
  ·
   have dd5 := hd 5 (by kernel_rfl)
   clear hd
   try generalize xF 5 = yy5 at *
   obtain rfl := dd5
   have hs := HSUB.out
   rw [if_pos (by rfl)]
   go_simp
   exact hK.out _ _ (Below.refl _ _) (rfl) (fun _ _ _ => ⟨trivial, trivial⟩)
  ·
   have dd6 := hd 6 (by kernel_rfl)
   clear hd
   try generalize xF 6 = yy6 at *
   obtain rfl := dd6
   rw [if_pos (by rfl)]
   go_simp
   exact hK.out _ _ (Below.refl _ _) (rfl) (fun _ _ _ => ⟨trivial, trivial⟩)
  ·
   have dd7 := hd 7 (by kernel_rfl)
   clear hd
   try generalize xF 7 = yy7 at *
   obtain rfl := dd7
   rw [if_pos (by rfl)]
   go_simp
   exact hK.out _ _ (Below.refl _ _) (rfl) (fun _ _ _ => ⟨trivial, trivial⟩)
  ·
   have dd8 := hd 8 (by kernel_rfl)
   clear hd
   try generalize xF 8 = yy8 at *
   obtain rfl := dd8
   obtain ⟨e0, e1, e2⟩ := Xq.out _ (DW0W4.out.trans (hR.mono DW0W4.out.size))
   rw [if_pos (by rfl)]
   go_simp
   exact hK.out _ _ (Below.refl _ _) (rfl) (fun _ _ _ => ⟨trivial, trivial⟩)
  ·
   have dd4 := hd 4 (by kernel_rfl)
   have dd9 := hd 9 (by kernel_rfl)
   clear hd
   try generalize xF 4 = yy4 at *
   try generalize xF 9 = yy9 at *
   obtain rfl := dd4
   obtain rfl := dd9
   rw [if_pos (by rfl)]
   go_simp
   (go_at_call 13; (with_reducible refine (HS2.out _ hR).mono ?_); rintro e wK ⟨vK, rfl, hpK, hbK⟩)
   try go_wp2_with fail
   exact hK.out _ _ (hbK) (hpK) (fun _ _ _ => ⟨trivial, trivial⟩)
  ·
   have dd3 := hd 3 (by kernel_rfl)
   have dd10 : (SncV 0 M D (s.c j) (xF 10) w5) := hd 10 (by kernel_rfl)
   clear hd
   try generalize xF 3 = yy3 at *
   try generalize xF 10 = yy10 at *
   obtain rfl := dd3
   have hp10 := dd10
   rw [if_pos (by rfl)]
   go_simp
   (go_at_call 24; (with_reducible refine (HA2.out _ _ hR hp10).mono ?_); rintro e wK ⟨vK, rfl, hpK, hbK⟩)
   try go_wp2_with fail
   exact hK.out _ _ (hbK) (hpK) (fun _ _ _ => ⟨trivial, trivial⟩)
  ·
   clear hd
   rw [if_pos (by rfl)]
   go_simp
   exact hK.out _ _ (below1) (⟨_, rfl, heap_alloc_new _ _, hR.size⟩) (fun _ _ _ => ⟨trivial, trivial⟩)
 intro xF w5 hR hF hP
 clear hP
 have dd0 := hF 0 (by omega) (by decide)
 have dd1 := hF 1 (by omega) (by decide)
 have dd2 := hF 2 (by omega) (by decide)
 have dd3 := hF 3 (by omega) (by decide)
 have dd4 := hF 4 (by omega) (by decide)
 have dd5 := hF 5 (by omega) (by decide)
 have dd6 := hF 6 (by omega) (by decide)
 have dd7 := hF 7 (by omega) (by decide)
 have dd8 := hF 8 (by omega) (by decide)
 have dd9 := hF 9 (by omega) (by decide)
 have dd10 : (SncV 0 M D (s.c j) (xF 10) w5) := hF 10 (by omega) (by decide)
 have dd11 : (MrgV 0 (s.l j) (s.c j) M D (xF 11) w5) := hF 11 (by omega) (by decide)
 have dd12 := hF 12 (by omega) (by decide)
 clear hF
 simp only [take_succ_cons, take_zero, drop_succ_cons, drop_zero, fillOf, Act.put, setIfInBounds_toArray, set_cons_zero, set_cons_succ, Nat.reduceAdd, Nat.zero_add]
 try generalize xF 0 = yy0 at *
 try generalize xF 1 = yy1 at *
 try generalize xF 2 = yy2 at *
 try generalize xF 3 = yy3 at *
 try generalize xF 4 = yy4 at *
 try generalize xF 5 = yy5 at *
 try generalize xF 6 = yy6 at *
 try generalize xF 7 = yy7 at *
 try generalize xF 8 = yy8 at *
 try generalize xF 9 = yy9 at *
 try generalize xF 10 = yy10 at *
 try generalize xF 11 = yy11 at *
 try generalize xF 12 = yy12 at *
 clear xF
 obtain rfl := dd0
 obtain rfl := dd1
 obtain rfl := dd2
 obtain rfl := dd3
 obtain rfl := dd4
 obtain rfl := dd5
 obtain rfl := dd6
 obtain rfl := dd7
 obtain rfl := dd8
 obtain rfl := dd9
 have hp10 := dd10
 have hp11 := dd11
 obtain ⟨gA, rfl, hgA, hlA⟩ := dd12
 have hRE := Lib.hid hR
 clear hR
 obtain ⟨N, F, ⟨ya0, yn0, yc0, ya1, yn1, yc1, ya2, yn2, yc2, rfl, hE, hC⟩, hG2⟩ := hp11.mg
 have HLA := Lib.hid hlA
 have HGA := Lib.hid hgA
 have k0 := boxc hgA 0 _ rfl
 have f0 := boxf hgA 0
 have k1 := boxc hgA 1 _ rfl
 have f1 := boxf hgA 1
 have k2 := boxc hgA 2 _ rfl
 have f2 := boxf hgA 2
 obtain ⟨W6, hW6⟩ : ∃ W, W = ((w5.setCell ⟨gA, 0, none⟩ (.slice ya0 yn0 yc0)).setCell ⟨gA, 1, none⟩ (.slice ya1 yn1 yc1)).setCell ⟨gA, 2, none⟩ (.slice ya2 yn2 yc2) := ⟨_, rfl⟩
 have t0 := heap_setCell_same _ gA 0 _ _ (.slice ya0 yn0 yc0) hgA
 have t1 := heap_setCell_same _ gA 1 _ _ (.slice ya1 yn1 yc1) t0
 have t2 := heap_setCell_same _ gA 2 _ _ (.slice ya2 yn2 yc2) t1
 have Yb : Hid (W6.heap[gA]? = some (.cells #[.slice ya0 yn0 yc0, .slice ya1 yn1 yc1, .slice ya2 yn2 yc2] 27 (0, 0))) := by show _ = _; rw [hW6]; exact t2
 have hkt : Kt 27 w5 W6 := by rw [hW6]; exact set3_kt hgA _ _ _
 have SEb : Hid (SetE 0 N F (.agg #[.slice ya0 yn0 yc0, .slice ya1 yn1 yc1, .slice ya2 yn2 yc2]) W6) := ⟨_, _, _, _, _, _, _, _, _, rfl, hE.kt hkt (by decide), hC.kt hkt (by decide)⟩
 have DW0W6 : Hid (Below W0.heap.size W0 W6) := by
  show Below _ _ _
  rw [hW6]
  exact (Below.setCell (Below.setCell (Below.setCell (DW0W4.out.trans (hRE.out.mono DW0W4.out.size)) (Nat.le_trans DW0W4.out.size HLA.out) _) (Nat.le_trans DW0W4.out.size HLA.out) _) (Nat.le_trans DW0W4.out.size HLA.out) _)
 have DW4W6 : Hid (Below W4.heap.size W4 W6) := by
  show Below _ _ _
  rw [hW6]
  exact (Below.setCell (Below.setCell (Below.setCell hRE.out HLA.out _) HLA.out _) HLA.out _)
 have HWW6 := Lib.hid hW6
 clear hgA hlA hW6 hkt hRE t0 t1 t2
 go_wp2_with fail
 rw [← HWW6.out]
 obtain ⟨gb, hgb⟩ : ∃ g, g = gA := ⟨_, rfl⟩
 rw [← hgb] at Yb ⊢
 clear HGA HLA hgb k0 f0 k1 f1 k2 f2
 have HG2 := Lib.hid hG2
 clear hG2
 refine wp_flow 15 (fun _ => 1000) (fun ww => RowKit.Below W6.heap.size W6 ww) (fun _ w w' => (fun (w w' : World) => RowKit.Below w.heap.size w w') w w') (fun kF vF wF => match kF with | 0 => (vF = .int .i64 (i : Int)) | 1 => (vF = .int .i64 (j : Int)) | 2 => (vF = .pointer (some ⟨b4, j * 3, none⟩)) | 3 => (vF = .agg #[.slice qa0 qn0 qc0, .slice qa1 qn1 qc1, .slice qa2 qn2 qc2]) | 4 => (vF = .int .i64 (i : Int)) | 5 => (vF = .pointer (some ⟨b4, i * 3, none⟩)) | 6 => (vF = .agg #[.slice pa0 pn0 pc0, .slice pa1 pn1 pc1, .slice pa2 pn2 pc2]) | 7 => (vF = .int .i64 (i : Int)) | 8 => (vF = .int .i64 (j : Int)) | 9 => (vF = .pointer (some ⟨b4, j * 3, none⟩)) | 10 => (vF = .pointer (some ⟨b4, j * 3 + 1, none⟩)) | 11 => (vF = .agg #[.slice qa1 qn1 qc1, .slice qa2 qn2 qc2]) | 12 => (SncV 0 (s.l i) (s.c i) (s.c j) vF wF) | 13 => (MrgV 0 (s.l j) (s.c j) (s.l i) (s.c i) vF wF) | 14 => (∃ g, vF = .pointer (some ⟨g, 0, none⟩) ∧ wF.heap[g]? = some (.cells #[.slice none 0 0, .slice none 0 0, .slice none 0 0] 27 (0, 0)) ∧ W6.heap.size ≤ g) | _ => True) (fun _ _ _ _ => True) (by kernel_rfl) (by kernel_rfl) ?_ ?_ ?_ ?_ ?_
 ·
  exact (Below.refl _ _).drew
 ·
  intro iF wF1 wF2 hR hT; exact hR.trans (hT.mono hR.size)
 ·
  intro kF hkF iF hiF hne hdd hanc hdan vF wF1 wF2 h hT
  rcases (by omega : kF = 0 ∨ kF = 1 ∨ kF = 2 ∨ kF = 3 ∨ kF = 4 ∨ kF = 5 ∨ kF = 6 ∨ kF = 7 ∨ kF = 8 ∨ kF = 9 ∨ kF = 10 ∨ kF = 11 ∨ kF = 12 ∨ kF = 13 ∨ kF = 14) with rfl | rfl | rfl | rfl | rfl | rfl | rfl | rfl | rfl | rfl | rfl | rfl | rfl | rfl | rfl
  iterate 12 exact h
  ·
   have h : (SncV 0 (s.l i) (s.c i) (s.c j) vF wF1) := h
   show (SncV 0 (s.l i) (s.c i) (s.c j) vF wF2)
   have hT : (fun (w w' : World) => RowKit.Below w.heap.size w w') wF1 wF2 := hT
   simp only at hT
   exact (sncV_kept _ _ _ _).on h hT
  ·
   have h : (MrgV 0 (s.l j) (s.c j) (s.l i) (s.c i) vF wF1) := h
   show (MrgV 0 (s.l j) (s.c j) (s.l i) (s.c i) vF wF2)
   have hT : (fun (w w' : World) => RowKit.Below w.heap.size w w') wF1 wF2 := hT
   simp only at hT
   exact (mrgV_kept _ _ _ _ _).on h hT
  ·
   have h : (∃ g, vF = .pointer (some ⟨g, 0, none⟩) ∧ wF1.heap[g]? = some (.cells #[.slice none 0 0, .slice none 0 0, .slice none 0 0] 27 (0, 0)) ∧ W6.heap.size ≤ g) := h
   show (∃ g, vF = .pointer (some ⟨g, 0, none⟩) ∧ wF2.heap[g]? = some (.cells #[.slice none 0 0, .slice none 0 0, .slice none 0 0] 27 (0, 0)) ∧ W6.heap.size ≤ g)
   have hT : (fun (w w' : World) => RowKit.Below w.heap.size w w') wF1 wF2 := hT
   simp only at hT
   obtain ⟨g, e, h1, h2⟩ := h
   exact ⟨g, e, (hT.block _ (lt_of_block h1)).trans h1, h2⟩
 ·
  generalize hAF : fillOf _ _ _ = AF
  replace hAF := fun x => congrFun hAF x
  simp only [take_succ_cons, take_zero, fillOf, Act.put, setIfInBounds_toArray, set_cons_zero, set_cons_succ, Nat.reduceAdd, Nat.zero_add] at hAF
  refine .cons ?_ (.cons ?_ (.cons ?_ (.cons ?_ (.cons ?_ (.cons ?_ (.cons ?_ (.cons ?_ (.cons ?_ (.cons ?_ (.cons ?_ (.cons ?_ (.cons ?_ (.cons ?_ (.cons ?_ (.nil)))))))))))))))
  all_goals
   intro xF w7 hR hd K hK
   first | simp only [← hAF, Act.put, setIfInBounds_toArray, set_cons_zero, set_cons_succ] at hK ⊢ | simp only [← hAF, Act.put] at hK ⊢
   clear hAF
   try simp only [Nat.zero_add, Nat.reduceAdd] at hK ⊢
  ·
   clear hd
   rw [if_pos (by rfl)]
   go_simp
   exact hK.out _ _ (Below.refl _ _) (rfl) (fun _ _ _ => ⟨trivial, trivial⟩)
  ·
   have dd0 := hd 0 (by kernel_rfl)
   clear hd
   try generalize xF 0 = yy0 at *
   obtain rfl := dd0
   have hs := HSUB.out
   rw [if_pos (by rfl)]
   go_simp
   exact hK.out _ _ (Below.refl _ _) (rfl) (fun _ _ _ => ⟨trivial, trivial⟩)
  ·
   have dd1 := hd 1 (by kernel_rfl)
   clear hd
   try generalize xF 1 = yy1 at *
   obtain rfl := dd1
   rw [if_pos (by rfl)]
   go_simp
   exact hK.out _ _ (Below.refl _ _) (rfl) (fun _ _ _ => ⟨trivial, trivial⟩)
  ·
   have dd2 := hd 2 (by kernel_rfl)
   clear hd
   try generalize xF 2 = yy2 at *
   obtain rfl := dd2
   obtain ⟨e0, e1, e2⟩ := Xq.out _ (DW0W6.out.trans (hR.mono DW0W6.out.size))
   rw [if_pos (by rfl)]
   go_simp
   exact hK.out _ _ (Below.refl _ _) (rfl) (fun _ _ _ => ⟨trivial, trivial⟩)
  ·
   clear hd
   rw [if_pos (by rfl)]
   go_simp
   exact hK.out _ _ (Below.refl _ _) (rfl) (fun _ _ _ => ⟨trivial, trivial⟩)
  ·
   have dd4 := hd 4 (by kernel_rfl)
   clear hd
   try generalize xF 4 = yy4 at *
   obtain rfl := dd4
   rw [if_pos (by rfl)]
   go_simp
   exact hK.out _ _ (Below.refl _ _) (rfl) (fun _ _ _ => ⟨trivial, trivial⟩)
  ·
   have dd5 := hd 5 (by kernel_rfl)
   clear hd
   try generalize xF 5 = yy5 at *
   obtain rfl := dd5
   obtain ⟨e0, e1, e2⟩ := Xp.out _ (DW0W6.out.trans (hR.mono DW0W6.out.size))
   rw [if_pos (by rfl)]
   go_simp
   exact hK.out _ _ (Below.refl _ _) (rfl) (fun _ _ _ => ⟨trivial, trivial⟩)
  ·
   clear hd
   rw [if_pos (by rfl)]
   go_simp
   exact hK.out _ _ (Below.refl _ _) (rfl) (fun _ _ _ => ⟨trivial, trivial⟩)
  ·
   have dd7 := hd 7 (by kernel_rfl)
   clear hd
   try generalize xF 7 = yy7 at *
   obtain rfl := dd7
   have hs := HSUB.out
   rw [if_pos (by rfl)]
   go_simp
   exact hK.out _ _ (Below.refl _ _) (rfl) (fun _ _ _ => ⟨trivial, trivial⟩)
  ·
   have dd8 := hd 8 (by kernel_rfl)
   clear hd
   try generalize xF 8 = yy8 at *
   obtain rfl := dd8
   rw [if_pos (by rfl)]
   go_simp
   exact hK.out _ _ (Below.refl _ _) (rfl) (fun _ _ _ => ⟨trivial, trivial⟩)
  ·
   have dd9 := hd 9 (by kernel_rfl)
   clear hd
   try generalize xF 9 = yy9 at *
   obtain rfl := dd9
   rw [if_pos (by rfl)]
   go_simp
   exact hK.out _ _ (Below.refl _ _) (rfl) (fun _ _ _ => ⟨trivial, trivial⟩)
  ·
   have dd10 := hd 10 (by kernel_rfl)
   clear hd
   try generalize xF 10 = yy10 at *
   obtain rfl := dd10
   obtain ⟨e0, e1, e2⟩ := Xq.out _ (DW0W6.out.trans (hR.mono DW0W6.out.size))
   rw [if_pos (by rfl)]
   go_simp
   exact hK.out _ _ (Below.refl _ _) (rfl) (fun _ _ _ => ⟨trivial, trivial⟩)
  ·
   have dd6 := hd 6 (by kernel_rfl)
   have dd11 := hd 11 (by kernel_rfl)
   clear hd
   try generalize xF 6 = yy6 at *
   try generalize xF 11 = yy11 at *
   obtain rfl := dd6
   obtain rfl := dd11
   rw [if_pos (by rfl)]
   go_simp
   (go_at_call 13; (with_reducible refine (HS3.out _ (DW0W6.out.trans (hR.mono DW0W6.out.size))).mono ?_); rintro e wK ⟨vK, rfl, hpK, hbK⟩)
   try go_wp2_with fail
   exact hK.out _ _ (hbK) (hpK) (fun _ _ _ => ⟨trivial, trivial⟩)
  ·
   have dd3 := hd 3 (by kernel_rfl)
   have dd12 : (SncV 0 (s.l i) (s.c i) (s.c j) (xF 12) w7) := hd 12 (by kernel_rfl)
   clear hd
   try generalize xF 3 = yy3 at *
   try generalize xF 12 = yy12 at *
   obtain rfl := dd3
   have hp12 := dd12
   rw [if_pos (by rfl)]
   go_simp
   (go_at_call 24; (with_reducible refine (HA3.out _ _ (DW0W6.out.trans (hR.mono DW0W6.out.size)) hp12).mono ?_); rintro e wK ⟨vK, rfl, hpK, hbK⟩)
   try go_wp2_with fail
   exact hK.out _ _ (hbK) (hpK) (fun _ _ _ => ⟨trivial, trivial⟩)
  ·
   clear hd
   rw [if_pos (by rfl)]
   go_simp
   exact hK.out _ _ (below1) (⟨_, rfl, heap_alloc_new _ _, hR.size⟩) (fun _ _ _ => ⟨trivial, trivial⟩)
 intro xF w7 hR hF hP
 clear hP
 have dd0 := hF 0 (by omega) (by decide)
 have dd1 := hF 1 (by omega) (by decide)
 have dd2 := hF 2 (by omega) (by decide)
 have dd3 := hF 3 (by omega) (by decide)
 have dd4 := hF 4 (by omega) (by decide)
 have dd5 := hF 5 (by omega) (by decide)
 have dd6 := hF 6 (by omega) (by decide)
 have dd7 := hF 7 (by omega) (by decide)
 have dd8 := hF 8 (by omega) (by decide)
 have dd9 := hF 9 (by omega) (by decide)
 have dd10 := hF 10 (by omega) (by decide)
 have dd11 := hF 11 (by omega) (by decide)
 have dd12 : (SncV 0 (s.l i) (s.c i) (s.c j) (xF 12) w7) := hF 12 (by omega) (by decide)
 have dd13 : (MrgV 0 (s.l j) (s.c j) (s.l i) (s.c i) (xF 13) w7) := hF 13 (by omega) (by decide)
 have dd14 := hF 14 (by omega) (by decide)
 clear hF
 simp only [take_succ_cons, take_zero, drop_succ_cons, drop_zero, fillOf, Act.put, setIfInBounds_toArray, set_cons_zero, set_cons_succ, Nat.reduceAdd, Nat.zero_add]
 try generalize xF 0 = yy0 at *
 try generalize xF 1 = yy1 at *
 try generalize xF 2 = yy2 at *
 try generalize xF 3 = yy3 at *
 try generalize xF 4 = yy4 at *
 try generalize xF 5 = yy5 at *
 try generalize xF 6 = yy6 at *
 try generalize xF 7 = yy7 at *
 try generalize xF 8 = yy8 at *
 try generalize xF 9 = yy9 at *
 try generalize xF 10 = yy10 at *
 try generalize xF 11 = yy11 at *
 try generalize xF 12 = yy12 at *
 try generalize xF 13 = yy13 at *
 try generalize xF 14 = yy14 at *
 clear xF
 obtain rfl := dd0
 obtain rfl := dd1
 obtain rfl := dd2
 obtain rfl := dd3
 obtain rfl := dd4
 obtain rfl := dd5
 obtain rfl := dd6
 obtain rfl := dd7
 obtain rfl := dd8
 obtain rfl := dd9
 obtain rfl := dd10
 obtain rfl := dd11
 have hp12 := dd12
 have hp13 := dd13
 obtain ⟨gA, rfl, hgA, hlA⟩ := dd14
 have hRE := Lib.hid hR
 clear hR
 obtain ⟨K, J, ⟨ua0, un0, uc0, ua1, un1, uc1, ua2, un2, uc2, rfl, hE, hC⟩, hG3⟩ := hp13.mg
 obtain ⟨rfl, rfl⟩ : M = N ∧ D = F := HG.out.back HG2.out (HLT.out.inv.set j hj2) (HLT.out.inv.same i j hi2 hj2)
 obtain ⟨rfl, rfl⟩ : M = K ∧ D = J := HG.out.cross hG3 (HLT.out.inv.same i j hi2 hj2)
 clear hG3
 have HLA := Lib.hid hlA
 have HGA := Lib.hid hgA
 have k0 := boxc hgA 0 _ rfl
 have f0 := boxf hgA 0
 have k1 := boxc hgA 1 _ rfl
 have f1 := boxf hgA 1
 have k2 := boxc hgA 2 _ rfl
 have f2 := boxf hgA 2
 obtain ⟨W8, hW8⟩ : ∃ W, W = ((w7.setCell ⟨gA, 0, none⟩ (.slice ua0 un0 uc0)).setCell ⟨gA, 1, none⟩ (.slice ua1 un1 uc1)).setCell ⟨gA, 2, none⟩ (.slice ua2 un2 uc2) := ⟨_, rfl⟩
 have t0 := heap_setCell_same _ gA 0 _ _ (.slice ua0 un0 uc0) hgA
 have t1 := heap_setCell_same _ gA 1 _ _ (.slice ua1 un1 uc1) t0
 have t2 := heap_setCell_same _ gA 2 _ _ (.slice ua2 un2 uc2) t1
 have Yc : Hid (W8.heap[gA]? = some (.cells #[.slice ua0 un0 uc0, .slice ua1 un1 uc1, .slice ua2 un2 uc2] 27 (0, 0))) := by show _ = _; rw [hW8]; exact t2
 have hkt : Kt 27 w7 W8 := by rw [hW8]; exact set3_kt hgA _ _ _
 have SEc : Hid (SetE 0 M D (.agg #[.slice ua0 un0 uc0, .slice ua1 un1 uc1, .slice ua2 un2 uc2]) W8) := ⟨_, _, _, _, _, _, _, _, _, rfl, hE.kt hkt (by decide), hC.kt hkt (by decide)⟩
 have DW0W8 : Hid (Below W0.heap.size W0 W8) := by
  show Below _ _ _
  rw [hW8]
  exact (Below.setCell (Below.setCell (Below.setCell (DW0W6.out.trans (hRE.out.mono DW0W6.out.size)) (Nat.le_trans DW0W6.out.size HLA.out) _) (Nat.le_trans DW0W6.out.size HLA.out) _) (Nat.le_trans DW0W6.out.size HLA.out) _)
 have DW4W8 : Hid (Below W4.heap.size W4 W8) := by
  show Below _ _ _
  rw [hW8]
  exact (Below.setCell (Below.setCell (Below.setCell (DW4W6.out.trans (hRE.out.mono DW4W6.out.size)) (Nat.le_trans DW4W6.out.size HLA.out) _) (Nat.le_trans DW4W6.out.size HLA.out) _) (Nat.le_trans DW4W6.out.size HLA.out) _)
 have DW6W8 : Hid (Below W6.heap.size W6 W8) := by
  show Below _ _ _
  rw [hW8]
  exact (Below.setCell (Below.setCell (Below.setCell hRE.out HLA.out _) HLA.out _) HLA.out _)
 have HWW8 := Lib.hid hW8
 have ya := (DW4W8.out.block _ (lt_of_block Ya.out)).trans Ya.out
 have yb := (DW6W8.out.block _ (lt_of_block Yb.out)).trans Yb.out
 have r0 := boxc ya 0 _ rfl
 have r1 := boxc ya 1 _ rfl
 have r2 := boxc ya 2 _ rfl
 have m0 := boxc yb 0 _ rfl
 have m1 := boxc yb 1 _ rfl
 have m2 := boxc yb 2 _ rfl
 rw [hW8] at r0 r1 r2 m0 m1 m2
 clear ya yb
 clear hgA hlA hW8 hkt hRE t0 t1 t2
 go_wp2_with fail
 rw [← HWW8.out]
 obtain ⟨gc, hgc⟩ : ∃ g, g = gA := ⟨_, rfl⟩
 rw [← hgc] at Yc ⊢
 clear HGA HLA hgc k0 f0 k1 f1 k2 f2
 have HSM : Hid (∀ (u v : Value) (W : World), SetE 0 M D u W → SetE 0 M D v W → Calls Tryz.prog 25 #[u, v] W (Said true W)) := fun u v W => same_v M D u v W
 (with_reducible refine (HSM.out _ _ W8 ((setE_kept _ _ _).on SEa.out DW4W8.out) ((setE_kept _ _ _).on SEb.out DW6W8.out)).mono ?_)
 rintro e w9 ⟨rfl, hb9⟩
 have HB9 := Lib.hid hb9
 have ya := ((DW4W8.out.trans (hb9.mono DW4W8.out.size)).block _ (lt_of_block Ya.out)).trans Ya.out
 have yc := (hb9.block _ (lt_of_block Yc.out)).trans Yc.out
 have n0 := boxc ya 0 _ rfl
 have n1 := boxc ya 1 _ rfl
 have n2 := boxc ya 2 _ rfl
 have o0 := boxc yc 0 _ rfl
 have o1 := boxc yc 1 _ rfl
 have o2 := boxc yc 2 _ rfl
 clear ya yc hb9 r0 r1 r2 m0 m1 m2
 go_wp2_with fail
 (with_reducible refine (HSM.out _ _ w9 ((setE_kept _ _ _).on SEa.out (DW4W8.out.trans (HB9.out.mono DW4W8.out.size))) ((setE_kept _ _ _).on SEc.out HB9.out)).mono ?_)
 rintro e w10 ⟨rfl, hb10⟩
 have HB10 : Hid (Below w.heap.size w w10) := HB.out.trans ((DW0W8.out.trans ((HB9.out.trans (hb10.mono HB9.out.size)).mono DW0W8.out.size)).mono HB.out.size)
 clear hb10 n0 n1 n2 o0 o1 o2
 go_wp2_with fail
 (with_reducible refine (HAW.out _ HB10.out).mono ?_)
 rintro e w11 ⟨rfl, hb11⟩
 have HB11 : Hid (Below w.heap.size w w11) := HB10.out.trans (hb11.mono HB10.out.size)
 clear hb11
 go_wp2_with fail
 go_ret
 exact ⟨rfl, HB11.out⟩
end Go.Proofs.YtonknpdalemjkaaGreat
namespace Go.Proofs.YtonknpdalemjkaaGreat.close
open Go.RowKit Go.WideShapes Go.ChangeShapes
section
variable {H : Type} {enc : TypeId × Value → H} {P : Program}
theorem trodAll_stays (hl : laidOutB P = true) {W W' : World} (hb : Below W.heap.size W W') :
  ∀ (ts : List TypeId) (vs : List Value) (ds : List (DataW H)) (ps : List MemPlace), (∀ t ∈ ts, P.readableRec t = true ∧ t < P.types.size) → (∀ x ∈ ps, x.block < W.heap.size) →
   DataW.TrodAll enc P W 0 (fun _ => true) true ts vs ds ps → DataW.TrodAll enc P W' 0 (fun b => decide (b < W.heap.size)) true ts vs ds ps := by
 intro ts
 induction ts with
 | nil =>
  intro vs ds ps _ _ h
  obtain ⟨rfl, rfl, rfl⟩ := trodAll_nil h
  exact rfl
 | cons t ts ih =>
  intro vs ds ps ht hlt h
  obtain ⟨v, vs', d, ds', p, q, rfl, rfl, rfl, h0, r0⟩ := trodAll_cons h
  have h1 := ht t (List.mem_cons_self ..)
  exact ⟨p, q, Below.trod hl h1.1 h1.2 h0 hb (fun x hx => hlt x (List.mem_append_left _ hx)),
   ih _ _ _ (fun u hu => ht u (List.mem_cons_of_mem _ hu)) (fun x hx => hlt x (List.mem_append_right _ hx)) r0, rfl⟩
theorem law_post (hl : laidOutB P = true) {f : Func} {s : ChangeSpec} {apart fresh handsOn : Bool} {W W' : World} {args : Array Value} {ds gs : List (DataW H)} {before : List MemPlace} {tb : TypeId}
  (hts : ∀ t ∈ f.params.toList, P.readableRec t = true ∧ t < P.types.size) (hvars : s.vars = []) (hrt : f.resultTypes = #[tb]) (hb4 : P.underlying tb = some .bool)
  (hW : DataW.Whole enc P f.params.toList s.vars apart W args.toList ds gs before) (hs : s.fn H (ds ++ gs) = { results := [.lit (.bool true)], args := ds, vars := [] })
  (hb : Below W.heap.size W W') : s.post enc P f apart fresh handsOn false W args (.bool true) W' := by
 have hlt : ∀ p ∈ before, p.block < W.heap.size := fun p hp => hW.lt p hp
 have hW' := hW
 obtain ⟨p, q, hA, hV, rfl, _, _⟩ := hW'
 rw [hvars] at hV
 obtain ⟨rfl, rfl⟩ := trodVars_none hV
 refine ⟨ds, [], p ++ [], [], p, [], hW, ?_, ?_, ?_, World.keptBut_mono (fun x hx => ⟨hx, Or.inr (Or.inl (by simpa using hx))⟩) (hb.frame (· ∈ p ++ [])), fun h => by cases h⟩
 ·
  rw [hs, hrt]
  exact trodAll_cons_mk (shut_bool hb4 true) trodAll_mk0
 ·
  rw [hs]
  exact trodAll_stays hl hb _ _ _ _ hts (fun x hx => hlt x (List.mem_append_left _ hx)) hA
 ·
  rw [hs, hvars]
  exact rfl
end
end Go.Proofs.YtonknpdalemjkaaGreat.close
