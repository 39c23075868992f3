/- texts put together: DelBrg. -/
import Derived.Test.YtonknpdalemjkaaGreatDe00
import Derived.Test.YtonknpdalemjkaaGreatDe01
import Derived.Test.YtonknpdalemjkaaGreatDe02
import Derived.Test.YtonknpdalemjkaaGreatDe03
import Derived.Test.YtonknpdalemjkaaGreatDe04
import Derived.Test.YtonknpdalemjkaaGreatDe05
import Derived.Test.YtonknpdalemjkaaGreatDe06
import Derived.Test.YtonknpdalemjkaaGreatDe07
import Derived.Test.YtonknpdalemjkaaGreatDe08
import Derived.Test.YtonknpdalemjkaaGreatDe09
import Derived.Test.YtonknpdalemjkaaGreatDe10
import Derived.Test.YtonknpdalemjkaaGreatDe11
import Derived.Test.YtonknpdalemjkaaGreatDe12
import Derived.Test.YtonknpdalemjkaaGreatDe13
import Derived.Test.YtonknpdalemjkaaGreatDe14
import Derived.Test.YtonknpdalemjkaaGreatDe15
import Derived.Test.YtonknpdalemjkaaGreatDe16
import Derived.Test.YtonknpdalemjkaaGreatDe17
import Derived.Test.YtonknpdalemjkaaGreatDe18
import Derived.Test.YtonknpdalemjkaaGreatDe19
import Derived.Test.YtonknpdalemjkaaGreatDe20
import Derived.Test.YtonknpdalemjkaaGreatDe21
import Derived.Test.YtonknpdalemjkaaGreatDe22
import Derived.Test.YtonknpdalemjkaaGreatDe23
import Derived.Test.YtonknpdalemjkaaGreatDe24
import Derived.Test.YtonknpdalemjkaaGreatDe25
import Derived.Test.YtonknpdalemjkaaGreatDe26
import Derived.Test.YtonknpdalemjkaaGreatDe27
import Derived.Test.YtonknpdalemjkaaGreatDe28
import Derived.Test.YtonknpdalemjkaaGreatDb11
import Derived.Test.YtonknpdalemjkaaGreatDb12
import Derived.Test.YtonknpdalemjkaaGreatDb13
import Derived.Test.YtonknpdalemjkaaGreatDb28
import Derived.Test.YtonknpdalemjkaaGreatDb29
open List (setIfInBounds_toArray set_cons_zero set_cons_succ take_succ_cons take_zero drop_succ_cons drop_zero)
namespace Go.Proofs.YtonknpdalemjkaaGreat
open Go Go.RowKit Go.ChangeShapes cl
set_option maxHeartbeats 12800000 in
set_option maxRecDepth 100000 in
theorem brings_any (l : List (List Int)) (v : Value) (w : World) (hm : MX w) (h : KInts 4 w w.heap.size v l) :
  Calls Tryz.prog 5 #[v] w (Said true w) := by
 have HTWO := Lib.hid (two_any l v w h hm)
 have HAW : Hid (∀ W, Below w.heap.size w W → Calls Tryz.prog 11 #[] W (Said true W)) := fun W hW => awake_any W (MX.next hm hW)
 have HMM := Lib.hid hm
 obtain ⟨ao, n, cap, rfl⟩ : ∃ ao n cap, v = .slice ao n cap := by
  obtain ⟨ao, cap, e, _, h9⟩ := h.form
  exact ⟨ao, _, cap, e⟩
 clear h hm
 go_enter Tryz.func5, Tryz.ntmps5
 go_wp2_with fail
 (with_reducible refine HTWO.out.mono ?_)
 rintro e w1 hT
 rcases two_says HMM.out hT with ⟨_, rfl, hb⟩ | ⟨za0, zn0, zc0, za1, zn1, zc1, za2, zn2, zc2, za3, zn3, zc3, za4, zn4, zc4, za5, zn5, zc5, s, rfl, hLT, hS0, hS1, hAd, h50, hb⟩
 ·
  have HB := Lib.hid (hb.trans (below1 (o := .cells #[.slice none 0 0, .slice none 0 0, .slice none 0 0, .slice none 0 0, .slice none 0 0, .slice none 0 0] 41)|>.mono hb.size))
  clear hT hb
  go_wp2_with fail
  (with_reducible refine (HAW.out _ HB.out).mono ?_)
  rintro e w2 ⟨rfl, hb2⟩
  have HB2 := Lib.hid (HB.out.trans (hb2.mono HB.out.size))
  clear hb2
  go_wp2_with fail
  go_ret
  exact ⟨rfl, HB2.out⟩
 obtain ⟨b4, hb4⟩ : ∃ b, b = w1.heap.size := ⟨_, rfl⟩
 obtain ⟨W0, hW0⟩ : ∃ W, W = w1.alloc (.cells #[.slice za0 zn0 zc0, .slice za1 zn1 zc1, .slice za2 zn2 zc2, .slice za3 zn3 zc3, .slice za4 zn4 zc4, .slice za5 zn5 zc5] 41) := ⟨_, rfl⟩
 have hb0 : Below w1.heap.size w1 W0 := by rw [hW0]; exact below1
 have HLT := Lib.hid (hLT W0 b4 hb0 (by rw [hW0, hb4]; exact heap_alloc_new w1 _))
 have HB := Lib.hid (hb.trans (hb0.mono hb.size))
 have HW0 := Lib.hid hW0
 have HB4 := Lib.hid hb4
 have HAD := Lib.hid hAd
 have HS0 := Lib.hid hS0
 have HS1 := Lib.hid hS1
 have HW1 := Lib.hid hb0
 clear hT hLT hAd h50 hb hb0 hW0 hb4 hS0 hS1
 go_wp2_with fail
 rw [← HW0.out, ← HB4.out]
 go_loopw [16] (fun v wr => ∃ i : Nat, v = .int .i64 (i : Int) ∧ i ≤ 2 ∧ Hid (Below W0.heap.size W0 wr)) (fun v _ => 2 - (intOf v).toNat)
 case atStart => exact ⟨0, rfl, by omega, Below.refl _ _⟩
 case round =>
  obtain ⟨i, rfl, hi, HBR⟩ := hrel
  by_cases hi2 : i < 2
  ·
   obtain ⟨V0, hV0⟩ : ∃ W, W = wr := ⟨_, rfl⟩
   rw [← hV0] at HBR ⊢
   clear hV0
   have hi2i : (i : Int) < 2 := by omega
   have hi0i : 0 ≤ (i : Int) := by omega
   obtain ⟨j, hj⟩ : ∃ j : Nat, j = 1 - i := ⟨_, rfl⟩
   have hj2 : j < 2 := by omega
   have hj2i : (j : Int) < 2 := by omega
   have hj0i : 0 ≤ (j : Int) := by omega
   have HSUB : Hid (IntKind.i64.wrap (1 - (i : Int)) = (j : Int)) := by
    show _ = _
    rw [IntWalk.i64_in _ (by omega)]; omega
   have HLV : Hid (LTwo V0 b4 s) := HLT.out.on HBR.out
   clear hj
   obtain ⟨pa0, pn0, pc0, pa1, pn1, pc1, pa2, pn2, pc2, Np, Xp, Ep, Op⟩ := HLV.out.get (i := i) (hi2)
   replace Np := Lib.hid Np
   replace Xp := Lib.hid Xp
   replace Ep := Lib.hid Ep
   replace Op := Lib.hid Op
   obtain ⟨qa0, qn0, qc0, qa1, qn1, qc1, qa2, qn2, qc2, Nq, Xq, Eq, Oq⟩ := HLV.out.get (i := j) (hj2)
   replace Nq := Lib.hid Nq
   replace Xq := Lib.hid Xq
   replace Eq := Lib.hid Eq
   replace Oq := Lib.hid Oq
   have HS1 : Hid (∀ W, Below V0.heap.size V0 W → Calls Tryz.prog 13 #[.agg #[.slice pa0 pn0 pc0, .slice pa1 pn1 pc1, .slice pa2 pn2 pc2], .agg #[.slice qa1 qn1 qc1, .slice qa2 qn2 qc2]] W fun e w' => ∃ d, e = .returned d ∧ SncV 0 (s.l i) (s.c i) (s.c j) d w' ∧ Below W.heap.size W w') := fun W hW => (HLV.out.on hW).since hi2 (Ep.out W hW) (Oq.out W hW) (HLV.out.inv.set j hj2).right
   have HA1 : Hid (∀ W d, Below V0.heap.size V0 W → SncV 0 (s.l i) (s.c i) (s.c j) d W → Calls Tryz.prog 24 #[.agg #[.slice qa0 qn0 qc0, .slice qa1 qn1 qc1, .slice qa2 qn2 qc2], d] W fun e w' => ∃ v', e = .returned v' ∧ MrgV 0 (s.l j) (s.c j) (s.l i) (s.c i) v' w' ∧ Below W.heap.size W w') := fun W d hW hd => (HLV.out.on hW).apply hj2 hi2 (Eq.out W hW) hd (fun _ h => h)
   have HA2 : Hid (∀ W d, Below V0.heap.size V0 W → SncV 0 (s.l i) (s.c i) ([], []) d W → Calls Tryz.prog 24 #[.agg #[.slice qa0 qn0 qc0, .slice qa1 qn1 qc1, .slice qa2 qn2 qc2], d] W fun e w' => ∃ v', e = .returned v' ∧ MrgV 0 (s.l j) (s.c j) (s.l i) (s.c i) v' w' ∧ Below W.heap.size W w') := fun W d hW hd => (HLV.out.on hW).apply hj2 hi2 (Eq.out W hW) hd (fun x h => absurd h (kn_nil x))
   have HAL : Hid (∀ W, Below V0.heap.size V0 W → Calls Tryz.prog 15 #[.agg #[.slice pa0 pn0 pc0, .slice pa1 pn1 pc1, .slice pa2 pn2 pc2]] W fun e w' => ∃ d, e = .returned d ∧ SncV 0 (s.l i) (s.c i) ([], []) d w' ∧ Below W.heap.size W w') := fun W hW => (HLV.out.on hW).all hi2 (Ep.out W hW)
   go_wp2_with fail
   refine wp_flow 10 (fun _ => 1000) (fun ww => RowKit.Below V0.heap.size V0 ww) (fun _ w w' => (fun (w w' : World) => RowKit.Below w.heap.size w w') w w') (fun kF vF wF => match kF with | 0 => (vF = .int .i64 (i : Int)) | 1 => (vF = .pointer (some ⟨b4, i * 3, none⟩)) | 2 => (vF = .agg #[.slice pa0 pn0 pc0, .slice pa1 pn1 pc1, .slice pa2 pn2 pc2]) | 3 => (vF = .int .i64 (i : Int)) | 4 => (vF = .int .i64 (j : Int)) | 5 => (vF = .pointer (some ⟨b4, j * 3, none⟩)) | 6 => (vF = .pointer (some ⟨b4, j * 3 + 1, none⟩)) | 7 => (vF = .agg #[.slice qa1 qn1 qc1, .slice qa2 qn2 qc2]) | 8 => (SncV 0 (s.l i) (s.c i) (s.c j) vF wF) | 9 => (∃ g, vF = .pointer (some ⟨g, 0, none⟩) ∧ wF.heap[g]? = some (.cells #[.slice none 0 0, .slice none 0 0, .slice none 0 0, .slice none 0 0] 29 (0, 0)) ∧ V0.heap.size ≤ g) | _ => True) (fun _ _ _ _ => True) (by kernel_rfl) (by kernel_rfl) ?_ ?_ ?_ ?_ ?_
   ·
    exact (Below.refl _ _).drew
   ·
    intro iF wF1 wF2 hR hT; exact hR.trans (hT.mono hR.size)
   ·
    intro kF hkF iF hiF hne hdd hanc hdan vF wF1 wF2 h hT
    rcases (by omega : kF = 0 ∨ kF = 1 ∨ kF = 2 ∨ kF = 3 ∨ kF = 4 ∨ kF = 5 ∨ kF = 6 ∨ kF = 7 ∨ kF = 8 ∨ kF = 9) with rfl | rfl | rfl | rfl | rfl | rfl | rfl | rfl | rfl | rfl
    iterate 8 exact h
    ·
     have h : (SncV 0 (s.l i) (s.c i) (s.c j) vF wF1) := h
     show (SncV 0 (s.l i) (s.c i) (s.c j) vF wF2)
     have hT : (fun (w w' : World) => RowKit.Below w.heap.size w w') wF1 wF2 := hT
     simp only at hT
     exact (sncV_kept _ _ _ _).on h hT
    ·
     have h : (∃ g, vF = .pointer (some ⟨g, 0, none⟩) ∧ wF1.heap[g]? = some (.cells #[.slice none 0 0, .slice none 0 0, .slice none 0 0, .slice none 0 0] 29 (0, 0)) ∧ V0.heap.size ≤ g) := h
     show (∃ g, vF = .pointer (some ⟨g, 0, none⟩) ∧ wF2.heap[g]? = some (.cells #[.slice none 0 0, .slice none 0 0, .slice none 0 0, .slice none 0 0] 29 (0, 0)) ∧ V0.heap.size ≤ g)
     have hT : (fun (w w' : World) => RowKit.Below w.heap.size w w') wF1 wF2 := hT
     simp only at hT
     obtain ⟨g, e, h1, h2⟩ := h
     exact ⟨g, e, (hT.block _ (lt_of_block h1)).trans h1, h2⟩
   ·
    generalize hAF : fillOf _ _ _ = AF
    replace hAF := fun x => congrFun hAF x
    simp only [take_succ_cons, take_zero, fillOf, Act.put, setIfInBounds_toArray, set_cons_zero, set_cons_succ, Nat.reduceAdd, Nat.zero_add] at hAF
    refine .cons ?_ (.cons ?_ (.cons ?_ (.cons ?_ (.cons ?_ (.cons ?_ (.cons ?_ (.cons ?_ (.cons ?_ (.cons ?_ (.nil))))))))))
    all_goals
     intro xF w3 hR hd K hK
     first | simp only [← hAF, Act.put, setIfInBounds_toArray, set_cons_zero, set_cons_succ] at hK ⊢ | simp only [← hAF, Act.put] at hK ⊢
     clear hAF
     try simp only [Nat.zero_add, Nat.reduceAdd] at hK ⊢
    ·
     clear hd
     rw [if_pos (by rfl)]
     go_simp
     exact hK.out _ _ (Below.refl _ _) (rfl) (fun _ _ _ => ⟨trivial, trivial⟩)
    ·
     have dd0 := hd 0 (by kernel_rfl)
     clear hd
     try generalize xF 0 = yy0 at *
     obtain rfl := dd0
     rw [if_pos (by rfl)]
     go_simp
     exact hK.out _ _ (Below.refl _ _) (rfl) (fun _ _ _ => ⟨trivial, trivial⟩)
    ·
     have dd1 := hd 1 (by kernel_rfl)
     clear hd
     try generalize xF 1 = yy1 at *
     obtain rfl := dd1
     obtain ⟨e0, e1, e2⟩ := Xp.out _ hR
     rw [if_pos (by rfl)]
     go_simp
     exact hK.out _ _ (Below.refl _ _) (rfl) (fun _ _ _ => ⟨trivial, trivial⟩)
    ·
     clear hd
     rw [if_pos (by rfl)]
     go_simp
     exact hK.out _ _ (Below.refl _ _) (rfl) (fun _ _ _ => ⟨trivial, trivial⟩)
    ·
     have dd3 := hd 3 (by kernel_rfl)
     clear hd
     try generalize xF 3 = yy3 at *
     obtain rfl := dd3
     have hs := HSUB.out
     rw [if_pos (by rfl)]
     go_simp
     exact hK.out _ _ (Below.refl _ _) (rfl) (fun _ _ _ => ⟨trivial, trivial⟩)
    ·
     have dd4 := hd 4 (by kernel_rfl)
     clear hd
     try generalize xF 4 = yy4 at *
     obtain rfl := dd4
     rw [if_pos (by rfl)]
     go_simp
     exact hK.out _ _ (Below.refl _ _) (rfl) (fun _ _ _ => ⟨trivial, trivial⟩)
    ·
     have dd5 := hd 5 (by kernel_rfl)
     clear hd
     try generalize xF 5 = yy5 at *
     obtain rfl := dd5
     rw [if_pos (by rfl)]
     go_simp
     exact hK.out _ _ (Below.refl _ _) (rfl) (fun _ _ _ => ⟨trivial, trivial⟩)
    ·
     have dd6 := hd 6 (by kernel_rfl)
     clear hd
     try generalize xF 6 = yy6 at *
     obtain rfl := dd6
     obtain ⟨e0, e1, e2⟩ := Xq.out _ hR
     rw [if_pos (by rfl)]
     go_simp
     exact hK.out _ _ (Below.refl _ _) (rfl) (fun _ _ _ => ⟨trivial, trivial⟩)
    ·
     have dd2 := hd 2 (by kernel_rfl)
     have dd7 := hd 7 (by kernel_rfl)
     clear hd
     try generalize xF 2 = yy2 at *
     try generalize xF 7 = yy7 at *
     obtain rfl := dd2
     obtain rfl := dd7
     rw [if_pos (by rfl)]
     go_simp
     (go_at_call 13; (with_reducible refine (HS1.out _ hR).mono ?_); rintro e wK ⟨vK, rfl, hpK, hbK⟩)
     try go_wp2_with fail
     exact hK.out _ _ (hbK) (hpK) (fun _ _ _ => ⟨trivial, trivial⟩)
    ·
     clear hd
     rw [if_pos (by rfl)]
     go_simp
     exact hK.out _ _ (below1) (⟨_, rfl, heap_alloc_new _ _, hR.size⟩) (fun _ _ _ => ⟨trivial, trivial⟩)
   intro xF w3 hR hF hP
   clear hP
   have dd0 := hF 0 (by omega) (by decide)
   have dd1 := hF 1 (by omega) (by decide)
   have dd2 := hF 2 (by omega) (by decide)
   have dd3 := hF 3 (by omega) (by decide)
   have dd4 := hF 4 (by omega) (by decide)
   have dd5 := hF 5 (by omega) (by decide)
   have dd6 := hF 6 (by omega) (by decide)
   have dd7 := hF 7 (by omega) (by decide)
   have dd8 : (SncV 0 (s.l i) (s.c i) (s.c j) (xF 8) w3) := hF 8 (by omega) (by decide)
   have dd9 := hF 9 (by omega) (by decide)
   clear hF
   simp only [take_succ_cons, take_zero, drop_succ_cons, drop_zero, fillOf, Act.put, setIfInBounds_toArray, set_cons_zero, set_cons_succ, Nat.reduceAdd, Nat.zero_add]
   try generalize xF 0 = yy0 at *
   try generalize xF 1 = yy1 at *
   try generalize xF 2 = yy2 at *
   try generalize xF 3 = yy3 at *
   try generalize xF 4 = yy4 at *
   try generalize xF 5 = yy5 at *
   try generalize xF 6 = yy6 at *
   try generalize xF 7 = yy7 at *
   try generalize xF 8 = yy8 at *
   try generalize xF 9 = yy9 at *
   clear xF
   obtain rfl := dd0
   obtain rfl := dd1
   obtain rfl := dd2
   obtain rfl := dd3
   obtain rfl := dd4
   obtain rfl := dd5
   obtain rfl := dd6
   obtain rfl := dd7
   have hp8 := dd8
   obtain ⟨gA, rfl, hgA, hlA⟩ := dd9
   have hRE := Lib.hid hR
   clear hR
   obtain ⟨da0, dn0, dc0, da1, dn1, dc1, da2, dn2, dc2, da3, dn3, dc3, rfl, hE, hA, hC⟩ := hp8
   have HLA := Lib.hid hlA
   have HGA := Lib.hid hgA
   have k0 := boxc hgA 0 _ rfl
   have f0 := boxf hgA 0
   have k1 := boxc hgA 1 _ rfl
   have f1 := boxf hgA 1
   have k2 := boxc hgA 2 _ rfl
   have f2 := boxf hgA 2
   have k3 := boxc hgA 3 _ rfl
   have f3 := boxf hgA 3
   obtain ⟨W4, hW4⟩ : ∃ W, W = (((w3.setCell ⟨gA, 0, none⟩ (.slice da0 dn0 dc0)).setCell ⟨gA, 1, none⟩ (.slice da1 dn1 dc1)).setCell ⟨gA, 2, none⟩ (.slice da2 dn2 dc2)).setCell ⟨gA, 3, none⟩ (.slice da3 dn3 dc3) := ⟨_, rfl⟩
   have t0 := heap_setCell_same _ gA 0 _ _ (.slice da0 dn0 dc0) hgA
   have t1 := heap_setCell_same _ gA 1 _ _ (.slice da1 dn1 dc1) t0
   have t2 := heap_setCell_same _ gA 2 _ _ (.slice da2 dn2 dc2) t1
   have t3 := heap_setCell_same _ gA 3 _ _ (.slice da3 dn3 dc3) t2
   have Yd : Hid (W4.heap[gA]? = some (.cells #[.slice da0 dn0 dc0, .slice da1 dn1 dc1, .slice da2 dn2 dc2, .slice da3 dn3 dc3] 29 (0, 0))) := by show _ = _; rw [hW4]; exact t3
   have hkt : Kt 29 w3 W4 := by rw [hW4]; exact set4_kt hgA _ _ _ _
   have SNd : Hid (SncV 0 (s.l i) (s.c i) (s.c j) (.agg #[.slice da0 dn0 dc0, .slice da1 dn1 dc1, .slice da2 dn2 dc2, .slice da3 dn3 dc3]) W4) := ⟨_, _, _, _, _, _, _, _, _, _, _, _, rfl, hE.kt hkt (by decide), hA.kt hkt (by decide), hC.kt hkt (by decide)⟩
   have DV0W4 : Hid (Below V0.heap.size V0 W4) := by
    show Below _ _ _
    rw [hW4]
    exact (Below.setCell (Below.setCell (Below.setCell (Below.setCell hRE.out HLA.out _) HLA.out _) HLA.out _) HLA.out _)
   have HWW4 := Lib.hid hW4
   clear hgA hlA hW4 hkt hRE t0 t1 t2 t3
   go_wp2_with fail
   rw [← HWW4.out]
   obtain ⟨gd, hgd⟩ : ∃ g, g = gA := ⟨_, rfl⟩
   rw [← hgd] at Yd ⊢
   clear HGA HLA hgd k0 f0 k1 f1 k2 f2 k3 f3
   refine wp_flow 7 (fun _ => 1000) (fun ww => RowKit.Below W4.heap.size W4 ww) (fun _ w w' => (fun (w w' : World) => RowKit.Below w.heap.size w w') w w') (fun kF vF wF => match kF with | 0 => (vF = .int .i64 (i : Int)) | 1 => (vF = .int .i64 (j : Int)) | 2 => (vF = .pointer (some ⟨b4, j * 3, none⟩)) | 3 => (vF = .agg #[.slice qa0 qn0 qc0, .slice qa1 qn1 qc1, .slice qa2 qn2 qc2]) | 4 => (vF = .agg #[.slice da0 dn0 dc0, .slice da1 dn1 dc1, .slice da2 dn2 dc2, .slice da3 dn3 dc3]) | 5 => (MrgV 0 (s.l j) (s.c j) (s.l i) (s.c i) vF wF) | 6 => (∃ g, vF = .pointer (some ⟨g, 0, none⟩) ∧ wF.heap[g]? = some (.cells #[.slice none 0 0, .slice none 0 0, .slice none 0 0] 27 (0, 0)) ∧ W4.heap.size ≤ g) | _ => True) (fun _ _ _ _ => True) (by kernel_rfl) (by kernel_rfl) ?_ ?_ ?_ ?_ ?_
   ·
    exact (Below.refl _ _).drew
   ·
    intro iF wF1 wF2 hR hT; exact hR.trans (hT.mono hR.size)
   ·
    intro kF hkF iF hiF hne hdd hanc hdan vF wF1 wF2 h hT
    rcases (by omega : kF = 0 ∨ kF = 1 ∨ kF = 2 ∨ kF = 3 ∨ kF = 4 ∨ kF = 5 ∨ kF = 6) with rfl | rfl | rfl | rfl | rfl | rfl | rfl
    iterate 5 exact h
    ·
     have h : (MrgV 0 (s.l j) (s.c j) (s.l i) (s.c i) vF wF1) := h
     show (MrgV 0 (s.l j) (s.c j) (s.l i) (s.c i) vF wF2)
     have hT : (fun (w w' : World) => RowKit.Below w.heap.size w w') wF1 wF2 := hT
     simp only at hT
     exact (mrgV_kept _ _ _ _ _).on h hT
    ·
     have h : (∃ g, vF = .pointer (some ⟨g, 0, none⟩) ∧ wF1.heap[g]? = some (.cells #[.slice none 0 0, .slice none 0 0, .slice none 0 0] 27 (0, 0)) ∧ W4.heap.size ≤ g) := h
     show (∃ g, vF = .pointer (some ⟨g, 0, none⟩) ∧ wF2.heap[g]? = some (.cells #[.slice none 0 0, .slice none 0 0, .slice none 0 0] 27 (0, 0)) ∧ W4.heap.size ≤ g)
     have hT : (fun (w w' : World) => RowKit.Below w.heap.size w w') wF1 wF2 := hT
     simp only at hT
     obtain ⟨g, e, h1, h2⟩ := h
     exact ⟨g, e, (hT.block _ (lt_of_block h1)).trans h1, h2⟩
   ·
    generalize hAF : fillOf _ _ _ = AF
    replace hAF := fun x => congrFun hAF x
    simp only [take_succ_cons, take_zero, fillOf, Act.put, setIfInBounds_toArray, set_cons_zero, set_cons_succ, Nat.reduceAdd, Nat.zero_add] at hAF
    refine .cons ?_ (.cons ?_ (.cons ?_ (.cons ?_ (.cons ?_ (.cons ?_ (.cons ?_ (.nil)))))))
    all_goals
     intro xF w5 hR hd K hK
     first | simp only [← hAF, Act.put, setIfInBounds_toArray, set_cons_zero, set_cons_succ] at hK ⊢ | simp only [← hAF, Act.put] at hK ⊢
     clear hAF
     try simp only [Nat.zero_add, Nat.reduceAdd] at hK ⊢
    ·
     clear hd
     rw [if_pos (by rfl)]
     go_simp
     exact hK.out _ _ (Below.refl _ _) (rfl) (fun _ _ _ => ⟨trivial, trivial⟩)
    ·
     have dd0 := hd 0 (by kernel_rfl)
     clear hd
     try generalize xF 0 = yy0 at *
     obtain rfl := dd0
     have hs := HSUB.out
     rw [if_pos (by rfl)]
     go_simp
     exact hK.out _ _ (Below.refl _ _) (rfl) (fun _ _ _ => ⟨trivial, trivial⟩)
    ·
     have dd1 := hd 1 (by kernel_rfl)
     clear hd
     try generalize xF 1 = yy1 at *
     obtain rfl := dd1
     rw [if_pos (by rfl)]
     go_simp
     exact hK.out _ _ (Below.refl _ _) (rfl) (fun _ _ _ => ⟨trivial, trivial⟩)
    ·
     have dd2 := hd 2 (by kernel_rfl)
     clear hd
     try generalize xF 2 = yy2 at *
     obtain rfl := dd2
     obtain ⟨e0, e1, e2⟩ := Xq.out _ (DV0W4.out.trans (hR.mono DV0W4.out.size))
     rw [if_pos (by rfl)]
     go_simp
     exact hK.out _ _ (Below.refl _ _) (rfl) (fun _ _ _ => ⟨trivial, trivial⟩)
    ·
     clear hd
     have k9 := (hR.block _ (lt_of_block Yd.out)).trans Yd.out
     have k90 := boxc k9 0 _ rfl
     have k91 := boxc k9 1 _ rfl
     have k92 := boxc k9 2 _ rfl
     have k93 := boxc k9 3 _ rfl
     rw [if_pos (by rfl)]
     go_simp
     exact hK.out _ _ (Below.refl _ _) (rfl) (fun _ _ _ => ⟨trivial, trivial⟩)
    ·
     have dd3 := hd 3 (by kernel_rfl)
     have dd4 := hd 4 (by kernel_rfl)
     clear hd
     try generalize xF 3 = yy3 at *
     try generalize xF 4 = yy4 at *
     obtain rfl := dd3
     obtain rfl := dd4
     rw [if_pos (by rfl)]
     go_simp
     (go_at_call 24; (with_reducible refine (HA1.out _ _ (DV0W4.out.trans (hR.mono DV0W4.out.size)) ((sncV_kept _ _ _ _).on SNd.out hR)).mono ?_); rintro e wK ⟨vK, rfl, hpK, hbK⟩)
     try go_wp2_with fail
     exact hK.out _ _ (hbK) (hpK) (fun _ _ _ => ⟨trivial, trivial⟩)
    ·
     clear hd
     rw [if_pos (by rfl)]
     go_simp
     exact hK.out _ _ (below1) (⟨_, rfl, heap_alloc_new _ _, hR.size⟩) (fun _ _ _ => ⟨trivial, trivial⟩)
   intro xF w5 hR hF hP
   clear hP
   have dd0 := hF 0 (by omega) (by decide)
   have dd1 := hF 1 (by omega) (by decide)
   have dd2 := hF 2 (by omega) (by decide)
   have dd3 := hF 3 (by omega) (by decide)
   have dd4 := hF 4 (by omega) (by decide)
   have dd5 : (MrgV 0 (s.l j) (s.c j) (s.l i) (s.c i) (xF 5) w5) := hF 5 (by omega) (by decide)
   have dd6 := hF 6 (by omega) (by decide)
   clear hF
   simp only [take_succ_cons, take_zero, drop_succ_cons, drop_zero, fillOf, Act.put, setIfInBounds_toArray, set_cons_zero, set_cons_succ, Nat.reduceAdd, Nat.zero_add]
   try generalize xF 0 = yy0 at *
   try generalize xF 1 = yy1 at *
   try generalize xF 2 = yy2 at *
   try generalize xF 3 = yy3 at *
   try generalize xF 4 = yy4 at *
   try generalize xF 5 = yy5 at *
   try generalize xF 6 = yy6 at *
   clear xF
   obtain rfl := dd0
   obtain rfl := dd1
   obtain rfl := dd2
   obtain rfl := dd3
   obtain rfl := dd4
   have hp5 := dd5
   obtain ⟨gA, rfl, hgA, hlA⟩ := dd6
   have hRE := Lib.hid hR
   clear hR
   obtain ⟨M, D, ⟨ta0, tn0, tc0, ta1, tn1, tc1, ta2, tn2, tc2, rfl, hE, hC⟩, hG⟩ := hp5.mg
   have HG := Lib.hid hG
   clear hG
   have HLA := Lib.hid hlA
   have HGA := Lib.hid hgA
   have k0 := boxc hgA 0 _ rfl
   have f0 := boxf hgA 0
   have k1 := boxc hgA 1 _ rfl
   have f1 := boxf hgA 1
   have k2 := boxc hgA 2 _ rfl
   have f2 := boxf hgA 2
   obtain ⟨W6, hW6⟩ : ∃ W, W = ((w5.setCell ⟨gA, 0, none⟩ (.slice ta0 tn0 tc0)).setCell ⟨gA, 1, none⟩ (.slice ta1 tn1 tc1)).setCell ⟨gA, 2, none⟩ (.slice ta2 tn2 tc2) := ⟨_, rfl⟩
   have t0 := heap_setCell_same _ gA 0 _ _ (.slice ta0 tn0 tc0) hgA
   have t1 := heap_setCell_same _ gA 1 _ _ (.slice ta1 tn1 tc1) t0
   have t2 := heap_setCell_same _ gA 2 _ _ (.slice ta2 tn2 tc2) t1
   have Yt : Hid (W6.heap[gA]? = some (.cells #[.slice ta0 tn0 tc0, .slice ta1 tn1 tc1, .slice ta2 tn2 tc2] 27 (0, 0))) := by show _ = _; rw [hW6]; exact t2
   have hkt : Kt 27 w5 W6 := by rw [hW6]; exact set3_kt hgA _ _ _
   have SEt : Hid (SetE 0 M D (.agg #[.slice ta0 tn0 tc0, .slice ta1 tn1 tc1, .slice ta2 tn2 tc2]) W6) := ⟨_, _, _, _, _, _, _, _, _, rfl, hE.kt hkt (by decide), hC.kt hkt (by decide)⟩
   have SOt : Hid (OwnC 0 W6 (.agg #[.slice ta1 tn1 tc1, .slice ta2 tn2 tc2]) D) := hC.kt hkt (by decide)
   have DV0W6 : Hid (Below V0.heap.size V0 W6) := by
    show Below _ _ _
    rw [hW6]
    exact (Below.setCell (Below.setCell (Below.setCell (DV0W4.out.trans (hRE.out.mono DV0W4.out.size)) (Nat.le_trans DV0W4.out.size HLA.out) _) (Nat.le_trans DV0W4.out.size HLA.out) _) (Nat.le_trans DV0W4.out.size HLA.out) _)
   have DW4W6 : Hid (Below W4.heap.size W4 W6) := by
    show Below _ _ _
    rw [hW6]
    exact (Below.setCell (Below.setCell (Below.setCell hRE.out HLA.out _) HLA.out _) HLA.out _)
   have HWW6 := Lib.hid hW6
   clear hgA hlA hW6 hkt hRE t0 t1 t2
   go_wp2_with fail
   rw [← HWW6.out]
   obtain ⟨gt, hgt⟩ : ∃ g, g = gA := ⟨_, rfl⟩
   rw [← hgt] at Yt ⊢
   clear HGA HLA hgt k0 f0 k1 f1 k2 f2
   have HLM := Lib.hid (HG.out.len HLV.out.inv hj2 hi2)
   have HMX : Hid (∀ W, Below V0.heap.size V0 W → MX W) := fun W hW => (HLV.out.on hW).mx
   have HFT : Hid (∀ W, Below W4.heap.size W4 W → Calls Tryz.prog 17 #[.agg #[.slice da0 dn0 dc0, .slice da1 dn1 dc1, .slice da2 dn2 dc2, .slice da3 dn3 dc3], .agg #[.slice qa1 qn1 qc1, .slice qa2 qn2 qc2]] W (Said true W)) := fun W hW =>
    fits_v (s.l i) (s.c i) (s.c j) (s.c j) _ _ _ W ((sncV_kept _ _ _ _).on SNd.out hW) (Oq.out W (DV0W4.out.trans (hW.mono DV0W4.out.size))) (HLV.out.inv.set i hi2) (HLV.out.inv.set j hj2).right (by have := HLV.out.inv.len hi2; omega) (fun _ h => h) (HMX.out W (DV0W4.out.trans (hW.mono DV0W4.out.size)))
   have HSM : Hid (∀ W u, Below W6.heap.size W6 W → MrgV 0 (s.l j) (s.c j) (s.l i) (s.c i) u W → Calls Tryz.prog 25 #[.agg #[.slice ta0 tn0 tc0, .slice ta1 tn1 tc1, .slice ta2 tn2 tc2], u] W (Said true W)) := fun W u hW hu => by
    obtain ⟨M2, D2, hM, h2⟩ := hu.mg
    obtain ⟨rfl, rfl⟩ := HG.out.ext h2 (fun _ => Iff.rfl) (fun _ => Iff.rfl)
    exact same_v _ _ _ _ W ((setE_kept _ _ _).on SEt.out hW) hM
   have HUN : Hid (∀ W, Below W6.heap.size W6 W → Calls Tryz.prog 26 #[.agg #[.slice pa1 pn1 pc1, .slice pa2 pn2 pc2], .agg #[.slice ta1 tn1 tc1, .slice ta2 tn2 tc2]] W (Said true W)) := fun W hW => by
    have hV := DV0W6.out.trans (hW.mono DV0W6.out.size)
    have h : Calls _ _ _ W (SaidD _ W) := under_any (s.c i) D _ _ W (Op.out W hV).at (SOt.out.on hW).at (by have := HLV.out.inv.cloud hi2; omega) (by have := HLM.out.2.1; omega)
    rwa [underB_of (HLV.out.inv.set i hi2).right HLM.out.2.2.2.right (fun x hx => (HG.out.kn x).2 (Or.inr hx))] at h
   have HN1 : Hid (∀ W, Below W6.heap.size W6 W → Calls Tryz.prog 19 #[.agg #[.slice ta0 tn0 tc0, .slice ta1 tn1 tc1, .slice ta2 tn2 tc2], .agg #[.slice da0 dn0 dc0, .slice da1 dn1 dc1, .slice da2 dn2 dc2, .slice da3 dn3 dc3]] W (Said false W)) := fun W hW => by
    have h4 := DW4W6.out.trans (hW.mono DW4W6.out.size)
    have hV := DV0W6.out.trans (hW.mono DV0W6.out.size)
    exact news_no M (s.l i) D (s.c i) (s.c j) _ _ W ((setE_kept _ _ _).on SEt.out hW) ((sncV_kept _ _ _ _).on SNd.out h4) HLM.out.2.2.2 (HLV.out.inv.set i hi2) (fun x h => (HG.out.kn x).2 (Or.inl h)) (by have := HLM.out.1; omega) (by have := HLV.out.inv.len hi2; omega) (by have := HLM.out.2.1; omega) (by have := HLV.out.inv.cloud hi2; omega) (HMX.out W hV) (fun M2 D2 h2 => HG.out.again h2 (HLV.out.inv.set i hi2))
   have HN2 : Hid (∀ W d, Below W6.heap.size W6 W → SncV 0 (s.l i) (s.c i) ([], []) d W → Calls Tryz.prog 19 #[.agg #[.slice ta0 tn0 tc0, .slice ta1 tn1 tc1, .slice ta2 tn2 tc2], d] W (Said false W)) := fun W d hW hd => by
    have hV := DV0W6.out.trans (hW.mono DV0W6.out.size)
    exact news_no M (s.l i) D (s.c i) ([], []) _ _ W ((setE_kept _ _ _).on SEt.out hW) hd HLM.out.2.2.2 (HLV.out.inv.set i hi2) (fun x h => absurd h (kn_nil x)) (by have := HLM.out.1; omega) (by have := HLV.out.inv.len hi2; omega) (by have := HLM.out.2.1; omega) (by have := HLV.out.inv.cloud hi2; omega) (HMX.out W hV) (fun M2 D2 h2 => HG.out.again h2 (HLV.out.inv.set i hi2))
   have HS2 : Hid (∀ W, Below W6.heap.size W6 W → Calls Tryz.prog 13 #[.agg #[.slice pa0 pn0 pc0, .slice pa1 pn1 pc1, .slice pa2 pn2 pc2], .agg #[.slice ta1 tn1 tc1, .slice ta2 tn2 tc2]] W fun e w' => ∃ a1 c1 a2 n2 c2 a3 n3 c3 a4 n4 c4, e = .returned (.agg #[.slice a1 0 c1, .slice a2 n2 c2, .slice a3 n3 c3, .slice a4 n4 c4]) ∧ Below W.heap.size W w') := fun W hW => by
    have hV := DV0W6.out.trans (hW.mono DV0W6.out.size)
    refine ((HLV.out.on hV).since hi2 (Ep.out W hV) (SOt.out.on hW) HLM.out.2.2.2.right).mono ?_
    rintro e w' ⟨d, rfl, ⟨fa0, fn0, fc0, fa1, fn1, fc1, fa2, fn2, fc2, fa3, fn3, fc3, rfl, g1, g2, g3⟩, hb⟩
    obtain ⟨_, _, e⟩ : ∃ a c, Value.slice fa0 fn0 fc0 = .slice a (newOf D (s.l i)).length c := own_slice g1
    simp only [Value.slice.injEq] at e
    obtain rfl : fn0 = 0 := by rw [e.2.1, newOf_none (fun x hx => (HG.out.kn _).2 (Or.inr ((HLV.out.inv.set i hi2).kn x hx)))]; rfl
    exact ⟨_, _, _, _, _, _, _, _, _, _, _, rfl, hb⟩
   refine wp_flow 45 (fun _ => 1000) (fun ww => RowKit.Below W6.heap.size W6 ww) (fun _ w w' => (fun (w w' : World) => RowKit.Below w.heap.size w w') w w') (fun kF vF wF => match kF with | 0 => (vF = .agg #[.slice da0 dn0 dc0, .slice da1 dn1 dc1, .slice da2 dn2 dc2, .slice da3 dn3 dc3]) | 1 => (vF = .int .i64 (i : Int)) | 2 => (vF = .int .i64 (j : Int)) | 3 => (vF = .pointer (some ⟨b4, j * 3, none⟩)) | 4 => (vF = .pointer (some ⟨b4, j * 3 + 1, none⟩)) | 5 => (vF = .agg #[.slice qa1 qn1 qc1, .slice qa2 qn2 qc2]) | 6 => (vF = .bool true) | 7 => (vF = .bool false) | 8 => (vF = .bool false) | 9 => (vF = .agg #[.slice ta0 tn0 tc0, .slice ta1 tn1 tc1, .slice ta2 tn2 tc2]) | 10 => (vF = .int .i64 (i : Int)) | 11 => (vF = .int .i64 (j : Int)) | 12 => (vF = .pointer (some ⟨b4, j * 3, none⟩)) | 13 => (vF = .agg #[.slice qa0 qn0 qc0, .slice qa1 qn1 qc1, .slice qa2 qn2 qc2]) | 14 => (vF = .int .i64 (i : Int)) | 15 => (vF = .pointer (some ⟨b4, i * 3, none⟩)) | 16 => (vF = .agg #[.slice pa0 pn0 pc0, .slice pa1 pn1 pc1, .slice pa2 pn2 pc2]) | 17 => (SncV 0 (s.l i) (s.c i) ([], []) vF wF) | 18 => (MrgV 0 (s.l j) (s.c j) (s.l i) (s.c i) vF wF) | 19 => (vF = .bool true) | 20 => (vF = .bool false) | 21 => (vF = .bool false) | 22 => (vF = .bool false) | 23 => (vF = .int .i64 (i : Int)) | 24 => (vF = .pointer (some ⟨b4, i * 3, none⟩)) | 25 => (vF = .pointer (some ⟨b4, i * 3 + 1, none⟩)) | 26 => (vF = .agg #[.slice pa1 pn1 pc1, .slice pa2 pn2 pc2]) | 27 => (vF = .pointer (some ⟨gt, 1, none⟩)) | 28 => (vF = .agg #[.slice ta1 tn1 tc1, .slice ta2 tn2 tc2]) | 29 => (vF = .bool true) | 30 => (vF = .bool false) | 31 => (vF = .bool false) | 32 => (vF = .bool false) | 33 => (vF = .agg #[.slice ta0 tn0 tc0, .slice ta1 tn1 tc1, .slice ta2 tn2 tc2]) | 34 => (vF = .agg #[.slice da0 dn0 dc0, .slice da1 dn1 dc1, .slice da2 dn2 dc2, .slice da3 dn3 dc3]) | 35 => (vF = .bool false) | 36 => (vF = .bool false) | 37 => (vF = .bool false) | 38 => (vF = .agg #[.slice ta0 tn0 tc0, .slice ta1 tn1 tc1, .slice ta2 tn2 tc2]) | 39 => (vF = .int .i64 (i : Int)) | 40 => (vF = .pointer (some ⟨b4, i * 3, none⟩)) | 41 => (vF = .agg #[.slice pa0 pn0 pc0, .slice pa1 pn1 pc1, .slice pa2 pn2 pc2]) | 42 => (SncV 0 (s.l i) (s.c i) ([], []) vF wF) | 43 => (vF = .bool false) | 44 => (vF = .bool false) | _ => True) (fun _ _ _ _ => True) (by kernel_rfl) (by kernel_rfl) ?_ ?_ ?_ ?_ ?_
   ·
    exact (Below.refl _ _).drew
   ·
    intro iF wF1 wF2 hR hT; exact hR.trans (hT.mono hR.size)
   ·
    intro kF hkF iF hiF hne hdd hanc hdan vF wF1 wF2 h hT
    rcases (by omega : kF = 0 ∨ kF = 1 ∨ kF = 2 ∨ kF = 3 ∨ kF = 4 ∨ kF = 5 ∨ kF = 6 ∨ kF = 7 ∨ kF = 8 ∨ kF = 9 ∨ kF = 10 ∨ kF = 11 ∨ kF = 12 ∨ kF = 13 ∨ kF = 14 ∨ kF = 15 ∨ kF = 16 ∨ kF = 17 ∨ kF = 18 ∨ kF = 19 ∨ kF = 20 ∨ kF = 21 ∨ kF = 22 ∨ kF = 23 ∨ kF = 24 ∨ kF = 25 ∨ kF = 26 ∨ kF = 27 ∨ kF = 28 ∨ kF = 29 ∨ kF = 30 ∨ kF = 31 ∨ kF = 32 ∨ kF = 33 ∨ kF = 34 ∨ kF = 35 ∨ kF = 36 ∨ kF = 37 ∨ kF = 38 ∨ kF = 39 ∨ kF = 40 ∨ kF = 41 ∨ kF = 42 ∨ kF = 43 ∨ kF = 44) with rfl | rfl | rfl | rfl | rfl | rfl | rfl | rfl | rfl | rfl | rfl | rfl | rfl | rfl | rfl | rfl | rfl | rfl | rfl | rfl | rfl | rfl | rfl | rfl | rfl | rfl | rfl | rfl | rfl | rfl | rfl | rfl | rfl | rfl | rfl | rfl | rfl | rfl | rfl | rfl | rfl | rfl | rfl | rfl | rfl
    iterate 17 exact h
    ·
     have h : (SncV 0 (s.l i) (s.c i) ([], []) vF wF1) := h
     show (SncV 0 (s.l i) (s.c i) ([], []) vF wF2)
     have hT : (fun (w w' : World) => RowKit.Below w.heap.size w w') wF1 wF2 := hT
     simp only at hT
     exact (sncV_kept _ _ _ _).on h hT
    ·
     have h : (MrgV 0 (s.l j) (s.c j) (s.l i) (s.c i) vF wF1) := h
     show (MrgV 0 (s.l j) (s.c j) (s.l i) (s.c i) vF wF2)
     have hT : (fun (w w' : World) => RowKit.Below w.heap.size w w') wF1 wF2 := hT
     simp only at hT
     exact (mrgV_kept _ _ _ _ _).on h hT
    iterate 23 exact h
    ·
     have h : (SncV 0 (s.l i) (s.c i) ([], []) vF wF1) := h
     show (SncV 0 (s.l i) (s.c i) ([], []) vF wF2)
     have hT : (fun (w w' : World) => RowKit.Below w.heap.size w w') wF1 wF2 := hT
     simp only at hT
     exact (sncV_kept _ _ _ _).on h hT
    iterate 2 exact h
   ·
    generalize hAF : fillOf _ _ _ = AF
    replace hAF := fun x => congrFun hAF x
    simp only [take_succ_cons, take_zero, fillOf, Act.put, setIfInBounds_toArray, set_cons_zero, set_cons_succ, Nat.reduceAdd, Nat.zero_add] at hAF
    refine .cons ?_ (.cons ?_ (.cons ?_ (.cons ?_ (.cons ?_ (.cons ?_ (.cons ?_ (.cons ?_ (.cons ?_ (.cons ?_ (.cons ?_ (.cons ?_ (.cons ?_ (.cons ?_ (.cons ?_ (.cons ?_ (.cons ?_ (.cons ?_ (.cons ?_ (.cons ?_ (.cons ?_ (.cons ?_ (.cons ?_ (.cons ?_ (.cons ?_ (.cons ?_ (.cons ?_ (.cons ?_ (.cons ?_ (.cons ?_ (.cons ?_ (.cons ?_ (.cons ?_ (.cons ?_ (.cons ?_ (.cons ?_ (.cons ?_ (.cons ?_ (.cons ?_ (.cons ?_ (.cons ?_ (.cons ?_ (.cons ?_ (.cons ?_ (.cons ?_ (.nil)))))))))))))))))))))))))))))))))))))))))))))
    all_goals
     intro xF w7 hR hd K hK
     first | simp only [← hAF, Act.put, setIfInBounds_toArray, set_cons_zero, set_cons_succ] at hK ⊢ | simp only [← hAF, Act.put] at hK ⊢
     clear hAF
     try simp only [Nat.zero_add, Nat.reduceAdd] at hK ⊢
    ·
     clear hd
     have k9 := ((DW4W6.out.trans (hR.mono DW4W6.out.size)).block _ (lt_of_block Yd.out)).trans Yd.out
     have k90 := boxc k9 0 _ rfl
     have k91 := boxc k9 1 _ rfl
     have k92 := boxc k9 2 _ rfl
     have k93 := boxc k9 3 _ rfl
     rw [if_pos (by rfl)]
     go_simp
     exact hK.out _ _ (Below.refl _ _) (rfl) (fun _ _ _ => ⟨trivial, trivial⟩)
    ·
     clear hd
     rw [if_pos (by rfl)]
     go_simp
     exact hK.out _ _ (Below.refl _ _) (rfl) (fun _ _ _ => ⟨trivial, trivial⟩)
    ·
     have dd1 := hd 1 (by kernel_rfl)
     clear hd
     try generalize xF 1 = yy1 at *
     obtain rfl := dd1
     have hs := HSUB.out
     rw [if_pos (by rfl)]
     go_simp
     exact hK.out _ _ (Below.refl _ _) (rfl) (fun _ _ _ => ⟨trivial, trivial⟩)
    ·
     have dd2 := hd 2 (by kernel_rfl)
     clear hd
     try generalize xF 2 = yy2 at *
     obtain rfl := dd2
     rw [if_pos (by rfl)]
     go_simp
     exact hK.out _ _ (Below.refl _ _) (rfl) (fun _ _ _ => ⟨trivial, trivial⟩)
    ·
     have dd3 := hd 3 (by kernel_rfl)
     clear hd
     try generalize xF 3 = yy3 at *
     obtain rfl := dd3
     rw [if_pos (by rfl)]
     go_simp
     exact hK.out _ _ (Below.refl _ _) (rfl) (fun _ _ _ => ⟨trivial, trivial⟩)
    ·
     have dd4 := hd 4 (by kernel_rfl)
     clear hd
     try generalize xF 4 = yy4 at *
     obtain rfl := dd4
     obtain ⟨e0, e1, e2⟩ := Xq.out _ (DV0W6.out.trans (hR.mono DV0W6.out.size))
     rw [if_pos (by rfl)]
     go_simp
     exact hK.out _ _ (Below.refl _ _) (rfl) (fun _ _ _ => ⟨trivial, trivial⟩)
    ·
     have dd0 := hd 0 (by kernel_rfl)
     have dd5 := hd 5 (by kernel_rfl)
     clear hd
     try generalize xF 0 = yy0 at *
     try generalize xF 5 = yy5 at *
     obtain rfl := dd0
     obtain rfl := dd5
     rw [if_pos (by rfl)]
     go_simp
     (go_at_call 17; (with_reducible refine (HFT.out _ (DW4W6.out.trans (hR.mono DW4W6.out.size))).mono ?_); rintro e wK ⟨rfl, hbK⟩)
     try go_wp2_with fail
     exact hK.out _ _ (hbK) (rfl) (fun _ _ _ => ⟨trivial, trivial⟩)
    ·
     have dd6 := hd 6 (by kernel_rfl)
     clear hd
     try generalize xF 6 = yy6 at *
     obtain rfl := dd6
     rw [if_pos (by rfl)]
     go_simp
     exact hK.out _ _ (Below.refl _ _) (rfl) (fun _ _ _ => ⟨trivial, trivial⟩)
    ·
     have dd7 := hd 7 (by kernel_rfl)
     clear hd
     try generalize xF 7 = yy7 at *
     obtain rfl := dd7
     rw [if_pos (by rfl)]
     go_simp
     exact hK.out _ _ (Below.refl _ _) (rfl) (fun _ _ _ => ⟨trivial, trivial⟩)
    ·
     have dd8 := hd 8 (by kernel_rfl)
     clear hd
     try generalize xF 8 = yy8 at *
     obtain rfl := dd8
     have k9 := (hR.block _ (lt_of_block Yt.out)).trans Yt.out
     have k90 := boxc k9 0 _ rfl
     have k91 := boxc k9 1 _ rfl
     have k92 := boxc k9 2 _ rfl
     rw [if_pos (by rfl)]
     go_simp
     exact hK.out _ _ (Below.refl _ _) (rfl) (fun _ _ _ => ⟨trivial, trivial⟩)
    ·
     have dd8 := hd 8 (by kernel_rfl)
     clear hd
     try generalize xF 8 = yy8 at *
     obtain rfl := dd8
     rw [if_pos (by rfl)]
     go_simp
     exact hK.out _ _ (Below.refl _ _) (rfl) (fun _ _ _ => ⟨trivial, trivial⟩)
    ·
     have dd8 := hd 8 (by kernel_rfl)
     have dd10 := hd 10 (by kernel_rfl)
     clear hd
     try generalize xF 8 = yy8 at *
     try generalize xF 10 = yy10 at *
     obtain rfl := dd8
     obtain rfl := dd10
     have hs := HSUB.out
     rw [if_pos (by rfl)]
     go_simp
     exact hK.out _ _ (Below.refl _ _) (rfl) (fun _ _ _ => ⟨trivial, trivial⟩)
    ·
     have dd8 := hd 8 (by kernel_rfl)
     have dd11 := hd 11 (by kernel_rfl)
     clear hd
     try generalize xF 8 = yy8 at *
     try generalize xF 11 = yy11 at *
     obtain rfl := dd8
     obtain rfl := dd11
     rw [if_pos (by rfl)]
     go_simp
     exact hK.out _ _ (Below.refl _ _) (rfl) (fun _ _ _ => ⟨trivial, trivial⟩)
    ·
     have dd8 := hd 8 (by kernel_rfl)
     have dd12 := hd 12 (by kernel_rfl)
     clear hd
     try generalize xF 8 = yy8 at *
     try generalize xF 12 = yy12 at *
     obtain rfl := dd8
     obtain rfl := dd12
     obtain ⟨e0, e1, e2⟩ := Xq.out _ (DV0W6.out.trans (hR.mono DV0W6.out.size))
     rw [if_pos (by rfl)]
     go_simp
     exact hK.out _ _ (Below.refl _ _) (rfl) (fun _ _ _ => ⟨trivial, trivial⟩)
    ·
     have dd8 := hd 8 (by kernel_rfl)
     clear hd
     try generalize xF 8 = yy8 at *
     obtain rfl := dd8
     rw [if_pos (by rfl)]
     go_simp
     exact hK.out _ _ (Below.refl _ _) (rfl) (fun _ _ _ => ⟨trivial, trivial⟩)
    ·
     have dd8 := hd 8 (by kernel_rfl)
     have dd14 := hd 14 (by kernel_rfl)
     clear hd
     try generalize xF 8 = yy8 at *
     try generalize xF 14 = yy14 at *
     obtain rfl := dd8
     obtain rfl := dd14
     rw [if_pos (by rfl)]
     go_simp
     exact hK.out _ _ (Below.refl _ _) (rfl) (fun _ _ _ => ⟨trivial, trivial⟩)
    ·
     have dd8 := hd 8 (by kernel_rfl)
     have dd15 := hd 15 (by kernel_rfl)
     clear hd
     try generalize xF 8 = yy8 at *
     try generalize xF 15 = yy15 at *
     obtain rfl := dd8
     obtain rfl := dd15
     obtain ⟨e0, e1, e2⟩ := Xp.out _ (DV0W6.out.trans (hR.mono DV0W6.out.size))
     rw [if_pos (by rfl)]
     go_simp
     exact hK.out _ _ (Below.refl _ _) (rfl) (fun _ _ _ => ⟨trivial, trivial⟩)
    ·
     have dd8 := hd 8 (by kernel_rfl)
     have dd16 := hd 16 (by kernel_rfl)
     clear hd
     try generalize xF 8 = yy8 at *
     try generalize xF 16 = yy16 at *
     obtain rfl := dd8
     obtain rfl := dd16
     rw [if_pos (by rfl)]
     go_simp
     (go_at_call 15; (with_reducible refine (HAL.out _ (DV0W6.out.trans (hR.mono DV0W6.out.size))).mono ?_); rintro e wK ⟨vK, rfl, hpK, hbK⟩)
     try go_wp2_with fail
     exact hK.out _ _ (hbK) (hpK) (fun _ _ _ => ⟨trivial, trivial⟩)
    ·
     have dd8 := hd 8 (by kernel_rfl)
     have dd13 := hd 13 (by kernel_rfl)
     have dd17 : (SncV 0 (s.l i) (s.c i) ([], []) (xF 17) w7) := hd 17 (by kernel_rfl)
     clear hd
     try generalize xF 8 = yy8 at *
     try generalize xF 13 = yy13 at *
     try generalize xF 17 = yy17 at *
     obtain rfl := dd8
     obtain rfl := dd13
     have hp17 := dd17
     rw [if_pos (by rfl)]
     go_simp
     (go_at_call 24; (with_reducible refine (HA2.out _ _ (DV0W6.out.trans (hR.mono DV0W6.out.size)) hp17).mono ?_); rintro e wK ⟨vK, rfl, hpK, hbK⟩)
     try go_wp2_with fail
     exact hK.out _ _ (hbK) (hpK) (fun _ _ _ => ⟨trivial, trivial⟩)
    ·
     have dd8 := hd 8 (by kernel_rfl)
     have dd9 := hd 9 (by kernel_rfl)
     have dd18 : (MrgV 0 (s.l j) (s.c j) (s.l i) (s.c i) (xF 18) w7) := hd 18 (by kernel_rfl)
     clear hd
     try generalize xF 8 = yy8 at *
     try generalize xF 9 = yy9 at *
     try generalize xF 18 = yy18 at *
     obtain rfl := dd8
     obtain rfl := dd9
     have hp18 := dd18
     rw [if_pos (by rfl)]
     go_simp
     (go_at_call 25; (with_reducible refine (HSM.out _ _ hR hp18).mono ?_); rintro e wK ⟨rfl, hbK⟩)
     try go_wp2_with fail
     exact hK.out _ _ (hbK) (rfl) (fun _ _ _ => ⟨trivial, trivial⟩)
    ·
     have dd8 := hd 8 (by kernel_rfl)
     have dd19 := hd 19 (by kernel_rfl)
     clear hd
     try generalize xF 8 = yy8 at *
     try generalize xF 19 = yy19 at *
     obtain rfl := dd8
     obtain rfl := dd19
     rw [if_pos (by rfl)]
     go_simp
     exact hK.out _ _ (Below.refl _ _) (rfl) (fun _ _ _ => ⟨trivial, trivial⟩)
    ·
     have dd8 := hd 8 (by kernel_rfl)
     have dd20 := hd 20 (by kernel_rfl)
     clear hd
     try generalize xF 8 = yy8 at *
     try generalize xF 20 = yy20 at *
     obtain rfl := dd8
     obtain rfl := dd20
     rw [if_pos (by rfl)]
     go_simp
     exact hK.out _ _ (Below.refl _ _) (rfl) (fun _ _ _ => ⟨trivial, trivial⟩)
    ·
     have dd21 := hd 21 (by kernel_rfl)
     clear hd
     try generalize xF 21 = yy21 at *
     obtain rfl := dd21
     rw [if_pos (by rfl)]
     go_simp
     exact hK.out _ _ (Below.refl _ _) (rfl) (fun _ _ _ => ⟨trivial, trivial⟩)
    ·
     have dd22 := hd 22 (by kernel_rfl)
     clear hd
     try generalize xF 22 = yy22 at *
     obtain rfl := dd22
     rw [if_pos (by rfl)]
     go_simp
     exact hK.out _ _ (Below.refl _ _) (rfl) (fun _ _ _ => ⟨trivial, trivial⟩)
    ·
     have dd22 := hd 22 (by kernel_rfl)
     have dd23 := hd 23 (by kernel_rfl)
     clear hd
     try generalize xF 22 = yy22 at *
     try generalize xF 23 = yy23 at *
     obtain rfl := dd22
     obtain rfl := dd23
     rw [if_pos (by rfl)]
     go_simp
     exact hK.out _ _ (Below.refl _ _) (rfl) (fun _ _ _ => ⟨trivial, trivial⟩)
    ·
     have dd22 := hd 22 (by kernel_rfl)
     have dd24 := hd 24 (by kernel_rfl)
     clear hd
     try generalize xF 22 = yy22 at *
     try generalize xF 24 = yy24 at *
     obtain rfl := dd22
     obtain rfl := dd24
     rw [if_pos (by rfl)]
     go_simp
     exact hK.out _ _ (Below.refl _ _) (rfl) (fun _ _ _ => ⟨trivial, trivial⟩)
    ·
     have dd22 := hd 22 (by kernel_rfl)
     have dd25 := hd 25 (by kernel_rfl)
     clear hd
     try generalize xF 22 = yy22 at *
     try generalize xF 25 = yy25 at *
     obtain rfl := dd22
     obtain rfl := dd25
     obtain ⟨e0, e1, e2⟩ := Xp.out _ (DV0W6.out.trans (hR.mono DV0W6.out.size))
     rw [if_pos (by rfl)]
     go_simp
     exact hK.out _ _ (Below.refl _ _) (rfl) (fun _ _ _ => ⟨trivial, trivial⟩)
    ·
     have dd22 := hd 22 (by kernel_rfl)
     clear hd
     try generalize xF 22 = yy22 at *
     obtain rfl := dd22
     rw [if_pos (by rfl)]
     go_simp
     exact hK.out _ _ (Below.refl _ _) (rfl) (fun _ _ _ => ⟨trivial, trivial⟩)
    ·
     have dd22 := hd 22 (by kernel_rfl)
     have dd27 := hd 27 (by kernel_rfl)
     clear hd
     try generalize xF 22 = yy22 at *
     try generalize xF 27 = yy27 at *
     obtain rfl := dd22
     obtain rfl := dd27
     have k9 := (hR.block _ (lt_of_block Yt.out)).trans Yt.out
     have k90 := boxc k9 0 _ rfl
     have k91 := boxc k9 1 _ rfl
     have k92 := boxc k9 2 _ rfl
     rw [if_pos (by rfl)]
     go_simp
     exact hK.out _ _ (Below.refl _ _) (rfl) (fun _ _ _ => ⟨trivial, trivial⟩)
    ·
     have dd22 := hd 22 (by kernel_rfl)
     have dd26 := hd 26 (by kernel_rfl)
     have dd28 := hd 28 (by kernel_rfl)
     clear hd
     try generalize xF 22 = yy22 at *
     try generalize xF 26 = yy26 at *
     try generalize xF 28 = yy28 at *
     obtain rfl := dd22
     obtain rfl := dd26
     obtain rfl := dd28
     rw [if_pos (by rfl)]
     go_simp
     (go_at_call 26; (with_reducible refine (HUN.out _ hR).mono ?_); rintro e wK ⟨rfl, hbK⟩)
     try go_wp2_with fail
     exact hK.out _ _ (hbK) (rfl) (fun _ _ _ => ⟨trivial, trivial⟩)
    ·
     have dd22 := hd 22 (by kernel_rfl)
     have dd29 := hd 29 (by kernel_rfl)
     clear hd
     try generalize xF 22 = yy22 at *
     try generalize xF 29 = yy29 at *
     obtain rfl := dd22
     obtain rfl := dd29
     rw [if_pos (by rfl)]
     go_simp
     exact hK.out _ _ (Below.refl _ _) (rfl) (fun _ _ _ => ⟨trivial, trivial⟩)
    ·
     have dd22 := hd 22 (by kernel_rfl)
     have dd30 := hd 30 (by kernel_rfl)
     clear hd
     try generalize xF 22 = yy22 at *
     try generalize xF 30 = yy30 at *
     obtain rfl := dd22
     obtain rfl := dd30
     rw [if_pos (by rfl)]
     go_simp
     exact hK.out _ _ (Below.refl _ _) (rfl) (fun _ _ _ => ⟨trivial, trivial⟩)
    ·
     have dd31 := hd 31 (by kernel_rfl)
     clear hd
     try generalize xF 31 = yy31 at *
     obtain rfl := dd31
     rw [if_pos (by rfl)]
     go_simp
     exact hK.out _ _ (Below.refl _ _) (rfl) (fun _ _ _ => ⟨trivial, trivial⟩)
    ·
     have dd32 := hd 32 (by kernel_rfl)
     clear hd
     try generalize xF 32 = yy32 at *
     obtain rfl := dd32
     have k9 := (hR.block _ (lt_of_block Yt.out)).trans Yt.out
     have k90 := boxc k9 0 _ rfl
     have k91 := boxc k9 1 _ rfl
     have k92 := boxc k9 2 _ rfl
     rw [if_pos (by rfl)]
     go_simp
     exact hK.out _ _ (Below.refl _ _) (rfl) (fun _ _ _ => ⟨trivial, trivial⟩)
    ·
     have dd32 := hd 32 (by kernel_rfl)
     clear hd
     try generalize xF 32 = yy32 at *
     obtain rfl := dd32
     have k9 := ((DW4W6.out.trans (hR.mono DW4W6.out.size)).block _ (lt_of_block Yd.out)).trans Yd.out
     have k90 := boxc k9 0 _ rfl
     have k91 := boxc k9 1 _ rfl
     have k92 := boxc k9 2 _ rfl
     have k93 := boxc k9 3 _ rfl
     rw [if_pos (by rfl)]
     go_simp
     exact hK.out _ _ (Below.refl _ _) (rfl) (fun _ _ _ => ⟨trivial, trivial⟩)
    ·
     have dd32 := hd 32 (by kernel_rfl)
     have dd33 := hd 33 (by kernel_rfl)
     have dd34 := hd 34 (by kernel_rfl)
     clear hd
     try generalize xF 32 = yy32 at *
     try generalize xF 33 = yy33 at *
     try generalize xF 34 = yy34 at *
     obtain rfl := dd32
     obtain rfl := dd33
     obtain rfl := dd34
     rw [if_pos (by rfl)]
     go_simp
     (go_at_call 19; (with_reducible refine (HN1.out _ hR).mono ?_); rintro e wK ⟨rfl, hbK⟩)
     try go_wp2_with fail
     exact hK.out _ _ (hbK) (rfl) (fun _ _ _ => ⟨trivial, trivial⟩)
    ·
     have dd32 := hd 32 (by kernel_rfl)
     have dd35 := hd 35 (by kernel_rfl)
     clear hd
     try generalize xF 32 = yy32 at *
     try generalize xF 35 = yy35 at *
     obtain rfl := dd32
     obtain rfl := dd35
     rw [if_pos (by rfl)]
     go_simp
     exact hK.out _ _ (Below.refl _ _) (rfl) (fun _ _ _ => ⟨trivial, trivial⟩)
    ·
     have dd36 := hd 36 (by kernel_rfl)
     clear hd
     try generalize xF 36 = yy36 at *
     obtain rfl := dd36
     rw [if_pos (by rfl)]
     go_simp
     exact hK.out _ _ (Below.refl _ _) (rfl) (fun _ _ _ => ⟨trivial, trivial⟩)
    ·
     have dd37 := hd 37 (by kernel_rfl)
     clear hd
     try generalize xF 37 = yy37 at *
     obtain rfl := dd37
     have k9 := (hR.block _ (lt_of_block Yt.out)).trans Yt.out
     have k90 := boxc k9 0 _ rfl
     have k91 := boxc k9 1 _ rfl
     have k92 := boxc k9 2 _ rfl
     rw [if_pos (by rfl)]
     go_simp
     exact hK.out _ _ (Below.refl _ _) (rfl) (fun _ _ _ => ⟨trivial, trivial⟩)
    ·
     have dd37 := hd 37 (by kernel_rfl)
     clear hd
     try generalize xF 37 = yy37 at *
     obtain rfl := dd37
     rw [if_pos (by rfl)]
     go_simp
     exact hK.out _ _ (Below.refl _ _) (rfl) (fun _ _ _ => ⟨trivial, trivial⟩)
    ·
     have dd37 := hd 37 (by kernel_rfl)
     have dd39 := hd 39 (by kernel_rfl)
     clear hd
     try generalize xF 37 = yy37 at *
     try generalize xF 39 = yy39 at *
     obtain rfl := dd37
     obtain rfl := dd39
     rw [if_pos (by rfl)]
     go_simp
     exact hK.out _ _ (Below.refl _ _) (rfl) (fun _ _ _ => ⟨trivial, trivial⟩)
    ·
     have dd37 := hd 37 (by kernel_rfl)
     have dd40 := hd 40 (by kernel_rfl)
     clear hd
     try generalize xF 37 = yy37 at *
     try generalize xF 40 = yy40 at *
     obtain rfl := dd37
     obtain rfl := dd40
     obtain ⟨e0, e1, e2⟩ := Xp.out _ (DV0W6.out.trans (hR.mono DV0W6.out.size))
     rw [if_pos (by rfl)]
     go_simp
     exact hK.out _ _ (Below.refl _ _) (rfl) (fun _ _ _ => ⟨trivial, trivial⟩)
    ·
     have dd37 := hd 37 (by kernel_rfl)
     have dd41 := hd 41 (by kernel_rfl)
     clear hd
     try generalize xF 37 = yy37 at *
     try generalize xF 41 = yy41 at *
     obtain rfl := dd37
     obtain rfl := dd41
     rw [if_pos (by rfl)]
     go_simp
     (go_at_call 15; (with_reducible refine (HAL.out _ (DV0W6.out.trans (hR.mono DV0W6.out.size))).mono ?_); rintro e wK ⟨vK, rfl, hpK, hbK⟩)
     try go_wp2_with fail
     exact hK.out _ _ (hbK) (hpK) (fun _ _ _ => ⟨trivial, trivial⟩)
    ·
     have dd37 := hd 37 (by kernel_rfl)
     have dd38 := hd 38 (by kernel_rfl)
     have dd42 : (SncV 0 (s.l i) (s.c i) ([], []) (xF 42) w7) := hd 42 (by kernel_rfl)
     clear hd
     try generalize xF 37 = yy37 at *
     try generalize xF 38 = yy38 at *
     try generalize xF 42 = yy42 at *
     obtain rfl := dd37
     obtain rfl := dd38
     have hp42 := dd42
     rw [if_pos (by rfl)]
     go_simp
     (go_at_call 19; (with_reducible refine (HN2.out _ _ hR hp42).mono ?_); rintro e wK ⟨rfl, hbK⟩)
     try go_wp2_with fail
     exact hK.out _ _ (hbK) (rfl) (fun _ _ _ => ⟨trivial, trivial⟩)
    ·
     have dd37 := hd 37 (by kernel_rfl)
     have dd43 := hd 43 (by kernel_rfl)
     clear hd
     try generalize xF 37 = yy37 at *
     try generalize xF 43 = yy43 at *
     obtain rfl := dd37
     obtain rfl := dd43
     rw [if_pos (by rfl)]
     go_simp
     exact hK.out _ _ (Below.refl _ _) (rfl) (fun _ _ _ => ⟨trivial, trivial⟩)
   intro xF w7 hR hF hP
   clear hP
   have dd0 := hF 0 (by omega) (by decide)
   have dd1 := hF 1 (by omega) (by decide)
   have dd2 := hF 2 (by omega) (by decide)
   have dd3 := hF 3 (by omega) (by decide)
   have dd4 := hF 4 (by omega) (by decide)
   have dd5 := hF 5 (by omega) (by decide)
   have dd6 := hF 6 (by omega) (by decide)
   have dd7 := hF 7 (by omega) (by decide)
   have dd8 := hF 8 (by omega) (by decide)
   have dd9 := hF 9 (by omega) (by decide)
   have dd10 := hF 10 (by omega) (by decide)
   have dd11 := hF 11 (by omega) (by decide)
   have dd12 := hF 12 (by omega) (by decide)
   have dd13 := hF 13 (by omega) (by decide)
   have dd14 := hF 14 (by omega) (by decide)
   have dd15 := hF 15 (by omega) (by decide)
   have dd16 := hF 16 (by omega) (by decide)
   have dd17 : (SncV 0 (s.l i) (s.c i) ([], []) (xF 17) w7) := hF 17 (by omega) (by decide)
   have dd18 : (MrgV 0 (s.l j) (s.c j) (s.l i) (s.c i) (xF 18) w7) := hF 18 (by omega) (by decide)
   have dd19 := hF 19 (by omega) (by decide)
   have dd20 := hF 20 (by omega) (by decide)
   have dd21 := hF 21 (by omega) (by decide)
   have dd22 := hF 22 (by omega) (by decide)
   have dd23 := hF 23 (by omega) (by decide)
   have dd24 := hF 24 (by omega) (by decide)
   have dd25 := hF 25 (by omega) (by decide)
   have dd26 := hF 26 (by omega) (by decide)
   have dd27 := hF 27 (by omega) (by decide)
   have dd28 := hF 28 (by omega) (by decide)
   have dd29 := hF 29 (by omega) (by decide)
   have dd30 := hF 30 (by omega) (by decide)
   have dd31 := hF 31 (by omega) (by decide)
   have dd32 := hF 32 (by omega) (by decide)
   have dd33 := hF 33 (by omega) (by decide)
   have dd34 := hF 34 (by omega) (by decide)
   have dd35 := hF 35 (by omega) (by decide)
   have dd36 := hF 36 (by omega) (by decide)
   have dd37 := hF 37 (by omega) (by decide)
   have dd38 := hF 38 (by omega) (by decide)
   have dd39 := hF 39 (by omega) (by decide)
   have dd40 := hF 40 (by omega) (by decide)
   have dd41 := hF 41 (by omega) (by decide)
   have dd42 : (SncV 0 (s.l i) (s.c i) ([], []) (xF 42) w7) := hF 42 (by omega) (by decide)
   have dd43 := hF 43 (by omega) (by decide)
   have dd44 := hF 44 (by omega) (by decide)
   clear hF
   simp only [take_succ_cons, take_zero, drop_succ_cons, drop_zero, fillOf, Act.put, setIfInBounds_toArray, set_cons_zero, set_cons_succ, Nat.reduceAdd, Nat.zero_add]
   try generalize xF 0 = yy0 at *
   try generalize xF 1 = yy1 at *
   try generalize xF 2 = yy2 at *
   try generalize xF 3 = yy3 at *
   try generalize xF 4 = yy4 at *
   try generalize xF 5 = yy5 at *
   try generalize xF 6 = yy6 at *
   try generalize xF 7 = yy7 at *
   try generalize xF 8 = yy8 at *
   try generalize xF 9 = yy9 at *
   try generalize xF 10 = yy10 at *
   try generalize xF 11 = yy11 at *
   try generalize xF 12 = yy12 at *
   try generalize xF 13 = yy13 at *
   try generalize xF 14 = yy14 at *
   try generalize xF 15 = yy15 at *
   try generalize xF 16 = yy16 at *
   try generalize xF 17 = yy17 at *
   try generalize xF 18 = yy18 at *
   try generalize xF 19 = yy19 at *
   try generalize xF 20 = yy20 at *
   try generalize xF 21 = yy21 at *
   try generalize xF 22 = yy22 at *
   try generalize xF 23 = yy23 at *
   try generalize xF 24 = yy24 at *
   try generalize xF 25 = yy25 at *
   try generalize xF 26 = yy26 at *
   try generalize xF 27 = yy27 at *
   try generalize xF 28 = yy28 at *
   try generalize xF 29 = yy29 at *
   try generalize xF 30 = yy30 at *
   try generalize xF 31 = yy31 at *
   try generalize xF 32 = yy32 at *
   try generalize xF 33 = yy33 at *
   try generalize xF 34 = yy34 at *
   try generalize xF 35 = yy35 at *
   try generalize xF 36 = yy36 at *
   try generalize xF 37 = yy37 at *
   try generalize xF 38 = yy38 at *
   try generalize xF 39 = yy39 at *
   try generalize xF 40 = yy40 at *
   try generalize xF 41 = yy41 at *
   try generalize xF 42 = yy42 at *
   try generalize xF 43 = yy43 at *
   try generalize xF 44 = yy44 at *
   clear xF
   obtain rfl := dd0
   obtain rfl := dd1
   obtain rfl := dd2
   obtain rfl := dd3
   obtain rfl := dd4
   obtain rfl := dd5
   obtain rfl := dd6
   obtain rfl := dd7
   obtain rfl := dd8
   obtain rfl := dd9
   obtain rfl := dd10
   obtain rfl := dd11
   obtain rfl := dd12
   obtain rfl := dd13
   obtain rfl := dd14
   obtain rfl := dd15
   obtain rfl := dd16
   have hp17 := dd17
   have hp18 := dd18
   obtain rfl := dd19
   obtain rfl := dd20
   obtain rfl := dd21
   obtain rfl := dd22
   obtain rfl := dd23
   obtain rfl := dd24
   obtain rfl := dd25
   obtain rfl := dd26
   obtain rfl := dd27
   obtain rfl := dd28
   obtain rfl := dd29
   obtain rfl := dd30
   obtain rfl := dd31
   obtain rfl := dd32
   obtain rfl := dd33
   obtain rfl := dd34
   obtain rfl := dd35
   obtain rfl := dd36
   obtain rfl := dd37
   obtain rfl := dd38
   obtain rfl := dd39
   obtain rfl := dd40
   obtain rfl := dd41
   have hp42 := dd42
   obtain rfl := dd43
   obtain rfl := dd44
   have hRE := Lib.hid hR
   clear hR
   have HR7 := Lib.hid hRE.out
   have D67 : Hid (Below W6.heap.size W6 w7) := hRE.out
   clear hRE HR7
   go_wp2_with fail
   refine wp_flow 9 (fun _ => 1000) (fun ww => RowKit.Below w7.heap.size w7 ww) (fun _ w w' => (fun (w w' : World) => RowKit.Below w.heap.size w w') w w') (fun kF vF wF => match kF with | 0 => (vF = .int .i64 (i : Int)) | 1 => (vF = .pointer (some ⟨b4, i * 3, none⟩)) | 2 => (vF = .agg #[.slice pa0 pn0 pc0, .slice pa1 pn1 pc1, .slice pa2 pn2 pc2]) | 3 => (vF = .pointer (some ⟨gt, 1, none⟩)) | 4 => (vF = .agg #[.slice ta1 tn1 tc1, .slice ta2 tn2 tc2]) | 5 => (∃ fa0 fc0 fa1 fn1 fc1 fa2 fn2 fc2 fa3 fn3 fc3, vF = .agg #[.slice fa0 0 fc0, .slice fa1 fn1 fc1, .slice fa2 fn2 fc2, .slice fa3 fn3 fc3]) | 6 => (∃ a c, vF = .slice a 0 c) | 7 => (vF = .int .i64 0) | 8 => (vF = .bool false) | _ => True) (fun _ _ _ _ => True) (by kernel_rfl) (by kernel_rfl) ?_ ?_ ?_ ?_ ?_
   ·
    exact (Below.refl _ _).drew
   ·
    intro iF wF1 wF2 hR hT; exact hR.trans (hT.mono hR.size)
   ·
    intro kF hkF iF hiF hne hdd hanc hdan vF wF1 wF2 h hT
    rcases (by omega : kF = 0 ∨ kF = 1 ∨ kF = 2 ∨ kF = 3 ∨ kF = 4 ∨ kF = 5 ∨ kF = 6 ∨ kF = 7 ∨ kF = 8) with rfl | rfl | rfl | rfl | rfl | rfl | rfl | rfl | rfl
    iterate 9 exact h
   ·
    generalize hAF : fillOf _ _ _ = AF
    replace hAF := fun x => congrFun hAF x
    simp only [take_succ_cons, take_zero, fillOf, Act.put, setIfInBounds_toArray, set_cons_zero, set_cons_succ, Nat.reduceAdd, Nat.zero_add] at hAF
    refine .cons ?_ (.cons ?_ (.cons ?_ (.cons ?_ (.cons ?_ (.cons ?_ (.cons ?_ (.cons ?_ (.cons ?_ (.nil)))))))))
    all_goals
     intro xF w8 hR hd K hK
     first | simp only [← hAF, Act.put, setIfInBounds_toArray, set_cons_zero, set_cons_succ] at hK ⊢ | simp only [← hAF, Act.put] at hK ⊢
     clear hAF
     try simp only [Nat.zero_add, Nat.reduceAdd] at hK ⊢
    ·
     clear hd
     rw [if_pos (by rfl)]
     go_simp
     exact hK.out _ _ (Below.refl _ _) (rfl) (fun _ _ _ => ⟨trivial, trivial⟩)
    ·
     have dd0 := hd 0 (by kernel_rfl)
     clear hd
     try generalize xF 0 = yy0 at *
     obtain rfl := dd0
     rw [if_pos (by rfl)]
     go_simp
     exact hK.out _ _ (Below.refl _ _) (rfl) (fun _ _ _ => ⟨trivial, trivial⟩)
    ·
     have dd1 := hd 1 (by kernel_rfl)
     clear hd
     try generalize xF 1 = yy1 at *
     obtain rfl := dd1
     obtain ⟨e0, e1, e2⟩ := Xp.out _ (DV0W6.out.trans ((D67.out.trans (hR.mono D67.out.size)).mono DV0W6.out.size))
     rw [if_pos (by rfl)]
     go_simp
     exact hK.out _ _ (Below.refl _ _) (rfl) (fun _ _ _ => ⟨trivial, trivial⟩)
    ·
     clear hd
     rw [if_pos (by rfl)]
     go_simp
     exact hK.out _ _ (Below.refl _ _) (rfl) (fun _ _ _ => ⟨trivial, trivial⟩)
    ·
     have dd3 := hd 3 (by kernel_rfl)
     clear hd
     try generalize xF 3 = yy3 at *
     obtain rfl := dd3
     have k9 := ((D67.out.trans (hR.mono D67.out.size)).block _ (lt_of_block Yt.out)).trans Yt.out
     have k90 := boxc k9 0 _ rfl
     have k91 := boxc k9 1 _ rfl
     have k92 := boxc k9 2 _ rfl
     rw [if_pos (by rfl)]
     go_simp
     exact hK.out _ _ (Below.refl _ _) (rfl) (fun _ _ _ => ⟨trivial, trivial⟩)
    ·
     have dd2 := hd 2 (by kernel_rfl)
     have dd4 := hd 4 (by kernel_rfl)
     clear hd
     try generalize xF 2 = yy2 at *
     try generalize xF 4 = yy4 at *
     obtain rfl := dd2
     obtain rfl := dd4
     rw [if_pos (by rfl)]
     go_simp
     (go_at_call 13; (with_reducible refine (HS2.out _ (D67.out.trans (hR.mono D67.out.size))).mono ?_); rintro e wK ⟨fa0, fc0, fa1, fn1, fc1, fa2, fn2, fc2, fa3, fn3, fc3, rfl, hbK⟩)
     try go_wp2_with fail
     exact hK.out _ _ (hbK) (⟨_, _, _, _, _, _, _, _, _, _, _, rfl⟩) (fun _ _ _ => ⟨trivial, trivial⟩)
    ·
     have dd5 := hd 5 (by kernel_rfl)
     clear hd
     try generalize xF 5 = yy5 at *
     obtain ⟨fa0, fc0, fa1, fn1, fc1, fa2, fn2, fc2, fa3, fn3, fc3, rfl⟩ := dd5
     have hfd : ∀ W : World, (Instr.field 29 (.agg #[.slice fa0 0 fc0, .slice fa1 fn1 fc1, .slice fa2 fn2 fc2, .slice fa3 fn3 fc3]) 0).run Tryz.prog W = .ok (.slice fa0 0 fc0) W := fun _ => by kernel_rfl
     rw [if_pos (by rfl)]
     go_simp
     exact hK.out _ _ (Below.refl _ _) (⟨_, _, rfl⟩) (fun _ _ _ => ⟨trivial, trivial⟩)
    ·
     have dd6 := hd 6 (by kernel_rfl)
     clear hd
     try generalize xF 6 = yy6 at *
     obtain ⟨ha, hc, rfl⟩ := dd6
     rw [if_pos (by rfl)]
     go_simp
     exact hK.out _ _ (Below.refl _ _) (rfl) (fun _ _ _ => ⟨trivial, trivial⟩)
    ·
     have dd7 := hd 7 (by kernel_rfl)
     clear hd
     try generalize xF 7 = yy7 at *
     obtain rfl := dd7
     rw [if_pos (by rfl)]
     go_simp
     exact hK.out _ _ (Below.refl _ _) (rfl) (fun _ _ _ => ⟨trivial, trivial⟩)
   intro xF w8 hR hF hP
   clear hP
   have dd0 := hF 0 (by omega) (by decide)
   have dd1 := hF 1 (by omega) (by decide)
   have dd2 := hF 2 (by omega) (by decide)
   have dd3 := hF 3 (by omega) (by decide)
   have dd4 := hF 4 (by omega) (by decide)
   have dd5 := hF 5 (by omega) (by decide)
   have dd6 := hF 6 (by omega) (by decide)
   have dd7 := hF 7 (by omega) (by decide)
   have dd8 := hF 8 (by omega) (by decide)
   clear hF
   simp only [take_succ_cons, take_zero, drop_succ_cons, drop_zero, fillOf, Act.put, setIfInBounds_toArray, set_cons_zero, set_cons_succ, Nat.reduceAdd, Nat.zero_add]
   try generalize xF 0 = yy0 at *
   try generalize xF 1 = yy1 at *
   try generalize xF 2 = yy2 at *
   try generalize xF 3 = yy3 at *
   try generalize xF 4 = yy4 at *
   try generalize xF 5 = yy5 at *
   try generalize xF 6 = yy6 at *
   try generalize xF 7 = yy7 at *
   try generalize xF 8 = yy8 at *
   clear xF
   obtain rfl := dd0
   obtain rfl := dd1
   obtain rfl := dd2
   obtain rfl := dd3
   obtain rfl := dd4
   obtain ⟨fa0, fc0, fa1, fn1, fc1, fa2, fn2, fc2, fa3, fn3, fc3, rfl⟩ := dd5
   obtain ⟨ha, hc, rfl⟩ := dd6
   obtain rfl := dd7
   obtain rfl := dd8
   have hRE := Lib.hid hR
   clear hR
   have HB8 : Hid (Below W0.heap.size W0 w8) := HBR.out.trans ((DV0W6.out.trans ((D67.out.trans (hRE.out.mono D67.out.size)).mono DV0W6.out.size)).mono HBR.out.size)
   clear hRE
   go_wp2_with fail
   go_roundw
   case rel => exact ⟨i + 1, by go_num, by omega, HB8⟩
   case measure => simp [intOf]; omega
  ·
   obtain rfl : i = 2 := by omega
   have HB9 : Hid (Below w.heap.size w wr) := HB.out.trans (HBR.out.mono HB.out.size)
   go_wp2_with fail
   (with_reducible refine (HAW.out _ HB9.out).mono ?_)
   rintro e w10 ⟨rfl, hb10⟩
   have HB10 : Hid (Below w.heap.size w w10) := HB9.out.trans (hb10.mono HB9.out.size)
   clear hb10
   go_wp2_with fail
   go_ret
   exact ⟨rfl, HB10.out⟩
end Go.Proofs.YtonknpdalemjkaaGreat

