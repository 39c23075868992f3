/- texts put together: DelV, DelLwr, DelAwr. -/
import Derived.Test.YtonknpdalemjkaaGreatDe00
import Derived.Test.YtonknpdalemjkaaGreatDe01
import Derived.Test.YtonknpdalemjkaaGreatDe02
import Derived.Test.YtonknpdalemjkaaGreatDe03
import Derived.Test.YtonknpdalemjkaaGreatDe04
import Derived.Test.YtonknpdalemjkaaGreatDe05
import Derived.Test.YtonknpdalemjkaaGreatDe06
import Derived.Test.YtonknpdalemjkaaGreatDe07
import Derived.Test.YtonknpdalemjkaaGreatDe08
import Derived.Test.YtonknpdalemjkaaGreatDe09
import Derived.Test.YtonknpdalemjkaaGreatDe10
import Derived.Test.YtonknpdalemjkaaGreatDe11
import Derived.Test.YtonknpdalemjkaaGreatDe12
import Derived.Test.YtonknpdalemjkaaGreatDe13
import Derived.Test.YtonknpdalemjkaaGreatDe14
import Derived.Test.YtonknpdalemjkaaGreatDe15
import Derived.Test.YtonknpdalemjkaaGreatDe16
import Derived.Test.YtonknpdalemjkaaGreatDe17
import Derived.Test.YtonknpdalemjkaaGreatDe18
import Derived.Test.YtonknpdalemjkaaGreatDe19
import Derived.Test.YtonknpdalemjkaaGreatDe20
import Derived.Test.YtonknpdalemjkaaGreatDe21
import Derived.Test.YtonknpdalemjkaaGreatDe22
import Derived.Test.YtonknpdalemjkaaGreatDe23
import Derived.Test.YtonknpdalemjkaaGreatDe24
import Derived.Test.YtonknpdalemjkaaGreatDn00
import Derived.Test.YtonknpdalemjkaaGreatDn01
import Derived.Test.YtonknpdalemjkaaGreatDn11
import Derived.Test.YtonknpdalemjkaaGreatDn23
import Derived.Test.YtonknpdalemjkaaGreatDn25
open List (setIfInBounds_toArray set_cons_zero set_cons_succ take_succ_cons take_zero drop_succ_cons drop_zero)
namespace Go.Proofs.YtonknpdalemjkaaGreat
open Go Go.RowKit Go.ChangeShapes cl
theorem MrgV.mg {B : Nat} {l L : List Ent} {c C : dm.Ctx} {v : Value} {w : World} (h : MrgV B l c L C v w) : ∃ M D, SetE B M D v w ∧ Mg l c L C M D := by
 obtain ⟨M, D, h1, h2, h3, h4⟩ := h
 exact ⟨M, D, h1, h2, h3, h4⟩
theorem ownC_nil (B : Nat) (w : World) : OwnC B w (.agg #[.slice none 0 0, .slice none 0 0]) ([], []) := ⟨_, _, _, _, rfl, World.ownsRow_nil _ _ _ _, World.ownsRow_nil _ _ _ _⟩
theorem apply_w (l L : List Ent) (c C dc : dm.Ctx) (v d : Value) (w : World) (h : SetE 0 l c v w) (hd : SncV 0 L C dc d w) (hr : RSet l c) (hR : RSet L C) (hk : ∀ d, dm.Knows dc d → dm.Knows c d) (hl : l.length ≤ 1000) (hL : L.length ≤ 1000) (hc2 : c.2.length ≤ 1000) (hC2 : C.2.length ≤ 1000) (hm : MX w) :
  Calls Tryz.prog 24 #[v, d] w fun e w' => ∃ v', e = .returned v' ∧ MrgV 0 l c L C v' w' ∧ Below w.heap.size w w' := by
 obtain ⟨a0, n0, c0, a1, n1, c1, a2, n2, c2, rfl, h1, h2⟩ := h
 obtain ⟨b0, m0, d0, b1, m1, d1, b2, m2, d2, b3, m3, d3, rfl, g1, g2, g3⟩ := hd
 refine (oapply_yes l c (newOf dc L) (L.map Ent.d) C _ _ _ _ _ _ _ w h1.at h2.at g1.at g2.at g3.at hr (rdel_since hR dc) (fun x hx => (told_since L dc x hx).imp id (hk _)) hl (Nat.le_trans (newOf_len _ _) hL) (by rw [List.length_map]; exact hL) hc2 hC2 hm).mono ?_
 rintro e w' ⟨x0, x1, x2, L', c', rfl, k1, k2, k3, k4, k5, k6⟩
 rw [newOf_sub hk] at k3
 refine ⟨_, rfl, ⟨L', c', SetE.mk (k1.low (Nat.zero_le _)) (k2.low (Nat.zero_le _)), ?_, k4, _, k5⟩, k6⟩
 unfold mrg
 rw [newOf_sub (fun d h => h)]
 exact k3
theorem same_v (l : List Ent) (c : dm.Ctx) (va vb : Value) (w : World) (ha : SetE 0 l c va w) (hb : SetE 0 l c vb w) :
  Calls Tryz.prog 25 #[va, vb] w (Said true w) := by
 obtain ⟨a0, n0, c0, a1, n1, c1, a2, n2, c2, rfl, h1, h2⟩ := ha
 obtain ⟨b0, m0, d0, b1, m1, d1, b2, m2, d2, rfl, g1, g2⟩ := hb
 exact osame_yes l c _ _ _ _ _ _ w h1.at h2.at g1.at g2.at
set_option maxHeartbeats 1600000 in
set_option maxRecDepth 100000 in
theorem eqf_no (na nb : Nat) (ao bo : Option Addr) (ca cb : Nat) (w : World) (hne : na ≠ nb) :
  Calls Tryz.prog 59 #[.slice ao na ca, .slice bo nb cb, .func (.func 60) #[] #[]] w (Said false w) := by
 have hneI : ¬ (na : Int) = (nb : Int) := by omega
 have hneB : ((na : Int) == (nb : Int)) = false := beq_eq_false_iff_ne.2 hneI
 go_enter Tryz.func59, Tryz.ntmps59
 go_wp2
 go_ret
 exact ⟨rfl, Below.refl _ _⟩
set_option maxHeartbeats 1600000 in
set_option maxRecDepth 100000 in
theorem osame_no (ao bo : Option Addr) (na nb ca cb : Nat) (a1 a2 b1 b2 : Value) (w : World) (hne : na ≠ nb) :
  Calls Tryz.prog 25 #[.agg #[.slice ao na ca, a1, a2], .agg #[.slice bo nb cb, b1, b2]] w (Said false w) := by
 obtain ⟨w2, hw2⟩ : ∃ W, W = (w.alloc (.cells #[.slice ao na ca, a1, a2] 27)).alloc (.cells #[.slice bo nb cb, b1, b2] 27) := ⟨_, rfl⟩
 have b1' : Below w.heap.size w (w.alloc (.cells #[.slice ao na ca, a1, a2] 27)) := below1
 have b2' : Below (w.alloc (.cells #[.slice ao na ca, a1, a2] 27)).heap.size (w.alloc (.cells #[.slice ao na ca, a1, a2] 27)) w2 := by rw [hw2]; exact below1
 have E2 := b1'.trans (b2'.mono b1'.size)
 have HE := Lib.hid (eqf_no na nb ao bo ca cb w2 hne)
 have HB := Lib.hid E2
 have HW := Lib.hid hw2
 clear b1' b2' E2 hw2
 go_enter Tryz.func25, Tryz.ntmps25
 go_wp2_with fail
 rw [← HW.out]
 (with_reducible refine HE.out.mono ?_)
 rintro e w3 ⟨rfl, hb3⟩
 have HB3 := Lib.hid (HB.out.trans (hb3.mono HB.out.size))
 clear hb3
 go_wp2
 go_ret
 exact ⟨rfl, HB3.out⟩
set_option maxHeartbeats 1600000 in
set_option maxRecDepth 100000 in
theorem all_v (l : List Ent) (c : dm.Ctx) (v : Value) (w : World) (h : SetE 0 l c v w) (hr : RSet l c) (hl : l.length ≤ 1000) (hc1 : c.1.length ≤ 1000) (hc2 : c.2.length ≤ 1000) (hm : MX w) :
  Calls Tryz.prog 15 #[v] w fun e w' => ∃ d, e = .returned d ∧ SncV 0 l c ([], []) d w' ∧ Below w.heap.size w w' := by
 have HS : Hid (∀ W, Below w.heap.size w W → Calls Tryz.prog 13 #[v, .agg #[.slice none 0 0, .slice none 0 0]] W fun e w' => ∃ d, e = .returned d ∧ SncV 0 l c ([], []) d w' ∧ Below W.heap.size W w') := fun W hW => since_v l c ([], []) v (.slice none 0 0) (.slice none 0 0) W ((setE_kept _ _ _).on h hW) (ownC_nil _ _) hr right_nil hl hc1 hc2 (MX.next hm hW)
 obtain ⟨a0, n0, c0, a1, n1, c1, a2, n2, c2, rfl, h1, h2⟩ := h
 obtain ⟨q1, hq1⟩ : ∃ b, b = w.heap.size + 1 := ⟨_, rfl⟩
 obtain ⟨WA, hWA⟩ : ∃ W, W = w.alloc (.cells #[.slice a0 n0 c0, .slice a1 n1 c1, .slice a2 n2 c2] 27) := ⟨_, rfl⟩
 obtain ⟨WB, hWB⟩ : ∃ W, W = WA.alloc (.cells #[.slice none 0 0, .slice none 0 0, .slice none 0 0, .slice none 0 0] 29) := ⟨_, rfl⟩
 have sA : WA.heap.size = w.heap.size + 1 := by rw [hWA]; simp
 have bA : Below w.heap.size w WA := by rw [hWA]; exact below1
 have bB : Below WA.heap.size WA WB := by rw [hWB]; exact below1
 have b2 : Below w.heap.size w WB := bA.trans (bB.mono bA.size)
 have x0 : WB.heap[w.heap.size]? = some (.cells #[.slice a0 n0 c0, .slice a1 n1 c1, .slice a2 n2 c2] 27 (0, 0)) := (bB.block _ (by omega)).trans (by rw [hWA]; exact heap_alloc_new w _)
 have x1 : WB.heap[q1]? = some (.cells #[.slice none 0 0, .slice none 0 0, .slice none 0 0, .slice none 0 0] 29 (0, 0)) := by rw [hWB, hq1, ← sA]; exact heap_alloc_new WA _
 have HB := Lib.hid b2
 have HW : Hid (WB = (w.alloc (.cells #[.slice a0 n0 c0, .slice a1 n1 c1, .slice a2 n2 c2] 27)).alloc (.cells #[.slice none 0 0, .slice none 0 0, .slice none 0 0, .slice none 0 0] 29)) := by show _ = _; rw [hWB, hWA]
 have H1 := Lib.hid hq1
 have X1 := Lib.hid x1
 have HQ : Hid (w.heap.size ≤ q1) := by show _ ≤ _; omega
 clear h1 h2 hr hl hc1 hc2 hm sA bA bB b2 x0 x1 hWA hWB hq1
 go_enter Tryz.func15, Tryz.ntmps15
 go_wp2_with fail
 rw [← HW.out, ← H1.out]
 (with_reducible refine (HS.out _ HB.out).mono ?_)
 rintro e w1 ⟨d, rfl, hd, hb⟩
 obtain ⟨b0, m0, d0, b1, m1, d1, b2, m2, d2, b3, m3, d3, rfl, g1, g2, g3⟩ := hd
 have y := (hb.block _ (lt_of_block X1.out)).trans X1.out
 have k0 := boxc y 0 _ rfl
 have k1 := boxc y 1 _ rfl
 have k2 := boxc y 2 _ rfl
 have k3 := boxc y 3 _ rfl
 have f0 := boxf y 0
 have f1 := boxf y 1
 have f2 := boxf y 2
 have f3 := boxf y 3
 obtain ⟨w5, hw5⟩ : ∃ W, W = (((w1.setCell ⟨q1, 0, none⟩ (.slice b0 m0 d0)).setCell ⟨q1, 1, none⟩ (.slice b1 m1 d1)).setCell ⟨q1, 2, none⟩ (.slice b2 m2 d2)).setCell ⟨q1, 3, none⟩ (.slice b3 m3 d3) := ⟨_, rfl⟩
 have t0 := heap_setCell_same _ q1 0 _ _ (.slice b0 m0 d0) y
 have t1 := heap_setCell_same _ q1 1 _ _ (.slice b1 m1 d1) t0
 have t2 := heap_setCell_same _ q1 2 _ _ (.slice b2 m2 d2) t1
 have t3 := heap_setCell_same _ q1 3 _ _ (.slice b3 m3 d3) t2
 have HT : Hid (w5.heap[q1]? = some (.cells #[.slice b0 m0 d0, .slice b1 m1 d1, .slice b2 m2 d2, .slice b3 m3 d3] 29 (0, 0))) := by show _ = _; rw [hw5]; exact t3
 have hkt : Kt 29 w1 w5 := by rw [hw5]; exact set4_kt y _ _ _ _
 have HSN : Hid (SncV 0 l c ([], []) (.agg #[.slice b0 m0 d0, .slice b1 m1 d1, .slice b2 m2 d2, .slice b3 m3 d3]) w5) := ⟨_, _, _, _, _, _, _, _, _, _, _, _, rfl, g1.kt hkt (by decide), g2.kt hkt (by decide), g3.kt hkt (by decide)⟩
 have HB5 : Hid (Below w.heap.size w w5) := by
  show Below _ _ _
  rw [hw5]
  exact ((((HB.out.trans (hb.mono HB.out.size)).setCell HQ.out _).setCell HQ.out _).setCell HQ.out _).setCell HQ.out _
 have HW5 := Lib.hid hw5
 clear y hw5 t0 t1 t2 t3 hkt g1 g2 g3 hb
 go_wp2_with fail
 rw [← HW5.out]
 have g0 := boxc HT.out 0 _ rfl
 have g1 := boxc HT.out 1 _ rfl
 have g2 := boxc HT.out 2 _ rfl
 have g3 := boxc HT.out 3 _ rfl
 exact bodyPost_ret (v := .agg #[.slice b0 m0 d0, .slice b1 m1 d1, .slice b2 m2 d2, .slice b3 m3 d3]) (by simp [results, Tryz.results15, go_sem, g0, g1, g2, g3]) rfl ⟨_, rfl, HSN.out, HB5.out⟩
set_option maxHeartbeats 1600000 in
set_option maxRecDepth 100000 in
theorem news_g (z : Bool) (l L : List Ent) (c C dc : dm.Ctx) (v d : Value) (w : World) (h : SetE 0 l c v w) (hd : SncV 0 L C dc d w) (hr : RSet l c) (hR : RSet L C) (hk : ∀ d, dm.Knows dc d → dm.Knows c d) (hl : l.length ≤ 1000) (hL : L.length ≤ 1000) (hc2 : c.2.length ≤ 1000) (hC2 : C.2.length ≤ 1000) (hm : MX w)
  (hs : ∀ u W, Below w.heap.size w W → MrgV 0 l c L C u W → Calls Tryz.prog 25 #[u, v] W (Said z W)) :
  Calls Tryz.prog 19 #[v, d] w (Said (!z) w) := by
 have HA : Hid (∀ W, Below w.heap.size w W → Calls Tryz.prog 24 #[v, d] W fun e w' => ∃ v', e = .returned v' ∧ MrgV 0 l c L C v' w' ∧ Below W.heap.size W w') := fun W hW =>
  apply_w l L c C dc v d W ((setE_kept _ _ _).on h hW) ((sncV_kept _ _ _ _).on hd hW) hr hR hk hl hL hc2 hC2 (MX.next hm hW)
 have HS := Lib.hid hs
 obtain ⟨a0, n0, c0, a1, n1, c1, a2, n2, c2, rfl, h1, h2⟩ := h
 obtain ⟨ue, ne, ce, ua, na, ca, uv, nv, cv, uc, nc, cc, rfl, g1, g2, g3⟩ := hd
 obtain ⟨q0, hq0⟩ : ∃ b, b = w.heap.size := ⟨_, rfl⟩
 obtain ⟨q1, hq1⟩ : ∃ b, b = w.heap.size + 1 := ⟨_, rfl⟩
 obtain ⟨WA, hWA⟩ : ∃ W, W = w.alloc (.cells #[.slice a0 n0 c0, .slice a1 n1 c1, .slice a2 n2 c2] 27) := ⟨_, rfl⟩
 obtain ⟨WB, hWB⟩ : ∃ W, W = WA.alloc (.cells #[.slice ue ne ce, .slice ua na ca, .slice uv nv cv, .slice uc nc cc] 29) := ⟨_, rfl⟩
 have sA : WA.heap.size = w.heap.size + 1 := by rw [hWA]; simp
 have bA : Below w.heap.size w WA := by rw [hWA]; exact below1
 have bB : Below WA.heap.size WA WB := by rw [hWB]; exact below1
 have b2 : Below w.heap.size w WB := bA.trans (bB.mono bA.size)
 have x0 : WB.heap[q0]? = some (.cells #[.slice a0 n0 c0, .slice a1 n1 c1, .slice a2 n2 c2] 27 (0, 0)) := (bB.block _ (by omega)).trans (by rw [hWA, hq0]; exact heap_alloc_new w _)
 have x1 : WB.heap[q1]? = some (.cells #[.slice ue ne ce, .slice ua na ca, .slice uv nv cv, .slice uc nc cc] 29 (0, 0)) := by rw [hWB, hq1, ← sA]; exact heap_alloc_new WA _
 have X0 : Hid (∀ ww, Below WB.heap.size WB ww → ww.cell? ⟨q0, 0, none⟩ = some (.slice a0 n0 c0) ∧ ww.cell? ⟨q0, 1, none⟩ = some (.slice a1 n1 c1) ∧ ww.cell? ⟨q0, 2, none⟩ = some (.slice a2 n2 c2)) := fun ww hw => by
  have y := (hw.block _ (lt_of_block x0)).trans x0
  exact ⟨boxc y 0 _ rfl, boxc y 1 _ rfl, boxc y 2 _ rfl⟩
 have X1 : Hid (∀ ww, Below WB.heap.size WB ww → ww.cell? ⟨q1, 0, none⟩ = some (.slice ue ne ce) ∧ ww.cell? ⟨q1, 1, none⟩ = some (.slice ua na ca) ∧ ww.cell? ⟨q1, 2, none⟩ = some (.slice uv nv cv) ∧ ww.cell? ⟨q1, 3, none⟩ = some (.slice uc nc cc)) := fun ww hw => by
  have y := (hw.block _ (lt_of_block x1)).trans x1
  exact ⟨boxc y 0 _ rfl, boxc y 1 _ rfl, boxc y 2 _ rfl, boxc y 3 _ rfl⟩
 have HB := Lib.hid b2
 have HW : Hid (WB = (w.alloc (.cells #[.slice a0 n0 c0, .slice a1 n1 c1, .slice a2 n2 c2] 27)).alloc (.cells #[.slice ue ne ce, .slice ua na ca, .slice uv nv cv, .slice uc nc cc] 29)) := by show _ = _; rw [hWB, hWA]
 have H0 := Lib.hid hq0
 have H1 := Lib.hid hq1
 clear h1 h2 g1 g2 g3 hr hR hk hl hL hc2 hC2 hm hs hWA hWB sA bA bB b2 x0 x1 hq0 hq1
 go_enter Tryz.func19, Tryz.ntmps19
 go_wp2_with fail
 rw [← HW.out, ← H1.out, ← H0.out]
 refine wp_flow 6 (fun _ => 1000) (fun ww => RowKit.Below WB.heap.size WB ww) (fun _ w w' => (fun (w w' : World) => RowKit.Below w.heap.size w w') w w') (fun kF vF wF => match kF with | 0 => (vF = .agg #[.slice a0 n0 c0, .slice a1 n1 c1, .slice a2 n2 c2]) | 1 => (vF = .agg #[.slice ue ne ce, .slice ua na ca, .slice uv nv cv, .slice uc nc cc]) | 2 => (MrgV 0 l c L C vF wF) | 3 => (vF = .agg #[.slice a0 n0 c0, .slice a1 n1 c1, .slice a2 n2 c2]) | 4 => (vF = .bool z) | 5 => (vF = .bool (!z)) | _ => True) (fun _ _ _ _ => True) (by kernel_rfl) (by kernel_rfl) ?_ ?_ ?_ ?_ ?_
 ·
  exact (Below.refl _ _).drew
 ·
  intro iF wF1 wF2 hR hT; exact hR.trans (hT.mono hR.size)
 ·
  intro kF hkF iF hiF hne hdd hanc hdan vF wF1 wF2 h hT
  rcases (by omega : kF = 0 ∨ kF = 1 ∨ kF = 2 ∨ kF = 3 ∨ kF = 4 ∨ kF = 5) with rfl | rfl | rfl | rfl | rfl | rfl
  iterate 2 exact h
  ·
   have h : (MrgV 0 l c L C vF wF1) := h
   show (MrgV 0 l c L C vF wF2)
   have hT : (fun (w w' : World) => RowKit.Below w.heap.size w w') wF1 wF2 := hT
   simp only at hT
   exact (mrgV_kept _ _ _ _ _).on h hT
  iterate 3 exact h
 ·
  generalize hAF : fillOf _ _ _ = AF
  replace hAF := fun x => congrFun hAF x
  simp only [take_succ_cons, take_zero, fillOf, Act.put, setIfInBounds_toArray, set_cons_zero, set_cons_succ, Nat.reduceAdd, Nat.zero_add] at hAF
  refine .cons ?_ (.cons ?_ (.cons ?_ (.cons ?_ (.cons ?_ (.cons ?_ (.nil))))))
  all_goals
   intro xF w5 hR hd K hK
   first | simp only [← hAF, Act.put, setIfInBounds_toArray, set_cons_zero, set_cons_succ] at hK ⊢ | simp only [← hAF, Act.put] at hK ⊢
   clear hAF
   try simp only [Nat.zero_add, Nat.reduceAdd] at hK ⊢
  ·
   clear hd
   obtain ⟨e0, e1, e2⟩ := X0.out _ hR
   rw [if_pos (by rfl)]
   go_simp
   exact hK.out _ _ (Below.refl _ _) (rfl) (fun _ _ _ => ⟨trivial, trivial⟩)
  ·
   clear hd
   obtain ⟨e0, e1, e2, e3⟩ := X1.out _ hR
   rw [if_pos (by rfl)]
   go_simp
   exact hK.out _ _ (Below.refl _ _) (rfl) (fun _ _ _ => ⟨trivial, trivial⟩)
  ·
   have dd0 := hd 0 (by kernel_rfl)
   have dd1 := hd 1 (by kernel_rfl)
   clear hd
   try generalize xF 0 = yy0 at *
   try generalize xF 1 = yy1 at *
   obtain rfl := dd0
   obtain rfl := dd1
   rw [if_pos (by rfl)]
   go_simp
   (go_at_call 24; (with_reducible refine (HA.out _ (HB.out.trans (hR.mono HB.out.size))).mono ?_); rintro e wK ⟨vK, rfl, hpK, hbK⟩)
   try go_wp2_with fail
   exact hK.out _ _ (hbK) (hpK) (fun _ _ _ => ⟨trivial, trivial⟩)
  ·
   clear hd
   obtain ⟨e0, e1, e2⟩ := X0.out _ hR
   rw [if_pos (by rfl)]
   go_simp
   exact hK.out _ _ (Below.refl _ _) (rfl) (fun _ _ _ => ⟨trivial, trivial⟩)
  ·
   have dd2 : (MrgV 0 l c L C (xF 2) w5) := hd 2 (by kernel_rfl)
   have dd3 := hd 3 (by kernel_rfl)
   clear hd
   try generalize xF 2 = yy2 at *
   try generalize xF 3 = yy3 at *
   have hp2 := dd2
   obtain rfl := dd3
   rw [if_pos (by rfl)]
   go_simp
   (go_at_call 25; (with_reducible refine (HS.out _ _ (HB.out.trans (hR.mono HB.out.size)) hp2).mono ?_); rintro e wK ⟨rfl, hbK⟩)
   try go_wp2_with fail
   exact hK.out _ _ (hbK) (rfl) (fun _ _ _ => ⟨trivial, trivial⟩)
  ·
   have dd4 := hd 4 (by kernel_rfl)
   clear hd
   try generalize xF 4 = yy4 at *
   obtain rfl := dd4
   rw [if_pos (by rfl)]
   go_simp
   exact hK.out _ _ (Below.refl _ _) (rfl) (fun _ _ _ => ⟨trivial, trivial⟩)
 intro xF w5 hR hF hP
 clear hP
 have dd0 := hF 0 (by omega) (by decide)
 have dd1 := hF 1 (by omega) (by decide)
 have dd2 : (MrgV 0 l c L C (xF 2) w5) := hF 2 (by omega) (by decide)
 have dd3 := hF 3 (by omega) (by decide)
 have dd4 := hF 4 (by omega) (by decide)
 have dd5 := hF 5 (by omega) (by decide)
 clear hF
 simp only [take_succ_cons, take_zero, drop_succ_cons, drop_zero, fillOf, Act.put, setIfInBounds_toArray, set_cons_zero, set_cons_succ, Nat.reduceAdd, Nat.zero_add]
 try generalize xF 0 = yy0 at *
 try generalize xF 1 = yy1 at *
 try generalize xF 2 = yy2 at *
 try generalize xF 3 = yy3 at *
 try generalize xF 4 = yy4 at *
 try generalize xF 5 = yy5 at *
 clear xF
 obtain rfl := dd0
 obtain rfl := dd1
 have hp2 := dd2
 obtain rfl := dd3
 obtain rfl := dd4
 obtain rfl := dd5
 have hRE := Lib.hid hR
 clear hR
 have HRW : Hid (Below w.heap.size w w5) := HB.out.trans (hRE.out.mono HB.out.size)
 clear hRE
 go_wp2
 go_ret
 exact ⟨rfl, HRW.out⟩
theorem news_no (l L : List Ent) (c C dc : dm.Ctx) (v d : Value) (w : World) (h : SetE 0 l c v w) (hd : SncV 0 L C dc d w) (hr : RSet l c) (hR : RSet L C) (hk : ∀ d, dm.Knows dc d → dm.Knows c d) (hl : l.length ≤ 1000) (hL : L.length ≤ 1000) (hc2 : c.2.length ≤ 1000) (hC2 : C.2.length ≤ 1000) (hm : MX w)
  (hs : ∀ M D, Mg l c L C M D → M = l ∧ D = c) :
  Calls Tryz.prog 19 #[v, d] w (Said false w) :=
 news_g true l L c C dc v d w h hd hr hR hk hl hL hc2 hC2 hm fun u W hW hu => by
  obtain ⟨M, D, hM, hG⟩ := hu.mg
  obtain ⟨rfl, rfl⟩ := hs M D hG
  exact same_v _ _ u v W hM ((setE_kept _ _ _).on h hW)
theorem news_yes (l L : List Ent) (c C dc : dm.Ctx) (v d : Value) (w : World) (h : SetE 0 l c v w) (hd : SncV 0 L C dc d w) (hr : RSet l c) (hR : RSet L C) (hk : ∀ d, dm.Knows dc d → dm.Knows c d) (hl : l.length ≤ 1000) (hL : L.length ≤ 1000) (hc2 : c.2.length ≤ 1000) (hC2 : C.2.length ≤ 1000) (hm : MX w)
  (hs : ∀ M D, Mg l c L C M D → M.length ≠ l.length) :
  Calls Tryz.prog 19 #[v, d] w (Said true w) :=
 news_g false l L c C dc v d w h hd hr hR hk hl hL hc2 hC2 hm fun u W hW hu => by
  obtain ⟨M, D, hM, hG⟩ := hu.mg
  have hne := hs M D hG
  obtain ⟨x0, p0, y0, x1, p1, y1, x2, p2, y2, rfl, k1, k2⟩ := hM
  obtain ⟨a0, n0, c0, a1, n1, c1, a2, n2, c2, rfl, h1, h2⟩ := h
  obtain ⟨_, _, e0⟩ : ∃ a c, Value.slice x0 p0 y0 = .slice a M.length c := own_slice k1
  obtain ⟨_, _, e1⟩ : ∃ a c, Value.slice a0 n0 c0 = .slice a l.length c := own_slice h1
  simp only [Value.slice.injEq] at e0 e1
  exact osame_no _ _ _ _ _ _ _ _ _ _ W (by rw [e0.2.1, e1.2.1]; exact hne)
end Go.Proofs.YtonknpdalemjkaaGreat
namespace Go.Proofs.YtonknpdalemjkaaGreat
open Go Go.RowKit Go.ChangeShapes cl
structure LTwo (W : World) (b : Nat) (s : TS) : Prop where
 mx : MX W
 inv : TInv 50 s
 box : ∃ g, Box6 W b g ∧ PIn 0 W g s
theorem LTwo.on {W W' : World} {b : Nat} {s : TS} (h : LTwo W b s) (hb : Below W.heap.size W W') : LTwo W' b s := by
 obtain ⟨g, h1, h2⟩ := h.box
 exact ⟨MX.next h.mx hb, h.inv, g, h1.on hb, h2.on hb⟩
theorem LTwo.get {W : World} {b : Nat} {s : TS} (h : LTwo W b s) {i : Nat} (hi : i < 2) : ∃ a0 n0 c0 a1 n1 c1 a2 n2 c2, n0 = (s.l i).length ∧
  (∀ ww, Below W.heap.size W ww → ww.cell? ⟨b, i * 3, none⟩ = some (.slice a0 n0 c0) ∧ ww.cell? ⟨b, i * 3 + 1, none⟩ = some (.slice a1 n1 c1) ∧ ww.cell? ⟨b, i * 3 + 2, none⟩ = some (.slice a2 n2 c2)) ∧
  (∀ ww, Below W.heap.size W ww → SetE 0 (s.l i) (s.c i) (.agg #[.slice a0 n0 c0, .slice a1 n1 c1, .slice a2 n2 c2]) ww) ∧ (∀ ww, Below W.heap.size W ww → OwnC 0 ww (.agg #[.slice a1 n1 c1, .slice a2 n2 c2]) (s.c i)) := by
 obtain ⟨g, h1, h2⟩ := h.box
 obtain ⟨ae, ce, hge⟩ : ∃ a c, g (i * 3) = .slice a (s.l i).length c := own_slice (h2.ent i hi)
 obtain ⟨av, nv, cv, ac, nc, cc, hgc⟩ := (h2.ctx i hi).form
 simp only [Value.agg.injEq, Array.mk.injEq, List.cons.injEq, and_true] at hgc
 have e1 := h2.ent i hi
 have e2 := h2.ctx i hi
 rw [hge] at e1
 rw [hgc.1, hgc.2] at e2
 refine ⟨_, _, _, _, _, _, _, _, _, rfl, fun ww hw => ?_, fun ww hw => ⟨_, _, _, _, _, _, _, _, _, rfl, e1.on hw, e2.on hw⟩, fun ww hw => e2.on hw⟩
 have bx := h1.on hw
 have k0 := bx.cell (j := i * 3) (by omega)
 have k1 := bx.cell (j := i * 3 + 1) (by omega)
 have k2 := bx.cell (j := i * 3 + 2) (by omega)
 rw [hge] at k0
 rw [hgc.1] at k1
 rw [hgc.2] at k2
 exact ⟨k0, k1, k2⟩
def HasS (w : World) (l : List Ent) (c : dm.Ctx) (a0 : Option Addr) (n0 c0 : Nat) (a1 : Option Addr) (n1 c1 : Nat) (a2 : Option Addr) (n2 c2 : Nat) : Prop :=
 n0 = l.length ∧ ∀ ww, Below w.heap.size w ww → SetE 0 l c (.agg #[.slice a0 n0 c0, .slice a1 n1 c1, .slice a2 n2 c2]) ww ∧ OwnC 0 ww (.agg #[.slice a1 n1 c1, .slice a2 n2 c2]) c
theorem two_says {l : List (List Int)} {w w' : World} {e : Ending} (hm : MX w) (h : TwoP l w e w') : (50 < l.length ∧ e = .returned (.tuple #[.agg #[.slice none 0 0, .slice none 0 0, .slice none 0 0, .slice none 0 0, .slice none 0 0, .slice none 0 0], .bool false]) ∧ Below w.heap.size w w') ∨
  ∃ a0 n0 c0 a1 n1 c1 a2 n2 c2 a3 n3 c3 a4 n4 c4 a5 n5 c5 s, e = .returned (.tuple #[.agg #[.slice a0 n0 c0, .slice a1 n1 c1, .slice a2 n2 c2, .slice a3 n3 c3, .slice a4 n4 c4, .slice a5 n5 c5], .bool true]) ∧
   (∀ W b, Below w'.heap.size w' W → W.heap[b]? = some (.cells #[.slice a0 n0 c0, .slice a1 n1 c1, .slice a2 n2 c2, .slice a3 n3 c3, .slice a4 n4 c4, .slice a5 n5 c5] 41 (0, 0)) → LTwo W b s) ∧
   HasS w' (s.l 0) (s.c 0) a0 n0 c0 a1 n1 c1 a2 n2 c2 ∧ HasS w' (s.l 1) (s.c 1) a3 n3 c3 a4 n4 c4 a5 n5 c5 ∧ RunR l l.length s ∧ l.length ≤ 50 ∧ Below w.heap.size w w' := by
 rcases h with ⟨h50, rfl, hb⟩ | ⟨h50, g, s, rfl, h1, h2, h3, h4⟩
 ·
  exact Or.inl ⟨h50, rfl, hb⟩
 ·
  obtain ⟨e0, c0, hg0⟩ : ∃ a c, g 0 = .slice a (s.l 0).length c := own_slice (h1.ent 0 (by omega))
  obtain ⟨e3, c3, hg3⟩ : ∃ a c, g 3 = .slice a (s.l 1).length c := own_slice (h1.ent 1 (by omega))
  obtain ⟨a1, n1, c1, a2, n2, c2, hg1⟩ := (h1.ctx 0 (by omega)).form
  obtain ⟨a4, n4, c4, a5, n5, c5, hg4⟩ := (h1.ctx 1 (by omega)).form
  simp only [Value.agg.injEq, Array.mk.injEq, List.cons.injEq, and_true] at hg1 hg4
  have q0 : EntO 0 w' (g 0) (s.l 0) := h1.ent 0 (by omega)
  have q3 : EntO 0 w' (g 3) (s.l 1) := h1.ent 1 (by omega)
  have q1 : OwnC 0 w' (.agg #[g 1, g 2]) (s.c 0) := h1.ctx 0 (by omega)
  have q4 : OwnC 0 w' (.agg #[g 4, g 5]) (s.c 1) := h1.ctx 1 (by omega)
  rw [hg0] at q0
  rw [hg3] at q3
  rw [show g 1 = _ from hg1.1, show g 2 = _ from hg1.2] at q1
  rw [show g 4 = _ from hg4.1, show g 5 = _ from hg4.2] at q4
  refine Or.inr ⟨_, _, _, _, _, _, _, _, _, _, _, _, _, _, _, _, _, _, s, by rw [hg0, hg3, show g 1 = _ from hg1.1, show g 2 = _ from hg1.2, show g 4 = _ from hg4.1, show g 5 = _ from hg4.2], fun W b hb hx => ⟨MX.next (MX.next hm h3) hb, h2, g, ⟨_, hx, rfl, fun j hj => ?_⟩, h1.on hb⟩,
   ⟨rfl, fun ww hw => ⟨⟨_, _, _, _, _, _, _, _, _, rfl, q0.on hw, q1.on hw⟩, q1.on hw⟩⟩, ⟨rfl, fun ww hw => ⟨⟨_, _, _, _, _, _, _, _, _, rfl, q3.on hw, q4.on hw⟩, q4.on hw⟩⟩, h4, h50, h3⟩
  rcases (by omega : j = 0 ∨ j = 1 ∨ j = 2 ∨ j = 3 ∨ j = 4 ∨ j = 5) with rfl | rfl | rfl | rfl | rfl | rfl
  ·
   exact congrArg some hg0.symm
  ·
   exact congrArg some hg1.1.symm
  ·
   exact congrArg some hg1.2.symm
  ·
   exact congrArg some hg3.symm
  ·
   exact congrArg some hg4.1.symm
  ·
   exact congrArg some hg4.2.symm
theorem two_gen {l : List (List Int)} {w w' : World} {e : Ending} (hm : MX w) (h : TwoP l w e w') : ∃ a0 n0 c0 a1 n1 c1 a2 n2 c2 a3 n3 c3 a4 n4 c4 a5 n5 c5 ok, e = .returned (.tuple #[.agg #[.slice a0 n0 c0, .slice a1 n1 c1, .slice a2 n2 c2, .slice a3 n3 c3, .slice a4 n4 c4, .slice a5 n5 c5], .bool ok]) ∧ Below w.heap.size w w' ∧
  (ok = true → ∃ s, (∀ W b, Below w'.heap.size w' W → W.heap[b]? = some (.cells #[.slice a0 n0 c0, .slice a1 n1 c1, .slice a2 n2 c2, .slice a3 n3 c3, .slice a4 n4 c4, .slice a5 n5 c5] 41 (0, 0)) → LTwo W b s) ∧
   HasS w' (s.l 0) (s.c 0) a0 n0 c0 a1 n1 c1 a2 n2 c2 ∧ HasS w' (s.l 1) (s.c 1) a3 n3 c3 a4 n4 c4 a5 n5 c5 ∧ RunR l l.length s) := by
 rcases two_says hm h with ⟨_, rfl, hb⟩ | ⟨a0, n0, c0, a1, n1, c1, a2, n2, c2, a3, n3, c3, a4, n4, c4, a5, n5, c5, s, rfl, h1, h2, h3, h4, _, hb⟩
 ·
  exact ⟨_, _, _, _, _, _, _, _, _, _, _, _, _, _, _, _, _, _, false, rfl, hb, fun e => by cases e⟩
 ·
  exact ⟨_, _, _, _, _, _, _, _, _, _, _, _, _, _, _, _, _, _, true, rfl, hb, fun _ => ⟨s, h1, h2, h3, h4⟩⟩
theorem LTwo.since {W : World} {b : Nat} {s : TS} (h : LTwo W b s) {i : Nat} (hi : i < 2) {v u1 u2 : Value} {dc : dm.Ctx} (hv : SetE 0 (s.l i) (s.c i) v W) (hd : OwnC 0 W (.agg #[u1, u2]) dc) (hr : dm.Right dc) :
  Calls Tryz.prog 13 #[v, .agg #[u1, u2]] W fun e w' => ∃ d, e = .returned d ∧ SncV 0 (s.l i) (s.c i) dc d w' ∧ Below W.heap.size W w' :=
 since_v _ _ _ _ _ _ W hv hd (h.inv.set i hi) hr (by have := h.inv.len hi; omega) (by have := h.inv.len1 i hi; omega) (by have := h.inv.cloud hi; omega) h.mx
theorem LTwo.all {W : World} {b : Nat} {s : TS} (h : LTwo W b s) {i : Nat} (hi : i < 2) {v : Value} (hv : SetE 0 (s.l i) (s.c i) v W) :
  Calls Tryz.prog 15 #[v] W fun e w' => ∃ d, e = .returned d ∧ SncV 0 (s.l i) (s.c i) ([], []) d w' ∧ Below W.heap.size W w' :=
 all_v _ _ _ W hv (h.inv.set i hi) (by have := h.inv.len hi; omega) (by have := h.inv.len1 i hi; omega) (by have := h.inv.cloud hi; omega) h.mx
theorem LTwo.apply {W : World} {b : Nat} {s : TS} (h : LTwo W b s) {i j : Nat} (hi : i < 2) (hj : j < 2) {v d : Value} {dc : dm.Ctx} (hv : SetE 0 (s.l i) (s.c i) v W) (hd : SncV 0 (s.l j) (s.c j) dc d W) (hk : ∀ x, dm.Knows dc x → dm.Knows (s.c i) x) :
  Calls Tryz.prog 24 #[v, d] W fun e w' => ∃ v', e = .returned v' ∧ MrgV 0 (s.l i) (s.c i) (s.l j) (s.c j) v' w' ∧ Below W.heap.size W w' :=
 apply_w _ _ _ _ _ _ _ W hv hd (h.inv.set i hi) (h.inv.set j hj) hk (by have := h.inv.len hi; omega) (by have := h.inv.len hj; omega) (by have := h.inv.cloud hi; omega) (by have := h.inv.cloud hj; omega) h.mx
end Go.Proofs.YtonknpdalemjkaaGreat
namespace Go.Proofs.YtonknpdalemjkaaGreat
open Go Go.RowKit Go.ChangeShapes cl
theorem kints_two (w : World) : KInts 4 (w.alloc (.cells #[.int .i64 0, .int .i64 0, .int .i64 0, .int .i64 0, .int .i64 0, .int .i64 1, .int .i64 1, .int .i64 0] 59)) (w.alloc (.cells #[.int .i64 0, .int .i64 0, .int .i64 0, .int .i64 0, .int .i64 0, .int .i64 1, .int .i64 1, .int .i64 0] 59)).heap.size (.slice (some ⟨w.heap.size, 0, none⟩) 2 2) [[0, 0, 0, 0], [0, 1, 1, 0]] :=
 ⟨by decide, cells_lit w 2 4 (kcells [[0, 0, 0, 0], [0, 1, 1, 0]]) _ _ rfl rfl (by decide)⟩
set_option maxHeartbeats 12800000 in
set_option maxRecDepth 100000 in
theorem awake_any (w : World) (hm : MX w) : Calls Tryz.prog 11 #[] w (Said true w) := by
 have HTWO := Lib.hid (two_any [[0, 0, 0, 0], [0, 1, 1, 0]] _ _ (kints_two w) (MX.next hm below1))
 have HMM : Hid (MX (w.alloc (.cells #[.int .i64 0, .int .i64 0, .int .i64 0, .int .i64 0, .int .i64 0, .int .i64 1, .int .i64 1, .int .i64 0] 59))) := MX.next hm below1
 have HBW : Hid (Below w.heap.size w (w.alloc (.cells #[.int .i64 0, .int .i64 0, .int .i64 0, .int .i64 0, .int .i64 0, .int .i64 1, .int .i64 1, .int .i64 0] 59))) := below1
 clear hm
 go_enter Tryz.func11, Tryz.ntmps11
 go_wp2_with fail
 (with_reducible refine HTWO.out.mono ?_)
 rintro e w1 hT
 rcases two_says HMM.out hT with ⟨h50, _⟩ | ⟨za0, zn0, zc0, za1, zn1, zc1, za2, zn2, zc2, za3, zn3, zc3, za4, zn4, zc4, za5, zn5, zc5, s, rfl, hLT, hS0, hS1, hAd, _, hb⟩
 ·
  exact absurd h50 (by decide)
 obtain ⟨b4, hb4⟩ : ∃ b, b = w1.heap.size := ⟨_, rfl⟩
 obtain ⟨W0, hW0⟩ : ∃ W, W = w1.alloc (.cells #[.slice za0 zn0 zc0, .slice za1 zn1 zc1, .slice za2 zn2 zc2, .slice za3 zn3 zc3, .slice za4 zn4 zc4, .slice za5 zn5 zc5] 41) := ⟨_, rfl⟩
 have hb0 : Below w1.heap.size w1 W0 := by rw [hW0]; exact below1
 have x4 : W0.heap[b4]? = some (.cells #[.slice za0 zn0 zc0, .slice za1 zn1 zc1, .slice za2 zn2 zc2, .slice za3 zn3 zc3, .slice za4 zn4 zc4, .slice za5 zn5 zc5] 41 (0, 0)) := by rw [hW0, hb4]; exact heap_alloc_new w1 _
 have HLT := Lib.hid (hLT W0 b4 hb0 x4)
 have X4 := Lib.hid x4
 have HB := Lib.hid (HBW.out.trans ((hb.trans (hb0.mono hb.size)).mono HBW.out.size))
 have HAD := Lib.hid (adds_two (run_adds hAd))
 have HE0 : Hid (∀ ww, Below W0.heap.size W0 ww → SetE 0 (s.l 0) (s.c 0) (.agg #[.slice za0 zn0 zc0, .slice za1 zn1 zc1, .slice za2 zn2 zc2]) ww ∧ OwnC 0 ww (.agg #[.slice za1 zn1 zc1, .slice za2 zn2 zc2]) (s.c 0)) := fun ww hw => hS0.2 ww (hb0.trans (hw.mono hb0.size))
 have HE1 : Hid (∀ ww, Below W0.heap.size W0 ww → SetE 0 (s.l 1) (s.c 1) (.agg #[.slice za3 zn3 zc3, .slice za4 zn4 zc4, .slice za5 zn5 zc5]) ww ∧ OwnC 0 ww (.agg #[.slice za4 zn4 zc4, .slice za5 zn5 zc5]) (s.c 1)) := fun ww hw => hS1.2 ww (hb0.trans (hw.mono hb0.size))
 have HSN : Hid (∀ (W : World) (u1 u2 : Value) (dc : dm.Ctx), Below W0.heap.size W0 W → OwnC 0 W (.agg #[u1, u2]) dc → dm.Right dc → Calls Tryz.prog 13 #[.agg #[.slice za0 zn0 zc0, .slice za1 zn1 zc1, .slice za2 zn2 zc2], .agg #[u1, u2]] W fun e w' => ∃ d, e = .returned d ∧ SncV 0 (s.l 0) (s.c 0) dc d w' ∧ Below W.heap.size W w') := fun W u1 u2 dc hW hd hr => (HLT.out.on hW).since (i := 0) (by decide) (HE0.out W hW).1 hd hr
 have HAP : Hid (∀ W d, Below W0.heap.size W0 W → SncV 0 (s.l 0) (s.c 0) (s.c 1) d W → Calls Tryz.prog 24 #[.agg #[.slice za3 zn3 zc3, .slice za4 zn4 zc4, .slice za5 zn5 zc5], d] W fun e w' => ∃ v', e = .returned v' ∧ MrgV 0 (s.l 1) (s.c 1) (s.l 0) (s.c 0) v' w' ∧ Below W.heap.size W w') := fun W d hW hd => (HLT.out.on hW).apply (i := 1) (j := 0) (by decide) (by decide) (HE1.out W hW).1 hd (fun _ h => h)
 have HI0 : Hid (newOf (s.c 1) (s.l 0) = s.l 0) := by
  show _ = _
  unfold newOf
  rw [List.filter_eq_self]
  intro x hx
  have h1 := (HAD.out 0 (by decide)).2.1 x hx
  have : ¬ dm.Knows (s.c 1) x.d := fun hk => by
   have := (HAD.out 1 (by decide)).2.2 x.d hk
   rw [h1] at this
   exact absurd this (by decide)
  have hf : dm.hasF (s.c 1) x.d = false := by
   cases h : dm.hasF (s.c 1) x.d
   ·
    rfl
   ·
    exact absurd (dm.hasF_iff.1 h) this
  rw [hf]; rfl
 have HI1 : Hid (staysOf (deadF ((s.l 0).map Ent.d) (s.c 0)) (s.l 1) = s.l 1) := by
  show _ = _
  unfold staysOf
  rw [List.filter_eq_self]
  intro x hx
  have h1 := (HAD.out 1 (by decide)).2.1 x hx
  have : ¬ dm.Knows (s.c 0) x.d := fun hk => by
   have := (HAD.out 0 (by decide)).2.2 x.d hk
   rw [h1] at this
   exact absurd this (by decide)
  rw [(tdead_iff).2 (Or.inr this)]; rfl
 have HI2 : Hid ((mrg (s.l 1) (s.c 1) (s.l 0) (s.c 0)).length = 2) := by
  show _ = _
  unfold mrg
  rw [HI1.out, newOf_sub (fun _ h => h), HI0.out, List.length_append, (HAD.out 0 (by decide)).1, (HAD.out 1 (by decide)).1]
 have HW0 := Lib.hid hW0
 have HB4 := Lib.hid hb4
 have HL0 : Hid ((s.l 0).length = 1) := (HAD.out 0 (by decide)).1
 have HL1 : Hid ((s.l 1).length = 1) := (HAD.out 1 (by decide)).1
 clear hT hLT hAd hb hb0 hW0 hb4 hS0 hS1 x4
 go_wp2_with fail
 rw [← HW0.out, ← HB4.out]
 (with_reducible refine (HSN.out W0 _ _ (s.c 1) (Below.refl _ _) (HE1.out W0 (Below.refl _ _)).2 (HLT.out.inv.set 1 (by decide)).right).mono ?_)
 rintro e w3 ⟨d, rfl, hd, hb3⟩
 obtain ⟨da0, dn0, dc0, da1, dn1, dc1, da2, dn2, dc2, da3, dn3, dc3, rfl, g1, g2, g3⟩ := hd
 obtain rfl : dn0 = 1 := by
  obtain ⟨_, _, e⟩ : ∃ a c, Value.slice da0 dn0 dc0 = .slice a (newOf (s.c 1) (s.l 0)).length c := own_slice g1
  simp only [Value.slice.injEq] at e
  rw [e.2.1, HI0.out]; exact HL0.out
 obtain ⟨b3, hb3e⟩ : ∃ b, b = w3.heap.size := ⟨_, rfl⟩
 obtain ⟨W4, hW4⟩ : ∃ W, W = w3.alloc (.cells #[.slice da0 1 dc0, .slice da1 dn1 dc1, .slice da2 dn2 dc2, .slice da3 dn3 dc3] 29) := ⟨_, rfl⟩
 have hb34 : Below w3.heap.size w3 W4 := by rw [hW4]; exact below1
 have hB4 : Below W0.heap.size W0 W4 := hb3.trans (hb34.mono hb3.size)
 have x3 : W4.heap[b3]? = some (.cells #[.slice da0 1 dc0, .slice da1 dn1 dc1, .slice da2 dn2 dc2, .slice da3 dn3 dc3] 29 (0, 0)) := by rw [hW4, hb3e]; exact heap_alloc_new w3 _
 have X3 := Lib.hid x3
 have HSC : Hid (∀ W, Below W4.heap.size W4 W → SncV 0 (s.l 0) (s.c 0) (s.c 1) (.agg #[.slice da0 1 dc0, .slice da1 dn1 dc1, .slice da2 dn2 dc2, .slice da3 dn3 dc3]) W) := fun W hW => (sncV_kept _ _ _ _).on ⟨_, _, _, _, _, _, _, _, _, _, _, _, rfl, g1, g2, g3⟩ (hb34.trans (hW.mono hb34.size))
 have y4 := (hB4.block _ (lt_of_block X4.out)).trans X4.out
 have k3 := boxc y4 3 _ rfl
 have k4 := boxc y4 4 _ rfl
 have k5 := boxc y4 5 _ rfl
 have n4 : ¬ b4 = w3.heap.size := by have := lt_of_block X4.out; have := hb3.size; omega
 have HD4 := Lib.hid hB4
 have HW4 := Lib.hid hW4
 have HB3 := Lib.hid hb3e
 rw [hW4] at k3 k4 k5
 clear hb3 g1 g2 g3 hb3e hW4 hb34 hB4 x3 y4
 go_wp2_with fail
 rw [← HW4.out, ← HB3.out]
 (with_reducible refine (HAP.out W4 _ HD4.out (HSC.out W4 (Below.refl _ _))).mono ?_)
 rintro e w5 ⟨v5, rfl, hv5, hb5⟩
 obtain ⟨M, F, ⟨ta0, tn0, tc0, ta1, tn1, tc1, ta2, tn2, tc2, rfl, hE, hC⟩, hG⟩ := hv5.mg
 obtain rfl : tn0 = 2 := by
  obtain ⟨_, _, e⟩ : ∃ a c, Value.slice ta0 tn0 tc0 = .slice a M.length c := own_slice hE
  simp only [Value.slice.injEq] at e
  rw [e.2.1, hG.perm.length_eq]; exact HI2.out
 obtain ⟨b5, hb5e⟩ : ∃ b, b = w5.heap.size := ⟨_, rfl⟩
 obtain ⟨W6, hW6⟩ : ∃ W, W = w5.alloc (.cells #[.slice ta0 2 tc0, .slice ta1 tn1 tc1, .slice ta2 tn2 tc2] 27) := ⟨_, rfl⟩
 have hb56 : Below w5.heap.size w5 W6 := by rw [hW6]; exact below1
 have hB6 : Below W4.heap.size W4 W6 := hb5.trans (hb56.mono hb5.size)
 have x5 : W6.heap[b5]? = some (.cells #[.slice ta0 2 tc0, .slice ta1 tn1 tc1, .slice ta2 tn2 tc2] 27 (0, 0)) := by rw [hW6, hb5e]; exact heap_alloc_new w5 _
 have X5 := Lib.hid x5
 have HSE : Hid (∀ W, Below W6.heap.size W6 W → SetE 0 M F (.agg #[.slice ta0 2 tc0, .slice ta1 tn1 tc1, .slice ta2 tn2 tc2]) W ∧ OwnC 0 W (.agg #[.slice ta1 tn1 tc1, .slice ta2 tn2 tc2]) F) := fun W hW => by
  have hb := hb56.trans (hW.mono hb56.size)
  exact ⟨⟨_, _, _, _, _, _, _, _, _, rfl, hE.on hb, hC.on hb⟩, hC.on hb⟩
 have HG := Lib.hid hG
 have HD6 := Lib.hid hB6
 have HD06 : Hid (Below W0.heap.size W0 W6) := HD4.out.trans (hB6.mono HD4.out.size)
 have y4 := (HD06.out.block _ (lt_of_block X4.out)).trans X4.out
 have y3 := (hB6.block _ (lt_of_block X3.out)).trans X3.out
 have k0 := boxc y4 0 _ rfl
 have k1 := boxc y4 1 _ rfl
 have k2 := boxc y4 2 _ rfl
 have m0 := boxc y3 0 _ rfl
 have n4 : ¬ b4 = w5.heap.size := by have := lt_of_block X4.out; have := (HD4.out.trans (hb5.mono HD4.out.size)).size; omega
 have n3 : ¬ b3 = w5.heap.size := by have := lt_of_block X3.out; have := hb5.size; omega
 have HW6 := Lib.hid hW6
 have HB5 := Lib.hid hb5e
 have HRM := Lib.hid (hG.rset (HLT.out.inv.set 1 (by decide)) (HLT.out.inv.set 0 (by decide)))
 rw [hW6] at k0 k1 k2 m0
 clear hv5 hb5 hE hC hG hb5e hW6 hb56 hB6 x5 y4 y3 k3 k4 k5
 go_wp2_with fail
 rw [← HW6.out, ← HB5.out]
 (with_reducible refine (HSN.out W6 _ _ F HD06.out (HSE.out W6 (Below.refl _ _)).2 HRM.out.right).mono ?_)
 rintro e w7 ⟨d7, rfl, hd7, hb7⟩
 obtain ⟨fa0, fn0, fc0, fa1, fn1, fc1, fa2, fn2, fc2, fa3, fn3, fc3, rfl, g1, g2, g3⟩ := hd7
 obtain rfl : fn0 = 0 := by
  obtain ⟨_, _, e⟩ : ∃ a c, Value.slice fa0 fn0 fc0 = .slice a (newOf F (s.l 0)).length c := own_slice g1
  simp only [Value.slice.injEq] at e
  rw [e.2.1, newOf_none (fun x hx => (HG.out.kn _).2 (Or.inr ((HLT.out.inv.set 0 (by decide)).kn x hx)))]; rfl
 have HB7 := Lib.hid hb7
 have HD07 : Hid (Below W0.heap.size W0 w7) := HD06.out.trans (hb7.mono HD06.out.size)
 have HD47 : Hid (Below W4.heap.size W4 w7) := HD6.out.trans (hb7.mono HD6.out.size)
 have y4 := (HD07.out.block _ (lt_of_block X4.out)).trans X4.out
 have y3 := (HD47.out.block _ (lt_of_block X3.out)).trans X3.out
 have k3 := boxc y4 3 _ rfl
 have k4 := boxc y4 4 _ rfl
 have k5 := boxc y4 5 _ rfl
 have m0 := boxc y3 0 _ rfl
 have m1 := boxc y3 1 _ rfl
 have m2 := boxc y3 2 _ rfl
 have m3 := boxc y3 3 _ rfl
 have HLM := Lib.hid (HG.out.len HLT.out.inv (i := 1) (j := 0) (by decide) (by decide))
 have HN1 := Lib.hid (news_yes (s.l 1) (s.l 0) (s.c 1) (s.c 0) (s.c 1) (.agg #[.slice za3 zn3 zc3, .slice za4 zn4 zc4, .slice za5 zn5 zc5]) (.agg #[.slice da0 1 dc0, .slice da1 dn1 dc1, .slice da2 dn2 dc2, .slice da3 dn3 dc3]) w7 (HE1.out w7 HD07.out).1 (HSC.out w7 HD47.out) (HLT.out.inv.set 1 (by decide)) (HLT.out.inv.set 0 (by decide)) (fun _ h => h) (by rw [HL1.out]; decide) (by rw [HL0.out]; decide) (by have := HLT.out.inv.cloud (i := 1) (by decide); omega) (by have := HLT.out.inv.cloud (i := 0) (by decide); omega) (HLT.out.on HD07.out).mx (fun M D h => by rw [h.perm.length_eq, HI2.out, HL1.out]; decide))
 have hfd : ∀ W : World, (Instr.field 29 (.agg #[.slice fa0 0 fc0, .slice fa1 fn1 fc1, .slice fa2 fn2 fc2, .slice fa3 fn3 fc3]) 0).run Tryz.prog W = .ok (.slice fa0 0 fc0) W := fun _ => by kernel_rfl
 clear hb7 g1 g2 g3 y4 y3 k0 k1 k2
 go_wp2_with fail
 (with_reducible refine HN1.out.mono ?_)
 rintro e w8 ⟨rfl, hb8⟩
 have HD08 : Hid (Below W0.heap.size W0 w8) := HD07.out.trans (hb8.mono HD07.out.size)
 have HD48 : Hid (Below W4.heap.size W4 w8) := HD47.out.trans (hb8.mono HD47.out.size)
 have HD68 : Hid (Below W6.heap.size W6 w8) := HB7.out.trans (hb8.mono HB7.out.size)
 have y3 := (HD48.out.block _ (lt_of_block X3.out)).trans X3.out
 have y5 := (HD68.out.block _ (lt_of_block X5.out)).trans X5.out
 have p0 := boxc y3 0 _ rfl
 have p1 := boxc y3 1 _ rfl
 have p2 := boxc y3 2 _ rfl
 have p3 := boxc y3 3 _ rfl
 have r0 := boxc y5 0 _ rfl
 have r1 := boxc y5 1 _ rfl
 have r2 := boxc y5 2 _ rfl
 have HN2 := Lib.hid (news_no M (s.l 0) F (s.c 0) (s.c 1) (.agg #[.slice ta0 2 tc0, .slice ta1 tn1 tc1, .slice ta2 tn2 tc2]) (.agg #[.slice da0 1 dc0, .slice da1 dn1 dc1, .slice da2 dn2 dc2, .slice da3 dn3 dc3]) w8 (HSE.out w8 HD68.out).1 (HSC.out w8 HD48.out) HRM.out (HLT.out.inv.set 0 (by decide)) (fun d h => (HG.out.kn d).2 (Or.inl h)) (by have := HLM.out.1; omega) (by rw [HL0.out]; decide) (by have := HLM.out.2.1; omega) (by have := HLT.out.inv.cloud (i := 0) (by decide); omega) (HLT.out.on HD08.out).mx (fun M2 D2 h2 => HG.out.again h2 (HLT.out.inv.set 0 (by decide))))
 clear hb8 y3 y5 k3 k4 k5 m0 m1 m2 m3
 go_wp2_with fail
 (with_reducible refine HN2.out.mono ?_)
 rintro e w9 ⟨rfl, hb9⟩
 have HB9 : Hid (Below w.heap.size w w9) := HB.out.trans ((HD08.out.trans (hb9.mono HD08.out.size)).mono HB.out.size)
 clear hb9 p0 p1 p2 p3 r0 r1 r2
 go_wp2_with fail
 go_ret
 exact ⟨rfl, HB9.out⟩
end Go.Proofs.YtonknpdalemjkaaGreat

