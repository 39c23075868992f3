/- texts put together: DelSam. -/
import Derived.Test.YtonknpdalemjkaaGreatDe00
import Derived.Test.YtonknpdalemjkaaGreatDe01
import Derived.Test.YtonknpdalemjkaaGreatDe02
import Derived.Test.YtonknpdalemjkaaGreatDe03
import Derived.Test.YtonknpdalemjkaaGreatDe04
import Derived.Test.YtonknpdalemjkaaGreatDe05
import Derived.Test.YtonknpdalemjkaaGreatDe06
import Derived.Test.YtonknpdalemjkaaGreatDe07
import Derived.Test.YtonknpdalemjkaaGreatDe08
import Derived.Test.YtonknpdalemjkaaGreatDe09
import Derived.Test.YtonknpdalemjkaaGreatDe10
import Derived.Test.YtonknpdalemjkaaGreatDe11
import Derived.Test.YtonknpdalemjkaaGreatDe12
import Derived.Test.YtonknpdalemjkaaGreatDe13
import Derived.Test.YtonknpdalemjkaaGreatDe14
import Derived.Test.YtonknpdalemjkaaGreatDe15
import Derived.Test.YtonknpdalemjkaaGreatDe16
import Derived.Test.YtonknpdalemjkaaGreatDe17
import Derived.Test.YtonknpdalemjkaaGreatDe18
import Derived.Test.YtonknpdalemjkaaGreatDe19
import Derived.Test.YtonknpdalemjkaaGreatDe20
import Derived.Test.YtonknpdalemjkaaGreatDe21
import Derived.Test.YtonknpdalemjkaaGreatDe22
import Derived.Test.YtonknpdalemjkaaGreatDe23
import Derived.Test.YtonknpdalemjkaaGreatDe24
import Derived.Test.YtonknpdalemjkaaGreatDn00
import Derived.Test.YtonknpdalemjkaaGreatDn01
import Derived.Test.YtonknpdalemjkaaGreatDn11
import Derived.Test.YtonknpdalemjkaaGreatDn23
import Derived.Test.YtonknpdalemjkaaGreatDn25
import Derived.Test.YtonknpdalemjkaaGreatDn26
import Derived.Test.YtonknpdalemjkaaGreatDn27
import Derived.Test.YtonknpdalemjkaaGreatDn28
import Derived.Test.YtonknpdalemjkaaGreatDn29
import Derived.Test.YtonknpdalemjkaaGreatDn30
open List (setIfInBounds_toArray set_cons_zero set_cons_succ take_succ_cons take_zero drop_succ_cons drop_zero)
namespace Go.Proofs.YtonknpdalemjkaaGreat
open Go Go.RowKit Go.ChangeShapes cl
def AplV (l : List Ent) (c : dm.Ctx) (L : List Ent) (A : List Dot) (C : dm.Ctx) (v : Value) (w : World) : Prop := ∃ M D, SetE 0 M D v w ∧ M.Perm (apl l c L A C) ∧ os.Up M ∧ ∃ m, dm.Is D (fun e => dm.Knows c e ∨ dm.Knows C e) m
theorem aplV_kept (l : List Ent) (c : dm.Ctx) (L : List Ent) (A : List Dot) (C : dm.Ctx) : Kept (AplV l c L A C) :=
 ⟨fun ⟨M, D, h, h2⟩ hb => ⟨M, D, (setE_kept _ _ _).on h hb, h2⟩, fun ⟨M, D, h, h2⟩ hk q1 q2 => ⟨M, D, (setE_kept _ _ _).kt h hk q1 q2, h2⟩⟩
theorem apply_c (l L : List Ent) (A : List Dot) (c C : dm.Ctx) (v d : Value) (w : World) (h : SetE 0 l c v w) (hd : ChgE 0 L A C d w) (hr : RSet l c) (hR : RDel L A C) (ht : ∀ x ∈ A, x ∈ L.map Ent.d) (hl : l.length ≤ 1000) (hL : L.length ≤ 1000) (hA : A.length ≤ 1000) (hc2 : c.2.length ≤ 1000) (hC2 : C.2.length ≤ 1000) (hm : MX w) :
  Calls Tryz.prog 24 #[v, d] w fun e w' => ∃ v', e = .returned v' ∧ AplV l c L A C v' w' ∧ Below w.heap.size w w' := by
 obtain ⟨a0, n0, c0, a1, n1, c1, a2, n2, c2, rfl, h1, h2⟩ := h
 obtain ⟨b0, m0, d0, b1, m1, d1, b2, m2, d2, b3, m3, d3, rfl, g1, g2, g3⟩ := hd
 refine (oapply_yes l c L A C _ _ _ _ _ _ _ w h1.at h2.at g1.at g2.at g3.at hr hR (fun x hx => Or.inl (ht x hx)) hl hL hA hc2 hC2 hm).mono ?_
 rintro e w' ⟨x0, x1, x2, L', c', rfl, k1, k2, k3, k4, k5, k6⟩
 exact ⟨_, rfl, ⟨L', c', SetE.mk (k1.low (Nat.zero_le _)) (k2.low (Nat.zero_le _)), k3, k4, _, k5⟩, k6⟩
theorem apply_m (l L : List Ent) (A : List Dot) (c C : dm.Ctx) (v d : Value) (w : World) (h : SetE 0 l c v w) (hd : ChgE 0 L A C d w) (hr : RSet l c) (hR : RDel L A C) (ht : ∀ x ∈ A, x ∈ L.map Ent.d) (hl : l.length ≤ 1000) (hL : L.length ≤ 1000) (hA : A.length ≤ 1000) (hc2 : c.2.length ≤ 1000) (hC2 : C.2.length ≤ 1000) (hm : MX w) :
  Calls Tryz.prog 24 #[v, d] w fun e w' => ∃ v', e = .returned v' ∧ (∃ M D, SetE 0 M D v' w' ∧ M.Perm (apl l c L A C) ∧ os.Up M ∧ dm.Is D (fun e => dm.Knows c e ∨ dm.Knows C e) (c.2.length + C.2.length)) ∧ Below w.heap.size w w' := by
 obtain ⟨a0, n0, c0, a1, n1, c1, a2, n2, c2, rfl, h1, h2⟩ := h
 obtain ⟨b0, m0, d0, b1, m1, d1, b2, m2, d2, b3, m3, d3, rfl, g1, g2, g3⟩ := hd
 refine (oapply_yes l c L A C _ _ _ _ _ _ _ w h1.at h2.at g1.at g2.at g3.at hr hR (fun x hx => Or.inl (ht x hx)) hl hL hA hc2 hC2 hm).mono ?_
 rintro e w' ⟨x0, x1, x2, L', c', rfl, k1, k2, k3, k4, k5, k6⟩
 exact ⟨_, rfl, ⟨L', c', SetE.mk (k1.low (Nat.zero_le _)) (k2.low (Nat.zero_le _)), k3, k4, k5⟩, k6⟩
theorem apl_len (l : List Ent) (c : dm.Ctx) (L : List Ent) (A : List Dot) (C : dm.Ctx) : (apl l c L A C).length ≤ l.length + L.length := by
 unfold apl
 rw [List.length_append]
 have := stays_len (deadF A C) l
 have := newOf_len c L
 omega
set_option maxHeartbeats 6400000 in
set_option maxRecDepth 100000 in
theorem lsame_yes (L : List Ent) (A : List Dot) (c : dm.Ctx) (va vb : Value) (w : World) (ha : ChgE 0 L A c va w) (hb : ChgE 0 L A c vb w) :
  Calls Tryz.prog 12 #[va, vb] w (Said true w) := by
 obtain ⟨aa0, an0, ac0, aa1, an1, ac1, aa2, an2, ac2, aa3, an3, ac3, rfl, a1, a2, a3⟩ := ha
 obtain ⟨ba0, bn0, bc0, ba1, bn1, bc1, ba2, bn2, bc2, ba3, bn3, bc3, rfl, b1, b2, b3⟩ := hb
 obtain ⟨hna, hn63⟩ : an1 = A.length ∧ an1 ≤ 9223372036854775807 := by
  obtain ⟨_, _, e, _, h9⟩ := (DotO.at a2).form
  unfold maxLen at h9
  simp only [Value.slice.injEq] at e
  exact ⟨e.2.1, by rw [e.2.1]; exact h9⟩
 obtain rfl : bn1 = an1 := by rw [hna]; exact (DotO.at b2).len
 obtain ⟨q1, hq1⟩ : ∃ b, b = w.heap.size + 1 := ⟨_, rfl⟩
 obtain ⟨WA, hWA⟩ : ∃ W, W = w.alloc (.cells #[.slice aa0 an0 ac0, .slice aa1 bn1 ac1, .slice aa2 an2 ac2, .slice aa3 an3 ac3] 29) := ⟨_, rfl⟩
 obtain ⟨WB, hWB⟩ : ∃ W, W = WA.alloc (.cells #[.slice ba0 bn0 bc0, .slice ba1 bn1 bc1, .slice ba2 bn2 bc2, .slice ba3 bn3 bc3] 29) := ⟨_, rfl⟩
 have sA : WA.heap.size = w.heap.size + 1 := by rw [hWA]; simp
 have bA : Below w.heap.size w WA := by rw [hWA]; exact below1
 have bB : Below WA.heap.size WA WB := by rw [hWB]; exact below1
 have bb : Below w.heap.size w WB := bA.trans (bB.mono bA.size)
 have x0 : WB.heap[w.heap.size]? = some (.cells #[.slice aa0 an0 ac0, .slice aa1 bn1 ac1, .slice aa2 an2 ac2, .slice aa3 an3 ac3] 29 (0, 0)) := (bB.block _ (by omega)).trans (by rw [hWA]; exact heap_alloc_new w _)
 have x1 : WB.heap[q1]? = some (.cells #[.slice ba0 bn0 bc0, .slice ba1 bn1 bc1, .slice ba2 bn2 bc2, .slice ba3 bn3 bc3] 29 (0, 0)) := by rw [hWB, hq1, ← sA]; exact heap_alloc_new WA _
 have HSM := Lib.hid (osame_yes L c _ _ _ _ _ _ WB (a1.on bb).at (a3.on bb).at (b1.on bb).at (b3.on bb).at)
 have HDA : Hid (∀ W, Below w.heap.size w W → Dots W W.heap.size (.slice aa1 bn1 ac1) A ∧ Dots W W.heap.size (.slice ba1 bn1 bc1) A) := fun W hW => ⟨(a2.on hW).at, (b2.on hW).at⟩
 have HN := Lib.hid hna
 have z0 := boxc x0 0 _ rfl
 have z2 := boxc x0 2 _ rfl
 have z3 := boxc x0 3 _ rfl
 have X0 := Lib.hid x0
 have X1 := Lib.hid x1
 have HB := Lib.hid bb
 have H1 := Lib.hid hq1
 have HW : Hid (WB = (w.alloc (.cells #[.slice aa0 an0 ac0, .slice aa1 bn1 ac1, .slice aa2 an2 ac2, .slice aa3 an3 ac3] 29)).alloc (.cells #[.slice ba0 bn0 bc0, .slice ba1 bn1 bc1, .slice ba2 bn2 bc2, .slice ba3 bn3 bc3] 29)) := by show _ = _; rw [hWB, hWA]
 rw [hWB, hWA] at z0 z2 z3
 clear a1 a2 a3 b1 b2 b3 sA bA bB bb x0 x1 hWA hWB hq1 hna
 go_enter Tryz.func12, Tryz.ntmps12
 go_wp2_with fail
 rw [← HW.out, ← H1.out]
 clear z0 z2 z3
 (with_reducible refine HSM.out.mono ?_)
 rintro e w1 ⟨rfl, hb1⟩
 have HB1 := Lib.hid hb1
 have y0 := (hb1.block _ (lt_of_block X0.out)).trans X0.out
 have y1 := (hb1.block _ (lt_of_block X1.out)).trans X1.out
 have k1 := boxc y0 1 _ rfl
 have m1 := boxc y1 1 _ rfl
 clear hb1 y0 y1
 go_wp2_with fail
 clear k1 m1
 go_loopw [30] (fun i wr => ∃ k : Nat, i = .int .i64 (k : Int) ∧ k ≤ bn1 ∧ Hid (Below WB.heap.size WB wr)) (fun i _ => bn1 - (intOf i).toNat)
 case atStart => exact ⟨0, rfl, Nat.zero_le _, HB1⟩
 case round =>
  obtain ⟨k, rfl, hk, HR⟩ := hrel
  have HRW : Hid (Below w.heap.size w wr) := HB.out.trans (HR.out.mono HB.out.size)
  by_cases hlt : k < bn1
  ·
   have hkI : (k : Int) < (bn1 : Int) := by omega
   have hk0 : 0 ≤ (k : Int) := by omega
   obtain ⟨ba, oa, rfl, hba, p0, p1⟩ := Dots.get (HDA.out wr HRW.out).1 HN.out hlt
   obtain ⟨bb, ob, rfl, hbb, r0, r1⟩ := Dots.get (HDA.out wr HRW.out).2 HN.out hlt
   obtain ⟨⟨xa, xb⟩, hx⟩ : ∃ x, x = A.getD k (0, 0) := ⟨_, rfl⟩
   rw [← hx] at p0 p1 r0 r1
   simp only at p0 p1 r0 r1
   replace p0 := Lib.hid p0
   replace p1 := Lib.hid p1
   replace r0 := Lib.hid r0
   replace r1 := Lib.hid r1
   clear hx
   go_wp2_with fail
   refine wp_flow 11 (fun _ => 1000) (fun ww => RowKit.Below wr.heap.size wr ww) (fun _ w w' => (fun (w w' : World) => RowKit.Below w.heap.size w w') w w') (fun kF vF wF => match kF with | 0 => (vF = .pointer (some ⟨w.heap.size, 1, none⟩)) | 1 => (vF = .slice (some ⟨ba, oa, none⟩) bn1 ac1) | 2 => (vF = .int .i64 (k : Int)) | 3 => (vF = .pointer (some ⟨ba, oa + k * 2, none⟩)) | 4 => (vF = .agg #[.int .i64 xa, .int .i64 xb]) | 5 => (vF = .pointer (some ⟨q1, 1, none⟩)) | 6 => (vF = .slice (some ⟨bb, ob, none⟩) bn1 bc1) | 7 => (vF = .int .i64 (k : Int)) | 8 => (vF = .pointer (some ⟨bb, ob + k * 2, none⟩)) | 9 => (vF = .agg #[.int .i64 xa, .int .i64 xb]) | 10 => (vF = .bool false) | _ => True) (fun _ _ _ _ => True) (by kernel_rfl) (by kernel_rfl) ?_ ?_ ?_ ?_ ?_
   ·
    exact (Below.refl _ _).drew
   ·
    intro iF wF1 wF2 hR hT; exact hR.trans (hT.mono hR.size)
   ·
    intro kF hkF iF hiF hne hdd hanc hdan vF wF1 wF2 h hT
    rcases (by omega : kF = 0 ∨ kF = 1 ∨ kF = 2 ∨ kF = 3 ∨ kF = 4 ∨ kF = 5 ∨ kF = 6 ∨ kF = 7 ∨ kF = 8 ∨ kF = 9 ∨ kF = 10) with rfl | rfl | rfl | rfl | rfl | rfl | rfl | rfl | rfl | rfl | rfl
    iterate 11 exact h
   ·
    generalize hAF : fillOf _ _ _ = AF
    replace hAF := fun x => congrFun hAF x
    simp only [take_succ_cons, take_zero, fillOf, Act.put, setIfInBounds_toArray, set_cons_zero, set_cons_succ, Nat.reduceAdd, Nat.zero_add] at hAF
    refine .cons ?_ (.cons ?_ (.cons ?_ (.cons ?_ (.cons ?_ (.cons ?_ (.cons ?_ (.cons ?_ (.cons ?_ (.cons ?_ (.cons ?_ (.nil)))))))))))
    all_goals
     intro xF w5 hR hd K hK
     first | simp only [← hAF, Act.put, setIfInBounds_toArray, set_cons_zero, set_cons_succ] at hK ⊢ | simp only [← hAF, Act.put] at hK ⊢
     clear hAF
     try simp only [Nat.zero_add, Nat.reduceAdd] at hK ⊢
    ·
     clear hd
     rw [if_pos (by rfl)]
     go_simp
     exact hK.out _ _ (Below.refl _ _) (rfl) (fun _ _ _ => ⟨trivial, trivial⟩)
    ·
     have dd0 := hd 0 (by kernel_rfl)
     clear hd
     try generalize xF 0 = yy0 at *
     obtain rfl := dd0
     have v9 := ((HR.out.trans (hR.mono HR.out.size)).block _ (lt_of_block X0.out)).trans X0.out
     have v91 := boxc v9 1 _ rfl
     rw [if_pos (by rfl)]
     go_simp
     exact hK.out _ _ (Below.refl _ _) (rfl) (fun _ _ _ => ⟨trivial, trivial⟩)
    ·
     clear hd
     rw [if_pos (by rfl)]
     go_simp
     exact hK.out _ _ (Below.refl _ _) (rfl) (fun _ _ _ => ⟨trivial, trivial⟩)
    ·
     have dd1 := hd 1 (by kernel_rfl)
     have dd2 := hd 2 (by kernel_rfl)
     clear hd
     try generalize xF 1 = yy1 at *
     try generalize xF 2 = yy2 at *
     obtain rfl := dd1
     obtain rfl := dd2
     rw [if_pos (by rfl)]
     go_simp
     exact hK.out _ _ (Below.refl _ _) (rfl) (fun _ _ _ => ⟨trivial, trivial⟩)
    ·
     have dd3 := hd 3 (by kernel_rfl)
     clear hd
     try generalize xF 3 = yy3 at *
     obtain rfl := dd3
     have v0 := (hR.cell (p := ⟨ba, oa + k * 2, none⟩) hba).trans p0.out
     have v1 := (hR.cell (p := ⟨ba, oa + k * 2 + 1, none⟩) hba).trans p1.out
     rw [if_pos (by rfl)]
     go_simp
     exact hK.out _ _ (Below.refl _ _) (rfl) (fun _ _ _ => ⟨trivial, trivial⟩)
    ·
     clear hd
     rw [if_pos (by rfl)]
     go_simp
     exact hK.out _ _ (Below.refl _ _) (rfl) (fun _ _ _ => ⟨trivial, trivial⟩)
    ·
     have dd5 := hd 5 (by kernel_rfl)
     clear hd
     try generalize xF 5 = yy5 at *
     obtain rfl := dd5
     have v9 := ((HR.out.trans (hR.mono HR.out.size)).block _ (lt_of_block X1.out)).trans X1.out
     have v91 := boxc v9 1 _ rfl
     rw [if_pos (by rfl)]
     go_simp
     exact hK.out _ _ (Below.refl _ _) (rfl) (fun _ _ _ => ⟨trivial, trivial⟩)
    ·
     clear hd
     rw [if_pos (by rfl)]
     go_simp
     exact hK.out _ _ (Below.refl _ _) (rfl) (fun _ _ _ => ⟨trivial, trivial⟩)
    ·
     have dd6 := hd 6 (by kernel_rfl)
     have dd7 := hd 7 (by kernel_rfl)
     clear hd
     try generalize xF 6 = yy6 at *
     try generalize xF 7 = yy7 at *
     obtain rfl := dd6
     obtain rfl := dd7
     rw [if_pos (by rfl)]
     go_simp
     exact hK.out _ _ (Below.refl _ _) (rfl) (fun _ _ _ => ⟨trivial, trivial⟩)
    ·
     have dd8 := hd 8 (by kernel_rfl)
     clear hd
     try generalize xF 8 = yy8 at *
     obtain rfl := dd8
     have v0 := (hR.cell (p := ⟨bb, ob + k * 2, none⟩) hbb).trans r0.out
     have v1 := (hR.cell (p := ⟨bb, ob + k * 2 + 1, none⟩) hbb).trans r1.out
     rw [if_pos (by rfl)]
     go_simp
     exact hK.out _ _ (Below.refl _ _) (rfl) (fun _ _ _ => ⟨trivial, trivial⟩)
    ·
     have dd4 := hd 4 (by kernel_rfl)
     have dd9 := hd 9 (by kernel_rfl)
     clear hd
     try generalize xF 4 = yy4 at *
     try generalize xF 9 = yy9 at *
     obtain rfl := dd4
     obtain rfl := dd9
     rw [if_pos (by rfl)]
     go_simp
     exact hK.out _ _ (Below.refl _ _) (rfl) (fun _ _ _ => ⟨trivial, trivial⟩)
   intro xF w5 hR hF hP
   clear hP
   have dd0 := hF 0 (by omega) (by decide)
   have dd1 := hF 1 (by omega) (by decide)
   have dd2 := hF 2 (by omega) (by decide)
   have dd3 := hF 3 (by omega) (by decide)
   have dd4 := hF 4 (by omega) (by decide)
   have dd5 := hF 5 (by omega) (by decide)
   have dd6 := hF 6 (by omega) (by decide)
   have dd7 := hF 7 (by omega) (by decide)
   have dd8 := hF 8 (by omega) (by decide)
   have dd9 := hF 9 (by omega) (by decide)
   have dd10 := hF 10 (by omega) (by decide)
   clear hF
   simp only [take_succ_cons, take_zero, drop_succ_cons, drop_zero, fillOf, Act.put, setIfInBounds_toArray, set_cons_zero, set_cons_succ, Nat.reduceAdd, Nat.zero_add]
   try generalize xF 0 = yy0 at *
   try generalize xF 1 = yy1 at *
   try generalize xF 2 = yy2 at *
   try generalize xF 3 = yy3 at *
   try generalize xF 4 = yy4 at *
   try generalize xF 5 = yy5 at *
   try generalize xF 6 = yy6 at *
   try generalize xF 7 = yy7 at *
   try generalize xF 8 = yy8 at *
   try generalize xF 9 = yy9 at *
   try generalize xF 10 = yy10 at *
   clear xF
   obtain rfl := dd0
   obtain rfl := dd1
   obtain rfl := dd2
   obtain rfl := dd3
   obtain rfl := dd4
   obtain rfl := dd5
   obtain rfl := dd6
   obtain rfl := dd7
   obtain rfl := dd8
   obtain rfl := dd9
   obtain rfl := dd10
   have hRE := Lib.hid hR
   clear hR
   have HR5 : Hid (Below WB.heap.size WB w5) := HR.out.trans (hRE.out.mono HR.out.size)
   clear hRE
   go_wp2_with fail
   go_roundw
   case rel => exact ⟨k + 1, by go_num, by omega, HR5⟩
   case measure => simp [intOf]; omega
  ·
   go_wp2_with fail
   go_ret
   exact ⟨rfl, HRW.out⟩
end Go.Proofs.YtonknpdalemjkaaGreat

