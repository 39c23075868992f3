/- net: twin.Delta. -/
import Derived.Test.YtpgccfgldjeomaaNtEnts
namespace Go.Proofs.Ytpgccfgldjeomaa
open Go.RowKit Go.ChangeShapes cl
set_option maxHeartbeats 3200000 in
set_option maxRecDepth 100000 in
theorem twdelta_any (en : List cd.Ent) (al a b : List cd.D) (ae aa a1 a2 : Option Addr) (ne ce na ca n1 c1 n2 c2 : Nat) (w : World) (he : RowsAt 5 entR w w.heap.size (.slice ae ne ce) en) (ha : RowsAt 2 dotR w w.heap.size (.slice aa na ca) al) (h1 : RowsAt 2 dotR w w.heap.size (.slice a1 n1 c1) a) (h2 : RowsAt 2 dotR w w.heap.size (.slice a2 n2 c2) b)
    (hle : en.length ≤ 1000000000) (hf : Few en) (hla : al.length ≤ 1000000000000) (hl1 : a.length ≤ 1000000000000) (hl2 : b.length ≤ 1000000000000) :
    Calls Try.prog 36 #[.agg #[.slice ae ne ce, .slice aa na ca, .slice a1 n1 c1, .slice a2 n2 c2]] w (fun e w' => ∃ oe me ke oa ma ka o1 m1 k1 o2 m2 k2, e = .returned (.agg #[.slice oe me ke, .slice oa ma ka, .slice o1 m1 k1, .slice o2 m2 k2]) ∧ RowsO w.heap.size 78 5 entO w' (.slice oe me ke) en ∧ RowsO w.heap.size 57 2 dotO w' (.slice oa ma ka) al ∧ RowsO w.heap.size 57 2 dotO w' (.slice o1 m1 k1) a ∧ RowsO w.heap.size 57 2 dotO w' (.slice o2 m2 k2) b ∧ Below w.heap.size w w') := by
  obtain ⟨W2, hW2⟩ : ∃ W, W = (w.alloc (.cells #[.slice ae ne ce, .slice aa na ca, .slice a1 n1 c1, .slice a2 n2 c2] 28)).alloc (.cells #[.slice none 0 0, .slice none 0 0, .slice none 0 0, .slice none 0 0] 28) := ⟨_, rfl⟩
  have b1 : Below w.heap.size w (w.alloc (.cells #[.slice ae ne ce, .slice aa na ca, .slice a1 n1 c1, .slice a2 n2 c2] 28)) := below1
  have b2 : Below (w.alloc (.cells #[.slice ae ne ce, .slice aa na ca, .slice a1 n1 c1, .slice a2 n2 c2] 28)).heap.size (w.alloc (.cells #[.slice ae ne ce, .slice aa na ca, .slice a1 n1 c1, .slice a2 n2 c2] 28)) W2 := by rw [hW2]; exact below1
  have E2 := b1.trans (b2.mono b1.size)
  have x1 : W2.heap[w.heap.size]? = some (.cells #[.slice ae ne ce, .slice aa na ca, .slice a1 n1 c1, .slice a2 n2 c2] 28) := (b2.block _ (by simp)).trans (heap_alloc_new w _)
  have x2 : W2.heap[w.heap.size + 1]? = some (.cells #[.slice none 0 0, .slice none 0 0, .slice none 0 0, .slice none 0 0] 28) := by
    have := heap_alloc_new (w.alloc (.cells #[.slice ae ne ce, .slice aa na ca, .slice a1 n1 c1, .slice a2 n2 c2] 28)) (.cells #[.slice none 0 0, .slice none 0 0, .slice none 0 0, .slice none 0 0] 28)
    rw [World.size_alloc] at this
    rw [hW2]; exact this
  have HX : Hid (∀ W, Below W2.heap.size W2 W → W.heap[w.heap.size]? = some (.cells #[.slice ae ne ce, .slice aa na ca, .slice a1 n1 c1, .slice a2 n2 c2] 28) ∧ W.heap[w.heap.size + 1]? = some (.cells #[.slice none 0 0, .slice none 0 0, .slice none 0 0, .slice none 0 0] 28)) := fun W hW => ⟨(hW.block _ (lt_of_block x1)).trans x1, (hW.block _ (lt_of_block x2)).trans x2⟩
  have HCE : Hid (∀ W, Below W2.heap.size W2 W → Calls Try.prog 46 #[.slice ae ne ce] W (fun e w' => ∃ o m k, e = .returned (.slice o m k) ∧ RowsO W.heap.size 78 5 entO w' (.slice o m k) en ∧ Below W.heap.size W w')) := fun W hW => twents_any en _ W (RowsAt.next entR_steady he (E2.trans (hW.mono E2.size))) hle hf
  have HCA : Hid (∀ W, Below W2.heap.size W2 W → Calls Try.prog 47 #[.slice aa na ca] W (Cloned 57 2 dotO al W)) := fun W hW => nclone_dot al _ W (RowsAt.next dotR_steady ha (E2.trans (hW.mono E2.size))) hla
  have HCC : Hid (∀ W, Below W2.heap.size W2 W → Calls Try.prog 37 #[.agg #[.slice a1 n1 c1, .slice a2 n2 c2]] W (fun e w' => ∃ o1 m1 k1 o2 m2 k2, e = .returned (.agg #[.slice o1 m1 k1, .slice o2 m2 k2]) ∧ RowsO W.heap.size 57 2 dotO w' (.slice o1 m1 k1) a ∧ RowsO W.heap.size 57 2 dotO w' (.slice o2 m2 k2) b ∧ Below W.heap.size W w')) := fun W hW => twctx_any a b a1 a2 n1 c1 n2 c2 W (RowsAt.next dotR_steady h1 (E2.trans (hW.mono E2.size))) (RowsAt.next dotR_steady h2 (E2.trans (hW.mono E2.size))) hl1 hl2
  have HE2 := Lib.hid E2
  clear he ha h1 h2 x1 x2 E2 b1 b2 hf
  go_enter Try.func36, Try.ntmps36
  go_wp2_with fail
  rw [← hW2]
  clear hW2
  refine wp_flow 9 (fun _ => 1000) (fun ww => RowKit.Below W2.heap.size W2 ww) (fun _ w w' => (fun (w w' : World) => RowKit.Below w.heap.size w w') w w') (fun kF vF wF => match kF with | 0 => (vF = .pointer (some ⟨w.heap.size, 0, none⟩)) | 1 => (vF = .slice ae ne ce) | 2 => (∃ o n c, vF = .slice o n c ∧ RowsO w.heap.size 78 5 entO wF (.slice o n c) en) | 3 => (vF = .pointer (some ⟨w.heap.size, 1, none⟩)) | 4 => (vF = .slice aa na ca) | 5 => (∃ o n c, vF = .slice o n c ∧ RowsO w.heap.size 57 2 dotO wF (.slice o n c) al) | 6 => (vF = .pointer (some ⟨w.heap.size, 2, none⟩)) | 7 => (vF = .agg #[.slice a1 n1 c1, .slice a2 n2 c2]) | 8 => (∃ o n c o2 n2 c2, vF = .agg #[.slice o n c, .slice o2 n2 c2] ∧ RowsO w.heap.size 57 2 dotO wF (.slice o n c) a ∧ RowsO w.heap.size 57 2 dotO wF (.slice o2 n2 c2) b) | _ => True) (fun _ _ _ _ => True) (by kernel_rfl) (by kernel_rfl) ?_ ?_ ?_ ?_ ?_
  · exact (Below.refl _ _).drew
  · intro iF wF1 wF2 hR hT; exact hR.trans (hT.mono hR.size)
  · intro kF hkF iF hiF hne hdd hanc hdan vF wF1 wF2 h hT
    rcases (by omega : kF = 0 ∨ kF = 1 ∨ kF = 2 ∨ kF = 3 ∨ kF = 4 ∨ kF = 5 ∨ kF = 6 ∨ kF = 7 ∨ kF = 8) with rfl | rfl | rfl | rfl | rfl | rfl | rfl | rfl | rfl
    · exact h
    · exact h
    · have h : (∃ o n c, vF = .slice o n c ∧ RowsO w.heap.size 78 5 entO wF1 (.slice o n c) en) := h
      show (∃ o n c, vF = .slice o n c ∧ RowsO w.heap.size 78 5 entO wF2 (.slice o n c) en)
      have hT : (fun (w w' : World) => RowKit.Below w.heap.size w w') wF1 wF2 := hT
      simp only at hT
      obtain ⟨o, n, c, e, hr⟩ := h
      exact ⟨o, n, c, e, hr.kt (entO_pst (by decide)) (by decide) (Kt.of_below (T := 9) hT)⟩
    · exact h
    · exact h
    · have h : (∃ o n c, vF = .slice o n c ∧ RowsO w.heap.size 57 2 dotO wF1 (.slice o n c) al) := h
      show (∃ o n c, vF = .slice o n c ∧ RowsO w.heap.size 57 2 dotO wF2 (.slice o n c) al)
      have hT : (fun (w w' : World) => RowKit.Below w.heap.size w w') wF1 wF2 := hT
      simp only at hT
      obtain ⟨o, n, c, e, hr⟩ := h
      exact ⟨o, n, c, e, hr.kt (dotO_pst _) (by decide) (Kt.of_below (T := 9) hT)⟩
    · exact h
    · exact h
    · have h : (∃ o n c o2 n2 c2, vF = .agg #[.slice o n c, .slice o2 n2 c2] ∧ RowsO w.heap.size 57 2 dotO wF1 (.slice o n c) a ∧ RowsO w.heap.size 57 2 dotO wF1 (.slice o2 n2 c2) b) := h
      show (∃ o n c o2 n2 c2, vF = .agg #[.slice o n c, .slice o2 n2 c2] ∧ RowsO w.heap.size 57 2 dotO wF2 (.slice o n c) a ∧ RowsO w.heap.size 57 2 dotO wF2 (.slice o2 n2 c2) b)
      have hT : (fun (w w' : World) => RowKit.Below w.heap.size w w') wF1 wF2 := hT
      simp only at hT
      obtain ⟨o, n, c, o2, n2, c2, e, hr, hr2⟩ := h
      exact ⟨o, n, c, o2, n2, c2, e, hr.kt (dotO_pst 0) (by decide) (Kt.of_below hT), hr2.kt (dotO_pst 0) (by decide) (Kt.of_below hT)⟩
  · refine FlowAll.cons ?_ ?_
    · intro xF w6 hR hd K hK
      clear hd
      simp only [List.take_succ_cons, List.take_zero, fillOf, Act.put, List.setIfInBounds_toArray, List.set_cons_zero, List.set_cons_succ, Nat.reduceAdd, Nat.zero_add] at hK ⊢
      obtain hbR := id hR
      rw [if_pos (by rfl)]
      go_simp
      exact hK.out _ _ (Below.refl _ _) (rfl) (fun _ _ _ => ⟨trivial, trivial⟩)
    refine FlowAll.cons ?_ ?_
    · intro xF w6 hR hd K hK
      have dd0 : ((xF 0) = .pointer (some ⟨w.heap.size, 0, none⟩)) := hd 0 (by kernel_rfl)
      clear hd
      simp only [List.take_succ_cons, List.take_zero, fillOf, Act.put, List.setIfInBounds_toArray, List.set_cons_zero, List.set_cons_succ, Nat.reduceAdd, Nat.zero_add] at hK ⊢
      try generalize xF 0 = yy0 at *
      obtain rfl := dd0
      obtain hbR := id hR
      have hx := (HX.out _ hR).1
      have q0 := boxc hx 0 _ rfl
      have q1 := boxc hx 1 _ rfl
      have q2 := boxc hx 2 _ rfl
      have q3 := boxc hx 3 _ rfl
      clear hx
      rw [if_pos (by rfl)]
      go_simp
      exact hK.out _ _ (Below.refl _ _) (rfl) (fun _ _ _ => ⟨trivial, trivial⟩)
    refine FlowAll.cons ?_ ?_
    · intro xF w6 hR hd K hK
      have dd1 : ((xF 1) = .slice ae ne ce) := hd 1 (by kernel_rfl)
      clear hd
      simp only [List.take_succ_cons, List.take_zero, fillOf, Act.put, List.setIfInBounds_toArray, List.set_cons_zero, List.set_cons_succ, Nat.reduceAdd, Nat.zero_add] at hK ⊢
      try generalize xF 1 = yy1 at *
      obtain rfl := dd1
      obtain hbR := id hR
      rw [if_pos (by rfl)]
      go_simp
      (go_at_call 46; (with_reducible refine (HCE.out _ hR).mono ?_); rintro e wK ⟨oK, nK, cK, rfl, gK, hbK⟩)
      try go_wp2_with fail
      exact hK.out _ _ (hbK) (⟨oK, nK, cK, rfl, gK.low (Nat.le_trans HE2.out.size hR.size)⟩) (fun _ _ _ => ⟨trivial, trivial⟩)
    refine FlowAll.cons ?_ ?_
    · intro xF w6 hR hd K hK
      clear hd
      simp only [List.take_succ_cons, List.take_zero, fillOf, Act.put, List.setIfInBounds_toArray, List.set_cons_zero, List.set_cons_succ, Nat.reduceAdd, Nat.zero_add] at hK ⊢
      obtain hbR := id hR
      rw [if_pos (by rfl)]
      go_simp
      exact hK.out _ _ (Below.refl _ _) (rfl) (fun _ _ _ => ⟨trivial, trivial⟩)
    refine FlowAll.cons ?_ ?_
    · intro xF w6 hR hd K hK
      have dd3 : ((xF 3) = .pointer (some ⟨w.heap.size, 1, none⟩)) := hd 3 (by kernel_rfl)
      clear hd
      simp only [List.take_succ_cons, List.take_zero, fillOf, Act.put, List.setIfInBounds_toArray, List.set_cons_zero, List.set_cons_succ, Nat.reduceAdd, Nat.zero_add] at hK ⊢
      try generalize xF 3 = yy3 at *
      obtain rfl := dd3
      obtain hbR := id hR
      have hx := (HX.out _ hR).1
      have q0 := boxc hx 0 _ rfl
      have q1 := boxc hx 1 _ rfl
      have q2 := boxc hx 2 _ rfl
      have q3 := boxc hx 3 _ rfl
      clear hx
      rw [if_pos (by rfl)]
      go_simp
      exact hK.out _ _ (Below.refl _ _) (rfl) (fun _ _ _ => ⟨trivial, trivial⟩)
    refine FlowAll.cons ?_ ?_
    · intro xF w6 hR hd K hK
      have dd4 : ((xF 4) = .slice aa na ca) := hd 4 (by kernel_rfl)
      clear hd
      simp only [List.take_succ_cons, List.take_zero, fillOf, Act.put, List.setIfInBounds_toArray, List.set_cons_zero, List.set_cons_succ, Nat.reduceAdd, Nat.zero_add] at hK ⊢
      try generalize xF 4 = yy4 at *
      obtain rfl := dd4
      obtain hbR := id hR
      rw [if_pos (by rfl)]
      go_simp
      (go_at_call 47; (with_reducible refine (HCA.out _ hR).mono ?_); rintro e wK ⟨oK, nK, cK, rfl, gK, hbK⟩)
      try go_wp2_with fail
      exact hK.out _ _ (hbK) (⟨oK, nK, cK, rfl, gK.low (Nat.le_trans HE2.out.size hR.size)⟩) (fun _ _ _ => ⟨trivial, trivial⟩)
    refine FlowAll.cons ?_ ?_
    · intro xF w6 hR hd K hK
      clear hd
      simp only [List.take_succ_cons, List.take_zero, fillOf, Act.put, List.setIfInBounds_toArray, List.set_cons_zero, List.set_cons_succ, Nat.reduceAdd, Nat.zero_add] at hK ⊢
      obtain hbR := id hR
      rw [if_pos (by rfl)]
      go_simp
      exact hK.out _ _ (Below.refl _ _) (rfl) (fun _ _ _ => ⟨trivial, trivial⟩)
    refine FlowAll.cons ?_ ?_
    · intro xF w6 hR hd K hK
      have dd6 : ((xF 6) = .pointer (some ⟨w.heap.size, 2, none⟩)) := hd 6 (by kernel_rfl)
      clear hd
      simp only [List.take_succ_cons, List.take_zero, fillOf, Act.put, List.setIfInBounds_toArray, List.set_cons_zero, List.set_cons_succ, Nat.reduceAdd, Nat.zero_add] at hK ⊢
      try generalize xF 6 = yy6 at *
      obtain rfl := dd6
      obtain hbR := id hR
      have hx := (HX.out _ hR).1
      have q0 := boxc hx 0 _ rfl
      have q1 := boxc hx 1 _ rfl
      have q2 := boxc hx 2 _ rfl
      have q3 := boxc hx 3 _ rfl
      clear hx
      rw [if_pos (by rfl)]
      go_simp
      exact hK.out _ _ (Below.refl _ _) (rfl) (fun _ _ _ => ⟨trivial, trivial⟩)
    refine FlowAll.cons ?_ ?_
    · intro xF w6 hR hd K hK
      have dd7 : ((xF 7) = .agg #[.slice a1 n1 c1, .slice a2 n2 c2]) := hd 7 (by kernel_rfl)
      clear hd
      simp only [List.take_succ_cons, List.take_zero, fillOf, Act.put, List.setIfInBounds_toArray, List.set_cons_zero, List.set_cons_succ, Nat.reduceAdd, Nat.zero_add] at hK ⊢
      try generalize xF 7 = yy7 at *
      obtain rfl := dd7
      obtain hbR := id hR
      rw [if_pos (by rfl)]
      go_simp
      (go_at_call 37; (with_reducible refine (HCC.out _ hR).mono ?_); rintro e wK ⟨oK, nK, cK, oL, nL, cL, rfl, gK, gL, hbK⟩)
      try go_wp2_with fail
      exact hK.out _ _ (hbK) (⟨oK, nK, cK, oL, nL, cL, rfl, gK.low (Nat.le_trans HE2.out.size hR.size), gL.low (Nat.le_trans HE2.out.size hR.size)⟩) (fun _ _ _ => ⟨trivial, trivial⟩)
    exact FlowAll.nil
  intro xF w6 hR hF hP
  clear hP
  have dd0 : ((xF 0) = .pointer (some ⟨w.heap.size, 0, none⟩)) := hF 0 (by omega) (by decide)
  have dd1 : ((xF 1) = .slice ae ne ce) := hF 1 (by omega) (by decide)
  have dd2 : (∃ o n c, (xF 2) = .slice o n c ∧ RowsO w.heap.size 78 5 entO w6 (.slice o n c) en) := hF 2 (by omega) (by decide)
  have dd3 : ((xF 3) = .pointer (some ⟨w.heap.size, 1, none⟩)) := hF 3 (by omega) (by decide)
  have dd4 : ((xF 4) = .slice aa na ca) := hF 4 (by omega) (by decide)
  have dd5 : (∃ o n c, (xF 5) = .slice o n c ∧ RowsO w.heap.size 57 2 dotO w6 (.slice o n c) al) := hF 5 (by omega) (by decide)
  have dd6 : ((xF 6) = .pointer (some ⟨w.heap.size, 2, none⟩)) := hF 6 (by omega) (by decide)
  have dd7 : ((xF 7) = .agg #[.slice a1 n1 c1, .slice a2 n2 c2]) := hF 7 (by omega) (by decide)
  have dd8 : (∃ o n c o2 n2 c2, (xF 8) = .agg #[.slice o n c, .slice o2 n2 c2] ∧ RowsO w.heap.size 57 2 dotO w6 (.slice o n c) a ∧ RowsO w.heap.size 57 2 dotO w6 (.slice o2 n2 c2) b) := hF 8 (by omega) (by decide)
  clear hF
  simp only [List.take_succ_cons, List.take_zero, List.drop_succ_cons, List.drop_zero, fillOf, Act.put, List.setIfInBounds_toArray, List.set_cons_zero, List.set_cons_succ, Nat.reduceAdd, Nat.zero_add]
  try generalize xF 0 = yy0 at *
  try generalize xF 1 = yy1 at *
  try generalize xF 2 = yy2 at *
  try generalize xF 3 = yy3 at *
  try generalize xF 4 = yy4 at *
  try generalize xF 5 = yy5 at *
  try generalize xF 6 = yy6 at *
  try generalize xF 7 = yy7 at *
  try generalize xF 8 = yy8 at *
  clear xF
  obtain rfl := dd0
  obtain rfl := dd1
  obtain ⟨o1, m1, k1, rfl, g1⟩ := dd2
  obtain rfl := dd3
  obtain rfl := dd4
  obtain ⟨o2, m2, k2, rfl, g2⟩ := dd5
  obtain rfl := dd6
  obtain rfl := dd7
  obtain ⟨o3, m3, k3, o4, m4, k4, rfl, g3, g4⟩ := dd8
  have hRE := Lib.hid hR
  clear hR
  have hx := (HX.out _ hRE.out).2
  have q0 := boxc hx 0 _ rfl
  have q1 := boxc hx 1 _ rfl
  have q2 := boxc hx 2 _ rfl
  have q3 := boxc hx 3 _ rfl
  have f0 := boxf hx 0
  have f1 := boxf hx 1
  have f2 := boxf hx 2
  have f3 := boxf hx 3
  have hlt := lt_of_block hx
  have z1 := fun u => heap_setCell_same _ (w.heap.size + 1) 0 _ _ u hx
  have z2 := fun u v => heap_setCell_same _ (w.heap.size + 1) 1 _ _ v (z1 u)
  have z3 := fun u v x => heap_setCell_same _ (w.heap.size + 1) 2 _ _ x (z2 u v)
  have z4 := fun u v x y => heap_setCell_same _ (w.heap.size + 1) 3 _ _ y (z3 u v x)
  have HK : Hid (∀ u v x y, Kt 28 w6 ((((w6.setCell ⟨w.heap.size + 1, 0, none⟩ u).setCell ⟨w.heap.size + 1, 1, none⟩ v).setCell ⟨w.heap.size + 1, 2, none⟩ x).setCell ⟨w.heap.size + 1, 3, none⟩ y)) := fun u v x y =>
    (((Kt.set hx 0 u).trans (Kt.set (z1 u) 1 v)).trans (Kt.set (z2 u v) 2 x)).trans (Kt.set (z3 u v x) 3 y)
  have HC : Hid (∀ u v x y, ((((w6.setCell ⟨w.heap.size + 1, 0, none⟩ u).setCell ⟨w.heap.size + 1, 1, none⟩ v).setCell ⟨w.heap.size + 1, 2, none⟩ x).setCell ⟨w.heap.size + 1, 3, none⟩ y).heap[w.heap.size + 1]? = some (.cells #[u, v, x, y] 28 (0, 0))) := fun u v x y => z4 u v x y
  clear hx z1 z2 z3 z4
  go_wp2
  have hc := HC.out (.slice o1 m1 k1) (.slice o2 m2 k2) (.slice o3 m3 k3) (.slice o4 m4 k4)
  have c0 := boxc hc 0 _ rfl
  have c1 := boxc hc 1 _ rfl
  have c2 := boxc hc 2 _ rfl
  have c3 := boxc hc 3 _ rfl
  refine bodyPost_ret (v := .agg #[.slice o1 m1 k1, .slice o2 m2 k2, .slice o3 m3 k3, .slice o4 m4 k4]) (by simp [results, Try.results36, go_sem, c0, c1, c2, c3]) rfl ?_
  have kk := HK.out (.slice o1 m1 k1) (.slice o2 m2 k2) (.slice o3 m3 k3) (.slice o4 m4 k4)
  refine ⟨_, _, _, _, _, _, _, _, _, _, _, _, rfl, g1.kt (entO_pst (by decide)) (by decide) kk, g2.kt (dotO_pst _) (by decide) kk, g3.kt (dotO_pst _) (by decide) kk, g4.kt (dotO_pst _) (by decide) kk, ?_⟩
  exact ((((HE2.out.trans (hRE.out.mono HE2.out.size)).setCell (by show w.heap.size ≤ w.heap.size + 1; omega) _).setCell (by show w.heap.size ≤ w.heap.size + 1; omega) _).setCell (by show w.heap.size ≤ w.heap.size + 1; omega) _).setCell (by show w.heap.size ≤ w.heap.size + 1; omega) _
end Go.Proofs.Ytpgccfgldjeomaa
