/- net: twin.Context. -/
import Derived.Test.YtpgccfgldjeomaaNtClone
import Derived.Test.YtpgccfgldjeomaaFlow
namespace Go.Proofs.Ytpgccfgldjeomaa
open Go.RowKit Go.ChangeShapes cl
theorem RowsO.low {α : Type} {B B' k : Nat} {T : TypeId} {R : RelO α} {w : World} {v : Value} {l : List α} (h : RowsO B T k R w v l) (hB : B' ≤ B) : RowsO B' T k R w v l := by
  obtain ⟨cs, h0, h1, h2⟩ := h
  exact ⟨cs, h0, h1, own_base h2 hB⟩
set_option maxHeartbeats 1600000 in
set_option maxRecDepth 100000 in
theorem twctx_any (a b : List cd.D) (a1 a2 : Option Addr) (n1 c1 n2 c2 : Nat) (w : World) (h1 : RowsAt 2 dotR w w.heap.size (.slice a1 n1 c1) a) (h2 : RowsAt 2 dotR w w.heap.size (.slice a2 n2 c2) b) (hl1 : a.length ≤ 1000000000000) (hl2 : b.length ≤ 1000000000000) :
    Calls Try.prog 37 #[.agg #[.slice a1 n1 c1, .slice a2 n2 c2]] w (fun e w' => ∃ o1 m1 k1 o2 m2 k2, e = .returned (.agg #[.slice o1 m1 k1, .slice o2 m2 k2]) ∧ RowsO w.heap.size 57 2 dotO w' (.slice o1 m1 k1) a ∧ RowsO w.heap.size 57 2 dotO w' (.slice o2 m2 k2) b ∧ Below w.heap.size w w') := by
  obtain ⟨W2, hW2⟩ : ∃ W, W = (w.alloc (.cells #[.slice a1 n1 c1, .slice a2 n2 c2] 26)).alloc (.cells #[.slice none 0 0, .slice none 0 0] 26) := ⟨_, rfl⟩
  have b1 : Below w.heap.size w (w.alloc (.cells #[.slice a1 n1 c1, .slice a2 n2 c2] 26)) := below1
  have b2 : Below (w.alloc (.cells #[.slice a1 n1 c1, .slice a2 n2 c2] 26)).heap.size (w.alloc (.cells #[.slice a1 n1 c1, .slice a2 n2 c2] 26)) W2 := by rw [hW2]; exact below1
  have E2 := b1.trans (b2.mono b1.size)
  have x1 : W2.heap[w.heap.size]? = some (.cells #[.slice a1 n1 c1, .slice a2 n2 c2] 26) := (b2.block _ (by simp)).trans (heap_alloc_new w _)
  have x2 : W2.heap[w.heap.size + 1]? = some (.cells #[.slice none 0 0, .slice none 0 0] 26) := by
    have := heap_alloc_new (w.alloc (.cells #[.slice a1 n1 c1, .slice a2 n2 c2] 26)) (.cells #[.slice none 0 0, .slice none 0 0] 26)
    rw [World.size_alloc] at this
    rw [hW2]; exact this
  have HX : Hid (∀ W, Below W2.heap.size W2 W → W.heap[w.heap.size]? = some (.cells #[.slice a1 n1 c1, .slice a2 n2 c2] 26) ∧ W.heap[w.heap.size + 1]? = some (.cells #[.slice none 0 0, .slice none 0 0] 26)) := fun W hW => ⟨(hW.block _ (lt_of_block x1)).trans x1, (hW.block _ (lt_of_block x2)).trans x2⟩
  have HCL : Hid (∀ W, Below W2.heap.size W2 W → Calls Try.prog 47 #[.slice a1 n1 c1] W (Cloned 57 2 dotO a W) ∧ Calls Try.prog 47 #[.slice a2 n2 c2] W (Cloned 57 2 dotO b W)) := fun W hW => by
    have e := E2.trans (hW.mono E2.size)
    exact ⟨nclone_dot a _ W (RowsAt.next dotR_steady h1 e) hl1, nclone_dot b _ W (RowsAt.next dotR_steady h2 e) hl2⟩
  have HE2 := Lib.hid E2
  clear h1 h2 x1 x2 E2 b1 b2
  go_enter Try.func37, Try.ntmps37
  go_wp2_with fail
  rw [← hW2]
  clear hW2
  refine wp_flow 6 (fun _ => 1000) (fun ww => RowKit.Below W2.heap.size W2 ww) (fun _ w w' => (fun (w w' : World) => RowKit.Below w.heap.size w w') w w') (fun kF vF wF => match kF with | 0 => (vF = .pointer (some ⟨w.heap.size, 0, none⟩)) | 1 => (vF = .slice a1 n1 c1) | 2 => (∃ o n c, vF = .slice o n c ∧ RowsO w.heap.size 57 2 dotO wF (.slice o n c) a) | 3 => (vF = .pointer (some ⟨w.heap.size, 1, none⟩)) | 4 => (vF = .slice a2 n2 c2) | 5 => (∃ o n c, vF = .slice o n c ∧ RowsO w.heap.size 57 2 dotO wF (.slice o n c) b) | _ => True) (fun _ _ _ _ => True) (by kernel_rfl) (by kernel_rfl) ?_ ?_ ?_ ?_ ?_
  · exact (Below.refl _ _).drew
  · intro iF wF1 wF2 hR hT; exact hR.trans (hT.mono hR.size)
  · intro kF hkF iF hiF hne hdd hanc hdan vF wF1 wF2 h hT
    rcases (by omega : kF = 0 ∨ kF = 1 ∨ kF = 2 ∨ kF = 3 ∨ kF = 4 ∨ kF = 5) with rfl | rfl | rfl | rfl | rfl | rfl
    · exact h
    · exact h
    · have h : (∃ o n c, vF = .slice o n c ∧ RowsO w.heap.size 57 2 dotO wF1 (.slice o n c) a) := h
      show (∃ o n c, vF = .slice o n c ∧ RowsO w.heap.size 57 2 dotO wF2 (.slice o n c) a)
      have hT : (fun (w w' : World) => RowKit.Below w.heap.size w w') wF1 wF2 := hT
      simp only at hT
      obtain ⟨o, n, c, e, hr⟩ := h
      exact ⟨o, n, c, e, hr.kt (dotO_pst 0) (by decide) (Kt.of_below hT)⟩
    · exact h
    · exact h
    · have h : (∃ o n c, vF = .slice o n c ∧ RowsO w.heap.size 57 2 dotO wF1 (.slice o n c) b) := h
      show (∃ o n c, vF = .slice o n c ∧ RowsO w.heap.size 57 2 dotO wF2 (.slice o n c) b)
      have hT : (fun (w w' : World) => RowKit.Below w.heap.size w w') wF1 wF2 := hT
      simp only at hT
      obtain ⟨o, n, c, e, hr⟩ := h
      exact ⟨o, n, c, e, hr.kt (dotO_pst 0) (by decide) (Kt.of_below hT)⟩
  · refine FlowAll.cons ?_ ?_
    · intro xF w6 hR hd K hK
      clear hd
      simp only [List.take_succ_cons, List.take_zero, fillOf, Act.put, List.setIfInBounds_toArray, List.set_cons_zero, List.set_cons_succ, Nat.reduceAdd, Nat.zero_add] at hK ⊢
      obtain hbR := id hR
      rw [if_pos (by rfl)]
      go_simp
      exact hK.out _ _ (Below.refl _ _) (rfl) (fun _ _ _ => ⟨trivial, trivial⟩)
    refine FlowAll.cons ?_ ?_
    · intro xF w6 hR hd K hK
      have dd0 : ((xF 0) = .pointer (some ⟨w.heap.size, 0, none⟩)) := hd 0 (by kernel_rfl)
      clear hd
      simp only [List.take_succ_cons, List.take_zero, fillOf, Act.put, List.setIfInBounds_toArray, List.set_cons_zero, List.set_cons_succ, Nat.reduceAdd, Nat.zero_add] at hK ⊢
      try generalize xF 0 = yy0 at *
      obtain rfl := dd0
      obtain hbR := id hR
      have hx := (HX.out _ hR).1
      have q0 := boxc hx 0 _ rfl
      have q1 := boxc hx 1 _ rfl
      clear hx
      rw [if_pos (by rfl)]
      go_simp
      exact hK.out _ _ (Below.refl _ _) (rfl) (fun _ _ _ => ⟨trivial, trivial⟩)
    refine FlowAll.cons ?_ ?_
    · intro xF w6 hR hd K hK
      have dd1 : ((xF 1) = .slice a1 n1 c1) := hd 1 (by kernel_rfl)
      clear hd
      simp only [List.take_succ_cons, List.take_zero, fillOf, Act.put, List.setIfInBounds_toArray, List.set_cons_zero, List.set_cons_succ, Nat.reduceAdd, Nat.zero_add] at hK ⊢
      try generalize xF 1 = yy1 at *
      obtain rfl := dd1
      obtain hbR := id hR
      rw [if_pos (by rfl)]
      go_simp
      (go_at_call 47; (with_reducible refine ((HCL.out _ hR).1).mono ?_); rintro e wK ⟨oK, nK, cK, rfl, gK, hbK⟩)
      try go_wp2_with fail
      exact hK.out _ _ (hbK) (⟨oK, nK, cK, rfl, gK.low (Nat.le_trans HE2.out.size hR.size)⟩) (fun _ _ _ => ⟨trivial, trivial⟩)
    refine FlowAll.cons ?_ ?_
    · intro xF w6 hR hd K hK
      clear hd
      simp only [List.take_succ_cons, List.take_zero, fillOf, Act.put, List.setIfInBounds_toArray, List.set_cons_zero, List.set_cons_succ, Nat.reduceAdd, Nat.zero_add] at hK ⊢
      obtain hbR := id hR
      rw [if_pos (by rfl)]
      go_simp
      exact hK.out _ _ (Below.refl _ _) (rfl) (fun _ _ _ => ⟨trivial, trivial⟩)
    refine FlowAll.cons ?_ ?_
    · intro xF w6 hR hd K hK
      have dd3 : ((xF 3) = .pointer (some ⟨w.heap.size, 1, none⟩)) := hd 3 (by kernel_rfl)
      clear hd
      simp only [List.take_succ_cons, List.take_zero, fillOf, Act.put, List.setIfInBounds_toArray, List.set_cons_zero, List.set_cons_succ, Nat.reduceAdd, Nat.zero_add] at hK ⊢
      try generalize xF 3 = yy3 at *
      obtain rfl := dd3
      obtain hbR := id hR
      have hx := (HX.out _ hR).1
      have q0 := boxc hx 0 _ rfl
      have q1 := boxc hx 1 _ rfl
      clear hx
      rw [if_pos (by rfl)]
      go_simp
      exact hK.out _ _ (Below.refl _ _) (rfl) (fun _ _ _ => ⟨trivial, trivial⟩)
    refine FlowAll.cons ?_ ?_
    · intro xF w6 hR hd K hK
      have dd4 : ((xF 4) = .slice a2 n2 c2) := hd 4 (by kernel_rfl)
      clear hd
      simp only [List.take_succ_cons, List.take_zero, fillOf, Act.put, List.setIfInBounds_toArray, List.set_cons_zero, List.set_cons_succ, Nat.reduceAdd, Nat.zero_add] at hK ⊢
      try generalize xF 4 = yy4 at *
      obtain rfl := dd4
      obtain hbR := id hR
      rw [if_pos (by rfl)]
      go_simp
      (go_at_call 47; (with_reducible refine ((HCL.out _ hR).2).mono ?_); rintro e wK ⟨oK, nK, cK, rfl, gK, hbK⟩)
      try go_wp2_with fail
      exact hK.out _ _ (hbK) (⟨oK, nK, cK, rfl, gK.low (Nat.le_trans HE2.out.size hR.size)⟩) (fun _ _ _ => ⟨trivial, trivial⟩)
    exact FlowAll.nil
  intro xF w6 hR hF hP
  clear hP
  have dd0 : ((xF 0) = .pointer (some ⟨w.heap.size, 0, none⟩)) := hF 0 (by omega) (by decide)
  have dd1 : ((xF 1) = .slice a1 n1 c1) := hF 1 (by omega) (by decide)
  have dd2 : (∃ o n c, (xF 2) = .slice o n c ∧ RowsO w.heap.size 57 2 dotO w6 (.slice o n c) a) := hF 2 (by omega) (by decide)
  have dd3 : ((xF 3) = .pointer (some ⟨w.heap.size, 1, none⟩)) := hF 3 (by omega) (by decide)
  have dd4 : ((xF 4) = .slice a2 n2 c2) := hF 4 (by omega) (by decide)
  have dd5 : (∃ o n c, (xF 5) = .slice o n c ∧ RowsO w.heap.size 57 2 dotO w6 (.slice o n c) b) := hF 5 (by omega) (by decide)
  clear hF
  simp only [List.take_succ_cons, List.take_zero, List.drop_succ_cons, List.drop_zero, fillOf, Act.put, List.setIfInBounds_toArray, List.set_cons_zero, List.set_cons_succ, Nat.reduceAdd, Nat.zero_add]
  try generalize xF 0 = yy0 at *
  try generalize xF 1 = yy1 at *
  try generalize xF 2 = yy2 at *
  try generalize xF 3 = yy3 at *
  try generalize xF 4 = yy4 at *
  try generalize xF 5 = yy5 at *
  clear xF
  obtain rfl := dd0
  obtain rfl := dd1
  obtain ⟨o1, m1, k1, rfl, g1⟩ := dd2
  obtain rfl := dd3
  obtain rfl := dd4
  obtain ⟨o2, m2, k2, rfl, g2⟩ := dd5
  have hRE := Lib.hid hR
  clear hR
  have hx := (HX.out _ hRE.out).2
  have q0 := boxc hx 0 _ rfl
  have q1 := boxc hx 1 _ rfl
  have f0 := boxf hx 0
  have f1 := boxf hx 1
  have hlt := lt_of_block hx
  have kk : ∀ u v, Kt 26 w6 ((w6.setCell ⟨w.heap.size + 1, 0, none⟩ u).setCell ⟨w.heap.size + 1, 1, none⟩ v) := fun u v =>
    (Kt.set hx 0 u).trans (Kt.set (heap_setCell_same w6 (w.heap.size + 1) 0 _ _ _ hx) 1 v)
  have HK := Lib.hid kk
  have HC : Hid (∀ u v, ((w6.setCell ⟨w.heap.size + 1, 0, none⟩ u).setCell ⟨w.heap.size + 1, 1, none⟩ v).heap[w.heap.size + 1]? = some (.cells #[u, v] 26 (0, 0))) := fun u v => heap_setCell_same _ (w.heap.size + 1) 1 _ _ _ (heap_setCell_same w6 (w.heap.size + 1) 0 _ _ _ hx)
  clear hx kk
  go_wp2
  have c0 := boxc (HC.out (.slice o1 m1 k1) (.slice o2 m2 k2)) 0 _ rfl
  have c1 := boxc (HC.out (.slice o1 m1 k1) (.slice o2 m2 k2)) 1 _ rfl
  refine bodyPost_ret (v := .agg #[.slice o1 m1 k1, .slice o2 m2 k2]) (by simp [results, Try.results37, go_sem, c0, c1]) rfl ?_
  refine ⟨_, _, _, _, _, _, rfl, g1.kt (dotO_pst _) (by decide) (HK.out _ _), g2.kt (dotO_pst _) (by decide) (HK.out _ _), ?_⟩
  exact ((HE2.out.trans (hRE.out.mono HE2.out.size)).setCell (by show w.heap.size ≤ w.heap.size + 1; omega) _).setCell (by show w.heap.size ≤ w.heap.size + 1; omega) _
end Go.Proofs.Ytpgccfgldjeomaa
