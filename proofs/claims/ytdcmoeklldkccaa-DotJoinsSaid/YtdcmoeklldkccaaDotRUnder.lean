/- the document's Under; Join where one is not right. -/
import Derived.Test.YtdcmoeklldkccaaDotRJoin
import Derived.Test.YtdcmoeklldkccaaDotRef3
import Derived.Test.YtdcmoeklldkccaaDotFar
import Derived.Test.YtdcmoeklldkccaaDotUnder
namespace Go.Proofs.Ytdcmoeklldkccaa
open Go Go.RowKit Go.ChangeShapes cl Go.Sort

set_option maxHeartbeats 3200000 in
set_option maxRecDepth 100000 in
/-- one is not right: the first as it was -/
theorem join_no (a b : dm.Ctx) (va vb : Value) (w : World) (ha : CtxAt w w.heap.size va a) (hb : CtxAt w w.heap.size vb b) (hno : ¬ (dm.Right a ∧ dm.Right b)) :
    Calls Try.prog 22 #[va, vb] w (SameC va w) := by
  obtain ⟨a1, n1, c1, a2, m1, c2, rfl, hn1, hm1⟩ := ha.form
  obtain ⟨b1, n2, d1, b2, m2, d2, rfl, hn2, hm2⟩ := hb.form
  have HCA := Lib.hid ha
  have HCB := Lib.hid hb
  obtain ⟨w1, hw1⟩ : ∃ W, W = ((w.alloc (.cells #[.slice a1 n1 c1, .slice a2 m1 c2] 24)).alloc (.cells #[.slice b1 n2 d1, .slice b2 m2 d2] 24)).alloc (.cells #[.slice none 0 0, .slice none 0 0] 24) := ⟨_, rfl⟩
  have hA : Below w.heap.size w w1 := by rw [hw1]; exact (((Below.refl _ _).alloc (Nat.le_refl _) _).alloc (by simp) _).alloc (by simp <;> omega) _
  have hs1 : w1.heap.size = w.heap.size + 3 := by rw [hw1]; simp
  have HK : Hid (w1.cell? ⟨w.heap.size, 0, none⟩ = some (.slice a1 n1 c1) ∧ w1.cell? ⟨w.heap.size, 1, none⟩ = some (.slice a2 m1 c2) ∧ w1.cell? ⟨w.heap.size + 1, 0, none⟩ = some (.slice b1 n2 d1) ∧ w1.cell? ⟨w.heap.size + 1, 1, none⟩ = some (.slice b2 m2 d2) ∧
      w1.cell? ⟨w.heap.size + 2, 0, none⟩ = some (.slice none 0 0) ∧ w1.cell? ⟨w.heap.size + 2, 1, none⟩ = some (.slice none 0 0) ∧ w1.frozen? ⟨w.heap.size + 2, 0, none⟩ = false ∧ w1.frozen? ⟨w.heap.size + 2, 1, none⟩ = false) := by
    rw [hw1]
    refine ⟨?_, ?_, ?_, ?_, ?_, ?_, ?_, ?_⟩ <;> go_simp
  have HW := Lib.hid hw1
  have HRI : Hid (∀ W, Below w.heap.size w W → Calls Try.prog 18 #[.agg #[.slice a1 n1 c1, .slice a2 m1 c2]] W (Said (dm.rightB a) W)) := fun W hW => right_any a _ W (HCA.out.next hW)
  have HRJ : Hid (∀ W, Below w.heap.size w W → Calls Try.prog 18 #[.agg #[.slice b1 n2 d1, .slice b2 m2 d2]] W (Said (dm.rightB b) W)) := fun W hW => right_any b _ W (HCB.out.next hW)
  clear hw1 ha hb hn1 hm1 hn2 hm2
  cases hra : dm.rightB a with
  | false =>
    rw [hra] at HRI
    clear hno hra
    go_enter Try.func22, Try.ntmps22
    go_wp2_with fail
    rw [← HW.out]
    (with_reducible refine (HRI.out _ hA).mono ?_)
    rintro e w2 ⟨rfl, g2⟩
    have G2 : Below (w.heap.size + 3) w1 w2 := g2.mono (by omega)
    have B2 := hA.trans (G2.mono (by omega))
    have r0 := (G2.cell (p := ⟨w.heap.size, 0, none⟩) (by show w.heap.size < _; omega)).trans HK.out.1
    have r1 := (G2.cell (p := ⟨w.heap.size, 1, none⟩) (by show w.heap.size < _; omega)).trans HK.out.2.1
    have r2 := (G2.cell (p := ⟨w.heap.size + 1, 0, none⟩) (by show w.heap.size + 1 < _; omega)).trans HK.out.2.2.1
    have r3 := (G2.cell (p := ⟨w.heap.size + 1, 1, none⟩) (by show w.heap.size + 1 < _; omega)).trans HK.out.2.2.2.1
    have c0 := (G2.cell (p := ⟨w.heap.size + 2, 0, none⟩) (by show w.heap.size + 2 < _; omega)).trans HK.out.2.2.2.2.1
    have c1' := (G2.cell (p := ⟨w.heap.size + 2, 1, none⟩) (by show w.heap.size + 2 < _; omega)).trans HK.out.2.2.2.2.2.1
    have f0 := (G2.frozen (p := ⟨w.heap.size + 2, 0, none⟩) (by show w.heap.size + 2 < _; omega)).trans HK.out.2.2.2.2.2.2.1
    have f1 := (G2.frozen (p := ⟨w.heap.size + 2, 1, none⟩) (by show w.heap.size + 2 < _; omega)).trans HK.out.2.2.2.2.2.2.2
    go_wp2
    refine bodyPost_ret (v := .agg #[.slice a1 n1 c1, .slice a2 m1 c2]) (by simp [results, Try.results22, go_sem, c0, c1']) rfl ?_
    exact ⟨rfl, (B2.setCell (p := ⟨w.heap.size + 2, 0, none⟩) (by show w.heap.size ≤ w.heap.size + 2; omega) _).setCell (p := ⟨w.heap.size + 2, 1, none⟩) (by show w.heap.size ≤ w.heap.size + 2; omega) _⟩
  | true =>
    have hrb : dm.rightB b = false := dm.rightB_false fun h => hno ⟨Classical.byContradiction (fun h2 => by rw [dm.rightB_false h2] at hra; cases hra), h⟩
    rw [hra] at HRI
    rw [hrb] at HRJ
    clear hno hra hrb
    go_enter Try.func22, Try.ntmps22
    go_wp2_with fail
    rw [← HW.out]
    (with_reducible refine (HRI.out _ hA).mono ?_)
    rintro e w2 ⟨rfl, g2⟩
    have G2 : Below (w.heap.size + 3) w1 w2 := g2.mono (by omega)
    have B2 := hA.trans (G2.mono (by omega))
    have r0 := (G2.cell (p := ⟨w.heap.size, 0, none⟩) (by show w.heap.size < _; omega)).trans HK.out.1
    have r1 := (G2.cell (p := ⟨w.heap.size, 1, none⟩) (by show w.heap.size < _; omega)).trans HK.out.2.1
    have r2 := (G2.cell (p := ⟨w.heap.size + 1, 0, none⟩) (by show w.heap.size + 1 < _; omega)).trans HK.out.2.2.1
    have r3 := (G2.cell (p := ⟨w.heap.size + 1, 1, none⟩) (by show w.heap.size + 1 < _; omega)).trans HK.out.2.2.2.1
    have c0 := (G2.cell (p := ⟨w.heap.size + 2, 0, none⟩) (by show w.heap.size + 2 < _; omega)).trans HK.out.2.2.2.2.1
    have c1' := (G2.cell (p := ⟨w.heap.size + 2, 1, none⟩) (by show w.heap.size + 2 < _; omega)).trans HK.out.2.2.2.2.2.1
    have f0 := (G2.frozen (p := ⟨w.heap.size + 2, 0, none⟩) (by show w.heap.size + 2 < _; omega)).trans HK.out.2.2.2.2.2.2.1
    have f1 := (G2.frozen (p := ⟨w.heap.size + 2, 1, none⟩) (by show w.heap.size + 2 < _; omega)).trans HK.out.2.2.2.2.2.2.2
    clear r0 r1 c0 c1' f0 f1 g2
    go_wp2_with fail
    (with_reducible refine (HRJ.out _ B2).mono ?_)
    rintro e w3 ⟨rfl, g3⟩
    have hz2 := G2.size
    have G3 : Below (w.heap.size + 3) w1 w3 := G2.trans (g3.mono (by omega))
    have B3 := hA.trans (G3.mono (by omega))
    clear r2 r3 g3
    have r0 := (G3.cell (p := ⟨w.heap.size, 0, none⟩) (by show w.heap.size < _; omega)).trans HK.out.1
    have r1 := (G3.cell (p := ⟨w.heap.size, 1, none⟩) (by show w.heap.size < _; omega)).trans HK.out.2.1
    have r2 := (G3.cell (p := ⟨w.heap.size + 1, 0, none⟩) (by show w.heap.size + 1 < _; omega)).trans HK.out.2.2.1
    have r3 := (G3.cell (p := ⟨w.heap.size + 1, 1, none⟩) (by show w.heap.size + 1 < _; omega)).trans HK.out.2.2.2.1
    have c0 := (G3.cell (p := ⟨w.heap.size + 2, 0, none⟩) (by show w.heap.size + 2 < _; omega)).trans HK.out.2.2.2.2.1
    have c1' := (G3.cell (p := ⟨w.heap.size + 2, 1, none⟩) (by show w.heap.size + 2 < _; omega)).trans HK.out.2.2.2.2.2.1
    have f0 := (G3.frozen (p := ⟨w.heap.size + 2, 0, none⟩) (by show w.heap.size + 2 < _; omega)).trans HK.out.2.2.2.2.2.2.1
    have f1 := (G3.frozen (p := ⟨w.heap.size + 2, 1, none⟩) (by show w.heap.size + 2 < _; omega)).trans HK.out.2.2.2.2.2.2.2
    go_wp2
    refine bodyPost_ret (v := .agg #[.slice a1 n1 c1, .slice a2 m1 c2]) (by simp [results, Try.results22, go_sem, c0, c1']) rfl ?_
    exact ⟨rfl, (B3.setCell (p := ⟨w.heap.size + 2, 0, none⟩) (by show w.heap.size ≤ w.heap.size + 2; omega) _).setCell (p := ⟨w.heap.size + 2, 1, none⟩) (by show w.heap.size ≤ w.heap.size + 2; omega) _⟩
set_option maxHeartbeats 6400000 in
set_option maxRecDepth 100000 in
theorem runder_any (a b : dm.Ctx) (va vb : Value) (w : World) (ha : CtxAt w w.heap.size va a) (hb : CtxAt w w.heap.size vb b) (hla : a.2.length ≤ 50000) (hlb1 : b.1.length ≤ 400000) (hlb : b.2.length ≤ 100000) :
    Calls Try.prog 27 #[va, vb] w (Said (underB a b) w) := by
  have HLB1 := Lib.hid hlb1
  clear hlb1
  obtain ⟨v1, v2, rfl, h1, h2⟩ := ha
  obtain ⟨u1, u2, rfl, h3, h4⟩ := hb
  obtain ⟨a1, c1, rfl, _, _⟩ := h1.form
  obtain ⟨a2, c2, rfl, _, _⟩ := h2.form
  obtain ⟨b1, d1, rfl, _, _⟩ := h3.form
  obtain ⟨b2, d2, rfl, _, _⟩ := h4.form
  have HCA : Hid (CtxAt w w.heap.size (.agg #[.slice a1 a.1.length c1, .slice a2 a.2.length c2]) a) := ⟨_, _, rfl, h1, h2⟩
  have HCB : Hid (CtxAt w w.heap.size (.agg #[.slice b1 b.1.length d1, .slice b2 b.2.length d2]) b) := ⟨_, _, rfl, h3, h4⟩
  clear h1 h2 h3 h4
  obtain ⟨m1, hm1⟩ : ∃ m, m = a.2.length := ⟨_, rfl⟩
  obtain ⟨m2, hm2⟩ : ∃ m, m = b.2.length := ⟨_, rfl⟩
  obtain ⟨n1, hn1⟩ : ∃ m, m = a.1.length := ⟨_, rfl⟩
  obtain ⟨n2, hn2⟩ : ∃ m, m = b.1.length := ⟨_, rfl⟩
  rw [← hm1] at hla HCA ⊢
  rw [← hm2] at hlb HCB ⊢
  rw [← hn1] at HCA ⊢
  rw [← hn2] at HCB ⊢
  have HM1 := Lib.hid hm1
  have HM2 := Lib.hid hm2
  have hA : Below w.heap.size w ((w.alloc (.cells #[.slice a1 n1 c1, .slice a2 m1 c2] 24)).alloc (.cells #[.slice b1 n2 d1, .slice b2 m2 d2] 24)) :=
    ((Below.refl _ _).alloc (Nat.le_refl _) _).alloc (by simp) _
  have HR0 : Hid (UndR w.heap.size (.slice a1 n1 c1) (.slice a2 m1 c2) (.slice b1 n2 d1) (.slice b2 m2 d2) ((w.alloc (.cells #[.slice a1 n1 c1, .slice a2 m1 c2] 24)).alloc (.cells #[.slice b1 n2 d1, .slice b2 m2 d2] 24)) ((w.alloc (.cells #[.slice a1 n1 c1, .slice a2 m1 c2] 24)).alloc (.cells #[.slice b1 n2 d1, .slice b2 m2 d2] 24))) := by
    refine ⟨?_, ?_, ?_, ?_, Below.refl _ _, by simp⟩ <;> go_simp
  clear hm1 hm2 hn1 hn2
  obtain ⟨w2, hw2⟩ : ∃ W, W = (w.alloc (.cells #[.slice a1 n1 c1, .slice a2 m1 c2] 24)).alloc (.cells #[.slice b1 n2 d1, .slice b2 m2 d2] 24) := ⟨_, rfl⟩
  rw [← hw2] at hA HR0
  have HW := Lib.hid hw2
  have HRI : Hid (∀ W, Below (w.heap.size + 2) w2 W → Calls Try.prog 19 #[.agg #[.slice a1 n1 c1, .slice a2 m1 c2]] W (Said (dm.rightB a) W)) := fun W hW => rright_any a _ W (HCA.out.next (hA.trans (hW.mono (by omega))))
  have HRJ : Hid (∀ W, Below (w.heap.size + 2) w2 W → Calls Try.prog 19 #[.agg #[.slice b1 n2 d1, .slice b2 m2 d2]] W (Said (dm.rightB b) W)) := fun W hW => rright_any b _ W (HCB.out.next (hA.trans (hW.mono (by omega))))
  have HJN0 : Hid (dm.Right a → dm.Right b → ∀ W, Below (w.heap.size + 2) w2 W → Calls Try.prog 23 #[.agg #[.slice b1 n2 d1, .slice b2 m2 d2], .agg #[.slice a1 n1 c1, .slice a2 m1 c2]] W (CtxP (fun e => dm.Knows b e ∨ dm.Knows a e) (m2 + m1) W)) := fun hra hrb W hW => by
    have this : Calls Try.prog 23 #[.agg #[.slice b1 n2 d1, .slice b2 m2 d2], .agg #[.slice a1 n1 c1, .slice a2 m1 c2]] W (CtxP (fun e => dm.Knows b e ∨ dm.Knows a e) (b.2.length + a.2.length) W) := by
      refine (rjoin_any b a _ _ W (HCB.out.next (hA.trans (hW.mono (by omega)))) (HCA.out.next (hA.trans (hW.mono (by omega)))) HLB1.out (by rw [← HM2.out]; exact hlb) (by rw [← HM1.out]; exact hla)).mono ?_
      rintro e w' ⟨v, c, he, ho, h1, _, hb⟩
      exact ⟨v, c, he, ho.at, h1 ⟨hrb, hra⟩, hb⟩
    rwa [← HM1.out, ← HM2.out] at this
  have HSM0 : Hid (dm.rightB a = true → dm.rightB b = true → dm.Right b → ∀ (v : Value) (c : dm.Ctx) (W : World), Below (w.heap.size + 2) w2 W → CtxAt W W.heap.size v c → dm.Is c (fun e => dm.Knows b e ∨ dm.Knows a e) (m2 + m1) → Calls Try.prog 24 #[v, .agg #[.slice b1 n2 d1, .slice b2 m2 d2]] W (Said (underB a b) W)) := fun h1 h2 hr v c W hW hc hs => by
    have := rsame_any c b v _ W hc (HCB.out.next (hA.trans (hW.mono (by omega))))
    rwa [underB_yes h1 h2 hs hr] at this
  clear hw2
  cases hra : dm.rightB a with
  | false =>
    have HU : Hid (underB a b = false) := by show underB a b = false; unfold underB; rw [hra]; rfl
    rw [hra] at HRI
    clear HJN0 HSM0 hra
    go_enter Try.func27, Try.ntmps27
    go_wp2_with fail
    rw [← HW.out]
    refine wp_flow 13 (fun _ => 1000) (fun ww => UndR w.heap.size (.slice a1 n1 c1) (.slice a2 m1 c2) (.slice b1 n2 d1) (.slice b2 m2 d2) w2 ww) (fun _ w w' => (fun (w w' : World) => RowKit.Below w.heap.size w w') w w') (fun kF vF wF => match kF with | 0 => (vF = .agg #[.slice a1 n1 c1, .slice a2 m1 c2]) | 1 => (vF = .bool false) | 2 => (vF = .bool false) | 3 => (vF = undef) | 4 => (vF = undef) | 5 => (vF = .bool false) | 6 => (vF = .bool false) | 7 => (vF = undef) | 8 => (vF = undef) | 9 => (vF = undef) | 10 => (vF = undef) | 11 => (vF = undef) | 12 => (vF = .bool false) | _ => True) (fun _ _ _ _ => True) (by kernel_rfl) (by kernel_rfl) ?_ ?_ ?_ ?_ ?_
    · exact UndR.start HR0.out
    · intro iF wF1 wF2 hR hT; exact hR.step hR.size hT
    · intro kF hkF iF hiF hne hdd hanc hdan vF wF1 wF2 h hT
      rcases (by omega : kF = 0 ∨ kF = 1 ∨ kF = 2 ∨ kF = 3 ∨ kF = 4 ∨ kF = 5 ∨ kF = 6 ∨ kF = 7 ∨ kF = 8 ∨ kF = 9 ∨ kF = 10 ∨ kF = 11 ∨ kF = 12) with rfl | rfl | rfl | rfl | rfl | rfl | rfl | rfl | rfl | rfl | rfl | rfl | rfl
      · exact h
      · exact h
      · exact h
      · exact h
      · exact h
      · exact h
      · exact h
      · exact h
      · exact h
      · exact h
      · exact h
      · exact h
      · exact h
    · refine FlowAll.cons ?_ ?_
      · intro xF ww hR hd K hK
        clear hd
        simp only [List.take_succ_cons, List.take_zero, fillOf, Act.put, List.setIfInBounds_toArray, List.set_cons_zero, List.set_cons_succ, Nat.reduceAdd, Nat.zero_add] at hK ⊢
        obtain ⟨r0, r1, r2, r3, hbl, hsz⟩ := id hR
        rw [if_pos (by rfl)]
        go_simp
        exact hK.out _ _ (Below.refl _ _) (rfl) (fun _ _ _ => ⟨trivial, trivial⟩)
      refine FlowAll.cons ?_ ?_
      · intro xF ww hR hd K hK
        have dd0 : ((xF 0) = .agg #[.slice a1 n1 c1, .slice a2 m1 c2]) := hd 0 (by kernel_rfl)
        clear hd
        simp only [List.take_succ_cons, List.take_zero, fillOf, Act.put, List.setIfInBounds_toArray, List.set_cons_zero, List.set_cons_succ, Nat.reduceAdd, Nat.zero_add] at hK ⊢
        try generalize xF 0 = yy0 at *
        obtain rfl := dd0
        obtain ⟨r0, r1, r2, r3, hbl, hsz⟩ := id hR
        rw [if_pos (by rfl)]
        go_simp
        (go_at_call 19; (with_reducible refine (HRI.out _ hR.below).mono ?_); rintro e wK ⟨rfl, hbK⟩)
        try go_wp2_with fail
        exact hK.out _ _ (hbK) (rfl) (fun _ _ _ => ⟨trivial, trivial⟩)
      refine FlowAll.cons ?_ ?_
      · intro xF ww hR hd K hK
        have dd1 : ((xF 1) = .bool false) := hd 1 (by kernel_rfl)
        clear hd
        simp only [List.take_succ_cons, List.take_zero, fillOf, Act.put, List.setIfInBounds_toArray, List.set_cons_zero, List.set_cons_succ, Nat.reduceAdd, Nat.zero_add] at hK ⊢
        try generalize xF 1 = yy1 at *
        obtain rfl := dd1
        obtain ⟨r0, r1, r2, r3, hbl, hsz⟩ := id hR
        rw [if_pos (by rfl)]
        go_simp
        exact hK.out _ _ (Below.refl _ _) (rfl) (fun _ _ _ => ⟨trivial, trivial⟩)
      refine FlowAll.cons ?_ ?_
      · intro xF ww hR hd K hK
        have dd2 : ((xF 2) = .bool false) := hd 2 (by kernel_rfl)
        clear hd
        simp only [List.take_succ_cons, List.take_zero, fillOf, Act.put, List.setIfInBounds_toArray, List.set_cons_zero, List.set_cons_succ, Nat.reduceAdd, Nat.zero_add] at hK ⊢
        try generalize xF 2 = yy2 at *
        obtain rfl := dd2
        obtain ⟨r0, r1, r2, r3, hbl, hsz⟩ := id hR
        rw [if_neg (by intro h; exact absurd (show false = true from h) Bool.false_ne_true)]
        try simp only [Act.put, List.setIfInBounds_toArray, List.set_cons_zero, List.set_cons_succ]
        exact hK.out _ _ (Below.refl _ _) (rfl) (fun _ _ _ => ⟨trivial, trivial⟩)
      refine FlowAll.cons ?_ ?_
      · intro xF ww hR hd K hK
        have dd2 : ((xF 2) = .bool false) := hd 2 (by kernel_rfl)
        clear hd
        simp only [List.take_succ_cons, List.take_zero, fillOf, Act.put, List.setIfInBounds_toArray, List.set_cons_zero, List.set_cons_succ, Nat.reduceAdd, Nat.zero_add] at hK ⊢
        try generalize xF 2 = yy2 at *
        obtain rfl := dd2
        obtain ⟨r0, r1, r2, r3, hbl, hsz⟩ := id hR
        rw [if_neg (by intro h; exact absurd (show false = true from h) Bool.false_ne_true)]
        try simp only [Act.put, List.setIfInBounds_toArray, List.set_cons_zero, List.set_cons_succ]
        exact hK.out _ _ (Below.refl _ _) (rfl) (fun _ _ _ => ⟨trivial, trivial⟩)
      refine FlowAll.cons ?_ ?_
      · intro xF ww hR hd K hK
        have dd2 : ((xF 2) = .bool false) := hd 2 (by kernel_rfl)
        have dd4 : ((xF 4) = undef) := hd 4 (by kernel_rfl)
        clear hd
        simp only [List.take_succ_cons, List.take_zero, fillOf, Act.put, List.setIfInBounds_toArray, List.set_cons_zero, List.set_cons_succ, Nat.reduceAdd, Nat.zero_add] at hK ⊢
        try generalize xF 2 = yy2 at *
        try generalize xF 4 = yy4 at *
        obtain rfl := dd2
        obtain rfl := dd4
        obtain ⟨r0, r1, r2, r3, hbl, hsz⟩ := id hR
        rw [if_pos (by rfl)]
        go_simp
        exact hK.out _ _ (Below.refl _ _) (rfl) (fun _ _ _ => ⟨trivial, trivial⟩)
      refine FlowAll.cons ?_ ?_
      · intro xF ww hR hd K hK
        have dd5 : ((xF 5) = .bool false) := hd 5 (by kernel_rfl)
        clear hd
        simp only [List.take_succ_cons, List.take_zero, fillOf, Act.put, List.setIfInBounds_toArray, List.set_cons_zero, List.set_cons_succ, Nat.reduceAdd, Nat.zero_add] at hK ⊢
        try generalize xF 5 = yy5 at *
        obtain rfl := dd5
        obtain ⟨r0, r1, r2, r3, hbl, hsz⟩ := id hR
        rw [if_pos (by rfl)]
        go_simp
        exact hK.out _ _ (Below.refl _ _) (rfl) (fun _ _ _ => ⟨trivial, trivial⟩)
      refine FlowAll.cons ?_ ?_
      · intro xF ww hR hd K hK
        have dd6 : ((xF 6) = .bool false) := hd 6 (by kernel_rfl)
        clear hd
        simp only [List.take_succ_cons, List.take_zero, fillOf, Act.put, List.setIfInBounds_toArray, List.set_cons_zero, List.set_cons_succ, Nat.reduceAdd, Nat.zero_add] at hK ⊢
        try generalize xF 6 = yy6 at *
        obtain rfl := dd6
        obtain ⟨r0, r1, r2, r3, hbl, hsz⟩ := id hR
        rw [if_neg (by intro h; exact absurd (show false = true from h) Bool.false_ne_true)]
        try simp only [Act.put, List.setIfInBounds_toArray, List.set_cons_zero, List.set_cons_succ]
        exact hK.out _ _ (Below.refl _ _) (rfl) (fun _ _ _ => ⟨trivial, trivial⟩)
      refine FlowAll.cons ?_ ?_
      · intro xF ww hR hd K hK
        have dd6 : ((xF 6) = .bool false) := hd 6 (by kernel_rfl)
        clear hd
        simp only [List.take_succ_cons, List.take_zero, fillOf, Act.put, List.setIfInBounds_toArray, List.set_cons_zero, List.set_cons_succ, Nat.reduceAdd, Nat.zero_add] at hK ⊢
        try generalize xF 6 = yy6 at *
        obtain rfl := dd6
        obtain ⟨r0, r1, r2, r3, hbl, hsz⟩ := id hR
        rw [if_neg (by intro h; exact absurd (show false = true from h) Bool.false_ne_true)]
        try simp only [Act.put, List.setIfInBounds_toArray, List.set_cons_zero, List.set_cons_succ]
        exact hK.out _ _ (Below.refl _ _) (rfl) (fun _ _ _ => ⟨trivial, trivial⟩)
      refine FlowAll.cons ?_ ?_
      · intro xF ww hR hd K hK
        have dd6 : ((xF 6) = .bool false) := hd 6 (by kernel_rfl)
        clear hd
        simp only [List.take_succ_cons, List.take_zero, fillOf, Act.put, List.setIfInBounds_toArray, List.set_cons_zero, List.set_cons_succ, Nat.reduceAdd, Nat.zero_add] at hK ⊢
        try generalize xF 6 = yy6 at *
        obtain rfl := dd6
        obtain ⟨r0, r1, r2, r3, hbl, hsz⟩ := id hR
        rw [if_neg (by intro h; exact absurd (show false = true from h) Bool.false_ne_true)]
        try simp only [Act.put, List.setIfInBounds_toArray, List.set_cons_zero, List.set_cons_succ]
        exact hK.out _ _ (Below.refl _ _) (rfl) (fun _ _ _ => ⟨trivial, trivial⟩)
      refine FlowAll.cons ?_ ?_
      · intro xF ww hR hd K hK
        have dd6 : ((xF 6) = .bool false) := hd 6 (by kernel_rfl)
        clear hd
        simp only [List.take_succ_cons, List.take_zero, fillOf, Act.put, List.setIfInBounds_toArray, List.set_cons_zero, List.set_cons_succ, Nat.reduceAdd, Nat.zero_add] at hK ⊢
        try generalize xF 6 = yy6 at *
        obtain rfl := dd6
        obtain ⟨r0, r1, r2, r3, hbl, hsz⟩ := id hR
        rw [if_neg (by intro h; exact absurd (show false = true from h) Bool.false_ne_true)]
        try simp only [Act.put, List.setIfInBounds_toArray, List.set_cons_zero, List.set_cons_succ]
        exact hK.out _ _ (Below.refl _ _) (rfl) (fun _ _ _ => ⟨trivial, trivial⟩)
      refine FlowAll.cons ?_ ?_
      · intro xF ww hR hd K hK
        have dd6 : ((xF 6) = .bool false) := hd 6 (by kernel_rfl)
        clear hd
        simp only [List.take_succ_cons, List.take_zero, fillOf, Act.put, List.setIfInBounds_toArray, List.set_cons_zero, List.set_cons_succ, Nat.reduceAdd, Nat.zero_add] at hK ⊢
        try generalize xF 6 = yy6 at *
        obtain rfl := dd6
        obtain ⟨r0, r1, r2, r3, hbl, hsz⟩ := id hR
        rw [if_neg (by intro h; exact absurd (show false = true from h) Bool.false_ne_true)]
        try simp only [Act.put, List.setIfInBounds_toArray, List.set_cons_zero, List.set_cons_succ]
        exact hK.out _ _ (Below.refl _ _) (rfl) (fun _ _ _ => ⟨trivial, trivial⟩)
      refine FlowAll.cons ?_ ?_
      · intro xF ww hR hd K hK
        have dd6 : ((xF 6) = .bool false) := hd 6 (by kernel_rfl)
        have dd11 : ((xF 11) = undef) := hd 11 (by kernel_rfl)
        clear hd
        simp only [List.take_succ_cons, List.take_zero, fillOf, Act.put, List.setIfInBounds_toArray, List.set_cons_zero, List.set_cons_succ, Nat.reduceAdd, Nat.zero_add] at hK ⊢
        try generalize xF 6 = yy6 at *
        try generalize xF 11 = yy11 at *
        obtain rfl := dd6
        obtain rfl := dd11
        obtain ⟨r0, r1, r2, r3, hbl, hsz⟩ := id hR
        rw [if_pos (by rfl)]
        go_simp
        exact hK.out _ _ (Below.refl _ _) (rfl) (fun _ _ _ => ⟨trivial, trivial⟩)
      exact FlowAll.nil
    intro xF ww hR hF hP
    clear hP
    have dd0 : ((xF 0) = .agg #[.slice a1 n1 c1, .slice a2 m1 c2]) := hF 0 (by omega) (by decide)
    have dd1 : ((xF 1) = .bool false) := hF 1 (by omega) (by decide)
    have dd2 : ((xF 2) = .bool false) := hF 2 (by omega) (by decide)
    have dd3 : ((xF 3) = undef) := hF 3 (by omega) (by decide)
    have dd4 : ((xF 4) = undef) := hF 4 (by omega) (by decide)
    have dd5 : ((xF 5) = .bool false) := hF 5 (by omega) (by decide)
    have dd6 : ((xF 6) = .bool false) := hF 6 (by omega) (by decide)
    have dd7 : ((xF 7) = undef) := hF 7 (by omega) (by decide)
    have dd8 : ((xF 8) = undef) := hF 8 (by omega) (by decide)
    have dd9 : ((xF 9) = undef) := hF 9 (by omega) (by decide)
    have dd10 : ((xF 10) = undef) := hF 10 (by omega) (by decide)
    have dd11 : ((xF 11) = undef) := hF 11 (by omega) (by decide)
    have dd12 : ((xF 12) = .bool false) := hF 12 (by omega) (by decide)
    clear hF
    simp only [List.take_succ_cons, List.take_zero, List.drop_succ_cons, List.drop_zero, fillOf, Act.put, List.setIfInBounds_toArray, List.set_cons_zero, List.set_cons_succ, Nat.reduceAdd, Nat.zero_add]
    try generalize xF 0 = yy0 at *
    try generalize xF 1 = yy1 at *
    try generalize xF 2 = yy2 at *
    try generalize xF 3 = yy3 at *
    try generalize xF 4 = yy4 at *
    try generalize xF 5 = yy5 at *
    try generalize xF 6 = yy6 at *
    try generalize xF 7 = yy7 at *
    try generalize xF 8 = yy8 at *
    try generalize xF 9 = yy9 at *
    try generalize xF 10 = yy10 at *
    try generalize xF 11 = yy11 at *
    try generalize xF 12 = yy12 at *
    clear xF
    obtain rfl := dd0
    obtain rfl := dd1
    obtain rfl := dd2
    obtain rfl := dd3
    obtain rfl := dd4
    obtain rfl := dd5
    obtain rfl := dd6
    obtain rfl := dd7
    obtain rfl := dd8
    obtain rfl := dd9
    obtain rfl := dd10
    obtain rfl := dd11
    obtain rfl := dd12
    have hRE := Lib.hid hR
    clear hR
    have hb9 := hA.trans (hRE.out.below.mono (by omega))
    go_wp2
    go_ret
    rw [HU.out]; exact ⟨rfl, hb9⟩
  | true =>
    cases hrb : dm.rightB b with
    | false =>
      have HU : Hid (underB a b = false) := by show underB a b = false; unfold underB; rw [hra, hrb]; rfl
      rw [hra] at HRI
      rw [hrb] at HRJ
      clear HJN0 HSM0 hra hrb
      go_enter Try.func27, Try.ntmps27
      go_wp2_with fail
      rw [← HW.out]
      refine wp_flow 13 (fun _ => 1000) (fun ww => UndR w.heap.size (.slice a1 n1 c1) (.slice a2 m1 c2) (.slice b1 n2 d1) (.slice b2 m2 d2) w2 ww) (fun _ w w' => (fun (w w' : World) => RowKit.Below w.heap.size w w') w w') (fun kF vF wF => match kF with | 0 => (vF = .agg #[.slice a1 n1 c1, .slice a2 m1 c2]) | 1 => (vF = .bool true) | 2 => (vF = .bool true) | 3 => (vF = .agg #[.slice b1 n2 d1, .slice b2 m2 d2]) | 4 => (vF = .bool false) | 5 => (vF = .bool false) | 6 => (vF = .bool false) | 7 => (vF = undef) | 8 => (vF = undef) | 9 => (vF = undef) | 10 => (vF = undef) | 11 => (vF = undef) | 12 => (vF = .bool false) | _ => True) (fun _ _ _ _ => True) (by kernel_rfl) (by kernel_rfl) ?_ ?_ ?_ ?_ ?_
      · exact UndR.start HR0.out
      · intro iF wF1 wF2 hR hT; exact hR.step hR.size hT
      · intro kF hkF iF hiF hne hdd hanc hdan vF wF1 wF2 h hT
        rcases (by omega : kF = 0 ∨ kF = 1 ∨ kF = 2 ∨ kF = 3 ∨ kF = 4 ∨ kF = 5 ∨ kF = 6 ∨ kF = 7 ∨ kF = 8 ∨ kF = 9 ∨ kF = 10 ∨ kF = 11 ∨ kF = 12) with rfl | rfl | rfl | rfl | rfl | rfl | rfl | rfl | rfl | rfl | rfl | rfl | rfl
        · exact h
        · exact h
        · exact h
        · exact h
        · exact h
        · exact h
        · exact h
        · exact h
        · exact h
        · exact h
        · exact h
        · exact h
        · exact h
      · refine FlowAll.cons ?_ ?_
        · intro xF ww hR hd K hK
          clear hd
          simp only [List.take_succ_cons, List.take_zero, fillOf, Act.put, List.setIfInBounds_toArray, List.set_cons_zero, List.set_cons_succ, Nat.reduceAdd, Nat.zero_add] at hK ⊢
          obtain ⟨r0, r1, r2, r3, hbl, hsz⟩ := id hR
          rw [if_pos (by rfl)]
          go_simp
          exact hK.out _ _ (Below.refl _ _) (rfl) (fun _ _ _ => ⟨trivial, trivial⟩)
        refine FlowAll.cons ?_ ?_
        · intro xF ww hR hd K hK
          have dd0 : ((xF 0) = .agg #[.slice a1 n1 c1, .slice a2 m1 c2]) := hd 0 (by kernel_rfl)
          clear hd
          simp only [List.take_succ_cons, List.take_zero, fillOf, Act.put, List.setIfInBounds_toArray, List.set_cons_zero, List.set_cons_succ, Nat.reduceAdd, Nat.zero_add] at hK ⊢
          try generalize xF 0 = yy0 at *
          obtain rfl := dd0
          obtain ⟨r0, r1, r2, r3, hbl, hsz⟩ := id hR
          rw [if_pos (by rfl)]
          go_simp
          (go_at_call 19; (with_reducible refine (HRI.out _ hR.below).mono ?_); rintro e wK ⟨rfl, hbK⟩)
          try go_wp2_with fail
          exact hK.out _ _ (hbK) (rfl) (fun _ _ _ => ⟨trivial, trivial⟩)
        refine FlowAll.cons ?_ ?_
        · intro xF ww hR hd K hK
          have dd1 : ((xF 1) = .bool true) := hd 1 (by kernel_rfl)
          clear hd
          simp only [List.take_succ_cons, List.take_zero, fillOf, Act.put, List.setIfInBounds_toArray, List.set_cons_zero, List.set_cons_succ, Nat.reduceAdd, Nat.zero_add] at hK ⊢
          try generalize xF 1 = yy1 at *
          obtain rfl := dd1
          obtain ⟨r0, r1, r2, r3, hbl, hsz⟩ := id hR
          rw [if_pos (by rfl)]
          go_simp
          exact hK.out _ _ (Below.refl _ _) (rfl) (fun _ _ _ => ⟨trivial, trivial⟩)
        refine FlowAll.cons ?_ ?_
        · intro xF ww hR hd K hK
          have dd2 : ((xF 2) = .bool true) := hd 2 (by kernel_rfl)
          clear hd
          simp only [List.take_succ_cons, List.take_zero, fillOf, Act.put, List.setIfInBounds_toArray, List.set_cons_zero, List.set_cons_succ, Nat.reduceAdd, Nat.zero_add] at hK ⊢
          try generalize xF 2 = yy2 at *
          obtain rfl := dd2
          obtain ⟨r0, r1, r2, r3, hbl, hsz⟩ := id hR
          rw [if_pos (by rfl)]
          go_simp
          exact hK.out _ _ (Below.refl _ _) (rfl) (fun _ _ _ => ⟨trivial, trivial⟩)
        refine FlowAll.cons ?_ ?_
        · intro xF ww hR hd K hK
          have dd2 : ((xF 2) = .bool true) := hd 2 (by kernel_rfl)
          have dd3 : ((xF 3) = .agg #[.slice b1 n2 d1, .slice b2 m2 d2]) := hd 3 (by kernel_rfl)
          clear hd
          simp only [List.take_succ_cons, List.take_zero, fillOf, Act.put, List.setIfInBounds_toArray, List.set_cons_zero, List.set_cons_succ, Nat.reduceAdd, Nat.zero_add] at hK ⊢
          try generalize xF 2 = yy2 at *
          try generalize xF 3 = yy3 at *
          obtain rfl := dd2
          obtain rfl := dd3
          obtain ⟨r0, r1, r2, r3, hbl, hsz⟩ := id hR
          rw [if_pos (by rfl)]
          go_simp
          (go_at_call 19; (with_reducible refine (HRJ.out _ hR.below).mono ?_); rintro e wK ⟨rfl, hbK⟩)
          try go_wp2_with fail
          exact hK.out _ _ (hbK) (rfl) (fun _ _ _ => ⟨trivial, trivial⟩)
        refine FlowAll.cons ?_ ?_
        · intro xF ww hR hd K hK
          have dd2 : ((xF 2) = .bool true) := hd 2 (by kernel_rfl)
          have dd4 : ((xF 4) = .bool false) := hd 4 (by kernel_rfl)
          clear hd
          simp only [List.take_succ_cons, List.take_zero, fillOf, Act.put, List.setIfInBounds_toArray, List.set_cons_zero, List.set_cons_succ, Nat.reduceAdd, Nat.zero_add] at hK ⊢
          try generalize xF 2 = yy2 at *
          try generalize xF 4 = yy4 at *
          obtain rfl := dd2
          obtain rfl := dd4
          obtain ⟨r0, r1, r2, r3, hbl, hsz⟩ := id hR
          rw [if_pos (by rfl)]
          go_simp
          exact hK.out _ _ (Below.refl _ _) (rfl) (fun _ _ _ => ⟨trivial, trivial⟩)
        refine FlowAll.cons ?_ ?_
        · intro xF ww hR hd K hK
          have dd5 : ((xF 5) = .bool false) := hd 5 (by kernel_rfl)
          clear hd
          simp only [List.take_succ_cons, List.take_zero, fillOf, Act.put, List.setIfInBounds_toArray, List.set_cons_zero, List.set_cons_succ, Nat.reduceAdd, Nat.zero_add] at hK ⊢
          try generalize xF 5 = yy5 at *
          obtain rfl := dd5
          obtain ⟨r0, r1, r2, r3, hbl, hsz⟩ := id hR
          rw [if_pos (by rfl)]
          go_simp
          exact hK.out _ _ (Below.refl _ _) (rfl) (fun _ _ _ => ⟨trivial, trivial⟩)
        refine FlowAll.cons ?_ ?_
        · intro xF ww hR hd K hK
          have dd6 : ((xF 6) = .bool false) := hd 6 (by kernel_rfl)
          clear hd
          simp only [List.take_succ_cons, List.take_zero, fillOf, Act.put, List.setIfInBounds_toArray, List.set_cons_zero, List.set_cons_succ, Nat.reduceAdd, Nat.zero_add] at hK ⊢
          try generalize xF 6 = yy6 at *
          obtain rfl := dd6
          obtain ⟨r0, r1, r2, r3, hbl, hsz⟩ := id hR
          rw [if_neg (by intro h; exact absurd (show false = true from h) Bool.false_ne_true)]
          try simp only [Act.put, List.setIfInBounds_toArray, List.set_cons_zero, List.set_cons_succ]
          exact hK.out _ _ (Below.refl _ _) (rfl) (fun _ _ _ => ⟨trivial, trivial⟩)
        refine FlowAll.cons ?_ ?_
        · intro xF ww hR hd K hK
          have dd6 : ((xF 6) = .bool false) := hd 6 (by kernel_rfl)
          clear hd
          simp only [List.take_succ_cons, List.take_zero, fillOf, Act.put, List.setIfInBounds_toArray, List.set_cons_zero, List.set_cons_succ, Nat.reduceAdd, Nat.zero_add] at hK ⊢
          try generalize xF 6 = yy6 at *
          obtain rfl := dd6
          obtain ⟨r0, r1, r2, r3, hbl, hsz⟩ := id hR
          rw [if_neg (by intro h; exact absurd (show false = true from h) Bool.false_ne_true)]
          try simp only [Act.put, List.setIfInBounds_toArray, List.set_cons_zero, List.set_cons_succ]
          exact hK.out _ _ (Below.refl _ _) (rfl) (fun _ _ _ => ⟨trivial, trivial⟩)
        refine FlowAll.cons ?_ ?_
        · intro xF ww hR hd K hK
          have dd6 : ((xF 6) = .bool false) := hd 6 (by kernel_rfl)
          clear hd
          simp only [List.take_succ_cons, List.take_zero, fillOf, Act.put, List.setIfInBounds_toArray, List.set_cons_zero, List.set_cons_succ, Nat.reduceAdd, Nat.zero_add] at hK ⊢
          try generalize xF 6 = yy6 at *
          obtain rfl := dd6
          obtain ⟨r0, r1, r2, r3, hbl, hsz⟩ := id hR
          rw [if_neg (by intro h; exact absurd (show false = true from h) Bool.false_ne_true)]
          try simp only [Act.put, List.setIfInBounds_toArray, List.set_cons_zero, List.set_cons_succ]
          exact hK.out _ _ (Below.refl _ _) (rfl) (fun _ _ _ => ⟨trivial, trivial⟩)
        refine FlowAll.cons ?_ ?_
        · intro xF ww hR hd K hK
          have dd6 : ((xF 6) = .bool false) := hd 6 (by kernel_rfl)
          clear hd
          simp only [List.take_succ_cons, List.take_zero, fillOf, Act.put, List.setIfInBounds_toArray, List.set_cons_zero, List.set_cons_succ, Nat.reduceAdd, Nat.zero_add] at hK ⊢
          try generalize xF 6 = yy6 at *
          obtain rfl := dd6
          obtain ⟨r0, r1, r2, r3, hbl, hsz⟩ := id hR
          rw [if_neg (by intro h; exact absurd (show false = true from h) Bool.false_ne_true)]
          try simp only [Act.put, List.setIfInBounds_toArray, List.set_cons_zero, List.set_cons_succ]
          exact hK.out _ _ (Below.refl _ _) (rfl) (fun _ _ _ => ⟨trivial, trivial⟩)
        refine FlowAll.cons ?_ ?_
        · intro xF ww hR hd K hK
          have dd6 : ((xF 6) = .bool false) := hd 6 (by kernel_rfl)
          clear hd
          simp only [List.take_succ_cons, List.take_zero, fillOf, Act.put, List.setIfInBounds_toArray, List.set_cons_zero, List.set_cons_succ, Nat.reduceAdd, Nat.zero_add] at hK ⊢
          try generalize xF 6 = yy6 at *
          obtain rfl := dd6
          obtain ⟨r0, r1, r2, r3, hbl, hsz⟩ := id hR
          rw [if_neg (by intro h; exact absurd (show false = true from h) Bool.false_ne_true)]
          try simp only [Act.put, List.setIfInBounds_toArray, List.set_cons_zero, List.set_cons_succ]
          exact hK.out _ _ (Below.refl _ _) (rfl) (fun _ _ _ => ⟨trivial, trivial⟩)
        refine FlowAll.cons ?_ ?_
        · intro xF ww hR hd K hK
          have dd6 : ((xF 6) = .bool false) := hd 6 (by kernel_rfl)
          have dd11 : ((xF 11) = undef) := hd 11 (by kernel_rfl)
          clear hd
          simp only [List.take_succ_cons, List.take_zero, fillOf, Act.put, List.setIfInBounds_toArray, List.set_cons_zero, List.set_cons_succ, Nat.reduceAdd, Nat.zero_add] at hK ⊢
          try generalize xF 6 = yy6 at *
          try generalize xF 11 = yy11 at *
          obtain rfl := dd6
          obtain rfl := dd11
          obtain ⟨r0, r1, r2, r3, hbl, hsz⟩ := id hR
          rw [if_pos (by rfl)]
          go_simp
          exact hK.out _ _ (Below.refl _ _) (rfl) (fun _ _ _ => ⟨trivial, trivial⟩)
        exact FlowAll.nil
      intro xF ww hR hF hP
      clear hP
      have dd0 : ((xF 0) = .agg #[.slice a1 n1 c1, .slice a2 m1 c2]) := hF 0 (by omega) (by decide)
      have dd1 : ((xF 1) = .bool true) := hF 1 (by omega) (by decide)
      have dd2 : ((xF 2) = .bool true) := hF 2 (by omega) (by decide)
      have dd3 : ((xF 3) = .agg #[.slice b1 n2 d1, .slice b2 m2 d2]) := hF 3 (by omega) (by decide)
      have dd4 : ((xF 4) = .bool false) := hF 4 (by omega) (by decide)
      have dd5 : ((xF 5) = .bool false) := hF 5 (by omega) (by decide)
      have dd6 : ((xF 6) = .bool false) := hF 6 (by omega) (by decide)
      have dd7 : ((xF 7) = undef) := hF 7 (by omega) (by decide)
      have dd8 : ((xF 8) = undef) := hF 8 (by omega) (by decide)
      have dd9 : ((xF 9) = undef) := hF 9 (by omega) (by decide)
      have dd10 : ((xF 10) = undef) := hF 10 (by omega) (by decide)
      have dd11 : ((xF 11) = undef) := hF 11 (by omega) (by decide)
      have dd12 : ((xF 12) = .bool false) := hF 12 (by omega) (by decide)
      clear hF
      simp only [List.take_succ_cons, List.take_zero, List.drop_succ_cons, List.drop_zero, fillOf, Act.put, List.setIfInBounds_toArray, List.set_cons_zero, List.set_cons_succ, Nat.reduceAdd, Nat.zero_add]
      try generalize xF 0 = yy0 at *
      try generalize xF 1 = yy1 at *
      try generalize xF 2 = yy2 at *
      try generalize xF 3 = yy3 at *
      try generalize xF 4 = yy4 at *
      try generalize xF 5 = yy5 at *
      try generalize xF 6 = yy6 at *
      try generalize xF 7 = yy7 at *
      try generalize xF 8 = yy8 at *
      try generalize xF 9 = yy9 at *
      try generalize xF 10 = yy10 at *
      try generalize xF 11 = yy11 at *
      try generalize xF 12 = yy12 at *
      clear xF
      obtain rfl := dd0
      obtain rfl := dd1
      obtain rfl := dd2
      obtain rfl := dd3
      obtain rfl := dd4
      obtain rfl := dd5
      obtain rfl := dd6
      obtain rfl := dd7
      obtain rfl := dd8
      obtain rfl := dd9
      obtain rfl := dd10
      obtain rfl := dd11
      obtain rfl := dd12
      have hRE := Lib.hid hR
      clear hR
      have hb9 := hA.trans (hRE.out.below.mono (by omega))
      go_wp2
      go_ret
      rw [HU.out]; exact ⟨rfl, hb9⟩
    | true =>
      have hRa : dm.Right a := Classical.byContradiction fun h => by rw [dm.rightB_false h] at hra; cases hra
      have hRb : dm.Right b := Classical.byContradiction fun h => by rw [dm.rightB_false h] at hrb; cases hrb
      have HJN := Lib.hid (HJN0.out hRa hRb)
      have HSM := Lib.hid (HSM0.out hra hrb hRb)
      rw [hra] at HRI
      rw [hrb] at HRJ
      clear HJN0 HSM0 hra hrb hRa hRb
      go_enter Try.func27, Try.ntmps27
      go_wp2_with fail
      rw [← HW.out]
      refine wp_flow 13 (fun _ => 1000) (fun ww => UndR w.heap.size (.slice a1 n1 c1) (.slice a2 m1 c2) (.slice b1 n2 d1) (.slice b2 m2 d2) w2 ww) (fun _ w w' => (fun (w w' : World) => RowKit.Below w.heap.size w w') w w') (fun kF vF wF => match kF with | 0 => (vF = .agg #[.slice a1 n1 c1, .slice a2 m1 c2]) | 1 => (vF = .bool true) | 2 => (vF = .bool true) | 3 => (vF = .agg #[.slice b1 n2 d1, .slice b2 m2 d2]) | 4 => (vF = .bool true) | 5 => (vF = .bool true) | 6 => (vF = .bool true) | 7 => (vF = .agg #[.slice b1 n2 d1, .slice b2 m2 d2]) | 8 => (vF = .agg #[.slice a1 n1 c1, .slice a2 m1 c2]) | 9 => (∃ c, CtxAt wF wF.heap.size vF c ∧ dm.Is c (fun e => dm.Knows b e ∨ dm.Knows a e) (m2 + m1)) | 10 => (vF = .agg #[.slice b1 n2 d1, .slice b2 m2 d2]) | 11 => (vF = .bool (underB a b)) | 12 => (vF = .bool (underB a b)) | _ => True) (fun _ _ _ _ => True) (by kernel_rfl) (by kernel_rfl) ?_ ?_ ?_ ?_ ?_
      · exact UndR.start HR0.out
      · intro iF wF1 wF2 hR hT; exact hR.step hR.size hT
      · intro kF hkF iF hiF hne hdd hanc hdan vF wF1 wF2 h hT
        rcases (by omega : kF = 0 ∨ kF = 1 ∨ kF = 2 ∨ kF = 3 ∨ kF = 4 ∨ kF = 5 ∨ kF = 6 ∨ kF = 7 ∨ kF = 8 ∨ kF = 9 ∨ kF = 10 ∨ kF = 11 ∨ kF = 12) with rfl | rfl | rfl | rfl | rfl | rfl | rfl | rfl | rfl | rfl | rfl | rfl | rfl
        · exact h
        · exact h
        · exact h
        · exact h
        · exact h
        · exact h
        · exact h
        · exact h
        · exact h
        · have h : (∃ c, CtxAt wF1 wF1.heap.size vF c ∧ dm.Is c (fun e => dm.Knows b e ∨ dm.Knows a e) (m2 + m1)) := h
          show (∃ c, CtxAt wF2 wF2.heap.size vF c ∧ dm.Is c (fun e => dm.Knows b e ∨ dm.Knows a e) (m2 + m1))
          have hT : (fun (w w' : World) => RowKit.Below w.heap.size w w') wF1 wF2 := hT
          simp only at hT
          obtain ⟨c, h1, h2⟩ := h
          exact ⟨c, h1.next hT, h2⟩
        · exact h
        · exact h
        · exact h
      · refine FlowAll.cons ?_ ?_
        · intro xF ww hR hd K hK
          clear hd
          simp only [List.take_succ_cons, List.take_zero, fillOf, Act.put, List.setIfInBounds_toArray, List.set_cons_zero, List.set_cons_succ, Nat.reduceAdd, Nat.zero_add] at hK ⊢
          obtain ⟨r0, r1, r2, r3, hbl, hsz⟩ := id hR
          rw [if_pos (by rfl)]
          go_simp
          exact hK.out _ _ (Below.refl _ _) (rfl) (fun _ _ _ => ⟨trivial, trivial⟩)
        refine FlowAll.cons ?_ ?_
        · intro xF ww hR hd K hK
          have dd0 : ((xF 0) = .agg #[.slice a1 n1 c1, .slice a2 m1 c2]) := hd 0 (by kernel_rfl)
          clear hd
          simp only [List.take_succ_cons, List.take_zero, fillOf, Act.put, List.setIfInBounds_toArray, List.set_cons_zero, List.set_cons_succ, Nat.reduceAdd, Nat.zero_add] at hK ⊢
          try generalize xF 0 = yy0 at *
          obtain rfl := dd0
          obtain ⟨r0, r1, r2, r3, hbl, hsz⟩ := id hR
          rw [if_pos (by rfl)]
          go_simp
          (go_at_call 19; (with_reducible refine (HRI.out _ hR.below).mono ?_); rintro e wK ⟨rfl, hbK⟩)
          try go_wp2_with fail
          exact hK.out _ _ (hbK) (rfl) (fun _ _ _ => ⟨trivial, trivial⟩)
        refine FlowAll.cons ?_ ?_
        · intro xF ww hR hd K hK
          have dd1 : ((xF 1) = .bool true) := hd 1 (by kernel_rfl)
          clear hd
          simp only [List.take_succ_cons, List.take_zero, fillOf, Act.put, List.setIfInBounds_toArray, List.set_cons_zero, List.set_cons_succ, Nat.reduceAdd, Nat.zero_add] at hK ⊢
          try generalize xF 1 = yy1 at *
          obtain rfl := dd1
          obtain ⟨r0, r1, r2, r3, hbl, hsz⟩ := id hR
          rw [if_pos (by rfl)]
          go_simp
          exact hK.out _ _ (Below.refl _ _) (rfl) (fun _ _ _ => ⟨trivial, trivial⟩)
        refine FlowAll.cons ?_ ?_
        · intro xF ww hR hd K hK
          have dd2 : ((xF 2) = .bool true) := hd 2 (by kernel_rfl)
          clear hd
          simp only [List.take_succ_cons, List.take_zero, fillOf, Act.put, List.setIfInBounds_toArray, List.set_cons_zero, List.set_cons_succ, Nat.reduceAdd, Nat.zero_add] at hK ⊢
          try generalize xF 2 = yy2 at *
          obtain rfl := dd2
          obtain ⟨r0, r1, r2, r3, hbl, hsz⟩ := id hR
          rw [if_pos (by rfl)]
          go_simp
          exact hK.out _ _ (Below.refl _ _) (rfl) (fun _ _ _ => ⟨trivial, trivial⟩)
        refine FlowAll.cons ?_ ?_
        · intro xF ww hR hd K hK
          have dd2 : ((xF 2) = .bool true) := hd 2 (by kernel_rfl)
          have dd3 : ((xF 3) = .agg #[.slice b1 n2 d1, .slice b2 m2 d2]) := hd 3 (by kernel_rfl)
          clear hd
          simp only [List.take_succ_cons, List.take_zero, fillOf, Act.put, List.setIfInBounds_toArray, List.set_cons_zero, List.set_cons_succ, Nat.reduceAdd, Nat.zero_add] at hK ⊢
          try generalize xF 2 = yy2 at *
          try generalize xF 3 = yy3 at *
          obtain rfl := dd2
          obtain rfl := dd3
          obtain ⟨r0, r1, r2, r3, hbl, hsz⟩ := id hR
          rw [if_pos (by rfl)]
          go_simp
          (go_at_call 19; (with_reducible refine (HRJ.out _ hR.below).mono ?_); rintro e wK ⟨rfl, hbK⟩)
          try go_wp2_with fail
          exact hK.out _ _ (hbK) (rfl) (fun _ _ _ => ⟨trivial, trivial⟩)
        refine FlowAll.cons ?_ ?_
        · intro xF ww hR hd K hK
          have dd2 : ((xF 2) = .bool true) := hd 2 (by kernel_rfl)
          have dd4 : ((xF 4) = .bool true) := hd 4 (by kernel_rfl)
          clear hd
          simp only [List.take_succ_cons, List.take_zero, fillOf, Act.put, List.setIfInBounds_toArray, List.set_cons_zero, List.set_cons_succ, Nat.reduceAdd, Nat.zero_add] at hK ⊢
          try generalize xF 2 = yy2 at *
          try generalize xF 4 = yy4 at *
          obtain rfl := dd2
          obtain rfl := dd4
          obtain ⟨r0, r1, r2, r3, hbl, hsz⟩ := id hR
          rw [if_pos (by rfl)]
          go_simp
          exact hK.out _ _ (Below.refl _ _) (rfl) (fun _ _ _ => ⟨trivial, trivial⟩)
        refine FlowAll.cons ?_ ?_
        · intro xF ww hR hd K hK
          have dd5 : ((xF 5) = .bool true) := hd 5 (by kernel_rfl)
          clear hd
          simp only [List.take_succ_cons, List.take_zero, fillOf, Act.put, List.setIfInBounds_toArray, List.set_cons_zero, List.set_cons_succ, Nat.reduceAdd, Nat.zero_add] at hK ⊢
          try generalize xF 5 = yy5 at *
          obtain rfl := dd5
          obtain ⟨r0, r1, r2, r3, hbl, hsz⟩ := id hR
          rw [if_pos (by rfl)]
          go_simp
          exact hK.out _ _ (Below.refl _ _) (rfl) (fun _ _ _ => ⟨trivial, trivial⟩)
        refine FlowAll.cons ?_ ?_
        · intro xF ww hR hd K hK
          have dd6 : ((xF 6) = .bool true) := hd 6 (by kernel_rfl)
          clear hd
          simp only [List.take_succ_cons, List.take_zero, fillOf, Act.put, List.setIfInBounds_toArray, List.set_cons_zero, List.set_cons_succ, Nat.reduceAdd, Nat.zero_add] at hK ⊢
          try generalize xF 6 = yy6 at *
          obtain rfl := dd6
          obtain ⟨r0, r1, r2, r3, hbl, hsz⟩ := id hR
          rw [if_pos (by rfl)]
          go_simp
          exact hK.out _ _ (Below.refl _ _) (rfl) (fun _ _ _ => ⟨trivial, trivial⟩)
        refine FlowAll.cons ?_ ?_
        · intro xF ww hR hd K hK
          have dd6 : ((xF 6) = .bool true) := hd 6 (by kernel_rfl)
          clear hd
          simp only [List.take_succ_cons, List.take_zero, fillOf, Act.put, List.setIfInBounds_toArray, List.set_cons_zero, List.set_cons_succ, Nat.reduceAdd, Nat.zero_add] at hK ⊢
          try generalize xF 6 = yy6 at *
          obtain rfl := dd6
          obtain ⟨r0, r1, r2, r3, hbl, hsz⟩ := id hR
          rw [if_pos (by rfl)]
          go_simp
          exact hK.out _ _ (Below.refl _ _) (rfl) (fun _ _ _ => ⟨trivial, trivial⟩)
        refine FlowAll.cons ?_ ?_
        · intro xF ww hR hd K hK
          have dd6 : ((xF 6) = .bool true) := hd 6 (by kernel_rfl)
          have dd7 : ((xF 7) = .agg #[.slice b1 n2 d1, .slice b2 m2 d2]) := hd 7 (by kernel_rfl)
          have dd8 : ((xF 8) = .agg #[.slice a1 n1 c1, .slice a2 m1 c2]) := hd 8 (by kernel_rfl)
          clear hd
          simp only [List.take_succ_cons, List.take_zero, fillOf, Act.put, List.setIfInBounds_toArray, List.set_cons_zero, List.set_cons_succ, Nat.reduceAdd, Nat.zero_add] at hK ⊢
          try generalize xF 6 = yy6 at *
          try generalize xF 7 = yy7 at *
          try generalize xF 8 = yy8 at *
          obtain rfl := dd6
          obtain rfl := dd7
          obtain rfl := dd8
          obtain ⟨r0, r1, r2, r3, hbl, hsz⟩ := id hR
          rw [if_pos (by rfl)]
          go_simp
          (go_at_call 23; (with_reducible refine (HJN.out _ hR.below).mono ?_); rintro e wK ⟨v9, c, rfl, hca, hcs, hbK⟩)
          try go_wp2_with fail
          exact hK.out _ _ (hbK) (⟨c, hca, hcs⟩) (fun _ _ _ => ⟨trivial, trivial⟩)
        refine FlowAll.cons ?_ ?_
        · intro xF ww hR hd K hK
          have dd6 : ((xF 6) = .bool true) := hd 6 (by kernel_rfl)
          clear hd
          simp only [List.take_succ_cons, List.take_zero, fillOf, Act.put, List.setIfInBounds_toArray, List.set_cons_zero, List.set_cons_succ, Nat.reduceAdd, Nat.zero_add] at hK ⊢
          try generalize xF 6 = yy6 at *
          obtain rfl := dd6
          obtain ⟨r0, r1, r2, r3, hbl, hsz⟩ := id hR
          rw [if_pos (by rfl)]
          go_simp
          exact hK.out _ _ (Below.refl _ _) (rfl) (fun _ _ _ => ⟨trivial, trivial⟩)
        refine FlowAll.cons ?_ ?_
        · intro xF ww hR hd K hK
          have dd6 : ((xF 6) = .bool true) := hd 6 (by kernel_rfl)
          have dd9 : (∃ c, CtxAt ww ww.heap.size (xF 9) c ∧ dm.Is c (fun e => dm.Knows b e ∨ dm.Knows a e) (m2 + m1)) := hd 9 (by kernel_rfl)
          have dd10 : ((xF 10) = .agg #[.slice b1 n2 d1, .slice b2 m2 d2]) := hd 10 (by kernel_rfl)
          clear hd
          simp only [List.take_succ_cons, List.take_zero, fillOf, Act.put, List.setIfInBounds_toArray, List.set_cons_zero, List.set_cons_succ, Nat.reduceAdd, Nat.zero_add] at hK ⊢
          try generalize xF 6 = yy6 at *
          try generalize xF 9 = yy9 at *
          try generalize xF 10 = yy10 at *
          obtain rfl := dd6
          obtain ⟨c, hca, hcs⟩ := dd9
          obtain rfl := dd10
          obtain ⟨r0, r1, r2, r3, hbl, hsz⟩ := id hR
          rw [if_pos (by rfl)]
          go_simp
          (go_at_call 24; (with_reducible refine (HSM.out _ _ _ hR.below hca hcs).mono ?_); rintro e wK ⟨rfl, hbK⟩)
          try go_wp2_with fail
          exact hK.out _ _ (hbK) (rfl) (fun _ _ _ => ⟨trivial, trivial⟩)
        refine FlowAll.cons ?_ ?_
        · intro xF ww hR hd K hK
          have dd6 : ((xF 6) = .bool true) := hd 6 (by kernel_rfl)
          have dd11 : ((xF 11) = .bool (underB a b)) := hd 11 (by kernel_rfl)
          clear hd
          simp only [List.take_succ_cons, List.take_zero, fillOf, Act.put, List.setIfInBounds_toArray, List.set_cons_zero, List.set_cons_succ, Nat.reduceAdd, Nat.zero_add] at hK ⊢
          try generalize xF 6 = yy6 at *
          try generalize xF 11 = yy11 at *
          obtain rfl := dd6
          obtain rfl := dd11
          obtain ⟨r0, r1, r2, r3, hbl, hsz⟩ := id hR
          rw [if_pos (by rfl)]
          go_simp
          exact hK.out _ _ (Below.refl _ _) (rfl) (fun _ _ _ => ⟨trivial, trivial⟩)
        exact FlowAll.nil
      intro xF ww hR hF hP
      clear hP
      have dd0 : ((xF 0) = .agg #[.slice a1 n1 c1, .slice a2 m1 c2]) := hF 0 (by omega) (by decide)
      have dd1 : ((xF 1) = .bool true) := hF 1 (by omega) (by decide)
      have dd2 : ((xF 2) = .bool true) := hF 2 (by omega) (by decide)
      have dd3 : ((xF 3) = .agg #[.slice b1 n2 d1, .slice b2 m2 d2]) := hF 3 (by omega) (by decide)
      have dd4 : ((xF 4) = .bool true) := hF 4 (by omega) (by decide)
      have dd5 : ((xF 5) = .bool true) := hF 5 (by omega) (by decide)
      have dd6 : ((xF 6) = .bool true) := hF 6 (by omega) (by decide)
      have dd7 : ((xF 7) = .agg #[.slice b1 n2 d1, .slice b2 m2 d2]) := hF 7 (by omega) (by decide)
      have dd8 : ((xF 8) = .agg #[.slice a1 n1 c1, .slice a2 m1 c2]) := hF 8 (by omega) (by decide)
      have dd9 : (∃ c, CtxAt ww ww.heap.size (xF 9) c ∧ dm.Is c (fun e => dm.Knows b e ∨ dm.Knows a e) (m2 + m1)) := hF 9 (by omega) (by decide)
      have dd10 : ((xF 10) = .agg #[.slice b1 n2 d1, .slice b2 m2 d2]) := hF 10 (by omega) (by decide)
      have dd11 : ((xF 11) = .bool (underB a b)) := hF 11 (by omega) (by decide)
      have dd12 : ((xF 12) = .bool (underB a b)) := hF 12 (by omega) (by decide)
      clear hF
      simp only [List.take_succ_cons, List.take_zero, List.drop_succ_cons, List.drop_zero, fillOf, Act.put, List.setIfInBounds_toArray, List.set_cons_zero, List.set_cons_succ, Nat.reduceAdd, Nat.zero_add]
      try generalize xF 0 = yy0 at *
      try generalize xF 1 = yy1 at *
      try generalize xF 2 = yy2 at *
      try generalize xF 3 = yy3 at *
      try generalize xF 4 = yy4 at *
      try generalize xF 5 = yy5 at *
      try generalize xF 6 = yy6 at *
      try generalize xF 7 = yy7 at *
      try generalize xF 8 = yy8 at *
      try generalize xF 9 = yy9 at *
      try generalize xF 10 = yy10 at *
      try generalize xF 11 = yy11 at *
      try generalize xF 12 = yy12 at *
      clear xF
      obtain rfl := dd0
      obtain rfl := dd1
      obtain rfl := dd2
      obtain rfl := dd3
      obtain rfl := dd4
      obtain rfl := dd5
      obtain rfl := dd6
      obtain rfl := dd7
      obtain rfl := dd8
      obtain ⟨c, hca, hcs⟩ := dd9
      obtain rfl := dd10
      obtain rfl := dd11
      obtain rfl := dd12
      have hRE := Lib.hid hR
      clear hR
      have hb9 := hA.trans (hRE.out.below.mono (by omega))
      go_wp2
      go_ret
      exact ⟨rfl, hb9⟩
end Go.Proofs.Ytdcmoeklldkccaa
