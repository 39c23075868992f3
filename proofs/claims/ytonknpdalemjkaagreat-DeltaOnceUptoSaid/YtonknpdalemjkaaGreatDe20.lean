/- texts put together: DotJoinO. -/
import Derived.Test.YtonknpdalemjkaaGreatDe11
import Derived.Test.YtonknpdalemjkaaGreatDe15
open List (setIfInBounds_toArray set_cons_zero set_cons_succ take_succ_cons take_zero drop_succ_cons drop_zero)
namespace Go.Proofs.YtonknpdalemjkaaGreat
open Go Go.RowKit Go.ChangeShapes cl Go.Sort
set_option maxHeartbeats 3200000 in
set_option maxRecDepth 100000 in
theorem join_own (a b : dm.Ctx) (va vb : Value) (w : World) (ha : CtxAt w w.heap.size va a) (hb : CtxAt w w.heap.size vb b) (hra : dm.Right a) (hrb : dm.Right b) (hla : a.2.length ≤ 400000) (hlb : b.2.length ≤ 400000) :
  Calls Tryz.prog 45 #[va, vb] w (CtxO (fun e => dm.Knows a e ∨ dm.Knows b e) (a.2.length + b.2.length) w) := by
 obtain ⟨v1, v2, rfl, h1, h2⟩ := ha
 obtain ⟨u1, u2, rfl, h3, h4⟩ := hb
 obtain ⟨a1, c1, rfl, _, _⟩ := h1.form
 obtain ⟨a2, c2, rfl, _, _⟩ := h2.form
 obtain ⟨b1, d1, rfl, _, _⟩ := h3.form
 obtain ⟨b2, d2, rfl, _, _⟩ := h4.form
 have HCA : Hid (CtxAt w w.heap.size (.agg #[.slice a1 a.1.length c1, .slice a2 a.2.length c2]) a) := ⟨_, _, rfl, h1, h2⟩
 have HCB : Hid (CtxAt w w.heap.size (.agg #[.slice b1 b.1.length d1, .slice b2 b.2.length d2]) b) := ⟨_, _, rfl, h3, h4⟩
 clear h1 h2 h3 h4
 obtain ⟨m1, hm1⟩ : ∃ m, m = a.2.length := ⟨_, rfl⟩
 obtain ⟨m2, hm2⟩ : ∃ m, m = b.2.length := ⟨_, rfl⟩
 obtain ⟨n1, hn1⟩ : ∃ m, m = a.1.length := ⟨_, rfl⟩
 obtain ⟨n2, hn2⟩ : ∃ m, m = b.1.length := ⟨_, rfl⟩
 rw [← hm1] at hla HCA ⊢
 rw [← hm2] at hlb HCB ⊢
 rw [← hn1] at HCA ⊢
 rw [← hn2] at HCB ⊢
 have HRA := Lib.hid hra
 have HRB := Lib.hid hrb
 have HM1 := Lib.hid hm1
 have HM2 := Lib.hid hm2
 have hA : Below w.heap.size w (((w.alloc (.cells #[.slice a1 n1 c1, .slice a2 m1 c2] 25)).alloc (.cells #[.slice b1 n2 d1, .slice b2 m2 d2] 25)).alloc (.cells #[.slice none 0 0, .slice none 0 0] 25)) :=
  (((Below.refl _ _).alloc (Nat.le_refl _) _).alloc (by simp) _).alloc (by simp <;> omega) _
 have HRI : Hid (∀ W, Below w.heap.size w W → Calls Tryz.prog 31 #[.agg #[.slice a1 n1 c1, .slice a2 m1 c2]] W (SaidD true W)) := fun W hW => by
  have := right_any a _ W (HCA.out.next hW)
  rwa [dm.rightB_true HRA.out] at this
 have HRJ : Hid (∀ W, Below w.heap.size w W → Calls Tryz.prog 31 #[.agg #[.slice b1 n2 d1, .slice b2 m2 d2]] W (SaidD true W)) := fun W hW => by
  have := right_any b _ W (HCB.out.next hW)
  rwa [dm.rightB_true HRB.out] at this
 have HR1 := Lib.hid (HRI.out _ hA)
 have HJ0 : Hid (JoinR w.heap.size (.slice a1 n1 c1) (.slice a2 m1 c2) (.slice b1 n2 d1) (.slice b2 m2 d2) (((w.alloc (.cells #[.slice a1 n1 c1, .slice a2 m1 c2] 25)).alloc (.cells #[.slice b1 n2 d1, .slice b2 m2 d2] 25)).alloc (.cells #[.slice none 0 0, .slice none 0 0] 25)) (((w.alloc (.cells #[.slice a1 n1 c1, .slice a2 m1 c2] 25)).alloc (.cells #[.slice b1 n2 d1, .slice b2 m2 d2] 25)).alloc (.cells #[.slice none 0 0, .slice none 0 0] 25))) := by
  refine ⟨?_, ?_, ?_, ?_, Below.refl _ _, by simp⟩ <;> go_simp
 have HT : Hid ((((w.alloc (.cells #[.slice a1 n1 c1, .slice a2 m1 c2] 25)).alloc (.cells #[.slice b1 n2 d1, .slice b2 m2 d2] 25)).alloc (.cells #[.slice none 0 0, .slice none 0 0] 25)).cell? ⟨w.heap.size + 2, 0, none⟩ = some (.slice none 0 0) ∧ (((w.alloc (.cells #[.slice a1 n1 c1, .slice a2 m1 c2] 25)).alloc (.cells #[.slice b1 n2 d1, .slice b2 m2 d2] 25)).alloc (.cells #[.slice none 0 0, .slice none 0 0] 25)).cell? ⟨w.heap.size + 2, 1, none⟩ = some (.slice none 0 0) ∧
   (((w.alloc (.cells #[.slice a1 n1 c1, .slice a2 m1 c2] 25)).alloc (.cells #[.slice b1 n2 d1, .slice b2 m2 d2] 25)).alloc (.cells #[.slice none 0 0, .slice none 0 0] 25)).frozen? ⟨w.heap.size + 2, 0, none⟩ = false ∧ (((w.alloc (.cells #[.slice a1 n1 c1, .slice a2 m1 c2] 25)).alloc (.cells #[.slice b1 n2 d1, .slice b2 m2 d2] 25)).alloc (.cells #[.slice none 0 0, .slice none 0 0] 25)).frozen? ⟨w.heap.size + 2, 1, none⟩ = false) := by
  refine ⟨?_, ?_, ?_, ?_⟩ <;> go_simp
 clear hra hrb hm1 hm2 hn1 hn2
 go_enter Tryz.func45, Tryz.ntmps45
 go_wp2_with fail
 generalize (((w.alloc (.cells #[.slice a1 n1 c1, .slice a2 m1 c2] 25)).alloc (.cells #[.slice b1 n2 d1, .slice b2 m2 d2] 25)).alloc (.cells #[.slice none 0 0, .slice none 0 0] 25)) = w2 at *
 (with_reducible refine HR1.out.mono ?_)
 rintro e w3 ⟨rfl, g3⟩
 have HJ3 := Lib.hid (HJ0.out.step HJ0.out.size g3)
 have B3 := hA.trans (HJ3.out.below.mono (by omega))
 have HR2 := Lib.hid (HRJ.out w3 B3)
 clear g3 HR1
 obtain ⟨r0, r1, r2, r3, _, _⟩ := id HJ3.out
 go_wp2_with fail
 (with_reducible refine HR2.out.mono ?_)
 rintro e w4 ⟨rfl, g4⟩
 have HR0 := Lib.hid (HJ3.out.step HJ3.out.size g4)
 clear r0 r1 r2 r3 HJ3 HR2 g4
 have HUA : Hid (∀ W, Below (w.heap.size + 3) w2 W → Calls Tryz.prog 67 #[.agg #[.slice a1 n1 c1, .slice a2 m1 c2]] W fun e w' => e = .returned (arrV (dm.upK a.1)) ∧ Below W.heap.size W w') := fun W hW => by
  exact upTo_any a _ W (HCA.out.next (hA.trans (hW.mono (by omega)))) HRA.out.vok
 have HUB : Hid (∀ W, Below (w.heap.size + 3) w2 W → Calls Tryz.prog 67 #[.agg #[.slice b1 n2 d1, .slice b2 m2 d2]] W fun e w' => e = .returned (arrV (dm.upK b.1)) ∧ Below W.heap.size W w') := fun W hW => by
  exact upTo_any b _ W (HCB.out.next (hA.trans (hW.mono (by omega)))) HRB.out.vok
 go_wp2_with fail
 refine wp_flow 6 (fun _ => 1000) (fun ww => JoinR w.heap.size (.slice a1 n1 c1) (.slice a2 m1 c2) (.slice b1 n2 d1) (.slice b2 m2 d2) w2 ww) (fun _ w w' => (fun (w w' : World) => RowKit.Below w.heap.size w w') w w') (fun kF vF wF => match kF with | 0 => (vF = .agg #[.slice a1 n1 c1, .slice a2 m1 c2]) | 1 => (vF = arrV (dm.upK a.1)) | 2 => (vF = .agg #[.slice b1 n2 d1, .slice b2 m2 d2]) | 3 => (vF = arrV (dm.upK b.1)) | 4 => (∃ g, vF = .pointer (some ⟨g, 0, none⟩) ∧ w.heap.size + 3 ≤ g ∧ g < wF.heap.size ∧ KAt wF g (fun _ => 0)) | 5 => (∃ g, vF = .pointer (some ⟨g, 0, none⟩) ∧ w.heap.size + 3 ≤ g ∧ g < wF.heap.size ∧ KAt wF g (fun _ => 0)) | _ => True) (fun i j v u => i = 4 ∧ j = 5 → v ≠ u) (by kernel_rfl) (by kernel_rfl) ?_ ?_ ?_ ?_ ?_
 ·
  exact JoinR.start HR0.out
 ·
  intro iF wF1 wF2 hR hT; exact hR.step hR.size hT
 ·
  intro kF hkF iF hiF hne hdd hanc hdan vF wF1 wF2 h hT
  rcases (by omega : kF = 0 ∨ kF = 1 ∨ kF = 2 ∨ kF = 3 ∨ kF = 4 ∨ kF = 5) with rfl | rfl | rfl | rfl | rfl | rfl
  ·
   have h : (vF = .agg #[.slice a1 n1 c1, .slice a2 m1 c2]) := h
   show (vF = .agg #[.slice a1 n1 c1, .slice a2 m1 c2])
   have hT : (fun (w w' : World) => RowKit.Below w.heap.size w w') wF1 wF2 := hT
   simp only at hT
   exact h
  ·
   have h : (vF = arrV (dm.upK a.1)) := h
   show (vF = arrV (dm.upK a.1))
   have hT : (fun (w w' : World) => RowKit.Below w.heap.size w w') wF1 wF2 := hT
   simp only at hT
   exact h
  ·
   have h : (vF = .agg #[.slice b1 n2 d1, .slice b2 m2 d2]) := h
   show (vF = .agg #[.slice b1 n2 d1, .slice b2 m2 d2])
   have hT : (fun (w w' : World) => RowKit.Below w.heap.size w w') wF1 wF2 := hT
   simp only at hT
   exact h
  ·
   have h : (vF = arrV (dm.upK b.1)) := h
   show (vF = arrV (dm.upK b.1))
   have hT : (fun (w w' : World) => RowKit.Below w.heap.size w w') wF1 wF2 := hT
   simp only at hT
   exact h
  ·
   have h : (∃ g, vF = .pointer (some ⟨g, 0, none⟩) ∧ w.heap.size + 3 ≤ g ∧ g < wF1.heap.size ∧ KAt wF1 g (fun _ => 0)) := h
   show (∃ g, vF = .pointer (some ⟨g, 0, none⟩) ∧ w.heap.size + 3 ≤ g ∧ g < wF2.heap.size ∧ KAt wF2 g (fun _ => 0))
   have hT : (fun (w w' : World) => RowKit.Below w.heap.size w w') wF1 wF2 := hT
   simp only at hT
   obtain ⟨g, e, h0, h1, h2⟩ := h
   exact ⟨g, e, h0, by have := hT.size; omega, h2.below hT h1⟩
  ·
   have h : (∃ g, vF = .pointer (some ⟨g, 0, none⟩) ∧ w.heap.size + 3 ≤ g ∧ g < wF1.heap.size ∧ KAt wF1 g (fun _ => 0)) := h
   show (∃ g, vF = .pointer (some ⟨g, 0, none⟩) ∧ w.heap.size + 3 ≤ g ∧ g < wF2.heap.size ∧ KAt wF2 g (fun _ => 0))
   have hT : (fun (w w' : World) => RowKit.Below w.heap.size w w') wF1 wF2 := hT
   simp only at hT
   obtain ⟨g, e, h0, h1, h2⟩ := h
   exact ⟨g, e, h0, by have := hT.size; omega, h2.below hT h1⟩
 ·
  refine FlowAll.cons ?_ ?_
  ·
   intro xF ww hR hd K hK
   clear hd
   simp only [take_succ_cons, take_zero, fillOf, Act.put, setIfInBounds_toArray, set_cons_zero, set_cons_succ, Nat.reduceAdd, Nat.zero_add] at hK ⊢
   try generalize xF 0 = yy0 at *
   try generalize xF 1 = yy1 at *
   try generalize xF 2 = yy2 at *
   try generalize xF 3 = yy3 at *
   try generalize xF 4 = yy4 at *
   try generalize xF 5 = yy5 at *
   clear xF
   obtain ⟨r0, r1, r2, r3, hbl, hsz⟩ := id hR
   rw [if_pos (by rfl)]
   go_simp
   refine hK.out _ _ ?_ ?_ ?_
   ·
    exact Below.refl _ _
   ·
    exact rfl
   ·
    exact fun _ _ _ => ⟨fun h => by omega, fun h => by omega⟩
  refine FlowAll.cons ?_ ?_
  ·
   intro xF ww hR hd K hK
   have dd0 := hd 0 (by kernel_rfl)
   clear hd
   simp only [take_succ_cons, take_zero, fillOf, Act.put, setIfInBounds_toArray, set_cons_zero, set_cons_succ, Nat.reduceAdd, Nat.zero_add] at hK ⊢
   try generalize xF 0 = yy0 at *
   try generalize xF 1 = yy1 at *
   try generalize xF 2 = yy2 at *
   try generalize xF 3 = yy3 at *
   try generalize xF 4 = yy4 at *
   try generalize xF 5 = yy5 at *
   clear xF
   obtain rfl := dd0
   obtain ⟨r0, r1, r2, r3, hbl, hsz⟩ := id hR
   rw [if_pos (by rfl)]
   go_simp
   (go_at_call 67; (with_reducible refine (HUA.out _ hR.below).mono ?_); rintro e wK ⟨rfl, hbK⟩)
   try go_wp2_with fail
   refine hK.out _ _ ?_ ?_ ?_
   ·
    exact hbK
   ·
    exact rfl
   ·
    exact fun _ _ _ => ⟨fun h => by omega, fun h => by omega⟩
  refine FlowAll.cons ?_ ?_
  ·
   intro xF ww hR hd K hK
   clear hd
   simp only [take_succ_cons, take_zero, fillOf, Act.put, setIfInBounds_toArray, set_cons_zero, set_cons_succ, Nat.reduceAdd, Nat.zero_add] at hK ⊢
   try generalize xF 0 = yy0 at *
   try generalize xF 1 = yy1 at *
   try generalize xF 2 = yy2 at *
   try generalize xF 3 = yy3 at *
   try generalize xF 4 = yy4 at *
   try generalize xF 5 = yy5 at *
   clear xF
   obtain ⟨r0, r1, r2, r3, hbl, hsz⟩ := id hR
   rw [if_pos (by rfl)]
   go_simp
   refine hK.out _ _ ?_ ?_ ?_
   ·
    exact Below.refl _ _
   ·
    exact rfl
   ·
    exact fun _ _ _ => ⟨fun h => by omega, fun h => by omega⟩
  refine FlowAll.cons ?_ ?_
  ·
   intro xF ww hR hd K hK
   have dd2 := hd 2 (by kernel_rfl)
   clear hd
   simp only [take_succ_cons, take_zero, fillOf, Act.put, setIfInBounds_toArray, set_cons_zero, set_cons_succ, Nat.reduceAdd, Nat.zero_add] at hK ⊢
   try generalize xF 0 = yy0 at *
   try generalize xF 1 = yy1 at *
   try generalize xF 2 = yy2 at *
   try generalize xF 3 = yy3 at *
   try generalize xF 4 = yy4 at *
   try generalize xF 5 = yy5 at *
   clear xF
   obtain rfl := dd2
   obtain ⟨r0, r1, r2, r3, hbl, hsz⟩ := id hR
   rw [if_pos (by rfl)]
   go_simp
   (go_at_call 67; (with_reducible refine (HUB.out _ hR.below).mono ?_); rintro e wK ⟨rfl, hbK⟩)
   try go_wp2_with fail
   refine hK.out _ _ ?_ ?_ ?_
   ·
    exact hbK
   ·
    exact rfl
   ·
    exact fun _ _ _ => ⟨fun h => by omega, fun h => by omega⟩
  refine FlowAll.cons ?_ ?_
  ·
   intro xF ww hR hd K hK
   clear hd
   simp only [take_succ_cons, take_zero, fillOf, Act.put, setIfInBounds_toArray, set_cons_zero, set_cons_succ, Nat.reduceAdd, Nat.zero_add] at hK ⊢
   try generalize xF 0 = yy0 at *
   try generalize xF 1 = yy1 at *
   try generalize xF 2 = yy2 at *
   try generalize xF 3 = yy3 at *
   try generalize xF 4 = yy4 at *
   try generalize xF 5 = yy5 at *
   clear xF
   obtain ⟨r0, r1, r2, r3, hbl, hsz⟩ := id hR
   rw [if_pos (by rfl)]
   go_simp
   refine hK.out _ _ ?_ ?_ ?_
   ·
    exact (Below.refl _ _).alloc (Nat.le_refl _) _
   ·
    exact ⟨_, rfl, hsz, by simp, KAt.zero _ _⟩
   ·
    intro j u hju
    refine ⟨fun hj => ?_, fun hj => ?_⟩
    ·
     obtain ⟨hj1, hj2⟩ := hj
     subst hj2
     obtain ⟨g, rfl, _, hg, _⟩ : (∃ g, u = .pointer (some ⟨g, 0, none⟩) ∧ w.heap.size + 3 ≤ g ∧ g < ww.heap.size ∧ KAt ww g (fun _ => 0)) := hju
     intro e
     simp only [Value.pointer.injEq, Option.some.injEq, Addr.mk.injEq] at e
     omega
    ·
     obtain ⟨hj1, hj2⟩ := hj
     subst hj1
     obtain ⟨g, rfl, _, hg, _⟩ : (∃ g, u = .pointer (some ⟨g, 0, none⟩) ∧ w.heap.size + 3 ≤ g ∧ g < ww.heap.size ∧ KAt ww g (fun _ => 0)) := hju
     intro e
     simp only [Value.pointer.injEq, Option.some.injEq, Addr.mk.injEq] at e
     omega
  refine FlowAll.cons ?_ ?_
  ·
   intro xF ww hR hd K hK
   clear hd
   simp only [take_succ_cons, take_zero, fillOf, Act.put, setIfInBounds_toArray, set_cons_zero, set_cons_succ, Nat.reduceAdd, Nat.zero_add] at hK ⊢
   try generalize xF 0 = yy0 at *
   try generalize xF 1 = yy1 at *
   try generalize xF 2 = yy2 at *
   try generalize xF 3 = yy3 at *
   try generalize xF 4 = yy4 at *
   try generalize xF 5 = yy5 at *
   clear xF
   obtain ⟨r0, r1, r2, r3, hbl, hsz⟩ := id hR
   rw [if_pos (by rfl)]
   go_simp
   refine hK.out _ _ ?_ ?_ ?_
   ·
    exact (Below.refl _ _).alloc (Nat.le_refl _) _
   ·
    exact ⟨_, rfl, hsz, by simp, KAt.zero _ _⟩
   ·
    intro j u hju
    refine ⟨fun hj => ?_, fun hj => ?_⟩
    ·
     obtain ⟨hj1, hj2⟩ := hj
     subst hj2
     obtain ⟨g, rfl, _, hg, _⟩ : (∃ g, u = .pointer (some ⟨g, 0, none⟩) ∧ w.heap.size + 3 ≤ g ∧ g < ww.heap.size ∧ KAt ww g (fun _ => 0)) := hju
     intro e
     simp only [Value.pointer.injEq, Option.some.injEq, Addr.mk.injEq] at e
     omega
    ·
     obtain ⟨hj1, hj2⟩ := hj
     subst hj1
     obtain ⟨g, rfl, _, hg, _⟩ : (∃ g, u = .pointer (some ⟨g, 0, none⟩) ∧ w.heap.size + 3 ≤ g ∧ g < ww.heap.size ∧ KAt ww g (fun _ => 0)) := hju
     intro e
     simp only [Value.pointer.injEq, Option.some.injEq, Addr.mk.injEq] at e
     omega
  exact FlowAll.nil
 intro xF ww hR hF hP
 have hne : (4 = 4 ∧ 5 = 5 → xF 4 ≠ xF 5) := hP 4 5 (by omega) (by omega) (by decide) (by decide) (by omega)
 clear hP
 have dd0 := hF 0 (by omega) (by decide)
 have dd1 := hF 1 (by omega) (by decide)
 have dd2 := hF 2 (by omega) (by decide)
 have dd3 := hF 3 (by omega) (by decide)
 have dd4 := hF 4 (by omega) (by decide)
 have dd5 := hF 5 (by omega) (by decide)
 clear hF
 simp only [take_succ_cons, take_zero, drop_succ_cons, drop_zero, fillOf, Act.put, setIfInBounds_toArray, set_cons_zero, set_cons_succ, Nat.reduceAdd, Nat.zero_add]
 try generalize xF 0 = yy0 at *
 try generalize xF 1 = yy1 at *
 try generalize xF 2 = yy2 at *
 try generalize xF 3 = yy3 at *
 try generalize xF 4 = yy4 at *
 try generalize xF 5 = yy5 at *
 clear xF
 obtain rfl := dd0
 obtain rfl := dd1
 obtain rfl := dd2
 obtain rfl := dd3
 obtain ⟨g5, rfl, hg5, hgs5, hk5⟩ := dd4
 obtain ⟨g6, rfl, hg6, hgs6, hk6⟩ := dd5
 have hRE := Lib.hid hR
 clear hR
 obtain ⟨KA, hKA⟩ : ∃ K, K = dm.upK a.1 := ⟨_, rfl⟩
 obtain ⟨KB, hKB⟩ : ∃ K, K = dm.upK b.1 := ⟨_, rfl⟩
 have hka := dm.upK_bd ⟨HRA.out.vok, HRA.out.vup⟩
 have hkb := dm.upK_bd ⟨HRB.out.vok, HRB.out.vup⟩
 rw [← hKA] at hka ⊢
 rw [← hKB] at hkb ⊢
 have HKA := Lib.hid hKA
 have HKB := Lib.hid hKB
 have HBA := Lib.hid hka
 have HBB := Lib.hid hkb
 have hne : g5 ≠ g6 := fun e => hne ⟨rfl, rfl⟩ (by rw [e])
 clear hKA hKB hka hkb
 refine store_arr rfl (.tmp 5) (.tmp 18) rfl g5 rfl KA rfl _ hk5 (fun w5 q1 q2 q3 q4 q5 => ?_)
 have hk6' : KAt w5 g6 (fun _ => 0) := fun j hj => ⟨(q2 ⟨g6, j, none⟩ (fun e => hne e.symm)).trans (hk6 j hj).1, (q3 _).trans (hk6 j hj).2⟩
 simp only [Act.put]
 refine store_arr rfl (.tmp 6) (.tmp 20) rfl g6 rfl KB rfl _ hk6' (fun w6 s1 s2 s3 s4 s5 => ?_)
 have hk5' : KAt w6 g5 KA := fun j hj => ⟨(s2 ⟨g5, j, none⟩ hne).trans (q1 j hj).1, (s3 _).trans (q1 j hj).2⟩
 have HK5 := Lib.hid hk5'
 have HK6 := Lib.hid s1
 have HJ6 := Lib.hid ((hRE.out.step (Nat.le_refl _) (q5 _ hg5)).step (Nat.le_refl _) (s5 _ hg6))
 have hs6 : ww.heap.size ≤ w6.heap.size := by omega
 clear hk5 hk6 hk6' hk5' q1 q2 q3 q4 q5 s1 s2 s3 s4 s5 hRE
 simp only [Act.put]
 have HNE := Lib.hid hne
 clear hne
 go_wp2
 go_loopw [21, 33] (fun i _ wr => ∃ k : Nat, i = .int .i64 k ∧ k ≤ 16 ∧ Hid (KAt wr g5 (fun n => if n < (k : Int) then max (KA n) (KB n) else KA n)) ∧ Hid (KAt wr g6 KB) ∧ Hid (JoinR w.heap.size (.slice a1 n1 c1) (.slice a2 m1 c2) (.slice b1 n2 d1) (.slice b2 m2 d2) w2 wr) ∧ ww.heap.size ≤ wr.heap.size) (fun i _ _ => 16 - (intOf i).toNat)
 case atStart => exact ⟨0, rfl, by omega, fun j hj => by have := HK5.out j hj; simpa [show ¬ ((j : Int) < 0) by omega] using this, HK6.out, HJ6.out, hs6⟩
 case round =>
  obtain ⟨k, rfl, hk, H5, H6, HJ, hsr⟩ := hrel
  by_cases hlt : k < 16
  ·
   have p5 := (H5.out k hlt).1
   have f5 := (H5.out k hlt).2
   have p6 := (H6.out k hlt).1
   simp only [Int.lt_irrefl, if_false] at p5
   obtain ⟨x, hx⟩ : ∃ x, x = KA k := ⟨_, rfl⟩
   obtain ⟨y, hy⟩ : ∃ y, y = KB k := ⟨_, rfl⟩
   rw [← hx] at p5
   rw [← hy] at p6
   have HX := Lib.hid hx
   have HY := Lib.hid hy
   have hkI : (k : Int) < 16 := by omega
   have hk0 : (0 : Int) ≤ (k : Int) := by omega
   clear hx hy
   by_cases hxy : x ≤ y
   ·
    have hd : decide (x ≤ y) = true := decide_eq_true hxy
    have hmx : max x y = y := by omega
    go_wp2_with fail
    refine wp_flow 9 (fun _ => 1000) (fun w' => w' = wr.drew) (fun _ w w' => (fun w w' => w' = w) w w') (fun kF vF wF => match kF with | 0 => (vF = .int .i64 (k : Int)) | 1 => (vF = .int .i64 (k : Int)) | 2 => (vF = .pointer (some ⟨g5, k, none⟩)) | 3 => (vF = .int .i64 x) | 4 => (vF = .int .i64 (k : Int)) | 5 => (vF = .pointer (some ⟨g6, k, none⟩)) | 6 => (vF = .int .i64 y) | 7 => (vF = .int .i64 y) | 8 => (vF = .pointer (some ⟨g5, k, none⟩)) | _ => True) (fun _ _ _ _ => True) (by kernel_rfl) (by kernel_rfl) ?_ ?_ ?_ ?_ ?_
    ·
     exact rfl
    ·
     intro iF wF1 wF2 hR hT; rw [hT]; exact hR
    ·
     intro kF hkF iF hiF hne hdd hanc hdan vF wF1 wF2 h hT
     rcases (by omega : kF = 0 ∨ kF = 1 ∨ kF = 2 ∨ kF = 3 ∨ kF = 4 ∨ kF = 5 ∨ kF = 6 ∨ kF = 7 ∨ kF = 8) with rfl | rfl | rfl | rfl | rfl | rfl | rfl | rfl | rfl
     ·
      have h : (vF = .int .i64 (k : Int)) := h
      show (vF = .int .i64 (k : Int))
      have hT : (fun w w' => w' = w) wF1 wF2 := hT
      simp only at hT
      exact h
     ·
      have h : (vF = .int .i64 (k : Int)) := h
      show (vF = .int .i64 (k : Int))
      have hT : (fun w w' => w' = w) wF1 wF2 := hT
      simp only at hT
      exact h
     ·
      have h : (vF = .pointer (some ⟨g5, k, none⟩)) := h
      show (vF = .pointer (some ⟨g5, k, none⟩))
      have hT : (fun w w' => w' = w) wF1 wF2 := hT
      simp only at hT
      exact h
     ·
      have h : (vF = .int .i64 x) := h
      show (vF = .int .i64 x)
      have hT : (fun w w' => w' = w) wF1 wF2 := hT
      simp only at hT
      exact h
     ·
      have h : (vF = .int .i64 (k : Int)) := h
      show (vF = .int .i64 (k : Int))
      have hT : (fun w w' => w' = w) wF1 wF2 := hT
      simp only at hT
      exact h
     ·
      have h : (vF = .pointer (some ⟨g6, k, none⟩)) := h
      show (vF = .pointer (some ⟨g6, k, none⟩))
      have hT : (fun w w' => w' = w) wF1 wF2 := hT
      simp only at hT
      exact h
     ·
      have h : (vF = .int .i64 y) := h
      show (vF = .int .i64 y)
      have hT : (fun w w' => w' = w) wF1 wF2 := hT
      simp only at hT
      exact h
     ·
      have h : (vF = .int .i64 y) := h
      show (vF = .int .i64 y)
      have hT : (fun w w' => w' = w) wF1 wF2 := hT
      simp only at hT
      exact h
     ·
      have h : (vF = .pointer (some ⟨g5, k, none⟩)) := h
      show (vF = .pointer (some ⟨g5, k, none⟩))
      have hT : (fun w w' => w' = w) wF1 wF2 := hT
      simp only at hT
      exact h
    ·
     refine FlowAll.cons ?_ ?_
     ·
      intro xF wd hR hd K hK
      clear hd
      simp only [take_succ_cons, take_zero, fillOf, Act.put, setIfInBounds_toArray, set_cons_zero, set_cons_succ, Nat.reduceAdd, Nat.zero_add] at hK ⊢
      try generalize xF 0 = yy0 at *
      try generalize xF 1 = yy1 at *
      try generalize xF 2 = yy2 at *
      try generalize xF 3 = yy3 at *
      try generalize xF 4 = yy4 at *
      try generalize xF 5 = yy5 at *
      try generalize xF 6 = yy6 at *
      try generalize xF 7 = yy7 at *
      try generalize xF 8 = yy8 at *
      clear xF
      obtain rfl := id hR
      rw [if_pos (by rfl)]
      go_simp
      refine hK.out _ _ ?_ ?_ ?_
      ·
       exact rfl
      ·
       exact rfl
      ·
       exact fun _ _ _ => ⟨trivial, trivial⟩
     refine FlowAll.cons ?_ ?_
     ·
      intro xF wd hR hd K hK
      clear hd
      simp only [take_succ_cons, take_zero, fillOf, Act.put, setIfInBounds_toArray, set_cons_zero, set_cons_succ, Nat.reduceAdd, Nat.zero_add] at hK ⊢
      try generalize xF 0 = yy0 at *
      try generalize xF 1 = yy1 at *
      try generalize xF 2 = yy2 at *
      try generalize xF 3 = yy3 at *
      try generalize xF 4 = yy4 at *
      try generalize xF 5 = yy5 at *
      try generalize xF 6 = yy6 at *
      try generalize xF 7 = yy7 at *
      try generalize xF 8 = yy8 at *
      clear xF
      obtain rfl := id hR
      rw [if_pos (by rfl)]
      go_simp
      refine hK.out _ _ ?_ ?_ ?_
      ·
       exact rfl
      ·
       exact rfl
      ·
       exact fun _ _ _ => ⟨trivial, trivial⟩
     refine FlowAll.cons ?_ ?_
     ·
      intro xF wd hR hd K hK
      have dd1 := hd 1 (by kernel_rfl)
      clear hd
      simp only [take_succ_cons, take_zero, fillOf, Act.put, setIfInBounds_toArray, set_cons_zero, set_cons_succ, Nat.reduceAdd, Nat.zero_add] at hK ⊢
      try generalize xF 0 = yy0 at *
      try generalize xF 1 = yy1 at *
      try generalize xF 2 = yy2 at *
      try generalize xF 3 = yy3 at *
      try generalize xF 4 = yy4 at *
      try generalize xF 5 = yy5 at *
      try generalize xF 6 = yy6 at *
      try generalize xF 7 = yy7 at *
      try generalize xF 8 = yy8 at *
      clear xF
      obtain rfl := dd1
      obtain rfl := id hR
      rw [if_pos (by rfl)]
      go_simp
      refine hK.out _ _ ?_ ?_ ?_
      ·
       exact rfl
      ·
       exact rfl
      ·
       exact fun _ _ _ => ⟨trivial, trivial⟩
     refine FlowAll.cons ?_ ?_
     ·
      intro xF wd hR hd K hK
      have dd2 := hd 2 (by kernel_rfl)
      clear hd
      simp only [take_succ_cons, take_zero, fillOf, Act.put, setIfInBounds_toArray, set_cons_zero, set_cons_succ, Nat.reduceAdd, Nat.zero_add] at hK ⊢
      try generalize xF 0 = yy0 at *
      try generalize xF 1 = yy1 at *
      try generalize xF 2 = yy2 at *
      try generalize xF 3 = yy3 at *
      try generalize xF 4 = yy4 at *
      try generalize xF 5 = yy5 at *
      try generalize xF 6 = yy6 at *
      try generalize xF 7 = yy7 at *
      try generalize xF 8 = yy8 at *
      clear xF
      obtain rfl := dd2
      obtain rfl := id hR
      rw [if_pos (by rfl)]
      go_simp
      refine hK.out _ _ ?_ ?_ ?_
      ·
       exact rfl
      ·
       exact rfl
      ·
       exact fun _ _ _ => ⟨trivial, trivial⟩
     refine FlowAll.cons ?_ ?_
     ·
      intro xF wd hR hd K hK
      clear hd
      simp only [take_succ_cons, take_zero, fillOf, Act.put, setIfInBounds_toArray, set_cons_zero, set_cons_succ, Nat.reduceAdd, Nat.zero_add] at hK ⊢
      try generalize xF 0 = yy0 at *
      try generalize xF 1 = yy1 at *
      try generalize xF 2 = yy2 at *
      try generalize xF 3 = yy3 at *
      try generalize xF 4 = yy4 at *
      try generalize xF 5 = yy5 at *
      try generalize xF 6 = yy6 at *
      try generalize xF 7 = yy7 at *
      try generalize xF 8 = yy8 at *
      clear xF
      obtain rfl := id hR
      rw [if_pos (by rfl)]
      go_simp
      refine hK.out _ _ ?_ ?_ ?_
      ·
       exact rfl
      ·
       exact rfl
      ·
       exact fun _ _ _ => ⟨trivial, trivial⟩
     refine FlowAll.cons ?_ ?_
     ·
      intro xF wd hR hd K hK
      have dd4 := hd 4 (by kernel_rfl)
      clear hd
      simp only [take_succ_cons, take_zero, fillOf, Act.put, setIfInBounds_toArray, set_cons_zero, set_cons_succ, Nat.reduceAdd, Nat.zero_add] at hK ⊢
      try generalize xF 0 = yy0 at *
      try generalize xF 1 = yy1 at *
      try generalize xF 2 = yy2 at *
      try generalize xF 3 = yy3 at *
      try generalize xF 4 = yy4 at *
      try generalize xF 5 = yy5 at *
      try generalize xF 6 = yy6 at *
      try generalize xF 7 = yy7 at *
      try generalize xF 8 = yy8 at *
      clear xF
      obtain rfl := dd4
      obtain rfl := id hR
      rw [if_pos (by rfl)]
      go_simp
      refine hK.out _ _ ?_ ?_ ?_
      ·
       exact rfl
      ·
       exact rfl
      ·
       exact fun _ _ _ => ⟨trivial, trivial⟩
     refine FlowAll.cons ?_ ?_
     ·
      intro xF wd hR hd K hK
      have dd5 := hd 5 (by kernel_rfl)
      clear hd
      simp only [take_succ_cons, take_zero, fillOf, Act.put, setIfInBounds_toArray, set_cons_zero, set_cons_succ, Nat.reduceAdd, Nat.zero_add] at hK ⊢
      try generalize xF 0 = yy0 at *
      try generalize xF 1 = yy1 at *
      try generalize xF 2 = yy2 at *
      try generalize xF 3 = yy3 at *
      try generalize xF 4 = yy4 at *
      try generalize xF 5 = yy5 at *
      try generalize xF 6 = yy6 at *
      try generalize xF 7 = yy7 at *
      try generalize xF 8 = yy8 at *
      clear xF
      obtain rfl := dd5
      obtain rfl := id hR
      rw [if_pos (by rfl)]
      go_simp
      refine hK.out _ _ ?_ ?_ ?_
      ·
       exact rfl
      ·
       exact rfl
      ·
       exact fun _ _ _ => ⟨trivial, trivial⟩
     refine FlowAll.cons ?_ ?_
     ·
      intro xF wd hR hd K hK
      have dd3 := hd 3 (by kernel_rfl)
      have dd6 := hd 6 (by kernel_rfl)
      clear hd
      simp only [take_succ_cons, take_zero, fillOf, Act.put, setIfInBounds_toArray, set_cons_zero, set_cons_succ, Nat.reduceAdd, Nat.zero_add] at hK ⊢
      try generalize xF 0 = yy0 at *
      try generalize xF 1 = yy1 at *
      try generalize xF 2 = yy2 at *
      try generalize xF 3 = yy3 at *
      try generalize xF 4 = yy4 at *
      try generalize xF 5 = yy5 at *
      try generalize xF 6 = yy6 at *
      try generalize xF 7 = yy7 at *
      try generalize xF 8 = yy8 at *
      clear xF
      obtain rfl := dd3
      obtain rfl := dd6
      obtain rfl := id hR
      rw [if_pos (by rfl)]
      go_simp
      refine hK.out _ _ ?_ ?_ ?_
      ·
       exact rfl
      ·
       exact rfl
      ·
       exact fun _ _ _ => ⟨trivial, trivial⟩
     refine FlowAll.cons ?_ ?_
     ·
      intro xF wd hR hd K hK
      have dd0 := hd 0 (by kernel_rfl)
      clear hd
      simp only [take_succ_cons, take_zero, fillOf, Act.put, setIfInBounds_toArray, set_cons_zero, set_cons_succ, Nat.reduceAdd, Nat.zero_add] at hK ⊢
      try generalize xF 0 = yy0 at *
      try generalize xF 1 = yy1 at *
      try generalize xF 2 = yy2 at *
      try generalize xF 3 = yy3 at *
      try generalize xF 4 = yy4 at *
      try generalize xF 5 = yy5 at *
      try generalize xF 6 = yy6 at *
      try generalize xF 7 = yy7 at *
      try generalize xF 8 = yy8 at *
      clear xF
      obtain rfl := dd0
      obtain rfl := id hR
      rw [if_pos (by rfl)]
      go_simp
      refine hK.out _ _ ?_ ?_ ?_
      ·
       exact rfl
      ·
       exact rfl
      ·
       exact fun _ _ _ => ⟨trivial, trivial⟩
     exact FlowAll.nil
    intro xF wd hR hF hP
    clear hP
    have dd0 := hF 0 (by omega) (by decide)
    have dd1 := hF 1 (by omega) (by decide)
    have dd2 := hF 2 (by omega) (by decide)
    have dd3 := hF 3 (by omega) (by decide)
    have dd4 := hF 4 (by omega) (by decide)
    have dd5 := hF 5 (by omega) (by decide)
    have dd6 := hF 6 (by omega) (by decide)
    have dd7 := hF 7 (by omega) (by decide)
    have dd8 := hF 8 (by omega) (by decide)
    clear hF
    simp only [take_succ_cons, take_zero, drop_succ_cons, drop_zero, fillOf, Act.put, setIfInBounds_toArray, set_cons_zero, set_cons_succ, Nat.reduceAdd, Nat.zero_add]
    try generalize xF 0 = yy0 at *
    try generalize xF 1 = yy1 at *
    try generalize xF 2 = yy2 at *
    try generalize xF 3 = yy3 at *
    try generalize xF 4 = yy4 at *
    try generalize xF 5 = yy5 at *
    try generalize xF 6 = yy6 at *
    try generalize xF 7 = yy7 at *
    try generalize xF 8 = yy8 at *
    clear xF
    obtain rfl := dd0
    obtain rfl := dd1
    obtain rfl := dd2
    obtain rfl := dd3
    obtain rfl := dd4
    obtain rfl := dd5
    obtain rfl := dd6
    obtain rfl := dd7
    obtain rfl := dd8
    have hRE7 := Lib.hid hR
    clear hR
    obtain rfl := hRE7.out
    have HM : Hid (KAt ((wr.drew).setCell ⟨g5, k, none⟩ (.int .i64 y)) g5 (fun n => if n < (k : Int) + 1 then max (KA n) (KB n) else KA n)) := by
     have h0 := (H5.out.below (below_drewND (Below.refl _ _) 1) (by omega)).put ((k : Int), y) (m := k) rfl hlt
     refine h0.congr fun j hj => ?_
     unfold dm.put1
     by_cases hjk : j = k
     ·
      rw [if_pos (by simp only; omega), if_pos (by omega), hjk, ← HX.out, ← HY.out]; simp only; omega
     ·
      rw [if_neg (by simp only; omega)]
      by_cases hjk2 : j < k
      ·
       simp only [show (j : Int) < (k : Int) by omega, show (j : Int) < (k : Int) + 1 by omega, if_true]
      ·
       simp only [show ¬ (j : Int) < (k : Int) by omega, show ¬ (j : Int) < (k : Int) + 1 by omega, if_false]
    have HM6 : Hid (KAt ((wr.drew).setCell ⟨g5, k, none⟩ (.int .i64 y)) g6 KB) := (H6.out.below (below_drewND (Below.refl _ _) 1) (by omega)).far HNE.out
    have HMJ := Lib.hid (HJ.out.step (Nat.le_refl _) ((below_drewND (Below.refl (w.heap.size + 3) wr) 1).setCell (p := ⟨g5, k, none⟩) hg5 (.int .i64 y)))
    clear hRE7
    go_wp2
    go_roundw
    case rel => exact ⟨k + 1, by go_num, by omega, by push_cast; exact HM.out, HM6.out, HMJ.out, by simp [World.setCell, World.drew]; omega⟩
    case measure => simp [intOf]; omega
   ·
    have hd : decide (x ≤ y) = false := decide_eq_false hxy
    have hmx : max x y = x := by omega
    go_wp2_with fail
    refine wp_flow 9 (fun _ => 1000) (fun w' => w' = wr.drew) (fun _ w w' => (fun w w' => w' = w) w w') (fun kF vF wF => match kF with | 0 => (vF = .int .i64 (k : Int)) | 1 => (vF = .int .i64 (k : Int)) | 2 => (vF = .pointer (some ⟨g5, k, none⟩)) | 3 => (vF = .int .i64 x) | 4 => (vF = .int .i64 (k : Int)) | 5 => (vF = .pointer (some ⟨g6, k, none⟩)) | 6 => (vF = .int .i64 y) | 7 => (vF = .int .i64 x) | 8 => (vF = .pointer (some ⟨g5, k, none⟩)) | _ => True) (fun _ _ _ _ => True) (by kernel_rfl) (by kernel_rfl) ?_ ?_ ?_ ?_ ?_
    ·
     exact rfl
    ·
     intro iF wF1 wF2 hR hT; rw [hT]; exact hR
    ·
     intro kF hkF iF hiF hne hdd hanc hdan vF wF1 wF2 h hT
     rcases (by omega : kF = 0 ∨ kF = 1 ∨ kF = 2 ∨ kF = 3 ∨ kF = 4 ∨ kF = 5 ∨ kF = 6 ∨ kF = 7 ∨ kF = 8) with rfl | rfl | rfl | rfl | rfl | rfl | rfl | rfl | rfl
     ·
      have h : (vF = .int .i64 (k : Int)) := h
      show (vF = .int .i64 (k : Int))
      have hT : (fun w w' => w' = w) wF1 wF2 := hT
      simp only at hT
      exact h
     ·
      have h : (vF = .int .i64 (k : Int)) := h
      show (vF = .int .i64 (k : Int))
      have hT : (fun w w' => w' = w) wF1 wF2 := hT
      simp only at hT
      exact h
     ·
      have h : (vF = .pointer (some ⟨g5, k, none⟩)) := h
      show (vF = .pointer (some ⟨g5, k, none⟩))
      have hT : (fun w w' => w' = w) wF1 wF2 := hT
      simp only at hT
      exact h
     ·
      have h : (vF = .int .i64 x) := h
      show (vF = .int .i64 x)
      have hT : (fun w w' => w' = w) wF1 wF2 := hT
      simp only at hT
      exact h
     ·
      have h : (vF = .int .i64 (k : Int)) := h
      show (vF = .int .i64 (k : Int))
      have hT : (fun w w' => w' = w) wF1 wF2 := hT
      simp only at hT
      exact h
     ·
      have h : (vF = .pointer (some ⟨g6, k, none⟩)) := h
      show (vF = .pointer (some ⟨g6, k, none⟩))
      have hT : (fun w w' => w' = w) wF1 wF2 := hT
      simp only at hT
      exact h
     ·
      have h : (vF = .int .i64 y) := h
      show (vF = .int .i64 y)
      have hT : (fun w w' => w' = w) wF1 wF2 := hT
      simp only at hT
      exact h
     ·
      have h : (vF = .int .i64 x) := h
      show (vF = .int .i64 x)
      have hT : (fun w w' => w' = w) wF1 wF2 := hT
      simp only at hT
      exact h
     ·
      have h : (vF = .pointer (some ⟨g5, k, none⟩)) := h
      show (vF = .pointer (some ⟨g5, k, none⟩))
      have hT : (fun w w' => w' = w) wF1 wF2 := hT
      simp only at hT
      exact h
    ·
     refine FlowAll.cons ?_ ?_
     ·
      intro xF wd hR hd K hK
      clear hd
      simp only [take_succ_cons, take_zero, fillOf, Act.put, setIfInBounds_toArray, set_cons_zero, set_cons_succ, Nat.reduceAdd, Nat.zero_add] at hK ⊢
      try generalize xF 0 = yy0 at *
      try generalize xF 1 = yy1 at *
      try generalize xF 2 = yy2 at *
      try generalize xF 3 = yy3 at *
      try generalize xF 4 = yy4 at *
      try generalize xF 5 = yy5 at *
      try generalize xF 6 = yy6 at *
      try generalize xF 7 = yy7 at *
      try generalize xF 8 = yy8 at *
      clear xF
      obtain rfl := id hR
      rw [if_pos (by rfl)]
      go_simp
      refine hK.out _ _ ?_ ?_ ?_
      ·
       exact rfl
      ·
       exact rfl
      ·
       exact fun _ _ _ => ⟨trivial, trivial⟩
     refine FlowAll.cons ?_ ?_
     ·
      intro xF wd hR hd K hK
      clear hd
      simp only [take_succ_cons, take_zero, fillOf, Act.put, setIfInBounds_toArray, set_cons_zero, set_cons_succ, Nat.reduceAdd, Nat.zero_add] at hK ⊢
      try generalize xF 0 = yy0 at *
      try generalize xF 1 = yy1 at *
      try generalize xF 2 = yy2 at *
      try generalize xF 3 = yy3 at *
      try generalize xF 4 = yy4 at *
      try generalize xF 5 = yy5 at *
      try generalize xF 6 = yy6 at *
      try generalize xF 7 = yy7 at *
      try generalize xF 8 = yy8 at *
      clear xF
      obtain rfl := id hR
      rw [if_pos (by rfl)]
      go_simp
      refine hK.out _ _ ?_ ?_ ?_
      ·
       exact rfl
      ·
       exact rfl
      ·
       exact fun _ _ _ => ⟨trivial, trivial⟩
     refine FlowAll.cons ?_ ?_
     ·
      intro xF wd hR hd K hK
      have dd1 := hd 1 (by kernel_rfl)
      clear hd
      simp only [take_succ_cons, take_zero, fillOf, Act.put, setIfInBounds_toArray, set_cons_zero, set_cons_succ, Nat.reduceAdd, Nat.zero_add] at hK ⊢
      try generalize xF 0 = yy0 at *
      try generalize xF 1 = yy1 at *
      try generalize xF 2 = yy2 at *
      try generalize xF 3 = yy3 at *
      try generalize xF 4 = yy4 at *
      try generalize xF 5 = yy5 at *
      try generalize xF 6 = yy6 at *
      try generalize xF 7 = yy7 at *
      try generalize xF 8 = yy8 at *
      clear xF
      obtain rfl := dd1
      obtain rfl := id hR
      rw [if_pos (by rfl)]
      go_simp
      refine hK.out _ _ ?_ ?_ ?_
      ·
       exact rfl
      ·
       exact rfl
      ·
       exact fun _ _ _ => ⟨trivial, trivial⟩
     refine FlowAll.cons ?_ ?_
     ·
      intro xF wd hR hd K hK
      have dd2 := hd 2 (by kernel_rfl)
      clear hd
      simp only [take_succ_cons, take_zero, fillOf, Act.put, setIfInBounds_toArray, set_cons_zero, set_cons_succ, Nat.reduceAdd, Nat.zero_add] at hK ⊢
      try generalize xF 0 = yy0 at *
      try generalize xF 1 = yy1 at *
      try generalize xF 2 = yy2 at *
      try generalize xF 3 = yy3 at *
      try generalize xF 4 = yy4 at *
      try generalize xF 5 = yy5 at *
      try generalize xF 6 = yy6 at *
      try generalize xF 7 = yy7 at *
      try generalize xF 8 = yy8 at *
      clear xF
      obtain rfl := dd2
      obtain rfl := id hR
      rw [if_pos (by rfl)]
      go_simp
      refine hK.out _ _ ?_ ?_ ?_
      ·
       exact rfl
      ·
       exact rfl
      ·
       exact fun _ _ _ => ⟨trivial, trivial⟩
     refine FlowAll.cons ?_ ?_
     ·
      intro xF wd hR hd K hK
      clear hd
      simp only [take_succ_cons, take_zero, fillOf, Act.put, setIfInBounds_toArray, set_cons_zero, set_cons_succ, Nat.reduceAdd, Nat.zero_add] at hK ⊢
      try generalize xF 0 = yy0 at *
      try generalize xF 1 = yy1 at *
      try generalize xF 2 = yy2 at *
      try generalize xF 3 = yy3 at *
      try generalize xF 4 = yy4 at *
      try generalize xF 5 = yy5 at *
      try generalize xF 6 = yy6 at *
      try generalize xF 7 = yy7 at *
      try generalize xF 8 = yy8 at *
      clear xF
      obtain rfl := id hR
      rw [if_pos (by rfl)]
      go_simp
      refine hK.out _ _ ?_ ?_ ?_
      ·
       exact rfl
      ·
       exact rfl
      ·
       exact fun _ _ _ => ⟨trivial, trivial⟩
     refine FlowAll.cons ?_ ?_
     ·
      intro xF wd hR hd K hK
      have dd4 := hd 4 (by kernel_rfl)
      clear hd
      simp only [take_succ_cons, take_zero, fillOf, Act.put, setIfInBounds_toArray, set_cons_zero, set_cons_succ, Nat.reduceAdd, Nat.zero_add] at hK ⊢
      try generalize xF 0 = yy0 at *
      try generalize xF 1 = yy1 at *
      try generalize xF 2 = yy2 at *
      try generalize xF 3 = yy3 at *
      try generalize xF 4 = yy4 at *
      try generalize xF 5 = yy5 at *
      try generalize xF 6 = yy6 at *
      try generalize xF 7 = yy7 at *
      try generalize xF 8 = yy8 at *
      clear xF
      obtain rfl := dd4
      obtain rfl := id hR
      rw [if_pos (by rfl)]
      go_simp
      refine hK.out _ _ ?_ ?_ ?_
      ·
       exact rfl
      ·
       exact rfl
      ·
       exact fun _ _ _ => ⟨trivial, trivial⟩
     refine FlowAll.cons ?_ ?_
     ·
      intro xF wd hR hd K hK
      have dd5 := hd 5 (by kernel_rfl)
      clear hd
      simp only [take_succ_cons, take_zero, fillOf, Act.put, setIfInBounds_toArray, set_cons_zero, set_cons_succ, Nat.reduceAdd, Nat.zero_add] at hK ⊢
      try generalize xF 0 = yy0 at *
      try generalize xF 1 = yy1 at *
      try generalize xF 2 = yy2 at *
      try generalize xF 3 = yy3 at *
      try generalize xF 4 = yy4 at *
      try generalize xF 5 = yy5 at *
      try generalize xF 6 = yy6 at *
      try generalize xF 7 = yy7 at *
      try generalize xF 8 = yy8 at *
      clear xF
      obtain rfl := dd5
      obtain rfl := id hR
      rw [if_pos (by rfl)]
      go_simp
      refine hK.out _ _ ?_ ?_ ?_
      ·
       exact rfl
      ·
       exact rfl
      ·
       exact fun _ _ _ => ⟨trivial, trivial⟩
     refine FlowAll.cons ?_ ?_
     ·
      intro xF wd hR hd K hK
      have dd3 := hd 3 (by kernel_rfl)
      have dd6 := hd 6 (by kernel_rfl)
      clear hd
      simp only [take_succ_cons, take_zero, fillOf, Act.put, setIfInBounds_toArray, set_cons_zero, set_cons_succ, Nat.reduceAdd, Nat.zero_add] at hK ⊢
      try generalize xF 0 = yy0 at *
      try generalize xF 1 = yy1 at *
      try generalize xF 2 = yy2 at *
      try generalize xF 3 = yy3 at *
      try generalize xF 4 = yy4 at *
      try generalize xF 5 = yy5 at *
      try generalize xF 6 = yy6 at *
      try generalize xF 7 = yy7 at *
      try generalize xF 8 = yy8 at *
      clear xF
      obtain rfl := dd3
      obtain rfl := dd6
      obtain rfl := id hR
      rw [if_pos (by rfl)]
      go_simp
      refine hK.out _ _ ?_ ?_ ?_
      ·
       exact rfl
      ·
       exact rfl
      ·
       exact fun _ _ _ => ⟨trivial, trivial⟩
     refine FlowAll.cons ?_ ?_
     ·
      intro xF wd hR hd K hK
      have dd0 := hd 0 (by kernel_rfl)
      clear hd
      simp only [take_succ_cons, take_zero, fillOf, Act.put, setIfInBounds_toArray, set_cons_zero, set_cons_succ, Nat.reduceAdd, Nat.zero_add] at hK ⊢
      try generalize xF 0 = yy0 at *
      try generalize xF 1 = yy1 at *
      try generalize xF 2 = yy2 at *
      try generalize xF 3 = yy3 at *
      try generalize xF 4 = yy4 at *
      try generalize xF 5 = yy5 at *
      try generalize xF 6 = yy6 at *
      try generalize xF 7 = yy7 at *
      try generalize xF 8 = yy8 at *
      clear xF
      obtain rfl := dd0
      obtain rfl := id hR
      rw [if_pos (by rfl)]
      go_simp
      refine hK.out _ _ ?_ ?_ ?_
      ·
       exact rfl
      ·
       exact rfl
      ·
       exact fun _ _ _ => ⟨trivial, trivial⟩
     exact FlowAll.nil
    intro xF wd hR hF hP
    clear hP
    have dd0 := hF 0 (by omega) (by decide)
    have dd1 := hF 1 (by omega) (by decide)
    have dd2 := hF 2 (by omega) (by decide)
    have dd3 := hF 3 (by omega) (by decide)
    have dd4 := hF 4 (by omega) (by decide)
    have dd5 := hF 5 (by omega) (by decide)
    have dd6 := hF 6 (by omega) (by decide)
    have dd7 := hF 7 (by omega) (by decide)
    have dd8 := hF 8 (by omega) (by decide)
    clear hF
    simp only [take_succ_cons, take_zero, drop_succ_cons, drop_zero, fillOf, Act.put, setIfInBounds_toArray, set_cons_zero, set_cons_succ, Nat.reduceAdd, Nat.zero_add]
    try generalize xF 0 = yy0 at *
    try generalize xF 1 = yy1 at *
    try generalize xF 2 = yy2 at *
    try generalize xF 3 = yy3 at *
    try generalize xF 4 = yy4 at *
    try generalize xF 5 = yy5 at *
    try generalize xF 6 = yy6 at *
    try generalize xF 7 = yy7 at *
    try generalize xF 8 = yy8 at *
    clear xF
    obtain rfl := dd0
    obtain rfl := dd1
    obtain rfl := dd2
    obtain rfl := dd3
    obtain rfl := dd4
    obtain rfl := dd5
    obtain rfl := dd6
    obtain rfl := dd7
    obtain rfl := dd8
    have hRE7 := Lib.hid hR
    clear hR
    obtain rfl := hRE7.out
    have HM : Hid (KAt ((wr.drew).setCell ⟨g5, k, none⟩ (.int .i64 x)) g5 (fun n => if n < (k : Int) + 1 then max (KA n) (KB n) else KA n)) := by
     have h0 := (H5.out.below (below_drewND (Below.refl _ _) 1) (by omega)).put ((k : Int), x) (m := k) rfl hlt
     refine h0.congr fun j hj => ?_
     unfold dm.put1
     by_cases hjk : j = k
     ·
      rw [if_pos (by simp only; omega), if_pos (by omega), hjk, ← HX.out, ← HY.out]; simp only; omega
     ·
      rw [if_neg (by simp only; omega)]
      by_cases hjk2 : j < k
      ·
       simp only [show (j : Int) < (k : Int) by omega, show (j : Int) < (k : Int) + 1 by omega, if_true]
      ·
       simp only [show ¬ (j : Int) < (k : Int) by omega, show ¬ (j : Int) < (k : Int) + 1 by omega, if_false]
    have HM6 : Hid (KAt ((wr.drew).setCell ⟨g5, k, none⟩ (.int .i64 x)) g6 KB) := (H6.out.below (below_drewND (Below.refl _ _) 1) (by omega)).far HNE.out
    have HMJ := Lib.hid (HJ.out.step (Nat.le_refl _) ((below_drewND (Below.refl (w.heap.size + 3) wr) 1).setCell (p := ⟨g5, k, none⟩) hg5 (.int .i64 x)))
    clear hRE7
    go_wp2
    go_roundw
    case rel => exact ⟨k + 1, by go_num, by omega, by push_cast; exact HM.out, HM6.out, HMJ.out, by simp [World.setCell, World.drew]; omega⟩
    case measure => simp [intOf]; omega
  ·
   obtain rfl : k = 16 := by omega
   obtain ⟨KM, hKM⟩ : ∃ K : Int → Int, K = fun n => max (KA n) (KB n) := ⟨_, rfl⟩
   have HKM := Lib.hid hKM
   have HK9 : Hid (KAt wr g5 KM) := H5.out.congr fun j hj => by rw [hKM, if_pos (by omega)]
   have HR9 : Hid (JoinR w.heap.size (.slice a1 n1 c1) (.slice a2 m1 c2) (.slice b1 n2 d1) (.slice b2 m2 d2) w2 wr ∧ KAt wr g5 KM ∧ g5 < wr.heap.size) := ⟨HJ.out, HK9.out, by omega⟩
   have HCN : Hid (∀ (W : World) (g : Nat), Below (w.heap.size + 3) w2 W → W.cell? ⟨g, 0, none⟩ = some (.slice a2 m1 c2) → W.cell? ⟨g, 1, none⟩ = some (.slice b2 m2 d2) → g < W.heap.size →
     Calls Tryz.prog 86 #[.slice (some ⟨g, 0, none⟩) 2 2] W fun e w' => ∃ ao cp, e = .returned (.slice ao (m1 + m2) cp) ∧ w'.ownsRow W.heap.size 51 2 (.slice ao (m1 + m2) cp) (m1 + m2) (dcells (a.2 ++ b.2)) ∧ Below W.heap.size W w') := fun W g hW e0 e1 hg => by
    obtain ⟨y1, y2, ey, _, h2⟩ := HCA.out.next (hA.trans (hW.mono (by omega)))
    simp only [Value.agg.injEq, Array.mk.injEq, List.cons.injEq, and_true] at ey
    obtain ⟨_, rfl⟩ := ey
    obtain ⟨y1, y2, ey, _, h4⟩ := HCB.out.next (hA.trans (hW.mono (by omega)))
    simp only [Value.agg.injEq, Array.mk.injEq, List.cons.injEq, and_true] at ey
    obtain ⟨_, rfl⟩ := ey
    refine (concat_any a.2 b.2 _ _ g W h2 h4 (by rw [← HM1.out]; exact hla) (by rw [← HM2.out]; exact hlb) e0 e1 hg).mono ?_
    rintro e w' ⟨v', rfl, ho, hb⟩
    rw [List.length_append, ← HM1.out, ← HM2.out] at ho
    obtain ⟨ao, cp, rfl⟩ := own_formD ho
    exact ⟨ao, cp, rfl, ho, hb⟩
   clear hKM
   go_wp2_with fail
   refine wp_flow 7 (fun _ => 1000) (fun wz => JoinR w.heap.size (.slice a1 n1 c1) (.slice a2 m1 c2) (.slice b1 n2 d1) (.slice b2 m2 d2) w2 wz ∧ KAt wz g5 KM ∧ g5 < wz.heap.size) (fun _ w w' => (fun (w w' : World) => RowKit.Below w.heap.size w w') w w') (fun kF vF wF => match kF with | 0 => (vF = arrV KM) | 1 => (vF = .pointer (some ⟨w.heap.size, 1, none⟩)) | 2 => (vF = .slice a2 m1 c2) | 3 => (vF = .pointer (some ⟨w.heap.size + 1, 1, none⟩)) | 4 => (vF = .slice b2 m2 d2) | 5 => (∃ g, vF = .slice (some ⟨g, 0, none⟩) 2 2 ∧ g < wF.heap.size ∧ wF.cell? ⟨g, 0, none⟩ = some (.slice a2 m1 c2) ∧ wF.cell? ⟨g, 1, none⟩ = some (.slice b2 m2 d2)) | 6 => (∃ ao cp, vF = .slice ao (m1 + m2) cp ∧ wF.ownsRow (w.heap.size + 3) 51 2 (.slice ao (m1 + m2) cp) (m1 + m2) (dcells (a.2 ++ b.2))) | _ => True) (fun _ _ _ _ => True) (by kernel_rfl) (by kernel_rfl) ?_ ?_ ?_ ?_ ?_
   ·
    exact ⟨HR9.out.1.start, HR9.out.2.1.below (below_drewND (Below.refl _ _) 1) HR9.out.2.2, HR9.out.2.2⟩
   ·
    intro iF wF1 wF2 hR hT; exact ⟨hR.1.step hR.1.size hT, hR.2.1.below hT hR.2.2, by have := hT.size; have := hR.2.2; omega⟩
   ·
    intro kF hkF iF hiF hne hdd hanc hdan vF wF1 wF2 h hT
    rcases (by omega : kF = 0 ∨ kF = 1 ∨ kF = 2 ∨ kF = 3 ∨ kF = 4 ∨ kF = 5 ∨ kF = 6) with rfl | rfl | rfl | rfl | rfl | rfl | rfl
    ·
     have h : (vF = arrV KM) := h
     show (vF = arrV KM)
     have hT : (fun (w w' : World) => RowKit.Below w.heap.size w w') wF1 wF2 := hT
     simp only at hT
     exact h
    ·
     have h : (vF = .pointer (some ⟨w.heap.size, 1, none⟩)) := h
     show (vF = .pointer (some ⟨w.heap.size, 1, none⟩))
     have hT : (fun (w w' : World) => RowKit.Below w.heap.size w w') wF1 wF2 := hT
     simp only at hT
     exact h
    ·
     have h : (vF = .slice a2 m1 c2) := h
     show (vF = .slice a2 m1 c2)
     have hT : (fun (w w' : World) => RowKit.Below w.heap.size w w') wF1 wF2 := hT
     simp only at hT
     exact h
    ·
     have h : (vF = .pointer (some ⟨w.heap.size + 1, 1, none⟩)) := h
     show (vF = .pointer (some ⟨w.heap.size + 1, 1, none⟩))
     have hT : (fun (w w' : World) => RowKit.Below w.heap.size w w') wF1 wF2 := hT
     simp only at hT
     exact h
    ·
     have h : (vF = .slice b2 m2 d2) := h
     show (vF = .slice b2 m2 d2)
     have hT : (fun (w w' : World) => RowKit.Below w.heap.size w w') wF1 wF2 := hT
     simp only at hT
     exact h
    ·
     have h : (∃ g, vF = .slice (some ⟨g, 0, none⟩) 2 2 ∧ g < wF1.heap.size ∧ wF1.cell? ⟨g, 0, none⟩ = some (.slice a2 m1 c2) ∧ wF1.cell? ⟨g, 1, none⟩ = some (.slice b2 m2 d2)) := h
     show (∃ g, vF = .slice (some ⟨g, 0, none⟩) 2 2 ∧ g < wF2.heap.size ∧ wF2.cell? ⟨g, 0, none⟩ = some (.slice a2 m1 c2) ∧ wF2.cell? ⟨g, 1, none⟩ = some (.slice b2 m2 d2))
     have hT : (fun (w w' : World) => RowKit.Below w.heap.size w w') wF1 wF2 := hT
     simp only at hT
     obtain ⟨g, e, h1, h2, h3⟩ := h
     exact ⟨g, e, by have := hT.size; omega, (hT.cell (p := ⟨g, 0, none⟩) h1).trans h2, (hT.cell (p := ⟨g, 1, none⟩) h1).trans h3⟩
    ·
     have h : (∃ ao cp, vF = .slice ao (m1 + m2) cp ∧ wF1.ownsRow (w.heap.size + 3) 51 2 (.slice ao (m1 + m2) cp) (m1 + m2) (dcells (a.2 ++ b.2))) := h
     show (∃ ao cp, vF = .slice ao (m1 + m2) cp ∧ wF2.ownsRow (w.heap.size + 3) 51 2 (.slice ao (m1 + m2) cp) (m1 + m2) (dcells (a.2 ++ b.2)))
     have hT : (fun (w w' : World) => RowKit.Below w.heap.size w w') wF1 wF2 := hT
     simp only at hT
     obtain ⟨ao, cp, e, ho⟩ := h
     exact ⟨ao, cp, e, own_stayD ho hT⟩
   ·
    refine FlowAll.cons ?_ ?_
    ·
     intro xF w9 hR hd K hK
     clear hd
     simp only [take_succ_cons, take_zero, fillOf, Act.put, setIfInBounds_toArray, set_cons_zero, set_cons_succ, Nat.reduceAdd, Nat.zero_add] at hK ⊢
     try generalize xF 0 = yy0 at *
     try generalize xF 1 = yy1 at *
     try generalize xF 2 = yy2 at *
     try generalize xF 3 = yy3 at *
     try generalize xF 4 = yy4 at *
     try generalize xF 5 = yy5 at *
     try generalize xF 6 = yy6 at *
     clear xF
     obtain ⟨⟨r0, r1, r2, r3, hbl, hsz⟩, hkz, hgz⟩ := id hR
     rw [if_pos (by rfl)]
     refine wp_load_mid _ _ rfl g5 0 rfl (arrL KM) _ hR.2.1.range Tryz.underlying94 rfl (by rw [infoArr]; simp [arrL_len]) ?_
     simp only [Act.put, setIfInBounds_toArray, set_cons_zero, set_cons_succ, ← arrV_L]
     refine hK.out _ _ ?_ ?_ ?_
     ·
      exact Below.refl _ _
     ·
      exact rfl
     ·
      exact fun _ _ _ => ⟨trivial, trivial⟩
    refine FlowAll.cons ?_ ?_
    ·
     intro xF w9 hR hd K hK
     clear hd
     simp only [take_succ_cons, take_zero, fillOf, Act.put, setIfInBounds_toArray, set_cons_zero, set_cons_succ, Nat.reduceAdd, Nat.zero_add] at hK ⊢
     try generalize xF 0 = yy0 at *
     try generalize xF 1 = yy1 at *
     try generalize xF 2 = yy2 at *
     try generalize xF 3 = yy3 at *
     try generalize xF 4 = yy4 at *
     try generalize xF 5 = yy5 at *
     try generalize xF 6 = yy6 at *
     clear xF
     obtain ⟨⟨r0, r1, r2, r3, hbl, hsz⟩, hkz, hgz⟩ := id hR
     rw [if_pos (by rfl)]
     go_simp
     refine hK.out _ _ ?_ ?_ ?_
     ·
      exact Below.refl _ _
     ·
      exact rfl
     ·
      exact fun _ _ _ => ⟨trivial, trivial⟩
    refine FlowAll.cons ?_ ?_
    ·
     intro xF w9 hR hd K hK
     have dd1 := hd 1 (by kernel_rfl)
     clear hd
     simp only [take_succ_cons, take_zero, fillOf, Act.put, setIfInBounds_toArray, set_cons_zero, set_cons_succ, Nat.reduceAdd, Nat.zero_add] at hK ⊢
     try generalize xF 0 = yy0 at *
     try generalize xF 1 = yy1 at *
     try generalize xF 2 = yy2 at *
     try generalize xF 3 = yy3 at *
     try generalize xF 4 = yy4 at *
     try generalize xF 5 = yy5 at *
     try generalize xF 6 = yy6 at *
     clear xF
     obtain rfl := dd1
     obtain ⟨⟨r0, r1, r2, r3, hbl, hsz⟩, hkz, hgz⟩ := id hR
     rw [if_pos (by rfl)]
     go_simp
     refine hK.out _ _ ?_ ?_ ?_
     ·
      exact Below.refl _ _
     ·
      exact rfl
     ·
      exact fun _ _ _ => ⟨trivial, trivial⟩
    refine FlowAll.cons ?_ ?_
    ·
     intro xF w9 hR hd K hK
     clear hd
     simp only [take_succ_cons, take_zero, fillOf, Act.put, setIfInBounds_toArray, set_cons_zero, set_cons_succ, Nat.reduceAdd, Nat.zero_add] at hK ⊢
     try generalize xF 0 = yy0 at *
     try generalize xF 1 = yy1 at *
     try generalize xF 2 = yy2 at *
     try generalize xF 3 = yy3 at *
     try generalize xF 4 = yy4 at *
     try generalize xF 5 = yy5 at *
     try generalize xF 6 = yy6 at *
     clear xF
     obtain ⟨⟨r0, r1, r2, r3, hbl, hsz⟩, hkz, hgz⟩ := id hR
     rw [if_pos (by rfl)]
     go_simp
     refine hK.out _ _ ?_ ?_ ?_
     ·
      exact Below.refl _ _
     ·
      exact rfl
     ·
      exact fun _ _ _ => ⟨trivial, trivial⟩
    refine FlowAll.cons ?_ ?_
    ·
     intro xF w9 hR hd K hK
     have dd3 := hd 3 (by kernel_rfl)
     clear hd
     simp only [take_succ_cons, take_zero, fillOf, Act.put, setIfInBounds_toArray, set_cons_zero, set_cons_succ, Nat.reduceAdd, Nat.zero_add] at hK ⊢
     try generalize xF 0 = yy0 at *
     try generalize xF 1 = yy1 at *
     try generalize xF 2 = yy2 at *
     try generalize xF 3 = yy3 at *
     try generalize xF 4 = yy4 at *
     try generalize xF 5 = yy5 at *
     try generalize xF 6 = yy6 at *
     clear xF
     obtain rfl := dd3
     obtain ⟨⟨r0, r1, r2, r3, hbl, hsz⟩, hkz, hgz⟩ := id hR
     rw [if_pos (by rfl)]
     go_simp
     refine hK.out _ _ ?_ ?_ ?_
     ·
      exact Below.refl _ _
     ·
      exact rfl
     ·
      exact fun _ _ _ => ⟨trivial, trivial⟩
    refine FlowAll.cons ?_ ?_
    ·
     intro xF w9 hR hd K hK
     have dd2 := hd 2 (by kernel_rfl)
     have dd4 := hd 4 (by kernel_rfl)
     clear hd
     simp only [take_succ_cons, take_zero, fillOf, Act.put, setIfInBounds_toArray, set_cons_zero, set_cons_succ, Nat.reduceAdd, Nat.zero_add] at hK ⊢
     try generalize xF 0 = yy0 at *
     try generalize xF 1 = yy1 at *
     try generalize xF 2 = yy2 at *
     try generalize xF 3 = yy3 at *
     try generalize xF 4 = yy4 at *
     try generalize xF 5 = yy5 at *
     try generalize xF 6 = yy6 at *
     clear xF
     obtain rfl := dd2
     obtain rfl := dd4
     obtain ⟨⟨r0, r1, r2, r3, hbl, hsz⟩, hkz, hgz⟩ := id hR
     rw [if_pos (by rfl)]
     go_simp
     refine hK.out _ _ ?_ ?_ ?_
     ·
      exact (Below.refl _ _).alloc (Nat.le_refl _) _
     ·
      exact ⟨_, rfl, by simp, World.cell?_alloc_at _ _ _ _ rfl, World.cell?_alloc_at _ _ _ _ rfl⟩
     ·
      exact fun _ _ _ => ⟨trivial, trivial⟩
    refine FlowAll.cons ?_ ?_
    ·
     intro xF w9 hR hd K hK
     have dd5 := hd 5 (by kernel_rfl)
     clear hd
     simp only [take_succ_cons, take_zero, fillOf, Act.put, setIfInBounds_toArray, set_cons_zero, set_cons_succ, Nat.reduceAdd, Nat.zero_add] at hK ⊢
     try generalize xF 0 = yy0 at *
     try generalize xF 1 = yy1 at *
     try generalize xF 2 = yy2 at *
     try generalize xF 3 = yy3 at *
     try generalize xF 4 = yy4 at *
     try generalize xF 5 = yy5 at *
     try generalize xF 6 = yy6 at *
     clear xF
     obtain ⟨g, rfl, hg, e0, e1⟩ := dd5
     obtain ⟨⟨r0, r1, r2, r3, hbl, hsz⟩, hkz, hgz⟩ := id hR
     rw [if_pos (by rfl)]
     go_simp
     (go_at_call 86; (with_reducible refine (HCN.out _ _ hR.1.below e0 e1 hg).mono ?_); rintro e wK ⟨ao, cp, rfl, hown4, hbK⟩)
     try go_wp2_with fail
     refine hK.out _ _ ?_ ?_ ?_
     ·
      exact hbK
     ·
      exact ⟨ao, cp, rfl, own_mono hown4 (by have := hR.1.size; omega)⟩
     ·
      exact fun _ _ _ => ⟨trivial, trivial⟩
    exact FlowAll.nil
   intro xF w9 hR hF hP
   clear hP
   have dd0 := hF 0 (by omega) (by decide)
   have dd1 := hF 1 (by omega) (by decide)
   have dd2 := hF 2 (by omega) (by decide)
   have dd3 := hF 3 (by omega) (by decide)
   have dd4 := hF 4 (by omega) (by decide)
   have dd5 := hF 5 (by omega) (by decide)
   have dd6 := hF 6 (by omega) (by decide)
   clear hF
   simp only [take_succ_cons, take_zero, drop_succ_cons, drop_zero, fillOf, Act.put, setIfInBounds_toArray, set_cons_zero, set_cons_succ, Nat.reduceAdd, Nat.zero_add]
   try generalize xF 0 = yy0 at *
   try generalize xF 1 = yy1 at *
   try generalize xF 2 = yy2 at *
   try generalize xF 3 = yy3 at *
   try generalize xF 4 = yy4 at *
   try generalize xF 5 = yy5 at *
   try generalize xF 6 = yy6 at *
   clear xF
   obtain rfl := dd0
   obtain rfl := dd1
   obtain rfl := dd2
   obtain rfl := dd3
   obtain rfl := dd4
   obtain ⟨g, rfl, hg, e0, e1⟩ := dd5
   obtain ⟨ao, cp, rfl, hown⟩ := dd6
   have hRE9 := Lib.hid hR
   clear hR
   have HLA := Lib.hid (fun (h : w9.ownsRow (w.heap.size + 3) 51 2 (.slice ao (m1 + m2) cp) (m1 + m2) (dcells (a.2 ++ b.2))) => lay_any KM (a.2 ++ b.2) (.slice ao (m1 + m2) cp) (m1 + m2) (w.heap.size + 3) w9 h (by rw [List.length_append, HM1.out, HM2.out]) hRE9.out.1.size (by omega)
    (fun n => by have := HBA.out n; have := HBB.out n; rw [HKM.out]; show 0 ≤ max (KA n) (KB n) ∧ max (KA n) (KB n) ≤ _; omega) (fun e he => by
     rcases List.mem_append.1 he with h | h
     ·
      exact (HRA.out.cok e h).1
     ·
      exact (HRB.out.cok e h).1))
   have HLB := Lib.hid (HLA.out hown)
   have hbl5 := hRE9.out.1.below
   have hz5 := hRE9.out.1.size
   clear hown HLA
   go_wp2_with fail
   (with_reducible refine HLB.out.mono ?_)
   rintro e w6 ⟨v6, L', hp, hu, rfl, hown6, g6'⟩
   have e0 : KM = fun n => max (dm.kn a.1 n) (dm.kn b.1 n) := by
    rw [HKM.out]
    funext n
    rw [HKA.out, HKB.out, dm.upK_kn HRA.out.vup n, dm.upK_kn HRB.out.vup n]
   rw [e0] at hown6
   have HKN := Lib.hid (dm.join_knows HRA.out HRB.out hp hu)
   have HIS : Hid (dm.Is (dm.layF (fun n => max (dm.kn a.1 n) (dm.kn b.1 n)) L') (fun e => dm.Knows a e ∨ dm.Knows b e) (m1 + m2)) := by
    refine ⟨HKN.out.1, HKN.out.2, dm.layF_len1 _ _, ?_⟩
    have h1 := dm.layF_len2 (fun n => max (dm.kn a.1 n) (dm.kn b.1 n)) L'
    have h2 := hp.length_eq
    rw [List.length_append, ← HM1.out, ← HM2.out] at h2
    exact Nat.le_trans h1 (Nat.le_of_eq h2)
   have hbl6 := hbl5.trans g6'
   have x0 := (hbl6.cell (p := ⟨w.heap.size + 2, 0, none⟩) (Nat.lt_succ_self _)).trans HT.out.1
   have x1' := (hbl6.cell (p := ⟨w.heap.size + 2, 1, none⟩) (Nat.lt_succ_self _)).trans HT.out.2.1
   have f0 := (hbl6.frozen (p := ⟨w.heap.size + 2, 0, none⟩) (Nat.lt_succ_self _)).trans HT.out.2.2.1
   have f1 := (hbl6.frozen (p := ⟨w.heap.size + 2, 1, none⟩) (Nat.lt_succ_self _)).trans HT.out.2.2.2
   have hb9 := hA.trans (hbl6.mono (by omega))
   obtain ⟨x1, y1, z1, x2, y2, z2, rfl⟩ := hown6.form
   have HOC := Lib.hid (OwnC.low (B' := w.heap.size) ((hown6.set (a := ⟨w.heap.size + 2, 0, none⟩) (by show w.heap.size + 2 < _; omega) (.slice x1 y1 z1)).set (a := ⟨w.heap.size + 2, 1, none⟩) (by show w.heap.size + 2 < _; omega) (.slice x2 y2 z2)) (Nat.le_trans (Nat.le_add_right _ 3) hRE9.out.1.size))
   have HB9 := Lib.hid ((hb9.setCell (p := ⟨w.heap.size + 2, 0, none⟩) (by show w.heap.size ≤ w.heap.size + 2; omega) (.slice x1 y1 z1)).setCell (p := ⟨w.heap.size + 2, 1, none⟩) (by show w.heap.size ≤ w.heap.size + 2; omega) (.slice x2 y2 z2))
   clear hp hu hown6 g6' hbl6 hb9 hbl5 e0
   go_wp2
   refine bodyPost_ret (v := .agg #[.slice x1 y1 z1, .slice x2 y2 z2]) (by simp [results, Tryz.results45, go_sem, x0, x1']) rfl ?_
   exact ⟨_, _, rfl, HOC.out, HIS.out, HB9.out⟩
end Go.Proofs.YtonknpdalemjkaaGreat
