/- texts put together: OrsAwk. -/
import Derived.Test.YthpdmfkpiekonaaGreatOh29
open List (setIfInBounds_toArray set_cons_zero set_cons_succ take_succ_cons take_zero drop_succ_cons drop_zero)
namespace Go.Proofs.YthpdmfkpiekonaaGreat
open Go Go.RowKit Go.ChangeShapes cl
theorem pairV_kt {T : TypeId} {B : Nat} {l L : List Ent} {A : List Dot} {S S' : Dot → Prop} {v : Value} {w w' : World} (h : PairV (SetV B l S) (ChgV B L A S') v w) (hk : Kt T w w') (h1 : 53 ≠ T) (h2 : 50 ≠ T) : PairV (SetV B l S) (ChgV B L A S') v w' := by
 obtain ⟨s0, s1, e, g1, g2⟩ := h
 exact ⟨s0, s1, e, setV_kt g1 hk h1 h2, chgV_kt g2 hk h1 h2⟩
set_option maxHeartbeats 12800000 in
set_option maxRecDepth 100000 in
theorem awake_any (w : World) (hm : MX w) : Calls Tryz.prog 8 #[] w (Said true w) := by
 have HMX : Hid (∀ W, Below w.heap.size w W → MX W) := fun W hW => MX.next hm hW
 have HNM : Hid (∀ W, Calls Tryz.prog 19 #[] W fun e w' => ∃ b, e = .returned (.slice (some ⟨b, 0, none⟩) 4 4) ∧ Strs w' w'.heap.size (.slice (some ⟨b, 0, none⟩) 4 4) NM ∧ Below W.heap.size W w') := names_any
 have HADD : Hid (∀ W, MX W → Calls Tryz.prog 20 #[.agg #[.slice none 0 0, .slice none 0 0, .slice none 0 0], .agg #[.string (nam 0), .int .i64 1, .int .i64 1, .int .i64 5, .slice none 0 0]] W fun e w' => ∃ v0 v1, e = .returned (.tuple #[v0, v1, .int .i64 0]) ∧ SetV 0 [awX] (fun e => e = awX.d) v0 w' ∧ ChgV 0 [awX] [awX.d] (fun e => e = awX.d) v1 w' ∧ Below W.heap.size W w') := fun W h => aw_add W h
 have HREM1 : Hid (∀ W, MX W → Calls Tryz.prog 21 #[.agg #[.slice none 0 0, .slice none 0 0, .slice none 0 0], .string (nam 0), .agg #[.int .i64 2, .int .i64 1]] W fun e w' => e = .returned (.tuple #[.agg #[.slice none 0 0, .slice none 0 0, .slice none 0 0], .agg #[.slice none 0 0, .slice none 0 0, .slice none 0 0, .slice none 0 0]]) ∧ Below W.heap.size W w') := fun W h => aw_rem1 W h
 clear hm
 go_enter Tryz.func8, Tryz.ntmps8
 go_wp2_with fail
 (with_reducible refine (HNM.out _).mono ?_)
 rintro e w1 ⟨bN, rfl, hs, hb1⟩
 have n0 := names_cell hs 0 (by decide)
 have HB1 := Lib.hid hb1
 clear hs hb1
 go_wp2_with fail
 (with_reducible refine (HADD.out _ (HMX.out _ HB1.out)).mono ?_)
 rintro e w2 ⟨v0, v1, rfl, hv0, hv1, hb2⟩
 have HX2 := Lib.hid hv0
 have HD2 := Lib.hid hv1
 obtain ⟨p0, q0, r0, p1, q1, r1, p2, q2, r2, cs, rfl, -, -, -⟩ := hv0
 obtain ⟨p3, q3, r3, p4, q4, r4, p5, q5, r5, p6, q6, r6, cd, rfl, -, -, -, -⟩ := hv1
 obtain ⟨b1, hb1e⟩ : ∃ b, b = w2.heap.size := ⟨_, rfl⟩
 obtain ⟨b2, hb2e⟩ : ∃ b, b = w2.heap.size + 1 := ⟨_, rfl⟩
 obtain ⟨w3, hw3⟩ : ∃ W, W = (w2.alloc (.cells #[.slice p0 q0 r0, .slice p1 q1 r1, .slice p2 q2 r2] 27)).alloc (.cells #[.slice p3 q3 r3, .slice p4 q4 r4, .slice p5 q5 r5, .slice p6 q6 r6] 29) := ⟨_, rfl⟩
 have g1 : Below w2.heap.size w2 (w2.alloc (.cells #[.slice p0 q0 r0, .slice p1 q1 r1, .slice p2 q2 r2] 27)) := below1
 have g2 : Below (w2.alloc (.cells #[.slice p0 q0 r0, .slice p1 q1 r1, .slice p2 q2 r2] 27)).heap.size (w2.alloc (.cells #[.slice p0 q0 r0, .slice p1 q1 r1, .slice p2 q2 r2] 27)) w3 := by rw [hw3]; exact below1
 have g3 : Below w2.heap.size w2 w3 := g1.trans (g2.mono g1.size)
 have x1 : w3.heap[b1]? = some (.cells #[.slice p0 q0 r0, .slice p1 q1 r1, .slice p2 q2 r2] 27 (0, 0)) := (g2.block _ (by rw [World.size_alloc]; omega)).trans (by rw [hb1e]; exact heap_alloc_new w2 _)
 have x2 : w3.heap[b2]? = some (.cells #[.slice p3 q3 r3, .slice p4 q4 r4, .slice p5 q5 r5, .slice p6 q6 r6] 29 (0, 0)) := by rw [hw3, hb2e, ← World.size_alloc w2 (.cells #[.slice p0 q0 r0, .slice p1 q1 r1, .slice p2 q2 r2] 27)]; exact heap_alloc_new _ _
 have HB3 := Lib.hid ((HB1.out.trans (hb2.mono HB1.out.size)).trans (g3.mono (HB1.out.trans (hb2.mono HB1.out.size)).size))
 have X1 := Lib.hid x1
 have X2 := Lib.hid x2
 have HX3 := Lib.hid ((setV_kept _ _ _).on HX2.out g3)
 have HD3 := Lib.hid ((chgV_kept _ _ _ _).on HD2.out g3)
 have HW3 := Lib.hid hw3
 have HE1 := Lib.hid hb1e
 have HE2 := Lib.hid hb2e
 clear hb2 hb1e hb2e hw3 g1 g2 g3 x1 x2 n0
 go_wp2_with fail
 rw [← HW3.out, ← HE2.out, ← HE1.out]
 (with_reducible refine (HNM.out _).mono ?_)
 rintro e v1 ⟨bM, rfl, hs, hb1⟩
 have n0 := names_cell hs 0 (by decide)
 have HB4 := Lib.hid (HB3.out.trans (hb1.mono HB3.out.size))
 have HC4 := Lib.hid hb1
 clear hs hb1
 go_wp2_with fail
 (with_reducible refine (HREM1.out _ (HMX.out _ HB4.out)).mono ?_)
 rintro e v2 ⟨rfl, hb2⟩
 obtain ⟨b4, hb1e⟩ : ∃ b, b = v2.heap.size := ⟨_, rfl⟩
 obtain ⟨b5, hb2e⟩ : ∃ b, b = v2.heap.size + 1 := ⟨_, rfl⟩
 obtain ⟨w4, hw4⟩ : ∃ W, W = (v2.alloc (.cells #[.slice none 0 0, .slice none 0 0, .slice none 0 0] 27)).alloc (.cells #[.slice none 0 0, .slice none 0 0, .slice none 0 0, .slice none 0 0] 29) := ⟨_, rfl⟩
 have g1 : Below v2.heap.size v2 (v2.alloc (.cells #[.slice none 0 0, .slice none 0 0, .slice none 0 0] 27)) := below1
 have g2 : Below (v2.alloc (.cells #[.slice none 0 0, .slice none 0 0, .slice none 0 0] 27)).heap.size (v2.alloc (.cells #[.slice none 0 0, .slice none 0 0, .slice none 0 0] 27)) w4 := by rw [hw4]; exact below1
 have g3 : Below v2.heap.size v2 w4 := g1.trans (g2.mono g1.size)
 have x5 : w4.heap[b5]? = some (.cells #[.slice none 0 0, .slice none 0 0, .slice none 0 0, .slice none 0 0] 29 (0, 0)) := by rw [hw4, hb2e, ← World.size_alloc v2 (.cells #[.slice none 0 0, .slice none 0 0, .slice none 0 0] 27)]; exact heap_alloc_new _ _
 have hc : Below w3.heap.size w3 w4 := (HC4.out.trans (hb2.mono HC4.out.size)).trans (g3.mono (HC4.out.trans (hb2.mono HC4.out.size)).size)
 have HB5 := Lib.hid (HB3.out.trans (hc.mono HB3.out.size))
 have RX : Hid (∀ ww, Below w4.heap.size w4 ww → ww.heap[b5]? = some (.cells #[.slice none 0 0, .slice none 0 0, .slice none 0 0, .slice none 0 0] 29 (0, 0))) := fun ww hw => (hw.block _ (lt_of_block x5)).trans x5
 have RS : Hid (∀ ww, Below w4.heap.size w4 ww → ww.heap[b1]? = some (.cells #[.slice p0 q0 r0, .slice p1 q1 r1, .slice p2 q2 r2] 27 (0, 0))) := fun ww hw => (hw.block _ (Nat.lt_of_lt_of_le (lt_of_block X1.out) hc.size)).trans ((hc.block _ (lt_of_block X1.out)).trans X1.out)
 have RD : Hid (∀ ww, Below w4.heap.size w4 ww → ww.heap[b2]? = some (.cells #[.slice p3 q3 r3, .slice p4 q4 r4, .slice p5 q5 r5, .slice p6 q6 r6] 29 (0, 0))) := fun ww hw => (hw.block _ (Nat.lt_of_lt_of_le (lt_of_block X2.out) hc.size)).trans ((hc.block _ (lt_of_block X2.out)).trans X2.out)
 have HX4 : Hid (∀ ww, Below w4.heap.size w4 ww → SetV 0 [awX] (fun e => e = awX.d) (.agg #[.slice p0 q0 r0, .slice p1 q1 r1, .slice p2 q2 r2]) ww) := fun ww hw => (setV_kept _ _ _).on ((setV_kept _ _ _).on HX3.out hc) hw
 have HD4 : Hid (∀ ww, Below w4.heap.size w4 ww → ChgV 0 [awX] [awX.d] (fun e => e = awX.d) (.agg #[.slice p3 q3 r3, .slice p4 q4 r4, .slice p5 q5 r5, .slice p6 q6 r6]) ww) := fun ww hw => (chgV_kept _ _ _ _).on ((chgV_kept _ _ _ _).on HD3.out hc) hw
 have HAP1 : Hid (∀ W, Below w4.heap.size w4 W → Calls Tryz.prog 9 #[.agg #[.slice none 0 0, .slice none 0 0, .slice none 0 0], .agg #[.slice none 0 0, .slice none 0 0, .slice none 0 0, .slice none 0 0]] W fun e w' => ∃ v, e = .returned v ∧ SetV 0 [] (fun _ => False) v w' ∧ Below W.heap.size W w') := fun W hW => aw_ap1 W (HMX.out _ (HB5.out.trans (hW.mono HB5.out.size)))
 have HAP2 : Hid (∀ W v, Below w4.heap.size w4 W → SetV 0 [] (fun _ => False) v W → Calls Tryz.prog 9 #[v, .agg #[.slice p3 q3 r3, .slice p4 q4 r4, .slice p5 q5 r5, .slice p6 q6 r6]] W fun e w' => ∃ v', e = .returned v' ∧ SetV 0 [awX] (fun e => e = awX.d) v' w' ∧ Below W.heap.size W w') := fun W v hW hv => aw_ap2 v _ W hv (HD4.out _ hW) (HMX.out _ (HB5.out.trans (hW.mono HB5.out.size)))
 have HW4 := Lib.hid hw4
 have HE4 := Lib.hid hb1e
 have HE5 := Lib.hid hb2e
 clear hb2 hb1e hb2e hw4 g1 g2 g3 x5 hc n0
 go_wp2_with fail
 rw [← HW4.out, ← HE5.out, ← HE4.out]
 refine wp_flow 6 (fun _ => 1000) (fun ww => RowKit.Below w4.heap.size w4 ww) (fun _ w w' => (fun (w w' : World) => RowKit.Below w.heap.size w w') w w') (fun kF vF wF => match kF with | 0 => (vF = .agg #[.slice none 0 0, .slice none 0 0, .slice none 0 0]) | 1 => (vF = .agg #[.slice none 0 0, .slice none 0 0, .slice none 0 0, .slice none 0 0]) | 2 => (SetV 0 [] (fun _ => False) vF wF) | 3 => (vF = .agg #[.slice p3 q3 r3, .slice p4 q4 r4, .slice p5 q5 r5, .slice p6 q6 r6]) | 4 => (SetV 0 [awX] (fun e => e = awX.d) vF wF) | 5 => (∃ g, vF = .pointer (some ⟨g, 0, none⟩) ∧ wF.heap[g]? = some (.cells #[.slice none 0 0, .slice none 0 0, .slice none 0 0] 27 (0, 0)) ∧ w4.heap.size ≤ g) | _ => True) (fun _ _ _ _ => True) (by kernel_rfl) (by kernel_rfl) ?_ ?_ ?_ ?_ ?_
 ·
  exact (Below.refl _ _).drew
 ·
  intro iF wF1 wF2 hR hT; exact hR.trans (hT.mono hR.size)
 ·
  intro kF hkF iF hiF hne hdd hanc hdan vF wF1 wF2 h hT
  rcases (by omega : kF = 0 ∨ kF = 1 ∨ kF = 2 ∨ kF = 3 ∨ kF = 4 ∨ kF = 5) with rfl | rfl | rfl | rfl | rfl | rfl
  iterate 2 exact h
  ·
   have h : (SetV 0 [] (fun _ => False) vF wF1) := h
   show (SetV 0 [] (fun _ => False) vF wF2)
   have hT : (fun (w w' : World) => RowKit.Below w.heap.size w w') wF1 wF2 := hT
   simp only at hT
   exact (setV_kept _ _ _).on h hT
  ·
   exact h
  ·
   have h : (SetV 0 [awX] (fun e => e = awX.d) vF wF1) := h
   show (SetV 0 [awX] (fun e => e = awX.d) vF wF2)
   have hT : (fun (w w' : World) => RowKit.Below w.heap.size w w') wF1 wF2 := hT
   simp only at hT
   exact (setV_kept _ _ _).on h hT
  ·
   have h : (∃ g, vF = .pointer (some ⟨g, 0, none⟩) ∧ wF1.heap[g]? = some (.cells #[.slice none 0 0, .slice none 0 0, .slice none 0 0] 27 (0, 0)) ∧ w4.heap.size ≤ g) := h
   show (∃ g, vF = .pointer (some ⟨g, 0, none⟩) ∧ wF2.heap[g]? = some (.cells #[.slice none 0 0, .slice none 0 0, .slice none 0 0] 27 (0, 0)) ∧ w4.heap.size ≤ g)
   have hT : (fun (w w' : World) => RowKit.Below w.heap.size w w') wF1 wF2 := hT
   simp only at hT
   obtain ⟨g, e, h1, h2⟩ := h
   exact ⟨g, e, (hT.block _ (lt_of_block h1)).trans h1, h2⟩
 ·
  generalize hAF : fillOf _ _ _ = AF
  replace hAF := fun x => congrFun hAF x
  simp only [take_succ_cons, take_zero, fillOf, Act.put, setIfInBounds_toArray, set_cons_zero, set_cons_succ, Nat.reduceAdd, Nat.zero_add] at hAF
  refine .cons ?_ (.cons ?_ (.cons ?_ (.cons ?_ (.cons ?_ (.cons ?_ (.nil))))))
  all_goals
   intro xF w5 hR hd K hK
   first | simp only [← hAF, Act.put, setIfInBounds_toArray, set_cons_zero, set_cons_succ] at hK ⊢ | simp only [← hAF, Act.put] at hK ⊢
   clear hAF
   try simp only [Nat.zero_add, Nat.reduceAdd] at hK ⊢
  ·
   clear hd
   rw [if_pos (by rfl)]
   go_simp
   exact hK.out _ _ (Below.refl _ _) (rfl) (fun _ _ _ => ⟨trivial, trivial⟩)
  ·
   clear hd
   have e0 := boxc (RX.out _ hR) 0 _ rfl
   have e1 := boxc (RX.out _ hR) 1 _ rfl
   have e2 := boxc (RX.out _ hR) 2 _ rfl
   have e3 := boxc (RX.out _ hR) 3 _ rfl
   rw [if_pos (by rfl)]
   go_simp
   exact hK.out _ _ (Below.refl _ _) (rfl) (fun _ _ _ => ⟨trivial, trivial⟩)
  ·
   have dd0 := hd 0 (by kernel_rfl)
   have dd1 := hd 1 (by kernel_rfl)
   clear hd
   try generalize xF 0 = yy0 at *
   try generalize xF 1 = yy1 at *
   obtain rfl := dd0
   obtain rfl := dd1
   rw [if_pos (by rfl)]
   go_simp
   (go_at_call 9; (with_reducible refine (HAP1.out _ hR).mono ?_); rintro e wK ⟨vK, rfl, hpK, hbK⟩)
   try go_wp2_with fail
   exact hK.out _ _ (hbK) (hpK) (fun _ _ _ => ⟨trivial, trivial⟩)
  ·
   clear hd
   have e0 := boxc (RD.out _ hR) 0 _ rfl
   have e1 := boxc (RD.out _ hR) 1 _ rfl
   have e2 := boxc (RD.out _ hR) 2 _ rfl
   have e3 := boxc (RD.out _ hR) 3 _ rfl
   rw [if_pos (by rfl)]
   go_simp
   exact hK.out _ _ (Below.refl _ _) (rfl) (fun _ _ _ => ⟨trivial, trivial⟩)
  ·
   have dd2 : (SetV 0 [] (fun _ => False) (xF 2) w5) := hd 2 (by kernel_rfl)
   have dd3 := hd 3 (by kernel_rfl)
   clear hd
   try generalize xF 2 = yy2 at *
   try generalize xF 3 = yy3 at *
   have hp2 := dd2
   obtain rfl := dd3
   rw [if_pos (by rfl)]
   go_simp
   (go_at_call 9; (with_reducible refine (HAP2.out _ _ hR hp2).mono ?_); rintro e wK ⟨vK, rfl, hpK, hbK⟩)
   try go_wp2_with fail
   exact hK.out _ _ (hbK) (hpK) (fun _ _ _ => ⟨trivial, trivial⟩)
  ·
   clear hd
   rw [if_pos (by rfl)]
   go_simp
   exact hK.out _ _ (below1) (⟨_, rfl, heap_alloc_new _ _, hR.size⟩) (fun _ _ _ => ⟨trivial, trivial⟩)
 intro xF w5 hR hF hP
 clear hP
 have dd0 := hF 0 (by omega) (by decide)
 have dd1 := hF 1 (by omega) (by decide)
 have dd2 : (SetV 0 [] (fun _ => False) (xF 2) w5) := hF 2 (by omega) (by decide)
 have dd3 := hF 3 (by omega) (by decide)
 have dd4 : (SetV 0 [awX] (fun e => e = awX.d) (xF 4) w5) := hF 4 (by omega) (by decide)
 have dd5 := hF 5 (by omega) (by decide)
 clear hF
 simp only [take_succ_cons, take_zero, drop_succ_cons, drop_zero, fillOf, Act.put, setIfInBounds_toArray, set_cons_zero, set_cons_succ, Nat.reduceAdd, Nat.zero_add]
 try generalize xF 0 = yy0 at *
 try generalize xF 1 = yy1 at *
 try generalize xF 2 = yy2 at *
 try generalize xF 3 = yy3 at *
 try generalize xF 4 = yy4 at *
 try generalize xF 5 = yy5 at *
 clear xF
 obtain rfl := dd0
 obtain rfl := dd1
 have hp2 := dd2
 obtain rfl := dd3
 have hp4 := dd4
 obtain ⟨b6, rfl, hg6, hl6⟩ := dd5
 have hRE := Lib.hid hR
 clear hR
 obtain ⟨a0, n0, c0, a1, n1, c1, a2, n2, c2, cc, rfl, hE, hC, hI⟩ := hp4
 have hT5 : SetV 0 [awX] (fun e => e = awX.d) (.agg #[.slice a0 n0 c0, .slice a1 n1 c1, .slice a2 n2 c2]) w5 := ⟨_, _, _, _, _, _, _, _, _, cc, rfl, hE, hC, hI⟩
 obtain ⟨w6, hw6⟩ : ∃ W, W = ((w5.setCell ⟨b6, 0, none⟩ (.slice a0 n0 c0)).setCell ⟨b6, 1, none⟩ (.slice a1 n1 c1)).setCell ⟨b6, 2, none⟩ (.slice a2 n2 c2) := ⟨_, rfl⟩
 have k0 := boxc hg6 0 _ rfl
 have k1 := boxc hg6 1 _ rfl
 have k2 := boxc hg6 2 _ rfl
 have f0 := boxf hg6 0
 have f1 := boxf hg6 1
 have f2 := boxf hg6 2
 have hb46 : Below w4.heap.size w4 w6 := by rw [hw6]; exact ((hRE.setCell hl6 _).setCell hl6 _).setCell hl6 _
 have hT6 : SetV 0 [awX] (fun e => e = awX.d) (.agg #[.slice a0 n0 c0, .slice a1 n1 c1, .slice a2 n2 c2]) w6 := by rw [hw6]; exact setV_kt hT5 (set3_kt hg6 _ _ _) (by decide) (by decide)
 have x6 : w6.heap[b6]? = some (.cells #[.slice a0 n0 c0, .slice a1 n1 c1, .slice a2 n2 c2] 27 (0, 0)) := by rw [hw6]; exact heap_setCell_same _ b6 2 _ _ _ (heap_setCell_same _ b6 1 _ _ _ (heap_setCell_same _ b6 0 _ _ _ hg6))
 have HB46 := Lib.hid hb46
 have HT6 := Lib.hid hT6
 have X6 := Lib.hid x6
 have HB6 := Lib.hid (HB5.out.trans (hb46.mono HB5.out.size))
 have RS6 : Hid (∀ ww, Below w6.heap.size w6 ww → ww.heap[b1]? = some (.cells #[.slice p0 q0 r0, .slice p1 q1 r1, .slice p2 q2 r2] 27 (0, 0))) := fun ww hw => RS.out ww (HB46.out.trans (hw.mono HB46.out.size))
 have HX6 : Hid (∀ ww, Below w6.heap.size w6 ww → SetV 0 [awX] (fun e => e = awX.d) (.agg #[.slice p0 q0 r0, .slice p1 q1 r1, .slice p2 q2 r2]) ww) := fun ww hw => HX4.out ww (HB46.out.trans (hw.mono HB46.out.size))
 have HREM2 : Hid (∀ W v, Below w6.heap.size w6 W → SetV 0 [awX] (fun e => e = awX.d) v W → Calls Tryz.prog 21 #[v, .string (nam 0), .agg #[.int .i64 1, .int .i64 2]] W fun e w' => ∃ v0 v1, e = .returned (.tuple #[v0, v1]) ∧ SetV 0 [] awS v0 w' ∧ ChgV 0 [] [] awS v1 w' ∧ Below W.heap.size W w') := fun W v hW hv => aw_rem2 v W hv (HMX.out _ (HB6.out.trans (hW.mono HB6.out.size)))
 have HW6 := Lib.hid hw6
 clear hT5 hw6 hb46 hT6 x6 hg6 hl6 hE hC hI hRE
 go_wp2_with fail
 rw [← HW6.out]
 clear k0 k1 k2 f0 f1 f2
 refine wp_flowH 13 (fun kF => match kF with | 1 => 2 | 2 => 3 | 7 => 11 | 8 => 12 | 9 => 11 | 10 => 12 | _ => 1000) (fun ww => RowKit.Below w6.heap.size w6 ww) (fun i w w' => if i = 12 then (fun (w w' : World) => Kt 29 w w' ∧ ∃ g, w.grownBy w' (some g) ∧ w6.heap.size ≤ g) w w' else if i = 11 then (fun (w w' : World) => Kt 27 w w' ∧ ∃ g, w.grownBy w' (some g) ∧ w6.heap.size ≤ g) w w' else (fun (w w' : World) => RowKit.Below w.heap.size w w') w w') (fun sF wF => match sF with  | _ => True) (fun kF vF wF => match kF with | 0 => (vF = .agg #[.slice p0 q0 r0, .slice p1 q1 r1, .slice p2 q2 r2]) | 1 => (∃ b, vF = .slice (some ⟨b, 0, none⟩) 4 4 ∧ Strs wF wF.heap.size (.slice (some ⟨b, 0, none⟩) 4 4) NM) | 2 => (∃ b, vF = .pointer (some ⟨b, 0, none⟩) ∧ b < wF.heap.size ∧ wF.cell? ⟨b, 0, none⟩ = some (.string (nam 0))) | 3 => (vF = .string (nam 0)) | 4 => (vF = .agg #[.int .i64 1, .int .i64 2]) | 5 => (PairV (SetV 0 [] awS) (ChgV 0 [] [] awS) vF wF) | 6 => (PairV (SetV 0 [] awS) (ChgV 0 [] [] awS) vF wF) | 7 => (SetV 0 [] awS vF wF) | 8 => (ChgV 0 [] [] awS vF wF) | 9 => (∃ g, vF = .pointer (some ⟨g, 0, none⟩) ∧ wF.heap[g]? = some (.cells #[.slice none 0 0, .slice none 0 0, .slice none 0 0] 27 (0, 0)) ∧ w6.heap.size ≤ g) | 10 => (∃ g, vF = .pointer (some ⟨g, 0, none⟩) ∧ wF.heap[g]? = some (.cells #[.slice none 0 0, .slice none 0 0, .slice none 0 0, .slice none 0 0] 29 (0, 0)) ∧ w6.heap.size ≤ g) | 11 => (True) | 12 => (True) | _ => True) (fun _ _ _ _ => True) (fun kF jF vF uF wF => if kF = 11 ∧ jF = 9 then (BoxA 0 w6.heap.size [] awS uF wF) else if kF = 12 ∧ jF = 10 then (BoxB 0 w6.heap.size [] [] awS uF wF) else True) (by kernel_rfl) (by kernel_rfl) ?_ ?_ ?_ ?_ ?_ ?_ ?_ ?_
 ·
  exact (Below.refl _ _).drew
 ·
  intro sF hsF
  rcases (by omega : sF = 0 ∨ sF = 1 ∨ sF = 2 ∨ sF = 3 ∨ sF = 4 ∨ sF = 5 ∨ sF = 6 ∨ sF = 7 ∨ sF = 8 ∨ sF = 9 ∨ sF = 10 ∨ sF = 11 ∨ sF = 12) with rfl | rfl | rfl | rfl | rfl | rfl | rfl | rfl | rfl | rfl | rfl | rfl | rfl
  iterate 13 exact trivial
 ·
  intro iF wF1 wF2 hR hT
  have hT : (fun i w w' => if i = 12 then (fun (w w' : World) => Kt 29 w w' ∧ ∃ g, w.grownBy w' (some g) ∧ w6.heap.size ≤ g) w w' else if i = 11 then (fun (w w' : World) => Kt 27 w w' ∧ ∃ g, w.grownBy w' (some g) ∧ w6.heap.size ≤ g) w w' else (fun (w w' : World) => RowKit.Below w.heap.size w w') w w') iF wF1 wF2 := hT
  simp only at hT
  by_cases hi12 : iF = 12
  ·
   rw [if_pos hi12] at hT; (obtain ⟨_, g, hg, hl⟩ := hT; exact hR.grown hg hR.size (fun j hj => by cases hj; exact hl))
  rw [if_neg hi12] at hT
  by_cases hi11 : iF = 11
  ·
   rw [if_pos hi11] at hT; (obtain ⟨_, g, hg, hl⟩ := hT; exact hR.grown hg hR.size (fun j hj => by cases hj; exact hl))
  rw [if_neg hi11] at hT
  exact hR.trans (hT.mono hR.size)
 ·
  intro sF hsF iF hiF hne hanc wF1 wF2 hRF hgF hT
  rcases (by omega : sF = 0 ∨ sF = 1 ∨ sF = 2 ∨ sF = 3 ∨ sF = 4 ∨ sF = 5 ∨ sF = 6 ∨ sF = 7 ∨ sF = 8 ∨ sF = 9 ∨ sF = 10 ∨ sF = 11 ∨ sF = 12) with rfl | rfl | rfl | rfl | rfl | rfl | rfl | rfl | rfl | rfl | rfl | rfl | rfl
  iterate 13 exact trivial
 ·
  intro iF hiF jF hjF kF hkF hne hanc uF vF wF1 wF2 hp hT
  by_cases hij : iF = 11 ∧ jF = 9
  ·
   rw [if_pos hij] at hp ⊢
   obtain ⟨rfl, rfl⟩ := hij
   have hT : (fun i w w' => if i = 12 then (fun (w w' : World) => Kt 29 w w' ∧ ∃ g, w.grownBy w' (some g) ∧ w6.heap.size ≤ g) w w' else if i = 11 then (fun (w w' : World) => Kt 27 w w' ∧ ∃ g, w.grownBy w' (some g) ∧ w6.heap.size ≤ g) w w' else (fun (w w' : World) => RowKit.Below w.heap.size w w') w w') kF wF1 wF2 := hT
   simp only at hT
   by_cases hi12 : kF = 12
   ·
    rw [if_pos hi12] at hT
    exact hp.kt hT.1 (by decide) (by decide) (by decide)
   rw [if_neg hi12] at hT
   by_cases hi11 : kF = 11
   ·
    exact absurd hi11 hne
   rw [if_neg hi11] at hT
   exact hp.on hT
  have hij0 := hij
  clear hij
  by_cases hij : iF = 12 ∧ jF = 10
  ·
   rw [if_neg (fun hh => by obtain ⟨h1, h2⟩ := hh; obtain ⟨h3, h4⟩ := hij; omega)] at hp ⊢; rw [if_pos hij] at hp ⊢
   obtain ⟨rfl, rfl⟩ := hij
   have hT : (fun i w w' => if i = 12 then (fun (w w' : World) => Kt 29 w w' ∧ ∃ g, w.grownBy w' (some g) ∧ w6.heap.size ≤ g) w w' else if i = 11 then (fun (w w' : World) => Kt 27 w w' ∧ ∃ g, w.grownBy w' (some g) ∧ w6.heap.size ≤ g) w w' else (fun (w w' : World) => RowKit.Below w.heap.size w w') w w') kF wF1 wF2 := hT
   simp only at hT
   by_cases hi12 : kF = 12
   ·
    exact absurd hi12 hne
   rw [if_neg hi12] at hT
   by_cases hi11 : kF = 11
   ·
    rw [if_pos hi11] at hT
    exact hp.kt hT.1 (by decide) (by decide) (by decide)
   rw [if_neg hi11] at hT
   exact hp.on hT
  have hij1 := hij
  clear hij
  ·
   rw [if_neg hij0]; rw [if_neg hij1]; trivial
 ·
  intro kF hkF iF hiF hne hdd hanc hdan vF wF1 wF2 h hT
  rcases (by omega : kF = 0 ∨ kF = 1 ∨ kF = 2 ∨ kF = 3 ∨ kF = 4 ∨ kF = 5 ∨ kF = 6 ∨ kF = 7 ∨ kF = 8 ∨ kF = 9 ∨ kF = 10 ∨ kF = 11 ∨ kF = 12) with rfl | rfl | rfl | rfl | rfl | rfl | rfl | rfl | rfl | rfl | rfl | rfl | rfl
  ·
   exact h
  ·
   have h : (∃ b, vF = .slice (some ⟨b, 0, none⟩) 4 4 ∧ Strs wF1 wF1.heap.size (.slice (some ⟨b, 0, none⟩) 4 4) NM) := h
   show (∃ b, vF = .slice (some ⟨b, 0, none⟩) 4 4 ∧ Strs wF2 wF2.heap.size (.slice (some ⟨b, 0, none⟩) 4 4) NM)
   have hT : (fun i w w' => if i = 12 then (fun (w w' : World) => Kt 29 w w' ∧ ∃ g, w.grownBy w' (some g) ∧ w6.heap.size ≤ g) w w' else if i = 11 then (fun (w w' : World) => Kt 27 w w' ∧ ∃ g, w.grownBy w' (some g) ∧ w6.heap.size ≤ g) w w' else (fun (w w' : World) => RowKit.Below w.heap.size w w') w w') iF wF1 wF2 := hT
   simp only at hT
   by_cases hi12 : iF = 12
   ·
    subst hi12; exact (anc_no hdan (by kernel_rfl)).elim
   rw [if_neg hi12] at hT
   by_cases hi11 : iF = 11
   ·
    subst hi11; exact (anc_no hdan (by kernel_rfl)).elim
   rw [if_neg hi11] at hT
   obtain ⟨b, e, h1⟩ := h
   exact ⟨b, e, Cells.next h1 hT⟩
  ·
   have h : (∃ b, vF = .pointer (some ⟨b, 0, none⟩) ∧ b < wF1.heap.size ∧ wF1.cell? ⟨b, 0, none⟩ = some (.string (nam 0))) := h
   show (∃ b, vF = .pointer (some ⟨b, 0, none⟩) ∧ b < wF2.heap.size ∧ wF2.cell? ⟨b, 0, none⟩ = some (.string (nam 0)))
   have hT : (fun i w w' => if i = 12 then (fun (w w' : World) => Kt 29 w w' ∧ ∃ g, w.grownBy w' (some g) ∧ w6.heap.size ≤ g) w w' else if i = 11 then (fun (w w' : World) => Kt 27 w w' ∧ ∃ g, w.grownBy w' (some g) ∧ w6.heap.size ≤ g) w w' else (fun (w w' : World) => RowKit.Below w.heap.size w w') w w') iF wF1 wF2 := hT
   simp only at hT
   by_cases hi12 : iF = 12
   ·
    subst hi12; exact (anc_no hdan (by kernel_rfl)).elim
   rw [if_neg hi12] at hT
   by_cases hi11 : iF = 11
   ·
    subst hi11; exact (anc_no hdan (by kernel_rfl)).elim
   rw [if_neg hi11] at hT
   obtain ⟨b, e, h1, h2⟩ := h
   exact ⟨b, e, Nat.lt_of_lt_of_le h1 hT.size, (hT.cell (p := ⟨b, 0, none⟩) h1).trans h2⟩
  iterate 2 exact h
  ·
   have h : (PairV (SetV 0 [] awS) (ChgV 0 [] [] awS) vF wF1) := h
   show (PairV (SetV 0 [] awS) (ChgV 0 [] [] awS) vF wF2)
   have hT : (fun i w w' => if i = 12 then (fun (w w' : World) => Kt 29 w w' ∧ ∃ g, w.grownBy w' (some g) ∧ w6.heap.size ≤ g) w w' else if i = 11 then (fun (w w' : World) => Kt 27 w w' ∧ ∃ g, w.grownBy w' (some g) ∧ w6.heap.size ≤ g) w w' else (fun (w w' : World) => RowKit.Below w.heap.size w w') w w') iF wF1 wF2 := hT
   simp only at hT
   by_cases hi12 : iF = 12
   ·
    rw [if_pos hi12] at hT
    exact pairV_kt h hT.1 (by decide) (by decide)
   rw [if_neg hi12] at hT
   by_cases hi11 : iF = 11
   ·
    rw [if_pos hi11] at hT
    exact pairV_kt h hT.1 (by decide) (by decide)
   rw [if_neg hi11] at hT
   exact (pair_kept (setV_kept _ _ _) (chgV_kept _ _ _ _)).on h hT
  ·
   have h : (PairV (SetV 0 [] awS) (ChgV 0 [] [] awS) vF wF1) := h
   show (PairV (SetV 0 [] awS) (ChgV 0 [] [] awS) vF wF2)
   have hT : (fun i w w' => if i = 12 then (fun (w w' : World) => Kt 29 w w' ∧ ∃ g, w.grownBy w' (some g) ∧ w6.heap.size ≤ g) w w' else if i = 11 then (fun (w w' : World) => Kt 27 w w' ∧ ∃ g, w.grownBy w' (some g) ∧ w6.heap.size ≤ g) w w' else (fun (w w' : World) => RowKit.Below w.heap.size w w') w w') iF wF1 wF2 := hT
   simp only at hT
   by_cases hi12 : iF = 12
   ·
    rw [if_pos hi12] at hT
    exact pairV_kt h hT.1 (by decide) (by decide)
   rw [if_neg hi12] at hT
   by_cases hi11 : iF = 11
   ·
    rw [if_pos hi11] at hT
    exact pairV_kt h hT.1 (by decide) (by decide)
   rw [if_neg hi11] at hT
   exact (pair_kept (setV_kept _ _ _) (chgV_kept _ _ _ _)).on h hT
  ·
   have h : (SetV 0 [] awS vF wF1) := h
   show (SetV 0 [] awS vF wF2)
   have hT : (fun i w w' => if i = 12 then (fun (w w' : World) => Kt 29 w w' ∧ ∃ g, w.grownBy w' (some g) ∧ w6.heap.size ≤ g) w w' else if i = 11 then (fun (w w' : World) => Kt 27 w w' ∧ ∃ g, w.grownBy w' (some g) ∧ w6.heap.size ≤ g) w w' else (fun (w w' : World) => RowKit.Below w.heap.size w w') w w') iF wF1 wF2 := hT
   simp only at hT
   by_cases hi12 : iF = 12
   ·
    subst hi12; exact (anc_no hdan (by kernel_rfl)).elim
   rw [if_neg hi12] at hT
   by_cases hi11 : iF = 11
   ·
    exact absurd hi11.symm hdd
   rw [if_neg hi11] at hT
   exact (setV_kept _ _ _).on h hT
  ·
   have h : (ChgV 0 [] [] awS vF wF1) := h
   show (ChgV 0 [] [] awS vF wF2)
   have hT : (fun i w w' => if i = 12 then (fun (w w' : World) => Kt 29 w w' ∧ ∃ g, w.grownBy w' (some g) ∧ w6.heap.size ≤ g) w w' else if i = 11 then (fun (w w' : World) => Kt 27 w w' ∧ ∃ g, w.grownBy w' (some g) ∧ w6.heap.size ≤ g) w w' else (fun (w w' : World) => RowKit.Below w.heap.size w w') w w') iF wF1 wF2 := hT
   simp only at hT
   by_cases hi12 : iF = 12
   ·
    exact absurd hi12.symm hdd
   rw [if_neg hi12] at hT
   by_cases hi11 : iF = 11
   ·
    rw [if_pos hi11] at hT
    exact chgV_kt h hT.1 (by decide) (by decide)
   rw [if_neg hi11] at hT
   exact (chgV_kept _ _ _ _).on h hT
  ·
   have h : (∃ g, vF = .pointer (some ⟨g, 0, none⟩) ∧ wF1.heap[g]? = some (.cells #[.slice none 0 0, .slice none 0 0, .slice none 0 0] 27 (0, 0)) ∧ w6.heap.size ≤ g) := h
   show (∃ g, vF = .pointer (some ⟨g, 0, none⟩) ∧ wF2.heap[g]? = some (.cells #[.slice none 0 0, .slice none 0 0, .slice none 0 0] 27 (0, 0)) ∧ w6.heap.size ≤ g)
   have hT : (fun i w w' => if i = 12 then (fun (w w' : World) => Kt 29 w w' ∧ ∃ g, w.grownBy w' (some g) ∧ w6.heap.size ≤ g) w w' else if i = 11 then (fun (w w' : World) => Kt 27 w w' ∧ ∃ g, w.grownBy w' (some g) ∧ w6.heap.size ≤ g) w w' else (fun (w w' : World) => RowKit.Below w.heap.size w w') w w') iF wF1 wF2 := hT
   simp only at hT
   by_cases hi12 : iF = 12
   ·
    subst hi12; exact (anc_no hdan (by kernel_rfl)).elim
   rw [if_neg hi12] at hT
   by_cases hi11 : iF = 11
   ·
    exact absurd hi11.symm hdd
   rw [if_neg hi11] at hT
   obtain ⟨g, e, h1, h2⟩ := h
   exact ⟨g, e, (hT.block _ (lt_of_block h1)).trans h1, h2⟩
  ·
   have h : (∃ g, vF = .pointer (some ⟨g, 0, none⟩) ∧ wF1.heap[g]? = some (.cells #[.slice none 0 0, .slice none 0 0, .slice none 0 0, .slice none 0 0] 29 (0, 0)) ∧ w6.heap.size ≤ g) := h
   show (∃ g, vF = .pointer (some ⟨g, 0, none⟩) ∧ wF2.heap[g]? = some (.cells #[.slice none 0 0, .slice none 0 0, .slice none 0 0, .slice none 0 0] 29 (0, 0)) ∧ w6.heap.size ≤ g)
   have hT : (fun i w w' => if i = 12 then (fun (w w' : World) => Kt 29 w w' ∧ ∃ g, w.grownBy w' (some g) ∧ w6.heap.size ≤ g) w w' else if i = 11 then (fun (w w' : World) => Kt 27 w w' ∧ ∃ g, w.grownBy w' (some g) ∧ w6.heap.size ≤ g) w w' else (fun (w w' : World) => RowKit.Below w.heap.size w w') w w') iF wF1 wF2 := hT
   simp only at hT
   by_cases hi12 : iF = 12
   ·
    exact absurd hi12.symm hdd
   rw [if_neg hi12] at hT
   by_cases hi11 : iF = 11
   ·
    rw [if_pos hi11] at hT
    obtain ⟨g, e, h1, h2⟩ := h
    exact ⟨g, e, (hT.1.keep g (lt_of_block h1) (fun cur fr e2 => by rw [h1] at e2; simp only [Option.some.injEq, Obj.cells.injEq] at e2; exact absurd e2.2.1 (by decide))).trans h1, h2⟩
   rw [if_neg hi11] at hT
   obtain ⟨g, e, h1, h2⟩ := h
   exact ⟨g, e, (hT.block _ (lt_of_block h1)).trans h1, h2⟩
  iterate 2 exact h
 ·
  generalize hAF : fillOf _ _ _ = AF
  replace hAF := fun x => congrFun hAF x
  simp only [take_succ_cons, take_zero, fillOf, Act.put, setIfInBounds_toArray, set_cons_zero, set_cons_succ, Nat.reduceAdd, Nat.zero_add] at hAF
  refine .cons ?_ (.cons ?_ (.cons ?_ (.cons ?_ (.cons ?_ (.cons ?_ (.cons ?_ (.cons ?_ (.cons ?_ (.cons ?_ (.cons ?_ (.cons ?_ (.cons ?_ (.nil)))))))))))))
  all_goals
   intro xF w7 hR hg hd K hK
   first | simp only [← hAF, Act.put, setIfInBounds_toArray, set_cons_zero, set_cons_succ] at hK ⊢ | simp only [← hAF, Act.put] at hK ⊢
   clear hAF
   try simp only [Nat.zero_add, Nat.reduceAdd] at hK ⊢
  ·
   clear hg hd
   have e0 := boxc (RS6.out _ hR) 0 _ rfl
   have e1 := boxc (RS6.out _ hR) 1 _ rfl
   have e2 := boxc (RS6.out _ hR) 2 _ rfl
   rw [if_pos (by rfl)]
   go_simp
   exact hK.out _ _ (Below.refl _ _) (rfl) (fun _ _ _ => ⟨trivial, trivial⟩) (fun jF _ => by (show (if _ ∧ jF = 9 then _ else (if _ ∧ jF = 10 then _ else (True)))); rw [if_neg (fun hh => absurd hh.1 (by decide))]; rw [if_neg (fun hh => absurd hh.1 (by decide))]; trivial)
  ·
   clear hg hd
   rw [if_pos (by rfl)]
   go_simp
   (go_at_call 19; (with_reducible refine (HNM.out _).mono ?_); rintro e wK ⟨b, rfl, hs, hbK⟩)
   try go_wp2_with fail
   exact hK.out _ _ (hbK) (⟨_, rfl, hs⟩) (fun _ _ _ => ⟨trivial, trivial⟩) (fun jF _ => by (show (if _ ∧ jF = 9 then _ else (if _ ∧ jF = 10 then _ else (True)))); rw [if_neg (fun hh => absurd hh.1 (by decide))]; rw [if_neg (fun hh => absurd hh.1 (by decide))]; trivial)
  ·
   clear hg
   have dd1 := hd 1 (by kernel_rfl)
   clear hd
   try generalize xF 1 = yy1 at *
   obtain ⟨bN2, rfl, hsN⟩ := dd1
   rw [if_pos (by rfl)]
   go_simp
   exact hK.out _ _ (Below.refl _ _) (⟨_, rfl, names_lt hsN, names_cell hsN 0 (by decide)⟩) (fun _ _ _ => ⟨trivial, trivial⟩) (fun jF _ => by (show (if _ ∧ jF = 9 then _ else (if _ ∧ jF = 10 then _ else (True)))); rw [if_neg (fun hh => absurd hh.1 (by decide))]; rw [if_neg (fun hh => absurd hh.1 (by decide))]; trivial)
  ·
   clear hg
   have dd2 := hd 2 (by kernel_rfl)
   clear hd
   try generalize xF 2 = yy2 at *
   obtain ⟨bJ, rfl, hJl, hJc⟩ := dd2
   rw [if_pos (by rfl)]
   go_simp
   exact hK.out _ _ (Below.refl _ _) (rfl) (fun _ _ _ => ⟨trivial, trivial⟩) (fun jF _ => by (show (if _ ∧ jF = 9 then _ else (if _ ∧ jF = 10 then _ else (True)))); rw [if_neg (fun hh => absurd hh.1 (by decide))]; rw [if_neg (fun hh => absurd hh.1 (by decide))]; trivial)
  ·
   clear hg hd
   rw [if_pos (by rfl)]
   go_simp
   exact hK.out _ _ (Below.refl _ _) (rfl) (fun _ _ _ => ⟨trivial, trivial⟩) (fun jF _ => by (show (if _ ∧ jF = 9 then _ else (if _ ∧ jF = 10 then _ else (True)))); rw [if_neg (fun hh => absurd hh.1 (by decide))]; rw [if_neg (fun hh => absurd hh.1 (by decide))]; trivial)
  ·
   clear hg
   have dd0 := hd 0 (by kernel_rfl)
   have dd3 := hd 3 (by kernel_rfl)
   have dd4 := hd 4 (by kernel_rfl)
   clear hd
   try generalize xF 0 = yy0 at *
   try generalize xF 3 = yy3 at *
   try generalize xF 4 = yy4 at *
   obtain rfl := dd0
   obtain rfl := dd3
   obtain rfl := dd4
   have hx6 := HX6.out _ hR
   rw [if_pos (by rfl)]
   go_simp
   (go_at_call 21; (with_reducible refine (HREM2.out _ _ hR hx6).mono ?_); rintro e wK ⟨v0, v1, rfl, h0, h1, hbK⟩)
   try go_wp2_with fail
   exact hK.out _ _ (hbK) (⟨_, _, rfl, h0, h1⟩) (fun _ _ _ => ⟨trivial, trivial⟩) (fun jF _ => by (show (if _ ∧ jF = 9 then _ else (if _ ∧ jF = 10 then _ else (True)))); rw [if_neg (fun hh => absurd hh.1 (by decide))]; rw [if_neg (fun hh => absurd hh.1 (by decide))]; trivial)
  ·
   clear hg
   have dd5 : (PairV (SetV 0 [] awS) (ChgV 0 [] [] awS) (xF 5) w7) := hd 5 (by kernel_rfl)
   clear hd
   try generalize xF 5 = yy5 at *
   have hp5 := dd5
   rw [if_pos (by rfl)]
   go_simp
   exact hK.out _ _ (Below.refl _ _) (hp5) (fun _ _ _ => ⟨trivial, trivial⟩) (fun jF _ => by (show (if _ ∧ jF = 9 then _ else (if _ ∧ jF = 10 then _ else (True)))); rw [if_neg (fun hh => absurd hh.1 (by decide))]; rw [if_neg (fun hh => absurd hh.1 (by decide))]; trivial)
  ·
   clear hg
   have dd6 : (PairV (SetV 0 [] awS) (ChgV 0 [] [] awS) (xF 6) w7) := hd 6 (by kernel_rfl)
   clear hd
   try generalize xF 6 = yy6 at *
   have hp6 := dd6
   obtain ⟨s0, s1, rfl, hs0, hs1⟩ := hp6
   rw [if_pos (by rfl)]
   go_simp
   exact hK.out _ _ (Below.refl _ _) (hs0) (fun _ _ _ => ⟨trivial, trivial⟩) (fun jF _ => by (show (if _ ∧ jF = 9 then _ else (if _ ∧ jF = 10 then _ else (True)))); rw [if_neg (fun hh => absurd hh.1 (by decide))]; rw [if_neg (fun hh => absurd hh.1 (by decide))]; trivial)
  ·
   clear hg
   have dd6 : (PairV (SetV 0 [] awS) (ChgV 0 [] [] awS) (xF 6) w7) := hd 6 (by kernel_rfl)
   clear hd
   try generalize xF 6 = yy6 at *
   have hp6 := dd6
   obtain ⟨s0, s1, rfl, hs0, hs1⟩ := hp6
   rw [if_pos (by rfl)]
   go_simp
   exact hK.out _ _ (Below.refl _ _) (hs1) (fun _ _ _ => ⟨trivial, trivial⟩) (fun jF _ => by (show (if _ ∧ jF = 9 then _ else (if _ ∧ jF = 10 then _ else (True)))); rw [if_neg (fun hh => absurd hh.1 (by decide))]; rw [if_neg (fun hh => absurd hh.1 (by decide))]; trivial)
  ·
   clear hg hd
   rw [if_pos (by rfl)]
   go_simp
   exact hK.out _ _ (below1) (⟨_, rfl, heap_alloc_new _ _, hR.size⟩) (fun _ _ _ => ⟨trivial, trivial⟩) (fun jF _ => by (show (if _ ∧ jF = 9 then _ else (if _ ∧ jF = 10 then _ else (True)))); rw [if_neg (fun hh => absurd hh.1 (by decide))]; rw [if_neg (fun hh => absurd hh.1 (by decide))]; trivial)
  ·
   clear hg hd
   rw [if_pos (by rfl)]
   go_simp
   exact hK.out _ _ (below1) (⟨_, rfl, heap_alloc_new _ _, hR.size⟩) (fun _ _ _ => ⟨trivial, trivial⟩) (fun jF _ => by (show (if _ ∧ jF = 9 then _ else (if _ ∧ jF = 10 then _ else (True)))); rw [if_neg (fun hh => absurd hh.1 (by decide))]; rw [if_neg (fun hh => absurd hh.1 (by decide))]; trivial)
  ·
   clear hg
   have dd7 : (SetV 0 [] awS (xF 7) w7) := hd 7 (by kernel_rfl)
   have dd9 := hd 9 (by kernel_rfl)
   clear hd
   try generalize xF 7 = yy7 at *
   have hp7 := dd7
   obtain ⟨g9, he9, hg9, hl9⟩ := dd9
   simp only [he9] at hK ⊢
   have k0 := boxc hg9 0 _ rfl
   have k1 := boxc hg9 1 _ rfl
   have k2 := boxc hg9 2 _ rfl
   have q0 := boxf hg9 0
   have q1 := boxf hg9 1
   have q2 := boxf hg9 2
   have HG9 := Lib.hid hg9
   obtain ⟨a0, n0, c0, a1, n1, c1, a2, n2, c2, cc0, rfl, hE0, hC0, hI0⟩ := hp7
   rw [if_pos (by rfl)]
   go_simp
   exact hK.out undef _ (⟨set3_kt HG9.out _ _ _, _, set3_grown _, hl9⟩) (trivial) (fun _ _ _ => ⟨trivial, trivial⟩) (fun jF _ => by (show (if _ ∧ jF = 9 then _ else (if _ ∧ jF = 10 then _ else True))); split; (rename_i hh; obtain ⟨_, rfl⟩ := hh; exact ⟨_, _, _, _, _, _, _, _, _, _, [], cc0, he9, hl9, heap_setCell_same _ g9 2 _ _ _ (heap_setCell_same _ g9 1 _ _ _ (heap_setCell_same _ g9 0 _ _ _ HG9.out)), List.Perm.refl _, List.Pairwise.nil, hE0.kt (set3_kt HG9.out _ _ _) (by decide), hC0.kt (set3_kt HG9.out _ _ _) (by decide), hI0⟩); (rw [if_neg (fun hh => absurd hh.1 (by decide))]; trivial))
  ·
   clear hg
   have dd8 : (ChgV 0 [] [] awS (xF 8) w7) := hd 8 (by kernel_rfl)
   have dd10 := hd 10 (by kernel_rfl)
   clear hd
   try generalize xF 8 = yy8 at *
   have hp8 := dd8
   obtain ⟨g10, he10, hg10, hl10⟩ := dd10
   simp only [he10] at hK ⊢
   have k0 := boxc hg10 0 _ rfl
   have k1 := boxc hg10 1 _ rfl
   have k2 := boxc hg10 2 _ rfl
   have k3 := boxc hg10 3 _ rfl
   have q0 := boxf hg10 0
   have q1 := boxf hg10 1
   have q2 := boxf hg10 2
   have q3 := boxf hg10 3
   have HG10 := Lib.hid hg10
   obtain ⟨a3, n3, c3, a4, n4, c4, a5, n5, c5, a6, n6, c6, dc, rfl, hE3, hA3, hC3, hI3⟩ := hp8
   rw [if_pos (by rfl)]
   go_simp
   exact hK.out undef _ (⟨set4_kt HG10.out _ _ _ _, _, set4_grown _, hl10⟩) (trivial) (fun _ _ _ => ⟨trivial, trivial⟩) (fun jF _ => by (show (if _ ∧ jF = 9 then _ else (if _ ∧ jF = 10 then _ else True))); rw [if_neg (fun hh => absurd hh.1 (by decide))]; split; (rename_i hh; obtain ⟨_, rfl⟩ := hh; exact ⟨_, _, _, _, _, _, _, _, _, _, _, _, _, dc, he10, hl10, heap_setCell_same _ g10 3 _ _ _ (heap_setCell_same _ g10 2 _ _ _ (heap_setCell_same _ g10 1 _ _ _ (heap_setCell_same _ g10 0 _ _ _ HG10.out))), hE3.kt (set4_kt HG10.out _ _ _ _) (by decide), hA3.kt (set4_kt HG10.out _ _ _ _) (by decide), hC3.kt (set4_kt HG10.out _ _ _ _) (by decide), hI3⟩); trivial)
 intro xF w7 hR hF hP hW2
 have hpw0 := hW2 11 (by omega) 9 (by decide)
 rw [if_pos ⟨rfl, rfl⟩] at hpw0
 have hpw1 := hW2 12 (by omega) 10 (by decide)
 rw [if_neg (by intro hh; omega)] at hpw1
 rw [if_pos ⟨rfl, rfl⟩] at hpw1
 clear hW2
 clear hP
 have dd0 := hF 0 (by omega) (by decide)
 have dd3 := hF 3 (by omega) (by decide)
 have dd4 := hF 4 (by omega) (by decide)
 have dd5 : (PairV (SetV 0 [] awS) (ChgV 0 [] [] awS) (xF 5) w7) := hF 5 (by omega) (by decide)
 have dd6 : (PairV (SetV 0 [] awS) (ChgV 0 [] [] awS) (xF 6) w7) := hF 6 (by omega) (by decide)
 have dd11 : (True) := hF 11 (by omega) (by decide)
 have dd12 : (True) := hF 12 (by omega) (by decide)
 clear hF
 simp only [take_succ_cons, take_zero, drop_succ_cons, drop_zero, fillOf, Act.put, setIfInBounds_toArray, set_cons_zero, set_cons_succ, Nat.reduceAdd, Nat.zero_add]
 try generalize xF 0 = yy0 at *
 try generalize xF 1 = yy1 at *
 try generalize xF 2 = yy2 at *
 try generalize xF 3 = yy3 at *
 try generalize xF 4 = yy4 at *
 try generalize xF 5 = yy5 at *
 try generalize xF 6 = yy6 at *
 try generalize xF 7 = yy7 at *
 try generalize xF 8 = yy8 at *
 try generalize xF 9 = yy9 at *
 try generalize xF 10 = yy10 at *
 try generalize xF 11 = yy11 at *
 try generalize xF 12 = yy12 at *
 clear xF
 obtain rfl := dd0
 obtain rfl := dd3
 obtain rfl := dd4
 have hp5 := dd5
 have hp6 := dd6
 have _ := dd11
 have _ := dd12
 have hRE := Lib.hid hR
 clear hR
 obtain ⟨gA, h0, m0, k0, h1, m1, k1, h2, m2, k2, lA, cA, rfl, hzA, hgA, hlA, -, hEA, -, -⟩ := hpw0
 obtain ⟨gB, j3, l3, o3, j4, l4, o4, j5, l5, o5, j6, l6, o6, dB, rfl, hzB, hgB, hEB, hAB, hCB, hIB⟩ := hpw1
 obtain rfl := perm_nil hlA
 obtain rfl : m0 = 0 := by
  obtain ⟨a, c, e⟩ := own_slice hEA
  cases e; rfl
 have hY7 : ChgV 0 [] [] awS (.agg #[.slice j3 l3 o3, .slice j4 l4 o4, .slice j5 l5 o5, .slice j6 l6 o6]) w7 := ⟨_, _, _, _, _, _, _, _, _, _, _, _, dB, rfl, hEB, hAB, hCB, hIB⟩
 have hb47 := HB46.out.trans (hRE.mono HB46.out.size)
 have HB7 := Lib.hid (HB6.out.trans (hRE.mono HB6.out.size))
 have RS7 : Hid (∀ ww, Below w7.heap.size w7 ww → ww.heap[b1]? = some (.cells #[.slice p0 q0 r0, .slice p1 q1 r1, .slice p2 q2 r2] 27 (0, 0))) := fun ww hw => RS.out ww (hb47.trans (hw.mono hb47.size))
 have RD7 : Hid (∀ ww, Below w7.heap.size w7 ww → ww.heap[b2]? = some (.cells #[.slice p3 q3 r3, .slice p4 q4 r4, .slice p5 q5 r5, .slice p6 q6 r6] 29 (0, 0))) := fun ww hw => RD.out ww (hb47.trans (hw.mono hb47.size))
 have RT7 : Hid (∀ ww, Below w7.heap.size w7 ww → ww.heap[b6]? = some (.cells #[.slice a0 n0 c0, .slice a1 n1 c1, .slice a2 n2 c2] 27 (0, 0))) := fun ww hw => (hw.block _ (Nat.lt_of_lt_of_le (lt_of_block X6.out) hRE.size)).trans ((hRE.block _ (lt_of_block X6.out)).trans X6.out)
 have RG7 : Hid (∀ ww, Below w7.heap.size w7 ww → ww.heap[gA]? = some (.cells #[.slice h0 0 k0, .slice h1 m1 k1, .slice h2 m2 k2] 27 (0, 0))) := fun ww hw => (hw.block _ (lt_of_block hgA)).trans hgA
 have RY7 : Hid (∀ ww, Below w7.heap.size w7 ww → ww.heap[gB]? = some (.cells #[.slice j3 l3 o3, .slice j4 l4 o4, .slice j5 l5 o5, .slice j6 l6 o6] 29 (0, 0))) := fun ww hw => (hw.block _ (lt_of_block hgB)).trans hgB
 have HX7 : Hid (∀ ww, Below w7.heap.size w7 ww → SetV 0 [awX] (fun e => e = awX.d) (.agg #[.slice p0 q0 r0, .slice p1 q1 r1, .slice p2 q2 r2]) ww) := fun ww hw => HX4.out ww (hb47.trans (hw.mono hb47.size))
 have HD7 : Hid (∀ ww, Below w7.heap.size w7 ww → ChgV 0 [awX] [awX.d] (fun e => e = awX.d) (.agg #[.slice p3 q3 r3, .slice p4 q4 r4, .slice p5 q5 r5, .slice p6 q6 r6]) ww) := fun ww hw => HD4.out ww (hb47.trans (hw.mono hb47.size))
 have HT7 : Hid (∀ ww, Below w7.heap.size w7 ww → SetV 0 [awX] (fun e => e = awX.d) (.agg #[.slice a0 n0 c0, .slice a1 n1 c1, .slice a2 n2 c2]) ww) := fun ww hw => (setV_kept _ _ _).on ((setV_kept _ _ _).on HT6.out hRE) hw
 have HY7 : Hid (∀ ww, Below w7.heap.size w7 ww → ChgV 0 [] [] awS (.agg #[.slice j3 l3 o3, .slice j4 l4 o4, .slice j5 l5 o5, .slice j6 l6 o6]) ww) := fun ww hw => (chgV_kept _ _ _ _).on hY7 hw
 have HSAM : Hid (∀ W v v', SetV 0 [awX] (fun e => e = awX.d) v W → SetV 0 [awX] (fun e => e = awX.d) v' W → Calls Tryz.prog 14 #[v, v'] W (Said true W)) := fun W v v' h1 h2 => aw_same v v' W h1 h2
 have HAP3 : Hid (∀ W v, Below w7.heap.size w7 W → ChgV 0 [] [] awS v W → Calls Tryz.prog 9 #[.agg #[.slice none 0 0, .slice none 0 0, .slice none 0 0], v] W fun e w' => ∃ v', e = .returned v' ∧ SetV 0 [] awS v' w' ∧ Below W.heap.size W w') := fun W v hW hv => aw_ap3 v W hv (HMX.out _ (HB7.out.trans (hW.mono HB7.out.size)))
 have HAP4 : Hid (∀ W v d, Below w7.heap.size w7 W → SetV 0 [] awS v W → ChgV 0 [awX] [awX.d] (fun e => e = awX.d) d W → Calls Tryz.prog 9 #[v, d] W fun e w' => ∃ v', e = .returned v' ∧ SetV 0 [] awS v' w' ∧ Below W.heap.size W w') := fun W v d hW hv hd => aw_ap4 v d W hv hd (HMX.out _ (HB7.out.trans (hW.mono HB7.out.size)))
 have HLST : Hid (∀ W, SetV 0 [awX] (fun e => e = awX.d) (.agg #[.slice a0 n0 c0, .slice a1 n1 c1, .slice a2 n2 c2]) W → Calls Tryz.prog 23 #[.agg #[.slice a0 n0 c0, .slice a1 n1 c1, .slice a2 n2 c2]] W fun e w' => ∃ a cap, e = .returned (.slice a 1 cap) ∧ Below W.heap.size W w') := fun W h => by
  obtain ⟨x0, x1, x2, x3, x4, x5, x6, x7, x8, cx, e, hx, -, -⟩ := h
  simp only [Value.agg.injEq, Array.mk.injEq, List.cons.injEq, Value.slice.injEq, and_true] at e
  obtain ⟨⟨rfl, rfl, rfl⟩, _⟩ := e
  exact olist_one awX _ _ _ W hx.at
 clear hzA hgA hlA hEA hzB hgB hEB hAB hCB hIB hY7 hb47 hRE
 go_wp2_with fail
 refine wp_flow 29 (fun _ => 1000) (fun ww => RowKit.Below w7.heap.size w7 ww) (fun _ w w' => (fun (w w' : World) => RowKit.Below w.heap.size w w') w w') (fun kF vF wF => match kF with | 0 => (vF = .int .i64 0) | 1 => (vF = .bool true) | 2 => (vF = .bool true) | 3 => (vF = .agg #[.slice p0 q0 r0, .slice p1 q1 r1, .slice p2 q2 r2]) | 4 => (vF = .agg #[.slice a0 n0 c0, .slice a1 n1 c1, .slice a2 n2 c2]) | 5 => (vF = .bool true) | 6 => (vF = .bool true) | 7 => (vF = .bool true) | 8 => (vF = .pointer (some ⟨gA, 0, none⟩)) | 9 => (vF = .slice h0 0 k0) | 10 => (vF = .int .i64 0) | 11 => (vF = .bool true) | 12 => (vF = .bool true) | 13 => (vF = .bool true) | 14 => (vF = .agg #[.slice none 0 0, .slice none 0 0, .slice none 0 0]) | 15 => (vF = .agg #[.slice j3 l3 o3, .slice j4 l4 o4, .slice j5 l5 o5, .slice j6 l6 o6]) | 16 => (SetV 0 [] awS vF wF) | 17 => (vF = .agg #[.slice p3 q3 r3, .slice p4 q4 r4, .slice p5 q5 r5, .slice p6 q6 r6]) | 18 => (∃ a0 c0 a1 n1 c1 a2 n2 c2, vF = .agg #[.slice a0 0 c0, .slice a1 n1 c1, .slice a2 n2 c2]) | 19 => (∃ a c, vF = .slice a 0 c) | 20 => (vF = .int .i64 0) | 21 => (vF = .bool true) | 22 => (vF = .bool true) | 23 => (vF = .bool true) | 24 => (vF = .agg #[.slice a0 n0 c0, .slice a1 n1 c1, .slice a2 n2 c2]) | 25 => (∃ a c, vF = .slice a 1 c) | 26 => (vF = .int .i64 1) | 27 => (vF = .bool true) | 28 => (vF = .bool true) | _ => True) (fun _ _ _ _ => True) (by kernel_rfl) (by kernel_rfl) ?_ ?_ ?_ ?_ ?_
 ·
  exact (Below.refl _ _).drew
 ·
  intro iF wF1 wF2 hR hT; exact hR.trans (hT.mono hR.size)
 ·
  intro kF hkF iF hiF hne hdd hanc hdan vF wF1 wF2 h hT
  rcases (by omega : kF = 0 ∨ kF = 1 ∨ kF = 2 ∨ kF = 3 ∨ kF = 4 ∨ kF = 5 ∨ kF = 6 ∨ kF = 7 ∨ kF = 8 ∨ kF = 9 ∨ kF = 10 ∨ kF = 11 ∨ kF = 12 ∨ kF = 13 ∨ kF = 14 ∨ kF = 15 ∨ kF = 16 ∨ kF = 17 ∨ kF = 18 ∨ kF = 19 ∨ kF = 20 ∨ kF = 21 ∨ kF = 22 ∨ kF = 23 ∨ kF = 24 ∨ kF = 25 ∨ kF = 26 ∨ kF = 27 ∨ kF = 28) with rfl | rfl | rfl | rfl | rfl | rfl | rfl | rfl | rfl | rfl | rfl | rfl | rfl | rfl | rfl | rfl | rfl | rfl | rfl | rfl | rfl | rfl | rfl | rfl | rfl | rfl | rfl | rfl | rfl
  iterate 16 exact h
  ·
   have h : (SetV 0 [] awS vF wF1) := h
   show (SetV 0 [] awS vF wF2)
   have hT : (fun (w w' : World) => RowKit.Below w.heap.size w w') wF1 wF2 := hT
   simp only at hT
   exact (setV_kept _ _ _).on h hT
  iterate 12 exact h
 ·
  generalize hAF : fillOf _ _ _ = AF
  replace hAF := fun x => congrFun hAF x
  simp only [take_succ_cons, take_zero, fillOf, Act.put, setIfInBounds_toArray, set_cons_zero, set_cons_succ, Nat.reduceAdd, Nat.zero_add] at hAF
  refine .cons ?_ (.cons ?_ (.cons ?_ (.cons ?_ (.cons ?_ (.cons ?_ (.cons ?_ (.cons ?_ (.cons ?_ (.cons ?_ (.cons ?_ (.cons ?_ (.cons ?_ (.cons ?_ (.cons ?_ (.cons ?_ (.cons ?_ (.cons ?_ (.cons ?_ (.cons ?_ (.cons ?_ (.cons ?_ (.cons ?_ (.cons ?_ (.cons ?_ (.cons ?_ (.cons ?_ (.cons ?_ (.cons ?_ (.nil)))))))))))))))))))))))))))))
  all_goals
   intro xF w8 hR hd K hK
   first | simp only [← hAF, Act.put, setIfInBounds_toArray, set_cons_zero, set_cons_succ] at hK ⊢ | simp only [← hAF, Act.put] at hK ⊢
   clear hAF
   try simp only [Nat.zero_add, Nat.reduceAdd] at hK ⊢
  ·
   clear hd
   rw [if_pos (by rfl)]
   go_simp
   exact hK.out _ _ (Below.refl _ _) (rfl) (fun _ _ _ => ⟨trivial, trivial⟩)
  ·
   have dd0 := hd 0 (by kernel_rfl)
   clear hd
   try generalize xF 0 = yy0 at *
   obtain rfl := dd0
   rw [if_pos (by rfl)]
   go_simp
   exact hK.out _ _ (Below.refl _ _) (rfl) (fun _ _ _ => ⟨trivial, trivial⟩)
  ·
   have dd1 := hd 1 (by kernel_rfl)
   clear hd
   try generalize xF 1 = yy1 at *
   obtain rfl := dd1
   rw [if_pos (by rfl)]
   go_simp
   exact hK.out _ _ (Below.refl _ _) (rfl) (fun _ _ _ => ⟨trivial, trivial⟩)
  ·
   have dd2 := hd 2 (by kernel_rfl)
   clear hd
   try generalize xF 2 = yy2 at *
   obtain rfl := dd2
   have e0 := boxc (RS7.out _ hR) 0 _ rfl
   have e1 := boxc (RS7.out _ hR) 1 _ rfl
   have e2 := boxc (RS7.out _ hR) 2 _ rfl
   rw [if_pos (by rfl)]
   go_simp
   exact hK.out _ _ (Below.refl _ _) (rfl) (fun _ _ _ => ⟨trivial, trivial⟩)
  ·
   have dd2 := hd 2 (by kernel_rfl)
   clear hd
   try generalize xF 2 = yy2 at *
   obtain rfl := dd2
   have e0 := boxc (RT7.out _ hR) 0 _ rfl
   have e1 := boxc (RT7.out _ hR) 1 _ rfl
   have e2 := boxc (RT7.out _ hR) 2 _ rfl
   rw [if_pos (by rfl)]
   go_simp
   exact hK.out _ _ (Below.refl _ _) (rfl) (fun _ _ _ => ⟨trivial, trivial⟩)
  ·
   have dd2 := hd 2 (by kernel_rfl)
   have dd3 := hd 3 (by kernel_rfl)
   have dd4 := hd 4 (by kernel_rfl)
   clear hd
   try generalize xF 2 = yy2 at *
   try generalize xF 3 = yy3 at *
   try generalize xF 4 = yy4 at *
   obtain rfl := dd2
   obtain rfl := dd3
   obtain rfl := dd4
   have hx := HX7.out _ hR
   have ht := HT7.out _ hR
   rw [if_pos (by rfl)]
   go_simp
   (go_at_call 14; (with_reducible refine (HSAM.out _ _ _ hx ht).mono ?_); rintro e wK ⟨rfl, hbK⟩)
   try go_wp2_with fail
   exact hK.out _ _ (hbK) (rfl) (fun _ _ _ => ⟨trivial, trivial⟩)
  ·
   have dd2 := hd 2 (by kernel_rfl)
   have dd5 := hd 5 (by kernel_rfl)
   clear hd
   try generalize xF 2 = yy2 at *
   try generalize xF 5 = yy5 at *
   obtain rfl := dd2
   obtain rfl := dd5
   rw [if_pos (by rfl)]
   go_simp
   exact hK.out _ _ (Below.refl _ _) (rfl) (fun _ _ _ => ⟨trivial, trivial⟩)
  ·
   have dd6 := hd 6 (by kernel_rfl)
   clear hd
   try generalize xF 6 = yy6 at *
   obtain rfl := dd6
   rw [if_pos (by rfl)]
   go_simp
   exact hK.out _ _ (Below.refl _ _) (rfl) (fun _ _ _ => ⟨trivial, trivial⟩)
  ·
   have dd7 := hd 7 (by kernel_rfl)
   clear hd
   try generalize xF 7 = yy7 at *
   obtain rfl := dd7
   rw [if_pos (by rfl)]
   go_simp
   exact hK.out _ _ (Below.refl _ _) (rfl) (fun _ _ _ => ⟨trivial, trivial⟩)
  ·
   have dd7 := hd 7 (by kernel_rfl)
   have dd8 := hd 8 (by kernel_rfl)
   clear hd
   try generalize xF 7 = yy7 at *
   try generalize xF 8 = yy8 at *
   obtain rfl := dd7
   obtain rfl := dd8
   have e0 := boxc (RG7.out _ hR) 0 _ rfl
   have e1 := boxc (RG7.out _ hR) 1 _ rfl
   have e2 := boxc (RG7.out _ hR) 2 _ rfl
   rw [if_pos (by rfl)]
   go_simp
   exact hK.out _ _ (Below.refl _ _) (rfl) (fun _ _ _ => ⟨trivial, trivial⟩)
  ·
   have dd7 := hd 7 (by kernel_rfl)
   have dd9 := hd 9 (by kernel_rfl)
   clear hd
   try generalize xF 7 = yy7 at *
   try generalize xF 9 = yy9 at *
   obtain rfl := dd7
   obtain rfl := dd9
   rw [if_pos (by rfl)]
   go_simp
   exact hK.out _ _ (Below.refl _ _) (rfl) (fun _ _ _ => ⟨trivial, trivial⟩)
  ·
   have dd7 := hd 7 (by kernel_rfl)
   have dd10 := hd 10 (by kernel_rfl)
   clear hd
   try generalize xF 7 = yy7 at *
   try generalize xF 10 = yy10 at *
   obtain rfl := dd7
   obtain rfl := dd10
   rw [if_pos (by rfl)]
   go_simp
   exact hK.out _ _ (Below.refl _ _) (rfl) (fun _ _ _ => ⟨trivial, trivial⟩)
  ·
   have dd7 := hd 7 (by kernel_rfl)
   have dd11 := hd 11 (by kernel_rfl)
   clear hd
   try generalize xF 7 = yy7 at *
   try generalize xF 11 = yy11 at *
   obtain rfl := dd7
   obtain rfl := dd11
   rw [if_pos (by rfl)]
   go_simp
   exact hK.out _ _ (Below.refl _ _) (rfl) (fun _ _ _ => ⟨trivial, trivial⟩)
  ·
   have dd12 := hd 12 (by kernel_rfl)
   clear hd
   try generalize xF 12 = yy12 at *
   obtain rfl := dd12
   rw [if_pos (by rfl)]
   go_simp
   exact hK.out _ _ (Below.refl _ _) (rfl) (fun _ _ _ => ⟨trivial, trivial⟩)
  ·
   have dd13 := hd 13 (by kernel_rfl)
   clear hd
   try generalize xF 13 = yy13 at *
   obtain rfl := dd13
   rw [if_pos (by rfl)]
   go_simp
   exact hK.out _ _ (Below.refl _ _) (rfl) (fun _ _ _ => ⟨trivial, trivial⟩)
  ·
   have dd13 := hd 13 (by kernel_rfl)
   clear hd
   try generalize xF 13 = yy13 at *
   obtain rfl := dd13
   have e0 := boxc (RY7.out _ hR) 0 _ rfl
   have e1 := boxc (RY7.out _ hR) 1 _ rfl
   have e2 := boxc (RY7.out _ hR) 2 _ rfl
   have e3 := boxc (RY7.out _ hR) 3 _ rfl
   rw [if_pos (by rfl)]
   go_simp
   exact hK.out _ _ (Below.refl _ _) (rfl) (fun _ _ _ => ⟨trivial, trivial⟩)
  ·
   have dd13 := hd 13 (by kernel_rfl)
   have dd14 := hd 14 (by kernel_rfl)
   have dd15 := hd 15 (by kernel_rfl)
   clear hd
   try generalize xF 13 = yy13 at *
   try generalize xF 14 = yy14 at *
   try generalize xF 15 = yy15 at *
   obtain rfl := dd13
   obtain rfl := dd14
   obtain rfl := dd15
   have hy := HY7.out _ hR
   rw [if_pos (by rfl)]
   go_simp
   (go_at_call 9; (with_reducible refine (HAP3.out _ _ hR hy).mono ?_); rintro e wK ⟨vK, rfl, hpK, hbK⟩)
   try go_wp2_with fail
   exact hK.out _ _ (hbK) (hpK) (fun _ _ _ => ⟨trivial, trivial⟩)
  ·
   have dd13 := hd 13 (by kernel_rfl)
   clear hd
   try generalize xF 13 = yy13 at *
   obtain rfl := dd13
   have e0 := boxc (RD7.out _ hR) 0 _ rfl
   have e1 := boxc (RD7.out _ hR) 1 _ rfl
   have e2 := boxc (RD7.out _ hR) 2 _ rfl
   have e3 := boxc (RD7.out _ hR) 3 _ rfl
   rw [if_pos (by rfl)]
   go_simp
   exact hK.out _ _ (Below.refl _ _) (rfl) (fun _ _ _ => ⟨trivial, trivial⟩)
  ·
   have dd13 := hd 13 (by kernel_rfl)
   have dd16 : (SetV 0 [] awS (xF 16) w8) := hd 16 (by kernel_rfl)
   have dd17 := hd 17 (by kernel_rfl)
   clear hd
   try generalize xF 13 = yy13 at *
   try generalize xF 16 = yy16 at *
   try generalize xF 17 = yy17 at *
   obtain rfl := dd13
   have hp16 := dd16
   obtain rfl := dd17
   have hd := HD7.out _ hR
   rw [if_pos (by rfl)]
   go_simp
   (go_at_call 9; (with_reducible refine (HAP4.out _ _ _ hR hp16 hd).mono ?_); rintro e wK ⟨vK, rfl, hpK, hbK⟩; obtain ⟨a0, c0, a1, n1, c1, a2, n2, c2, rfl⟩ := hpK.len)
   try go_wp2_with fail
   exact hK.out _ _ (hbK) (⟨_, _, _, _, _, _, _, _, rfl⟩) (fun _ _ _ => ⟨trivial, trivial⟩)
  ·
   have dd13 := hd 13 (by kernel_rfl)
   have dd18 := hd 18 (by kernel_rfl)
   clear hd
   try generalize xF 13 = yy13 at *
   try generalize xF 18 = yy18 at *
   obtain rfl := dd13
   obtain ⟨a18, c18, x1, x2, x3, x4, x5, x6, rfl⟩ := dd18
   rw [if_pos (by rfl)]
   go_simp
   exact hK.out _ _ (Below.refl _ _) (⟨_, _, rfl⟩) (fun _ _ _ => ⟨trivial, trivial⟩)
  ·
   have dd13 := hd 13 (by kernel_rfl)
   have dd19 := hd 19 (by kernel_rfl)
   clear hd
   try generalize xF 13 = yy13 at *
   try generalize xF 19 = yy19 at *
   obtain rfl := dd13
   obtain ⟨a19, c19, rfl⟩ := dd19
   rw [if_pos (by rfl)]
   go_simp
   exact hK.out _ _ (Below.refl _ _) (rfl) (fun _ _ _ => ⟨trivial, trivial⟩)
  ·
   have dd13 := hd 13 (by kernel_rfl)
   have dd20 := hd 20 (by kernel_rfl)
   clear hd
   try generalize xF 13 = yy13 at *
   try generalize xF 20 = yy20 at *
   obtain rfl := dd13
   obtain rfl := dd20
   rw [if_pos (by rfl)]
   go_simp
   exact hK.out _ _ (Below.refl _ _) (rfl) (fun _ _ _ => ⟨trivial, trivial⟩)
  ·
   have dd13 := hd 13 (by kernel_rfl)
   have dd21 := hd 21 (by kernel_rfl)
   clear hd
   try generalize xF 13 = yy13 at *
   try generalize xF 21 = yy21 at *
   obtain rfl := dd13
   obtain rfl := dd21
   rw [if_pos (by rfl)]
   go_simp
   exact hK.out _ _ (Below.refl _ _) (rfl) (fun _ _ _ => ⟨trivial, trivial⟩)
  ·
   have dd22 := hd 22 (by kernel_rfl)
   clear hd
   try generalize xF 22 = yy22 at *
   obtain rfl := dd22
   rw [if_pos (by rfl)]
   go_simp
   exact hK.out _ _ (Below.refl _ _) (rfl) (fun _ _ _ => ⟨trivial, trivial⟩)
  ·
   have dd23 := hd 23 (by kernel_rfl)
   clear hd
   try generalize xF 23 = yy23 at *
   obtain rfl := dd23
   have e0 := boxc (RT7.out _ hR) 0 _ rfl
   have e1 := boxc (RT7.out _ hR) 1 _ rfl
   have e2 := boxc (RT7.out _ hR) 2 _ rfl
   rw [if_pos (by rfl)]
   go_simp
   exact hK.out _ _ (Below.refl _ _) (rfl) (fun _ _ _ => ⟨trivial, trivial⟩)
  ·
   have dd23 := hd 23 (by kernel_rfl)
   have dd24 := hd 24 (by kernel_rfl)
   clear hd
   try generalize xF 23 = yy23 at *
   try generalize xF 24 = yy24 at *
   obtain rfl := dd23
   obtain rfl := dd24
   have ht := HT7.out _ hR
   rw [if_pos (by rfl)]
   go_simp
   (go_at_call 23; (with_reducible refine (HLST.out _ ht).mono ?_); rintro e wK ⟨a, c, rfl, hbK⟩)
   try go_wp2_with fail
   exact hK.out _ _ (hbK) (⟨_, _, rfl⟩) (fun _ _ _ => ⟨trivial, trivial⟩)
  ·
   have dd23 := hd 23 (by kernel_rfl)
   have dd25 := hd 25 (by kernel_rfl)
   clear hd
   try generalize xF 23 = yy23 at *
   try generalize xF 25 = yy25 at *
   obtain rfl := dd23
   obtain ⟨a25, c25, rfl⟩ := dd25
   rw [if_pos (by rfl)]
   go_simp
   exact hK.out _ _ (Below.refl _ _) (rfl) (fun _ _ _ => ⟨trivial, trivial⟩)
  ·
   have dd23 := hd 23 (by kernel_rfl)
   have dd26 := hd 26 (by kernel_rfl)
   clear hd
   try generalize xF 23 = yy23 at *
   try generalize xF 26 = yy26 at *
   obtain rfl := dd23
   obtain rfl := dd26
   rw [if_pos (by rfl)]
   go_simp
   exact hK.out _ _ (Below.refl _ _) (rfl) (fun _ _ _ => ⟨trivial, trivial⟩)
  ·
   have dd23 := hd 23 (by kernel_rfl)
   have dd27 := hd 27 (by kernel_rfl)
   clear hd
   try generalize xF 23 = yy23 at *
   try generalize xF 27 = yy27 at *
   obtain rfl := dd23
   obtain rfl := dd27
   rw [if_pos (by rfl)]
   go_simp
   exact hK.out _ _ (Below.refl _ _) (rfl) (fun _ _ _ => ⟨trivial, trivial⟩)
 intro xF w8 hR hF hP
 clear hP
 have dd0 := hF 0 (by omega) (by decide)
 have dd1 := hF 1 (by omega) (by decide)
 have dd2 := hF 2 (by omega) (by decide)
 have dd3 := hF 3 (by omega) (by decide)
 have dd4 := hF 4 (by omega) (by decide)
 have dd5 := hF 5 (by omega) (by decide)
 have dd6 := hF 6 (by omega) (by decide)
 have dd7 := hF 7 (by omega) (by decide)
 have dd8 := hF 8 (by omega) (by decide)
 have dd9 := hF 9 (by omega) (by decide)
 have dd10 := hF 10 (by omega) (by decide)
 have dd11 := hF 11 (by omega) (by decide)
 have dd12 := hF 12 (by omega) (by decide)
 have dd13 := hF 13 (by omega) (by decide)
 have dd14 := hF 14 (by omega) (by decide)
 have dd15 := hF 15 (by omega) (by decide)
 have dd16 : (SetV 0 [] awS (xF 16) w8) := hF 16 (by omega) (by decide)
 have dd17 := hF 17 (by omega) (by decide)
 have dd18 := hF 18 (by omega) (by decide)
 have dd19 := hF 19 (by omega) (by decide)
 have dd20 := hF 20 (by omega) (by decide)
 have dd21 := hF 21 (by omega) (by decide)
 have dd22 := hF 22 (by omega) (by decide)
 have dd23 := hF 23 (by omega) (by decide)
 have dd24 := hF 24 (by omega) (by decide)
 have dd25 := hF 25 (by omega) (by decide)
 have dd26 := hF 26 (by omega) (by decide)
 have dd27 := hF 27 (by omega) (by decide)
 have dd28 := hF 28 (by omega) (by decide)
 clear hF
 simp only [take_succ_cons, take_zero, drop_succ_cons, drop_zero, fillOf, Act.put, setIfInBounds_toArray, set_cons_zero, set_cons_succ, Nat.reduceAdd, Nat.zero_add]
 try generalize xF 0 = yy0 at *
 try generalize xF 1 = yy1 at *
 try generalize xF 2 = yy2 at *
 try generalize xF 3 = yy3 at *
 try generalize xF 4 = yy4 at *
 try generalize xF 5 = yy5 at *
 try generalize xF 6 = yy6 at *
 try generalize xF 7 = yy7 at *
 try generalize xF 8 = yy8 at *
 try generalize xF 9 = yy9 at *
 try generalize xF 10 = yy10 at *
 try generalize xF 11 = yy11 at *
 try generalize xF 12 = yy12 at *
 try generalize xF 13 = yy13 at *
 try generalize xF 14 = yy14 at *
 try generalize xF 15 = yy15 at *
 try generalize xF 16 = yy16 at *
 try generalize xF 17 = yy17 at *
 try generalize xF 18 = yy18 at *
 try generalize xF 19 = yy19 at *
 try generalize xF 20 = yy20 at *
 try generalize xF 21 = yy21 at *
 try generalize xF 22 = yy22 at *
 try generalize xF 23 = yy23 at *
 try generalize xF 24 = yy24 at *
 try generalize xF 25 = yy25 at *
 try generalize xF 26 = yy26 at *
 try generalize xF 27 = yy27 at *
 try generalize xF 28 = yy28 at *
 clear xF
 obtain rfl := dd0
 obtain rfl := dd1
 obtain rfl := dd2
 obtain rfl := dd3
 obtain rfl := dd4
 obtain rfl := dd5
 obtain rfl := dd6
 obtain rfl := dd7
 obtain rfl := dd8
 obtain rfl := dd9
 obtain rfl := dd10
 obtain rfl := dd11
 obtain rfl := dd12
 obtain rfl := dd13
 obtain rfl := dd14
 obtain rfl := dd15
 have hp16 := dd16
 obtain rfl := dd17
 obtain ⟨a18, c18, x1, x2, x3, x4, x5, x6, rfl⟩ := dd18
 obtain ⟨a19, c19, rfl⟩ := dd19
 obtain rfl := dd20
 obtain rfl := dd21
 obtain rfl := dd22
 obtain rfl := dd23
 obtain rfl := dd24
 obtain ⟨a25, c25, rfl⟩ := dd25
 obtain rfl := dd26
 obtain rfl := dd27
 obtain rfl := dd28
 have hRE := Lib.hid hR
 clear hR
 go_wp2_with fail
 go_ret
 exact ⟨rfl, HB7.out.trans (hRE.mono HB7.out.size)⟩
end Go.Proofs.YthpdmfkpiekonaaGreat
