/- texts put together: SerHas, SerFind. -/
import Derived.Test.YtegjpiggjcfoaaaPd08
namespace Go.Proofs.Ytegjpiggjcfoaaa
open Go Go.RowKit Go.ChangeShapes cl Go.Sort
set_option maxHeartbeats 3200000 in
set_option maxRecDepth 100000 in
theorem shas_any (k : Nat) (l : List Lab) (S : List tb.Sym) (R : List se.Row) (vs vr vl : Value) (w : World) (hok : se.Ok S R) (h : SerAt w w.heap.size vs vr S R) (hl : Labs w w.heap.size vl l) (hk : k < R.length) :
  Calls Try.prog 19 #[tval vs vr, .int .i64 (k : Int), vl] w (Said (decide (0 < (se.at_ R k).2 ∧ (se.at_ R k).1 = l)) w) := by
 have hA : Below w.heap.size w (w.alloc (.cells #[vs, .int .i64 24000, vr] 28)) := (Below.refl _ _).alloc (Nat.le_refl _) _
 have HUS := Lib.hid (sused_any (k : Int) S R vs vr _ (h.next hA).2)
 have HS := Lib.hid h.1
 obtain ⟨sa, sn, sc, rfl⟩ : ∃ a n c, vs = .slice a n c := by
  obtain ⟨a, c, e, _⟩ := Cells.form h.1
  exact ⟨_, _, _, e⟩
 obtain ⟨q0, hq0⟩ : ∃ q, q = R.length := ⟨_, rfl⟩
 obtain ⟨ao, cap, rfl, _, hqm⟩ := h.2.form' hq0
 unfold maxLen at hqm
 obtain ⟨n, hn⟩ : ∃ n, n = l.length := ⟨_, rfl⟩
 obtain ⟨la, lc, rfl, hnm⟩ : ∃ a c, vl = .slice a n c ∧ n ≤ maxLen := by
  obtain ⟨a, c, e, _, hm⟩ := hl.form
  exact ⟨a, c, by rw [hn]; exact e, by rw [hn]; exact hm⟩
 unfold maxLen at hnm
 have HN := Lib.hid hn
 have HLB := Lib.hid hl
 have hkq : k < q0 := by rw [hq0]; exact hk
 have hkI : (k : Int) < (q0 : Int) := by omega
 have hk0 : (0 : Int) ≤ (k : Int) := by omega
 obtain ⟨b, off, ai, m, ci, rfl, hB, hm, hmm, hci, p0, p1⟩ := row_at h.2 hq0 hkq
 unfold maxLen at hmm
 have HRW := Lib.hid (hok.row k hk)
 have HSY : Hid (∀ t ∈ se.texts (se.at_ R k).1, tb.find S t < S.length) := fun t ht => hok.sym hk ht
 have HUV : Hid (se.used R (k : Int) = decide (1 ≤ (se.at_ R k).2)) := by
  show decide _ = decide _
  rw [Int.toNat_natCast]
  exact decide_eq_decide.2 ⟨fun h => h.2.2, fun h => ⟨by omega, by omega, h⟩⟩
 rw [HUV.out] at HUS
 obtain ⟨⟨lr, r⟩, hx⟩ : ∃ x, x = se.at_ R k := ⟨_, rfl⟩
 rw [← hx] at HRW HSY HUS hm hci p1 ⊢
 simp only at HRW HSY HUS hm hci p1 ⊢
 obtain ⟨L, hL⟩ : ∃ L, L = lr.length := ⟨_, rfl⟩
 have HL := Lib.hid hL
 rw [se.texts_len, ← hL] at hm
 have HM := Lib.hid hm
 have HBX : Hid (∀ W, Below (w.alloc (.cells #[.slice sa sn sc, .int .i64 24000, .slice (some ⟨b, off, none⟩) q0 cap] 28)).heap.size (w.alloc (.cells #[.slice sa sn sc, .int .i64 24000, .slice (some ⟨b, off, none⟩) q0 cap] 28)) W → W.cell? ⟨w.heap.size, 0, none⟩ = some (.slice sa sn sc) ∧ W.cell? ⟨w.heap.size, 1, none⟩ = some (.int .i64 24000) ∧ W.cell? ⟨w.heap.size, 2, none⟩ = some (.slice (some ⟨b, off, none⟩) q0 cap)) := fun W hW => by
  obtain ⟨c0, c1, c2, _⟩ := three (w := w) (w2 := W) (t := 28) hW
  exact ⟨c0, c1, c2⟩
 have hbne : ¬ b = w.heap.size := by omega
 clear h hok hl hq0 hn hk hx hL hm
 by_cases hr : 1 ≤ r
 rotate_left
 ·
  have HE : Hid (decide (0 < r ∧ lr = l) = false) := decide_eq_false (fun h => hr (by omega))
  have hrf : decide (1 ≤ r) = false := decide_eq_false hr
  rw [hrf] at HUS
  clear hr hrf
  go_enter Try.func19, Try.ntmps19
  go_wp2
  go_step3
  go_wp2_with fail
  (with_reducible refine HUS.out.mono ?_)
  rintro e w1 ⟨rfl, hb1⟩
  have hb := hA.trans (hb1.mono hA.size)
  clear p0 p1 hbne
  go_wp2
  go_ret
  rw [HE.out]; exact ⟨rfl, hb⟩
 rw [decide_eq_true hr] at HUS
 have hLm : L ≤ m := by rw [HM.out]; omega
 have HWL : Hid ((m : Int) / 2 = (L : Int)) := by show _ = _; rw [HM.out]; omega
 by_cases hLn : L = n
 rotate_left
 ·
  have HE : Hid (decide (0 < r ∧ lr = l) = false) := decide_eq_false (fun h => hLn (by rw [HL.out, HN.out, h.2]))
  have hne : ((L : Int) != (n : Int)) = true := bne_iff_ne.2 (fun e => hLn (Int.ofNat_inj.1 e))
  have hne2 : ((L : Int) == (n : Int)) = false := beq_eq_false_iff_ne.2 (fun e => hLn (Int.ofNat_inj.1 e))
  have hwL := HWL.out
  go_enter Try.func19, Try.ntmps19
  go_wp2
  go_step3
  go_wp2_with fail
  (with_reducible refine HUS.out.mono ?_)
  rintro e w1 ⟨rfl, hb1⟩
  have hb := hA.trans (hb1.mono hA.size)
  clear p0 p1 hbne
  go_wp2
  go_ret
  rw [HE.out]; exact ⟨rfl, hb⟩
 subst hLn
 obtain ⟨hl0, hl6, _⟩ := canon_len (HRW.out.2.2.2 (by omega))
 rw [← HL.out] at hl0 hl6
 have hm0 : 0 < m := by rw [HM.out]; omega
 have hci2 : Cells w w.heap.size (.slice ai m ci) m 1 (nums S (se.texts lr)) := hci
 obtain ⟨_, ai', ci', e9, ⟨_, hmc⟩, _, h4⟩ := hci2
 simp only [Value.slice.injEq] at e9
 obtain ⟨rfl, _, rfl⟩ := e9
 obtain ⟨bi, oi, rfl, hBi, hcell⟩ := h4 hm0
 have HIDS : Hid (∀ j t, (se.texts lr)[j]? = some t → ∀ W, Below w.heap.size w W → W.cell? ⟨bi, oi + j, none⟩ = some (.int .i64 (tb.find S t : Int))) := fun j t hj W hW => (hW.cell (p := ⟨bi, oi + j, none⟩) hBi).trans (hcell j _ (nums_get hj))
 have HGET : Hid (∀ j, j < L → ∃ x y, (x, y) = lr.getD j (.empty, .empty) ∧ (se.texts lr)[j * 2]? = some x ∧ (se.texts lr)[j * 2 + 1]? = some y ∧ tb.find S x < S.length ∧ tb.find S y < S.length) := fun j hj => by
  obtain ⟨g0, g1⟩ := se.texts_get lr j (by rw [← HL.out]; exact hj)
  exact ⟨_, _, rfl, g0, g1, HSY.out _ (List.mem_of_getElem? g0), HSY.out _ (List.mem_of_getElem? g1)⟩
 have HR0 := Lib.hid (show 0 < r by omega)
 clear hcell h4 hci HRW hl0
 have hwL := HWL.out
 go_enter Try.func19, Try.ntmps19
 go_wp2
 go_step3
 go_wp2_with fail
 (with_reducible refine HUS.out.mono ?_)
 rintro e w1 ⟨rfl, hb1⟩
 clear p0 p1 hbne HUS
 go_wp2
 go_step3
 go_wp2
 clear hwL
 go_loopw [8, 35] (fun sm i wr => ∃ j : Nat, sm = .bool true ∧ i = .int .i64 j ∧ j ≤ L ∧ Hid (lr.take j = l.take j) ∧ Hid (Below (w.alloc (.cells #[.slice sa sn sc, .int .i64 24000, .slice (some ⟨b, off, none⟩) q0 cap] 28)).heap.size (w.alloc (.cells #[.slice sa sn sc, .int .i64 24000, .slice (some ⟨b, off, none⟩) q0 cap] 28)) wr)) (fun _ i _ => L - (intOf i).toNat)
 case atStart => exact ⟨0, rfl, rfl, by omega, rfl, hb1⟩
 case round =>
  obtain ⟨j, rfl, rfl, hj, HT, HD⟩ := hrel
  have D := hA.trans (HD.out.mono hA.size)
  by_cases hlt : j < L
  ·
   have hjI : (j : Int) < (L : Int) := by omega
   obtain ⟨x, y, hxy, g0, g1, f0, f1⟩ := HGET.out j hlt
   obtain ⟨b2, o2, rfl, hB2, p0, p1⟩ := Labs.get HLB.out HN.out hlt
   have c0 := (D.cell (p := ⟨b2, o2 + j * 2, none⟩) hB2).trans p0
   have c1 := (D.cell (p := ⟨b2, o2 + j * 2 + 1, none⟩) hB2).trans p1
   obtain ⟨⟨xa, xb⟩, hab⟩ : ∃ z, z = l.getD j (.empty, .empty) := ⟨_, rfl⟩
   rw [← hab] at c0 c1
   simp only at c0 c1
   have HXY := Lib.hid hxy
   have HAB := Lib.hid hab
   obtain ⟨wq, hwq⟩ : ∃ W, W = wr.alloc (.cells #[.string xa, .string xb] 47) := ⟨_, rfl⟩
   have Dq : Below wr.heap.size wr wq := by rw [hwq]; exact (Below.refl _ _).alloc (Nat.le_refl _) _
   have HDq := Lib.hid (HD.out.trans (Dq.mono HD.out.size))
   have D' := D.trans (Dq.mono D.size)
   have HBQ : Hid (∀ W, Below wq.heap.size wq W → W.cell? ⟨wr.heap.size, 0, none⟩ = some (.string xa) ∧ W.cell? ⟨wr.heap.size, 1, none⟩ = some (.string xb)) := fun W hW => by
    rw [hwq] at hW
    obtain ⟨z0, z1, _⟩ := two hW
    exact ⟨z0, z1⟩
   have HTx : Hid (∀ W, Below wq.heap.size wq W → Calls Try.prog 23 #[.agg #[.slice sa sn sc, .int .i64 24000], .int .i64 (tb.find S x : Int)] W fun e w' => e = .returned (.tuple #[.string x, .bool true]) ∧ Below W.heap.size W w') := fun W hW => sym_text HS.out f0 W (D'.trans (hW.mono D'.size))
   have HTy : Hid (∀ W, Below wq.heap.size wq W → Calls Try.prog 23 #[.agg #[.slice sa sn sc, .int .i64 24000], .int .i64 (tb.find S y : Int)] W fun e w' => e = .returned (.tuple #[.string y, .bool true]) ∧ Below W.heap.size W w') := fun W hW => sym_text HS.out f1 W (D'.trans (hW.mono D'.size))
   obtain ⟨J, hJ⟩ : ∃ J, J = j * 2 := ⟨_, rfl⟩
   obtain ⟨Jb, hJb⟩ : ∃ K, K = J + 1 := ⟨_, rfl⟩
   have Hnx : Hid (∀ W, Below wq.heap.size wq W → W.cell? ⟨bi, oi + J, none⟩ = some (.int .i64 (tb.find S x : Int))) := fun W hW => by rw [hJ]; exact HIDS.out (j * 2) x g0 W (D'.trans (hW.mono D'.size))
   have Hny : Hid (∀ W, Below wq.heap.size wq W → W.cell? ⟨bi, oi + Jb, none⟩ = some (.int .i64 (tb.find S y : Int))) := fun W hW => by rw [hJb, hJ]; exact HIDS.out (j * 2 + 1) y g1 W (D'.trans (hW.mono D'.size))
   have HB : Hid (∀ W, Below wq.heap.size wq W → W.cell? ⟨w.heap.size, 0, none⟩ = some (.slice sa sn sc) ∧ W.cell? ⟨w.heap.size, 1, none⟩ = some (.int .i64 24000) ∧ W.cell? ⟨w.heap.size, 2, none⟩ = some (.slice (some ⟨b, off, none⟩) q0 cap)) := fun W hW => HBX.out W (HDq.out.trans (hW.mono HDq.out.size))
   have hKm : Jb < m := by have := HM.out; omega
   have i0 : (2 : Int) * (j : Int) = (J : Int) := by omega
   have i1 : IntKind.i64.wrap (J : Int) = (J : Int) := IntWalk.i64_in _ (by omega)
   have i2 : IntKind.i64.wrap ((2 : Int) * (j : Int)) = (J : Int) := by rw [i0]; exact i1
   have i3 : (J : Int) + 1 = (Jb : Int) := by omega
   have i4 : IntKind.i64.wrap (Jb : Int) = (Jb : Int) := IntWalk.i64_in _ (by omega)
   have i5 : IntKind.i64.wrap ((J : Int) + 1) = (Jb : Int) := by rw [i3]; exact i4
   have i6 : (J : Int) < (m : Int) := by omega
   have i7 : (Jb : Int) < (m : Int) := by omega
   have i8 : J < m := by omega
   have i9 : (0 : Int) ≤ (J : Int) := by omega
   have i10 : (0 : Int) ≤ (Jb : Int) := by omega
   obtain ⟨nx, hnx⟩ : ∃ n, n = tb.find S x := ⟨_, rfl⟩
   obtain ⟨ny, hny⟩ : ∃ n, n = tb.find S y := ⟨_, rfl⟩
   rw [← hnx] at HTx Hnx
   rw [← hny] at HTy Hny
   have HWQ := Lib.hid hwq
   clear hxy hab g0 g1 f0 f1 hnx hny hJ hJb hwq p0 p1
   go_wp2_with fail
   rw [← HWQ.out]
   clear c0 c1
   refine wp_flow 13 (fun _ => 1000) (fun ww => RowKit.Below wq.heap.size wq ww) (fun _ w w' => (fun (w w' : World) => RowKit.Below w.heap.size w w') w w') (fun kF vF wF => match kF with | 0 => (vF = .pointer (some ⟨w.heap.size, 0, none⟩)) | 1 => (vF = .agg #[.slice sa sn sc, .int .i64 24000]) | 2 => (vF = .slice (some ⟨bi, oi, none⟩) m ci) | 3 => (vF = .int .i64 (j : Int)) | 4 => (vF = .int .i64 (J : Int)) | 5 => (vF = .pointer (some ⟨bi, oi + J, none⟩)) | 6 => (vF = .int .i64 (nx : Int)) | 7 => (vF = .tuple #[.string x, .bool true]) | 8 => (vF = .tuple #[.string x, .bool true]) | 9 => (vF = .string x) | 10 => (vF = .bool true) | 11 => (vF = .string x) | 12 => (vF = .bool true) | _ => True) (fun _ _ _ _ => True) (by kernel_rfl) (by kernel_rfl) ?_ ?_ ?_ ?_ ?_
   ·
    exact (Below.refl _ _).drew
   ·
    intro iF wF1 wF2 hR hT; exact hR.trans (hT.mono hR.size)
   ·
    intro kF hkF iF hiF hne hdd hanc hdan vF wF1 wF2 h hT
    rcases (by omega : kF = 0 ∨ kF = 1 ∨ kF = 2 ∨ kF = 3 ∨ kF = 4 ∨ kF = 5 ∨ kF = 6 ∨ kF = 7 ∨ kF = 8 ∨ kF = 9 ∨ kF = 10 ∨ kF = 11 ∨ kF = 12) with rfl | rfl | rfl | rfl | rfl | rfl | rfl | rfl | rfl | rfl | rfl | rfl | rfl
    ·
     exact h
    ·
     exact h
    ·
     exact h
    ·
     exact h
    ·
     exact h
    ·
     exact h
    ·
     exact h
    ·
     exact h
    ·
     exact h
    ·
     exact h
    ·
     exact h
    ·
     exact h
    ·
     exact h
   ·
    generalize hAF : fillOf _ _ _ = AF
    replace hAF := fun x => congrFun hAF x
    simp only [List.take_succ_cons, List.take_zero, fillOf, Act.put, List.setIfInBounds_toArray, List.set_cons_zero, List.set_cons_succ, Nat.reduceAdd, Nat.zero_add] at hAF
    refine FlowAll.cons ?_ ?_
    ·
     intro xF w1 hR hd K hK
     clear hd
     simp only [← hAF, Act.put, List.setIfInBounds_toArray, List.set_cons_zero, List.set_cons_succ] at hK ⊢
     clear hAF
     try simp only [Nat.zero_add] at hK ⊢
     try simp only [Nat.reduceAdd] at hK ⊢
     obtain hbR := id hR
     rw [if_pos (by rfl)]
     go_simp
     exact hK.out _ _ (Below.refl _ _) (rfl) (fun _ _ _ => ⟨trivial, trivial⟩)
    refine FlowAll.cons ?_ ?_
    ·
     intro xF w1 hR hd K hK
     have dd0 : ((xF 0) = .pointer (some ⟨w.heap.size, 0, none⟩)) := hd 0 (by kernel_rfl)
     clear hd
     simp only [← hAF, Act.put, List.setIfInBounds_toArray, List.set_cons_zero, List.set_cons_succ] at hK ⊢
     clear hAF
     try simp only [Nat.zero_add] at hK ⊢
     try simp only [Nat.reduceAdd] at hK ⊢
     try generalize xF 0 = yy0 at *
     obtain rfl := dd0
     obtain hbR := id hR
     obtain ⟨k0, k1, _⟩ := HB.out _ hR
     rw [if_pos (by rfl)]
     go_simp
     exact hK.out _ _ (Below.refl _ _) (rfl) (fun _ _ _ => ⟨trivial, trivial⟩)
    refine FlowAll.cons ?_ ?_
    ·
     intro xF w1 hR hd K hK
     clear hd
     simp only [← hAF, Act.put, List.setIfInBounds_toArray, List.set_cons_zero, List.set_cons_succ] at hK ⊢
     clear hAF
     try simp only [Nat.zero_add] at hK ⊢
     try simp only [Nat.reduceAdd] at hK ⊢
     obtain hbR := id hR
     rw [if_pos (by rfl)]
     go_simp
     exact hK.out _ _ (Below.refl _ _) (rfl) (fun _ _ _ => ⟨trivial, trivial⟩)
    refine FlowAll.cons ?_ ?_
    ·
     intro xF w1 hR hd K hK
     clear hd
     simp only [← hAF, Act.put, List.setIfInBounds_toArray, List.set_cons_zero, List.set_cons_succ] at hK ⊢
     clear hAF
     try simp only [Nat.zero_add] at hK ⊢
     try simp only [Nat.reduceAdd] at hK ⊢
     obtain hbR := id hR
     rw [if_pos (by rfl)]
     go_simp
     exact hK.out _ _ (Below.refl _ _) (rfl) (fun _ _ _ => ⟨trivial, trivial⟩)
    refine FlowAll.cons ?_ ?_
    ·
     intro xF w1 hR hd K hK
     have dd3 : ((xF 3) = .int .i64 (j : Int)) := hd 3 (by kernel_rfl)
     clear hd
     simp only [← hAF, Act.put, List.setIfInBounds_toArray, List.set_cons_zero, List.set_cons_succ] at hK ⊢
     clear hAF
     try simp only [Nat.zero_add] at hK ⊢
     try simp only [Nat.reduceAdd] at hK ⊢
     try generalize xF 3 = yy3 at *
     obtain rfl := dd3
     obtain hbR := id hR
     rw [if_pos (by rfl)]
     go_simp
     exact hK.out _ _ (Below.refl _ _) (rfl) (fun _ _ _ => ⟨trivial, trivial⟩)
    refine FlowAll.cons ?_ ?_
    ·
     intro xF w1 hR hd K hK
     have dd2 : ((xF 2) = .slice (some ⟨bi, oi, none⟩) m ci) := hd 2 (by kernel_rfl)
     have dd4 : ((xF 4) = .int .i64 (J : Int)) := hd 4 (by kernel_rfl)
     clear hd
     simp only [← hAF, Act.put, List.setIfInBounds_toArray, List.set_cons_zero, List.set_cons_succ] at hK ⊢
     clear hAF
     try simp only [Nat.zero_add] at hK ⊢
     try simp only [Nat.reduceAdd] at hK ⊢
     try generalize xF 2 = yy2 at *
     try generalize xF 4 = yy4 at *
     obtain rfl := dd2
     obtain rfl := dd4
     obtain hbR := id hR
     rw [if_pos (by rfl)]
     go_simp
     exact hK.out _ _ (Below.refl _ _) (rfl) (fun _ _ _ => ⟨trivial, trivial⟩)
    refine FlowAll.cons ?_ ?_
    ·
     intro xF w1 hR hd K hK
     have dd5 : ((xF 5) = .pointer (some ⟨bi, oi + J, none⟩)) := hd 5 (by kernel_rfl)
     clear hd
     simp only [← hAF, Act.put, List.setIfInBounds_toArray, List.set_cons_zero, List.set_cons_succ] at hK ⊢
     clear hAF
     try simp only [Nat.zero_add] at hK ⊢
     try simp only [Nat.reduceAdd] at hK ⊢
     try generalize xF 5 = yy5 at *
     obtain rfl := dd5
     obtain hbR := id hR
     have k2 := Hnx.out _ hR
     rw [if_pos (by rfl)]
     go_simp
     exact hK.out _ _ (Below.refl _ _) (rfl) (fun _ _ _ => ⟨trivial, trivial⟩)
    refine FlowAll.cons ?_ ?_
    ·
     intro xF w1 hR hd K hK
     have dd1 : ((xF 1) = .agg #[.slice sa sn sc, .int .i64 24000]) := hd 1 (by kernel_rfl)
     have dd6 : ((xF 6) = .int .i64 (nx : Int)) := hd 6 (by kernel_rfl)
     clear hd
     simp only [← hAF, Act.put, List.setIfInBounds_toArray, List.set_cons_zero, List.set_cons_succ] at hK ⊢
     clear hAF
     try simp only [Nat.zero_add] at hK ⊢
     try simp only [Nat.reduceAdd] at hK ⊢
     try generalize xF 1 = yy1 at *
     try generalize xF 6 = yy6 at *
     obtain rfl := dd1
     obtain rfl := dd6
     obtain hbR := id hR
     rw [if_pos (by rfl)]
     go_simp
     (go_at_call 23; (with_reducible refine (HTx.out _ hR).mono ?_); rintro e wK ⟨rfl, hbK⟩)
     try go_wp2_with fail
     exact hK.out _ _ (hbK) (rfl) (fun _ _ _ => ⟨trivial, trivial⟩)
    refine FlowAll.cons ?_ ?_
    ·
     intro xF w1 hR hd K hK
     have dd7 : ((xF 7) = .tuple #[.string x, .bool true]) := hd 7 (by kernel_rfl)
     clear hd
     simp only [← hAF, Act.put, List.setIfInBounds_toArray, List.set_cons_zero, List.set_cons_succ] at hK ⊢
     clear hAF
     try simp only [Nat.zero_add] at hK ⊢
     try simp only [Nat.reduceAdd] at hK ⊢
     try generalize xF 7 = yy7 at *
     obtain rfl := dd7
     obtain hbR := id hR
     rw [if_pos (by rfl)]
     go_simp
     exact hK.out _ _ (Below.refl _ _) (rfl) (fun _ _ _ => ⟨trivial, trivial⟩)
    refine FlowAll.cons ?_ ?_
    ·
     intro xF w1 hR hd K hK
     have dd8 : ((xF 8) = .tuple #[.string x, .bool true]) := hd 8 (by kernel_rfl)
     clear hd
     simp only [← hAF, Act.put, List.setIfInBounds_toArray, List.set_cons_zero, List.set_cons_succ] at hK ⊢
     clear hAF
     try simp only [Nat.zero_add] at hK ⊢
     try simp only [Nat.reduceAdd] at hK ⊢
     try generalize xF 8 = yy8 at *
     obtain rfl := dd8
     obtain hbR := id hR
     rw [if_pos (by rfl)]
     go_simp
     exact hK.out _ _ (Below.refl _ _) (rfl) (fun _ _ _ => ⟨trivial, trivial⟩)
    refine FlowAll.cons ?_ ?_
    ·
     intro xF w1 hR hd K hK
     have dd8 : ((xF 8) = .tuple #[.string x, .bool true]) := hd 8 (by kernel_rfl)
     clear hd
     simp only [← hAF, Act.put, List.setIfInBounds_toArray, List.set_cons_zero, List.set_cons_succ] at hK ⊢
     clear hAF
     try simp only [Nat.zero_add] at hK ⊢
     try simp only [Nat.reduceAdd] at hK ⊢
     try generalize xF 8 = yy8 at *
     obtain rfl := dd8
     obtain hbR := id hR
     rw [if_pos (by rfl)]
     go_simp
     exact hK.out _ _ (Below.refl _ _) (rfl) (fun _ _ _ => ⟨trivial, trivial⟩)
    refine FlowAll.cons ?_ ?_
    ·
     intro xF w1 hR hd K hK
     have dd9 : ((xF 9) = .string x) := hd 9 (by kernel_rfl)
     clear hd
     simp only [← hAF, Act.put, List.setIfInBounds_toArray, List.set_cons_zero, List.set_cons_succ] at hK ⊢
     clear hAF
     try simp only [Nat.zero_add] at hK ⊢
     try simp only [Nat.reduceAdd] at hK ⊢
     try generalize xF 9 = yy9 at *
     obtain rfl := dd9
     obtain hbR := id hR
     rw [if_pos (by rfl)]
     go_simp
     exact hK.out _ _ (Below.refl _ _) (rfl) (fun _ _ _ => ⟨trivial, trivial⟩)
    refine FlowAll.cons ?_ ?_
    ·
     intro xF w1 hR hd K hK
     have dd10 : ((xF 10) = .bool true) := hd 10 (by kernel_rfl)
     clear hd
     simp only [← hAF, Act.put, List.setIfInBounds_toArray, List.set_cons_zero, List.set_cons_succ] at hK ⊢
     clear hAF
     try simp only [Nat.zero_add] at hK ⊢
     try simp only [Nat.reduceAdd] at hK ⊢
     try generalize xF 10 = yy10 at *
     obtain rfl := dd10
     obtain hbR := id hR
     rw [if_pos (by rfl)]
     go_simp
     exact hK.out _ _ (Below.refl _ _) (rfl) (fun _ _ _ => ⟨trivial, trivial⟩)
    exact FlowAll.nil
   intro xF w1 hR hF hP
   clear hP
   have dd0 : ((xF 0) = .pointer (some ⟨w.heap.size, 0, none⟩)) := hF 0 (by omega) (by decide)
   have dd1 : ((xF 1) = .agg #[.slice sa sn sc, .int .i64 24000]) := hF 1 (by omega) (by decide)
   have dd2 : ((xF 2) = .slice (some ⟨bi, oi, none⟩) m ci) := hF 2 (by omega) (by decide)
   have dd3 : ((xF 3) = .int .i64 (j : Int)) := hF 3 (by omega) (by decide)
   have dd4 : ((xF 4) = .int .i64 (J : Int)) := hF 4 (by omega) (by decide)
   have dd5 : ((xF 5) = .pointer (some ⟨bi, oi + J, none⟩)) := hF 5 (by omega) (by decide)
   have dd6 : ((xF 6) = .int .i64 (nx : Int)) := hF 6 (by omega) (by decide)
   have dd7 : ((xF 7) = .tuple #[.string x, .bool true]) := hF 7 (by omega) (by decide)
   have dd8 : ((xF 8) = .tuple #[.string x, .bool true]) := hF 8 (by omega) (by decide)
   have dd9 : ((xF 9) = .string x) := hF 9 (by omega) (by decide)
   have dd10 : ((xF 10) = .bool true) := hF 10 (by omega) (by decide)
   have dd11 : ((xF 11) = .string x) := hF 11 (by omega) (by decide)
   have dd12 : ((xF 12) = .bool true) := hF 12 (by omega) (by decide)
   clear hF
   simp only [List.take_succ_cons, List.take_zero, List.drop_succ_cons, List.drop_zero, fillOf, Act.put, List.setIfInBounds_toArray, List.set_cons_zero, List.set_cons_succ, Nat.reduceAdd, Nat.zero_add]
   try generalize xF 0 = yy0 at *
   try generalize xF 1 = yy1 at *
   try generalize xF 2 = yy2 at *
   try generalize xF 3 = yy3 at *
   try generalize xF 4 = yy4 at *
   try generalize xF 5 = yy5 at *
   try generalize xF 6 = yy6 at *
   try generalize xF 7 = yy7 at *
   try generalize xF 8 = yy8 at *
   try generalize xF 9 = yy9 at *
   try generalize xF 10 = yy10 at *
   try generalize xF 11 = yy11 at *
   try generalize xF 12 = yy12 at *
   clear xF
   obtain rfl := dd0
   obtain rfl := dd1
   obtain rfl := dd2
   obtain rfl := dd3
   obtain rfl := dd4
   obtain rfl := dd5
   obtain rfl := dd6
   obtain rfl := dd7
   obtain rfl := dd8
   obtain rfl := dd9
   obtain rfl := dd10
   obtain rfl := dd11
   obtain rfl := dd12
   have hRE := Lib.hid hR
   clear hR
   have D1 := hRE.out
   clear hRE
   go_wp2_with fail
   refine wp_flow 14 (fun _ => 1000) (fun ww => RowKit.Below wq.heap.size wq ww) (fun _ w w' => (fun (w w' : World) => RowKit.Below w.heap.size w w') w w') (fun kF vF wF => match kF with | 0 => (vF = .pointer (some ⟨w.heap.size, 0, none⟩)) | 1 => (vF = .agg #[.slice sa sn sc, .int .i64 24000]) | 2 => (vF = .slice (some ⟨bi, oi, none⟩) m ci) | 3 => (vF = .int .i64 (j : Int)) | 4 => (vF = .int .i64 (J : Int)) | 5 => (vF = .int .i64 (Jb : Int)) | 6 => (vF = .pointer (some ⟨bi, oi + Jb, none⟩)) | 7 => (vF = .int .i64 (ny : Int)) | 8 => (vF = .tuple #[.string y, .bool true]) | 9 => (vF = .tuple #[.string y, .bool true]) | 10 => (vF = .string y) | 11 => (vF = .bool true) | 12 => (vF = .string y) | 13 => (vF = .bool true) | _ => True) (fun _ _ _ _ => True) (by kernel_rfl) (by kernel_rfl) ?_ ?_ ?_ ?_ ?_
   ·
    exact D1.drew
   ·
    intro iF wF1 wF2 hR hT; exact hR.trans (hT.mono hR.size)
   ·
    intro kF hkF iF hiF hne hdd hanc hdan vF wF1 wF2 h hT
    rcases (by omega : kF = 0 ∨ kF = 1 ∨ kF = 2 ∨ kF = 3 ∨ kF = 4 ∨ kF = 5 ∨ kF = 6 ∨ kF = 7 ∨ kF = 8 ∨ kF = 9 ∨ kF = 10 ∨ kF = 11 ∨ kF = 12 ∨ kF = 13) with rfl | rfl | rfl | rfl | rfl | rfl | rfl | rfl | rfl | rfl | rfl | rfl | rfl | rfl
    ·
     exact h
    ·
     exact h
    ·
     exact h
    ·
     exact h
    ·
     exact h
    ·
     exact h
    ·
     exact h
    ·
     exact h
    ·
     exact h
    ·
     exact h
    ·
     exact h
    ·
     exact h
    ·
     exact h
    ·
     exact h
   ·
    generalize hAF : fillOf _ _ _ = AF
    replace hAF := fun x => congrFun hAF x
    simp only [List.take_succ_cons, List.take_zero, fillOf, Act.put, List.setIfInBounds_toArray, List.set_cons_zero, List.set_cons_succ, Nat.reduceAdd, Nat.zero_add] at hAF
    refine FlowAll.cons ?_ ?_
    ·
     intro xF w2 hR hd K hK
     clear hd
     simp only [← hAF, Act.put, List.setIfInBounds_toArray, List.set_cons_zero, List.set_cons_succ] at hK ⊢
     clear hAF
     try simp only [Nat.zero_add] at hK ⊢
     try simp only [Nat.reduceAdd] at hK ⊢
     obtain hbR := id hR
     rw [if_pos (by rfl)]
     go_simp
     exact hK.out _ _ (Below.refl _ _) (rfl) (fun _ _ _ => ⟨trivial, trivial⟩)
    refine FlowAll.cons ?_ ?_
    ·
     intro xF w2 hR hd K hK
     have dd0 : ((xF 0) = .pointer (some ⟨w.heap.size, 0, none⟩)) := hd 0 (by kernel_rfl)
     clear hd
     simp only [← hAF, Act.put, List.setIfInBounds_toArray, List.set_cons_zero, List.set_cons_succ] at hK ⊢
     clear hAF
     try simp only [Nat.zero_add] at hK ⊢
     try simp only [Nat.reduceAdd] at hK ⊢
     try generalize xF 0 = yy0 at *
     obtain rfl := dd0
     obtain hbR := id hR
     obtain ⟨k0, k1, _⟩ := HB.out _ hR
     rw [if_pos (by rfl)]
     go_simp
     exact hK.out _ _ (Below.refl _ _) (rfl) (fun _ _ _ => ⟨trivial, trivial⟩)
    refine FlowAll.cons ?_ ?_
    ·
     intro xF w2 hR hd K hK
     clear hd
     simp only [← hAF, Act.put, List.setIfInBounds_toArray, List.set_cons_zero, List.set_cons_succ] at hK ⊢
     clear hAF
     try simp only [Nat.zero_add] at hK ⊢
     try simp only [Nat.reduceAdd] at hK ⊢
     obtain hbR := id hR
     rw [if_pos (by rfl)]
     go_simp
     exact hK.out _ _ (Below.refl _ _) (rfl) (fun _ _ _ => ⟨trivial, trivial⟩)
    refine FlowAll.cons ?_ ?_
    ·
     intro xF w2 hR hd K hK
     clear hd
     simp only [← hAF, Act.put, List.setIfInBounds_toArray, List.set_cons_zero, List.set_cons_succ] at hK ⊢
     clear hAF
     try simp only [Nat.zero_add] at hK ⊢
     try simp only [Nat.reduceAdd] at hK ⊢
     obtain hbR := id hR
     rw [if_pos (by rfl)]
     go_simp
     exact hK.out _ _ (Below.refl _ _) (rfl) (fun _ _ _ => ⟨trivial, trivial⟩)
    refine FlowAll.cons ?_ ?_
    ·
     intro xF w2 hR hd K hK
     have dd3 : ((xF 3) = .int .i64 (j : Int)) := hd 3 (by kernel_rfl)
     clear hd
     simp only [← hAF, Act.put, List.setIfInBounds_toArray, List.set_cons_zero, List.set_cons_succ] at hK ⊢
     clear hAF
     try simp only [Nat.zero_add] at hK ⊢
     try simp only [Nat.reduceAdd] at hK ⊢
     try generalize xF 3 = yy3 at *
     obtain rfl := dd3
     obtain hbR := id hR
     rw [if_pos (by rfl)]
     go_simp
     exact hK.out _ _ (Below.refl _ _) (rfl) (fun _ _ _ => ⟨trivial, trivial⟩)
    refine FlowAll.cons ?_ ?_
    ·
     intro xF w2 hR hd K hK
     have dd4 : ((xF 4) = .int .i64 (J : Int)) := hd 4 (by kernel_rfl)
     clear hd
     simp only [← hAF, Act.put, List.setIfInBounds_toArray, List.set_cons_zero, List.set_cons_succ] at hK ⊢
     clear hAF
     try simp only [Nat.zero_add] at hK ⊢
     try simp only [Nat.reduceAdd] at hK ⊢
     try generalize xF 4 = yy4 at *
     obtain rfl := dd4
     obtain hbR := id hR
     rw [if_pos (by rfl)]
     go_simp
     exact hK.out _ _ (Below.refl _ _) (rfl) (fun _ _ _ => ⟨trivial, trivial⟩)
    refine FlowAll.cons ?_ ?_
    ·
     intro xF w2 hR hd K hK
     have dd2 : ((xF 2) = .slice (some ⟨bi, oi, none⟩) m ci) := hd 2 (by kernel_rfl)
     have dd5 : ((xF 5) = .int .i64 (Jb : Int)) := hd 5 (by kernel_rfl)
     clear hd
     simp only [← hAF, Act.put, List.setIfInBounds_toArray, List.set_cons_zero, List.set_cons_succ] at hK ⊢
     clear hAF
     try simp only [Nat.zero_add] at hK ⊢
     try simp only [Nat.reduceAdd] at hK ⊢
     try generalize xF 2 = yy2 at *
     try generalize xF 5 = yy5 at *
     obtain rfl := dd2
     obtain rfl := dd5
     obtain hbR := id hR
     rw [if_pos (by rfl)]
     go_simp
     exact hK.out _ _ (Below.refl _ _) (rfl) (fun _ _ _ => ⟨trivial, trivial⟩)
    refine FlowAll.cons ?_ ?_
    ·
     intro xF w2 hR hd K hK
     have dd6 : ((xF 6) = .pointer (some ⟨bi, oi + Jb, none⟩)) := hd 6 (by kernel_rfl)
     clear hd
     simp only [← hAF, Act.put, List.setIfInBounds_toArray, List.set_cons_zero, List.set_cons_succ] at hK ⊢
     clear hAF
     try simp only [Nat.zero_add] at hK ⊢
     try simp only [Nat.reduceAdd] at hK ⊢
     try generalize xF 6 = yy6 at *
     obtain rfl := dd6
     obtain hbR := id hR
     have k2 := Hny.out _ hR
     rw [if_pos (by rfl)]
     go_simp
     exact hK.out _ _ (Below.refl _ _) (rfl) (fun _ _ _ => ⟨trivial, trivial⟩)
    refine FlowAll.cons ?_ ?_
    ·
     intro xF w2 hR hd K hK
     have dd1 : ((xF 1) = .agg #[.slice sa sn sc, .int .i64 24000]) := hd 1 (by kernel_rfl)
     have dd7 : ((xF 7) = .int .i64 (ny : Int)) := hd 7 (by kernel_rfl)
     clear hd
     simp only [← hAF, Act.put, List.setIfInBounds_toArray, List.set_cons_zero, List.set_cons_succ] at hK ⊢
     clear hAF
     try simp only [Nat.zero_add] at hK ⊢
     try simp only [Nat.reduceAdd] at hK ⊢
     try generalize xF 1 = yy1 at *
     try generalize xF 7 = yy7 at *
     obtain rfl := dd1
     obtain rfl := dd7
     obtain hbR := id hR
     rw [if_pos (by rfl)]
     go_simp
     (go_at_call 23; (with_reducible refine (HTy.out _ hR).mono ?_); rintro e wK ⟨rfl, hbK⟩)
     try go_wp2_with fail
     exact hK.out _ _ (hbK) (rfl) (fun _ _ _ => ⟨trivial, trivial⟩)
    refine FlowAll.cons ?_ ?_
    ·
     intro xF w2 hR hd K hK
     have dd8 : ((xF 8) = .tuple #[.string y, .bool true]) := hd 8 (by kernel_rfl)
     clear hd
     simp only [← hAF, Act.put, List.setIfInBounds_toArray, List.set_cons_zero, List.set_cons_succ] at hK ⊢
     clear hAF
     try simp only [Nat.zero_add] at hK ⊢
     try simp only [Nat.reduceAdd] at hK ⊢
     try generalize xF 8 = yy8 at *
     obtain rfl := dd8
     obtain hbR := id hR
     rw [if_pos (by rfl)]
     go_simp
     exact hK.out _ _ (Below.refl _ _) (rfl) (fun _ _ _ => ⟨trivial, trivial⟩)
    refine FlowAll.cons ?_ ?_
    ·
     intro xF w2 hR hd K hK
     have dd9 : ((xF 9) = .tuple #[.string y, .bool true]) := hd 9 (by kernel_rfl)
     clear hd
     simp only [← hAF, Act.put, List.setIfInBounds_toArray, List.set_cons_zero, List.set_cons_succ] at hK ⊢
     clear hAF
     try simp only [Nat.zero_add] at hK ⊢
     try simp only [Nat.reduceAdd] at hK ⊢
     try generalize xF 9 = yy9 at *
     obtain rfl := dd9
     obtain hbR := id hR
     rw [if_pos (by rfl)]
     go_simp
     exact hK.out _ _ (Below.refl _ _) (rfl) (fun _ _ _ => ⟨trivial, trivial⟩)
    refine FlowAll.cons ?_ ?_
    ·
     intro xF w2 hR hd K hK
     have dd9 : ((xF 9) = .tuple #[.string y, .bool true]) := hd 9 (by kernel_rfl)
     clear hd
     simp only [← hAF, Act.put, List.setIfInBounds_toArray, List.set_cons_zero, List.set_cons_succ] at hK ⊢
     clear hAF
     try simp only [Nat.zero_add] at hK ⊢
     try simp only [Nat.reduceAdd] at hK ⊢
     try generalize xF 9 = yy9 at *
     obtain rfl := dd9
     obtain hbR := id hR
     rw [if_pos (by rfl)]
     go_simp
     exact hK.out _ _ (Below.refl _ _) (rfl) (fun _ _ _ => ⟨trivial, trivial⟩)
    refine FlowAll.cons ?_ ?_
    ·
     intro xF w2 hR hd K hK
     have dd10 : ((xF 10) = .string y) := hd 10 (by kernel_rfl)
     clear hd
     simp only [← hAF, Act.put, List.setIfInBounds_toArray, List.set_cons_zero, List.set_cons_succ] at hK ⊢
     clear hAF
     try simp only [Nat.zero_add] at hK ⊢
     try simp only [Nat.reduceAdd] at hK ⊢
     try generalize xF 10 = yy10 at *
     obtain rfl := dd10
     obtain hbR := id hR
     rw [if_pos (by rfl)]
     go_simp
     exact hK.out _ _ (Below.refl _ _) (rfl) (fun _ _ _ => ⟨trivial, trivial⟩)
    refine FlowAll.cons ?_ ?_
    ·
     intro xF w2 hR hd K hK
     have dd11 : ((xF 11) = .bool true) := hd 11 (by kernel_rfl)
     clear hd
     simp only [← hAF, Act.put, List.setIfInBounds_toArray, List.set_cons_zero, List.set_cons_succ] at hK ⊢
     clear hAF
     try simp only [Nat.zero_add] at hK ⊢
     try simp only [Nat.reduceAdd] at hK ⊢
     try generalize xF 11 = yy11 at *
     obtain rfl := dd11
     obtain hbR := id hR
     rw [if_pos (by rfl)]
     go_simp
     exact hK.out _ _ (Below.refl _ _) (rfl) (fun _ _ _ => ⟨trivial, trivial⟩)
    exact FlowAll.nil
   intro xF w2 hR hF hP
   clear hP
   have dd0 : ((xF 0) = .pointer (some ⟨w.heap.size, 0, none⟩)) := hF 0 (by omega) (by decide)
   have dd1 : ((xF 1) = .agg #[.slice sa sn sc, .int .i64 24000]) := hF 1 (by omega) (by decide)
   have dd2 : ((xF 2) = .slice (some ⟨bi, oi, none⟩) m ci) := hF 2 (by omega) (by decide)
   have dd3 : ((xF 3) = .int .i64 (j : Int)) := hF 3 (by omega) (by decide)
   have dd4 : ((xF 4) = .int .i64 (J : Int)) := hF 4 (by omega) (by decide)
   have dd5 : ((xF 5) = .int .i64 (Jb : Int)) := hF 5 (by omega) (by decide)
   have dd6 : ((xF 6) = .pointer (some ⟨bi, oi + Jb, none⟩)) := hF 6 (by omega) (by decide)
   have dd7 : ((xF 7) = .int .i64 (ny : Int)) := hF 7 (by omega) (by decide)
   have dd8 : ((xF 8) = .tuple #[.string y, .bool true]) := hF 8 (by omega) (by decide)
   have dd9 : ((xF 9) = .tuple #[.string y, .bool true]) := hF 9 (by omega) (by decide)
   have dd10 : ((xF 10) = .string y) := hF 10 (by omega) (by decide)
   have dd11 : ((xF 11) = .bool true) := hF 11 (by omega) (by decide)
   have dd12 : ((xF 12) = .string y) := hF 12 (by omega) (by decide)
   have dd13 : ((xF 13) = .bool true) := hF 13 (by omega) (by decide)
   clear hF
   simp only [List.take_succ_cons, List.take_zero, List.drop_succ_cons, List.drop_zero, fillOf, Act.put, List.setIfInBounds_toArray, List.set_cons_zero, List.set_cons_succ, Nat.reduceAdd, Nat.zero_add]
   try generalize xF 0 = yy0 at *
   try generalize xF 1 = yy1 at *
   try generalize xF 2 = yy2 at *
   try generalize xF 3 = yy3 at *
   try generalize xF 4 = yy4 at *
   try generalize xF 5 = yy5 at *
   try generalize xF 6 = yy6 at *
   try generalize xF 7 = yy7 at *
   try generalize xF 8 = yy8 at *
   try generalize xF 9 = yy9 at *
   try generalize xF 10 = yy10 at *
   try generalize xF 11 = yy11 at *
   try generalize xF 12 = yy12 at *
   try generalize xF 13 = yy13 at *
   clear xF
   obtain rfl := dd0
   obtain rfl := dd1
   obtain rfl := dd2
   obtain rfl := dd3
   obtain rfl := dd4
   obtain rfl := dd5
   obtain rfl := dd6
   obtain rfl := dd7
   obtain rfl := dd8
   obtain rfl := dd9
   obtain rfl := dd10
   obtain rfl := dd11
   obtain rfl := dd12
   obtain rfl := dd13
   have hRE := Lib.hid hR
   clear hR
   have D2 := hRE.out
   clear hRE D1 i0 i1 i2 i3 i4 i5 i6 i7 i8 i9 i10
   obtain ⟨z0, z1⟩ := HBQ.out _ D2
   have HD2 := Lib.hid (HDq.out.trans (D2.mono HDq.out.size))
   have D3 := D'.trans (D2.mono D'.size)
   have HLE : Hid (j < lr.length) := by show _ < _; rw [← HL.out]; exact hlt
   by_cases hx : x = xa
   rotate_left
   ·
    have HE : Hid (decide (0 < r ∧ lr = l) = false) := decide_eq_false (fun h => hx (by have e := HXY.out; rw [h.2, ← HAB.out] at e; exact congrArg Prod.fst e))
    have h1 := str_ne hx
    have h2 : (x.toList == xa.toList) = false := by simpa using h1
    clear hx
    go_wp2
    go_ret
    rw [HE.out]; exact ⟨rfl, D3⟩
   subst hx
   by_cases hy : y = xb
   rotate_left
   ·
    have HE : Hid (decide (0 < r ∧ lr = l) = false) := decide_eq_false (fun h => hy (by have e := HXY.out; rw [h.2, ← HAB.out] at e; exact congrArg Prod.snd e))
    have h1 := str_ne hy
    have h2 : (y.toList == xb.toList) = false := by simpa using h1
    clear hy
    go_wp2
    go_ret
    rw [HE.out]; exact ⟨rfl, D3⟩
   subst hy
   have HT2 : Hid (lr.take (j + 1) = l.take (j + 1)) := ptake_eq (by rw [← HL.out, ← HN.out]) HLE.out HT.out (by rw [← HXY.out, ← HAB.out])
   clear z0 z1
   obtain ⟨z0, z1⟩ := HBQ.out _ D2
   go_wp2
   go_roundw
   case rel => exact ⟨j + 1, rfl, by go_num, by omega, HT2, HD2⟩
   case measure => simp [intOf]; omega
  ·
   have HE : Hid (decide (0 < r ∧ lr = l) = true) := by
    have := HT.out
    rw [List.take_of_length_le (by rw [← HL.out]; omega), List.take_of_length_le (by rw [← HN.out]; omega)] at this
    exact decide_eq_true ⟨HR0.out, this⟩
   go_wp2
   go_ret
   rw [HE.out]; exact ⟨rfl, D⟩
end Go.Proofs.Ytegjpiggjcfoaaa
namespace Go.Proofs.Ytegjpiggjcfoaaa
open Go Go.RowKit Go.ChangeShapes cl Go.Sort
def fnd (R : List se.Row) (r : Int × List Lab) : Int × Bool := if r.1 = 0 ∧ se.find R r.2 < R.length then ((se.find R r.2 : Int), true) else (0, false)
def SFindP (R : List se.Row) (r : Int × List Lab) (w : World) (e : Ending) (w' : World) : Prop := e = .returned (.tuple #[.int .i64 (fnd R r).1, .bool (fnd R r).2]) ∧ Below w.heap.size w w'
set_option maxHeartbeats 3200000 in
set_option maxRecDepth 100000 in
theorem sfind_any (s : ByteArray) (r : Int × List Lab) (S : List tb.Sym) (R : List se.Row) (vs vr : Value) (w : World) (hi : lm.Is s r) (hs : s.size ≤ maxLen) (hm : MX w) (hok : se.Ok S R) (h : SerAt w w.heap.size vs vr S R) :
  Calls Try.prog 10 #[tval vs vr, .string s] w (SFindP R r w) := by
 have hA : Below w.heap.size w (w.alloc (.cells #[vs, .int .i64 24000, vr] 28)) := (Below.refl _ _).alloc (Nat.le_refl _) _
 have HP : Hid (Calls Try.prog 11 #[.string s] (w.alloc (.cells #[vs, .int .i64 24000, vr] 28)) (CanonP r (w.alloc (.cells #[vs, .int .i64 24000, vr] 28)))) := by
  refine (parse_any s _ hs (hm.next hA)).mono ?_
  rintro e w' ⟨r', h1, h2⟩
  rw [lm.is_one h2 hi] at h1; exact h1
 obtain ⟨f, l⟩ := r
 obtain ⟨sa, sn, sc, rfl⟩ : ∃ a n c, vs = .slice a n c := by
  obtain ⟨a, c, e, _⟩ := Cells.form h.1
  exact ⟨_, _, _, e⟩
 obtain ⟨q0, hq0⟩ : ∃ q, q = R.length := ⟨_, rfl⟩
 obtain ⟨ra, rc, rfl, _, hqm⟩ := h.2.form' hq0
 unfold maxLen at hqm
 have HQ := Lib.hid hq0
 have HHAS : Hid (∀ (j : Nat) (v : Value) W, j < q0 → Below w.heap.size w W → Labs W W.heap.size v l → Calls Try.prog 19 #[tval (.slice sa sn sc) (.slice ra q0 rc), .int .i64 (j : Int), v] W (Said (decide (0 < (se.at_ R j).2 ∧ (se.at_ R j).1 = l)) W)) := fun j v W hj hW hv =>
  shas_any j l S R _ _ v W hok ((h.below hW).mono hW.size) hv (by rw [← hq0]; exact hj)
 have HY : Hid (∀ k W, f = 0 → k < q0 → 0 < (se.at_ R k).2 ∧ (se.at_ R k).1 = l → (∀ j, j < k → ¬ (0 < (se.at_ R j).2 ∧ (se.at_ R j).1 = l)) → Below w.heap.size w W → SFindP R (f, l) w (.returned (.tuple #[.int .i64 (k : Int), .bool true])) W) := fun k W h0 hk h1 h2 hb => by
  have hkR : k < R.length := by rw [← hq0]; exact hk
  have e := se.find_eq hkR h1 h2
  unfold SFindP fnd
  rw [if_pos ⟨h0, by show se.find R l < R.length; rw [e]; exact hkR⟩]
  show _ = Ending.returned (.tuple #[.int .i64 (se.find R l : Int), .bool true]) ∧ _
  rw [e]
  exact ⟨rfl, hb⟩
 have HN : Hid (∀ W, (f ≠ 0 ∨ ∀ j, j < q0 → ¬ (0 < (se.at_ R j).2 ∧ (se.at_ R j).1 = l)) → Below w.heap.size w W → SFindP R (f, l) w (.returned (.tuple #[.int .i64 0, .bool false])) W) := fun W h1 hb => by
  unfold SFindP fnd
  rw [if_neg (fun hh => ?_)]
  ·
   exact ⟨rfl, hb⟩
  ·
   rcases h1 with h1 | h1
   ·
    exact h1 hh.1
   ·
    have h2 : se.find R l < R.length := hh.2
    exact h1 _ (by rw [hq0]; exact h2) (se.find_yes h2)
 have HBX : Hid (∀ W, Below (w.alloc (.cells #[.slice sa sn sc, .int .i64 24000, .slice ra q0 rc] 28)).heap.size (w.alloc (.cells #[.slice sa sn sc, .int .i64 24000, .slice ra q0 rc] 28)) W → W.cell? ⟨w.heap.size, 0, none⟩ = some (.slice sa sn sc) ∧ W.cell? ⟨w.heap.size, 1, none⟩ = some (.int .i64 24000) ∧ W.cell? ⟨w.heap.size, 2, none⟩ = some (.slice ra q0 rc)) := fun W hW => by
  obtain ⟨c0, c1, c2, _⟩ := three (w := w) (w2 := W) (t := 28) hW
  exact ⟨c0, c1, c2⟩
 clear h hok hq0 hs hm hi
 unfold CanonP at HP
 by_cases hf : f = 0
 rotate_left
 ·
  have hfb : (f == 0) = false := by simpa using hf
  have hfn : (f != 0) = true := by simpa using hf
  have HN1 : Hid (∀ W, Below w.heap.size w W → SFindP R (f, l) w (.returned (.tuple #[.int .i64 0, .bool false])) W) := fun W hb => HN.out W (Or.inl hf) hb
  clear HY HN HHAS
  go_enter Try.func10, Try.ntmps10
  go_wp2_with fail
  (with_reducible refine HP.out.mono ?_)
  rintro e w1 ⟨v, rfl, _, hb1⟩
  have HRET := Lib.hid (HN1.out _ (hA.trans (hb1.mono hA.size)))
  clear HN1
  go_wp2
  refine bodyPost_ret (v := .tuple #[.int .i64 0, .bool false]) (by simp [results, Try.results10, go_sem]) rfl ?_
  exact HRET.out
 subst hf
 have HY1 : Hid (∀ k W, k < q0 → 0 < (se.at_ R k).2 ∧ (se.at_ R k).1 = l → (∀ j, j < k → ¬ (0 < (se.at_ R j).2 ∧ (se.at_ R j).1 = l)) → Below w.heap.size w W → SFindP R (0, l) w (.returned (.tuple #[.int .i64 (k : Int), .bool true])) W) := fun k W => HY.out k W rfl
 have HN1 : Hid (∀ W, (∀ j, j < q0 → ¬ (0 < (se.at_ R j).2 ∧ (se.at_ R j).1 = l)) → Below w.heap.size w W → SFindP R (0, l) w (.returned (.tuple #[.int .i64 0, .bool false])) W) := fun W h1 hb => HN.out W (Or.inr h1) hb
 clear HY HN
 go_enter Try.func10, Try.ntmps10
 go_wp2_with fail
 (with_reducible refine HP.out.mono ?_)
 rintro e w1 ⟨v, rfl, hv, hb1⟩
 have HV := Lib.hid hv
 have hb := hA.trans (hb1.mono hA.size)
 obtain ⟨d0, d1, d2⟩ := HBX.out w1 hb1
 clear hv
 go_wp2
 clear d0 d1 d2
 go_loopw [19] (fun i wr => ∃ j : Nat, i = .int .i64 j ∧ j ≤ q0 ∧ Hid (∀ i, i < j → ¬ (0 < (se.at_ R i).2 ∧ (se.at_ R i).1 = l)) ∧ Hid (Below w1.heap.size w1 wr)) (fun i _ => q0 - (intOf i).toNat)
 case atStart => exact ⟨0, rfl, by omega, fun i hi => absurd hi (Nat.not_lt_zero _), Below.refl _ _⟩
 case round =>
  obtain ⟨j, rfl, hj, HT, HD⟩ := hrel
  have D := hb.trans (HD.out.mono hb.size)
  by_cases hlt : j < q0
  ·
   have hjI : (j : Int) < (q0 : Int) := by omega
   obtain ⟨d0, d1, d2⟩ := HBX.out wr (hb1.trans (HD.out.mono hb1.size))
   have HH := Lib.hid (HHAS.out j v wr hlt D (HV.out.next HD.out))
   by_cases hq : 0 < (se.at_ R j).2 ∧ (se.at_ R j).1 = l
   ·
    rw [decide_eq_true hq] at HH
    have HR1 := Lib.hid (fun W => HY1.out j W hlt hq HT.out)
    clear hq
    go_wp2_with fail
    (with_reducible refine HH.out.mono ?_)
    rintro e w2 ⟨rfl, hb2⟩
    have HRET := Lib.hid (HR1.out _ (D.trans (hb2.mono D.size)))
    clear HR1 d0 d1 d2
    go_wp2
    refine bodyPost_ret (v := .tuple #[.int .i64 (j : Int), .bool true]) (by simp [results, Try.results10, go_sem]) rfl ?_
    exact HRET.out
   ·
    rw [decide_eq_false hq] at HH
    have HT2 : Hid (∀ i, i < j + 1 → ¬ (0 < (se.at_ R i).2 ∧ (se.at_ R i).1 = l)) := fun i hi => by
     by_cases e : i = j
     ·
      subst e; exact hq
     ·
      exact HT.out i (by omega)
    clear hq
    go_wp2_with fail
    (with_reducible refine HH.out.mono ?_)
    rintro e w2 ⟨rfl, hb2⟩
    have HD2 := Lib.hid (HD.out.trans (hb2.mono HD.out.size))
    clear d0 d1 d2
    go_wp2
    go_roundw
    case rel => exact ⟨j + 1, by go_num, by omega, HT2.out, HD2.out⟩
    case measure => simp [intOf]; omega
  ·
   have HRET := Lib.hid (HN1.out wr (fun i hi => HT.out i (by omega)) D)
   go_wp2
   refine bodyPost_ret (v := .tuple #[.int .i64 0, .bool false]) (by simp [results, Try.results10, go_sem]) rfl ?_
   exact HRET.out
end Go.Proofs.Ytegjpiggjcfoaaa
