/- texts put together: SerLab. -/
import Derived.Test.YtegjpiggjcfoaaaPd04
import Derived.Test.YtegjpiggjcfoaaaPd06
import Derived.Test.YtegjpiggjcfoaaaPd07
namespace Go.Proofs.Ytegjpiggjcfoaaa
open Go Go.RowKit Go.ChangeShapes cl Go.Sort
theorem sym_text {S : List tb.Sym} {vs : Value} {w : World} (h : Tabs w w.heap.size vs S) {t : ByteArray} (ht : tb.find S t < S.length) (W : World) (hW : Below w.heap.size w W) :
  Calls Try.prog 23 #[.agg #[vs, .int .i64 24000], .int .i64 (tb.find S t : Int)] W fun e w' => e = .returned (.tuple #[.string t, .bool true]) ∧ Below W.heap.size W w' := by
 refine (text_anyT 24000 (tb.find S t : Int) S vs W ((h.below hW).mono hW.size)).mono ?_
 rintro e w' ⟨rfl, hb⟩
 rw [tb.used_find ht, if_pos rfl, Int.toNat_natCast, (tb.find_yes ht).2]
 exact ⟨rfl, hb⟩
theorem canon_len {l : List Lab} (h : lm.canonF l = (0, l)) : 0 < l.length ∧ l.length ≤ 6 ∧ ∀ x ∈ l, x.1.size ≤ 16 ∧ 1 ≤ x.1.size ∧ x.2.size ≤ 32 := by
 obtain ⟨_, _, hk, hg, hne⟩ := lm.canon_form h
 refine ⟨by cases l with | nil => exact absurd rfl hne | cons a l => simp, ?_, fun x hx => lm.good_len (hg.1 x hx)⟩
 have := hg.2.2
 rw [hk] at this; exact this
def LabsP (R : List se.Row) (id : Int) (w : World) (e : Ending) (w' : World) : Prop :=
 ∃ v, e = .returned (.tuple #[v, .bool (se.used R id)]) ∧ Labs w' w'.heap.size v (if se.used R id = true then (se.at_ R id.toNat).1 else []) ∧ Below w.heap.size w w'
set_option maxHeartbeats 3200000 in
set_option maxRecDepth 100000 in
theorem slabels_any (id : Int) (S : List tb.Sym) (R : List se.Row) (vs vr : Value) (w : World) (hok : se.Ok S R) (h : SerAt w w.heap.size vs vr S R) :
  Calls Try.prog 12 #[tval vs vr, .int .i64 id] w (LabsP R id w) := by
 have hA : Below w.heap.size w (w.alloc (.cells #[vs, .int .i64 24000, vr] 28)) := (Below.refl _ _).alloc (Nat.le_refl _) _
 have HUS := Lib.hid (sused_any id S R vs vr _ (h.next hA).2)
 have HS := Lib.hid h.1
 obtain ⟨sa, sn, sc, rfl⟩ : ∃ a n c, vs = .slice a n c := by
  obtain ⟨a, c, e, _⟩ := Cells.form h.1
  exact ⟨_, _, _, e⟩
 obtain ⟨q0, hq0⟩ : ∃ q, q = R.length := ⟨_, rfl⟩
 obtain ⟨ao, cap, rfl, _, hqm⟩ := h.2.form' hq0
 unfold maxLen at hqm
 have HQ := Lib.hid hq0
 have HC := Lib.hid h.2
 have HOK := Lib.hid hok
 obtain ⟨F, hF⟩ : ∃ F, F = se.used R id := ⟨_, rfl⟩
 unfold LabsP
 rw [← hF] at HUS ⊢
 have HF := Lib.hid hF
 clear h hq0 hok hF
 by_cases hu : F = false
 ·
  subst hu
  have HL : Hid (∀ W, Labs W W.heap.size (.slice none 0 0) (if (false : Bool) = true then (se.at_ R id.toNat).1 else [])) := fun W => Cells.nil _ _ _
  go_enter Try.func12, Try.ntmps12
  go_wp2_with fail
  (with_reducible refine HUS.out.mono ?_)
  rintro e w1 ⟨rfl, hb1⟩
  have hb := hA.trans (hb1.mono hA.size)
  have HLL := Lib.hid (HL.out w1)
  clear HL HC HF
  go_wp2
  refine bodyPost_ret (v := .tuple #[.slice none 0 0, .bool false]) (by simp [results, Try.results12, go_sem]) rfl ?_
  exact ⟨_, rfl, HLL.out, hb⟩
 obtain rfl : F = true := by simpa using hu
 have hus : 0 ≤ id ∧ id < (R.length : Int) ∧ 1 ≤ (se.at_ R id.toNat).2 := of_decide_eq_true HF.out.symm
 obtain ⟨k, rfl⟩ : ∃ k : Nat, id = (k : Int) := ⟨id.toNat, by omega⟩
 rw [Int.toNat_natCast] at hus ⊢
 have hk : k < R.length := by omega
 have hkq : k < q0 := by rw [HQ.out]; exact hk
 have hkI : (k : Int) < (q0 : Int) := by omega
 have HCN := Lib.hid ((HOK.out.row k hk).2.2.2 (by omega))
 have HSY : Hid (∀ t ∈ se.texts (se.at_ R k).1, tb.find S t < S.length) := fun t ht => HOK.out.sym hk ht
 obtain ⟨b, off, ai, m, ci, rfl, hB, hm, hmm, hci, p0, p1⟩ := row_at HC.out HQ.out hkq
 unfold maxLen at hmm
 obtain ⟨l, hl⟩ : ∃ l, l = (se.at_ R k).1 := ⟨_, rfl⟩
 rw [← hl] at HCN HSY hm hci ⊢
 obtain ⟨hl0, hl6, hlz⟩ := canon_len HCN.out
 obtain ⟨L, hL⟩ : ∃ L, L = l.length := ⟨_, rfl⟩
 have HLL := Lib.hid hL
 rw [← hL] at hl0 hl6
 rw [se.texts_len, ← hL] at hm
 have hci2 : Cells w w.heap.size (.slice ai m ci) m 1 (nums S (se.texts l)) := hci
 obtain ⟨_, ai', ci', e1, ⟨_, hmc⟩, _, h4⟩ := hci2
 simp only [Value.slice.injEq] at e1
 obtain ⟨rfl, _, rfl⟩ := e1
 obtain ⟨bi, oi, rfl, hBi, hcell⟩ := h4 (by omega)
 have HIDS : Hid (∀ j t, (se.texts l)[j]? = some t → ∀ W, Below w.heap.size w W → W.cell? ⟨bi, oi + j, none⟩ = some (.int .i64 (tb.find S t : Int))) := fun j t hj W hW => (hW.cell (p := ⟨bi, oi + j, none⟩) hBi).trans (hcell j _ (nums_get hj))
 have HGET : Hid (∀ j, j < L → ∃ x y, x = (l.getD j (.empty, .empty)).1 ∧ y = (l.getD j (.empty, .empty)).2 ∧ (se.texts l)[j * 2]? = some x ∧ (se.texts l)[j * 2 + 1]? = some y ∧ tb.find S x < S.length ∧ tb.find S y < S.length) := fun j hj => by
  obtain ⟨g0, g1⟩ := se.texts_get l j (by rw [← HLL.out]; exact hj)
  exact ⟨_, _, rfl, rfl, g0, g1, HSY.out _ (List.mem_of_getElem? g0), HSY.out _ (List.mem_of_getElem? g1)⟩
 have HM := Lib.hid hm
 have hm2 : 2 ≤ m := by omega
 clear hcell h4 hci hm HOK HF hus hl hL hlz HCN
 have e0' := p0; have e1' := p1
 clear p0 p1
 have HBX : Hid (∀ W, Below (w.alloc (.cells #[.slice sa sn sc, .int .i64 24000, .slice (some ⟨b, off, none⟩) q0 cap] 28)).heap.size (w.alloc (.cells #[.slice sa sn sc, .int .i64 24000, .slice (some ⟨b, off, none⟩) q0 cap] 28)) W → W.cell? ⟨w.heap.size, 0, none⟩ = some (.slice sa sn sc) ∧ W.cell? ⟨w.heap.size, 1, none⟩ = some (.int .i64 24000) ∧ W.cell? ⟨w.heap.size, 2, none⟩ = some (.slice (some ⟨b, off, none⟩) q0 cap)) := fun W hW => by
  obtain ⟨c0, c1, c2, _⟩ := three (w := w) (w2 := W) (t := 28) hW
  exact ⟨c0, c1, c2⟩
 go_enter Try.func12, Try.ntmps12
 go_wp2_with fail
 (with_reducible refine HUS.out.mono ?_)
 rintro e w1 ⟨rfl, hb1⟩
 have hbw := hA.trans (hb1.mono hA.size)
 obtain ⟨d0, d1, d2⟩ := HBX.out w1 hb1
 have e0 := (hbw.cell (p := ⟨b, off + k * 2, none⟩) hB).trans e0'
 have e1 := (hbw.cell (p := ⟨b, off + k * 2 + 1, none⟩) hB).trans e1'
 have hk0 : (0 : Int) ≤ (k : Int) := by omega
 clear e0' e1'
 go_wp2
 clear d0 d1 d2 e0 e1
 go_loopw [6, 7] (fun o i wr => ∃ (j : Nat) (oa : Option Addr) (oc O M C : Nat), o = .slice oa j oc ∧ i = .slice (some ⟨bi, O, none⟩) M C ∧ j ≤ L ∧ (0 < M → O = oi + j * 2) ∧ M + j * 2 = m ∧ M ≤ C ∧ wr.ownsRow (w.heap.size + 1) 47 2 (.slice oa j oc) j (lcells (l.take j)) ∧ Hid (Below (w.alloc (.cells #[.slice sa sn sc, .int .i64 24000, .slice (some ⟨b, off, none⟩) q0 cap] 28)).heap.size (w.alloc (.cells #[.slice sa sn sc, .int .i64 24000, .slice (some ⟨b, off, none⟩) q0 cap] 28)) wr)) (fun _ i _ => match i with | .slice _ n _ => n | _ => 0)
 case atStart => exact ⟨0, none, 0, oi, m, ci, rfl, rfl, by omega, fun _ => by omega, by omega, hmc, ⟨rfl, Or.inl ⟨rfl, rfl⟩⟩, hb1⟩
 case round =>
  obtain ⟨j, oa, oc, O, M, C, rfl, rfl, hj, hO, hM, hMC, hown, HD⟩ := hrel
  have HOW := Lib.hid hown
  have HO0 := Lib.hid hO
  have D := hA.trans (HD.out.mono hA.size)
  have hM' : M + j * 2 = L * 2 := by rw [hM]; exact HM.out
  clear hown hO hM
  by_cases hlt : j < L
  ·
   have hM2 : (2 : Int) ≤ (M : Int) := by omega
   have hM2n : 2 ≤ M := by omega
   have hM0 : (0 : Int) < (M : Int) := by omega
   have hM1 : (1 : Int) < (M : Int) := by omega
   have hM0n : 0 < M := by omega
   have hM1n : 1 < M := by omega
   have HO : Hid (O = oi + j * 2) := HO0.out hM0n
   obtain ⟨x, y, hx, hy, g0, g1, f0, f1⟩ := HGET.out j hlt
   have HXY : Hid (l.take (j + 1) = l.take j ++ [(x, y)]) := by
    have hjl : j < l.length := by rw [← HLL.out]; exact hlt
    show _ = _
    have e : l[j] = l.getD j (.empty, .empty) := by simp [List.getD, hjl]
    rw [hx, hy, List.take_succ_eq_append_getElem hjl, e]
   have HTx : Hid (∀ W, Below wr.heap.size wr W → Calls Try.prog 23 #[.agg #[.slice sa sn sc, .int .i64 24000], .int .i64 (tb.find S x : Int)] W fun e w' => e = .returned (.tuple #[.string x, .bool true]) ∧ Below W.heap.size W w') := fun W hW => sym_text HS.out f0 W (D.trans (hW.mono D.size))
   have HTy : Hid (∀ W, Below wr.heap.size wr W → Calls Try.prog 23 #[.agg #[.slice sa sn sc, .int .i64 24000], .int .i64 (tb.find S y : Int)] W fun e w' => e = .returned (.tuple #[.string y, .bool true]) ∧ Below W.heap.size W w') := fun W hW => sym_text HS.out f1 W (D.trans (hW.mono D.size))
   have Hnx : Hid (∀ W, Below wr.heap.size wr W → W.cell? ⟨bi, O, none⟩ = some (.int .i64 (tb.find S x : Int))) := fun W hW => by rw [HO.out]; exact HIDS.out (j * 2) x g0 W (D.trans (hW.mono D.size))
   have Hny : Hid (∀ W, Below wr.heap.size wr W → W.cell? ⟨bi, O + 1, none⟩ = some (.int .i64 (tb.find S y : Int))) := fun W hW => by rw [HO.out, Nat.add_assoc]; exact HIDS.out (j * 2 + 1) y g1 W (D.trans (hW.mono D.size))
   have HB : Hid (∀ W, Below wr.heap.size wr W → W.cell? ⟨w.heap.size, 0, none⟩ = some (.slice sa sn sc) ∧ W.cell? ⟨w.heap.size, 1, none⟩ = some (.int .i64 24000) ∧ W.cell? ⟨w.heap.size, 2, none⟩ = some (.slice (some ⟨b, off, none⟩) q0 cap)) := fun W hW => HBX.out W (HD.out.trans (hW.mono HD.out.size))
   obtain ⟨nx, hnx⟩ : ∃ n, n = tb.find S x := ⟨_, rfl⟩
   obtain ⟨ny, hny⟩ : ∃ n, n = tb.find S y := ⟨_, rfl⟩
   rw [← hnx] at HTx Hnx
   rw [← hny] at HTy Hny
   clear hx hy g0 g1 f0 f1 hnx hny
   go_wp2_with fail
   refine wp_flow 11 (fun _ => 1000) (fun ww => RowKit.Below wr.heap.size wr ww) (fun _ w w' => (fun (w w' : World) => RowKit.Below w.heap.size w w') w w') (fun kF vF wF => match kF with | 0 => (vF = .pointer (some ⟨w.heap.size, 0, none⟩)) | 1 => (vF = .agg #[.slice sa sn sc, .int .i64 24000]) | 2 => (vF = .slice (some ⟨bi, O, none⟩) M C) | 3 => (vF = .pointer (some ⟨bi, O, none⟩)) | 4 => (vF = .int .i64 (nx : Int)) | 5 => (vF = .tuple #[.string x, .bool true]) | 6 => (vF = .tuple #[.string x, .bool true]) | 7 => (vF = .string x) | 8 => (vF = .bool true) | 9 => (vF = .string x) | 10 => (vF = .bool true) | _ => True) (fun _ _ _ _ => True) (by kernel_rfl) (by kernel_rfl) ?_ ?_ ?_ ?_ ?_
   ·
    exact (Below.refl _ _).drew
   ·
    intro iF wF1 wF2 hR hT; exact hR.trans (hT.mono hR.size)
   ·
    intro kF hkF iF hiF hne hdd hanc hdan vF wF1 wF2 h hT
    rcases (by omega : kF = 0 ∨ kF = 1 ∨ kF = 2 ∨ kF = 3 ∨ kF = 4 ∨ kF = 5 ∨ kF = 6 ∨ kF = 7 ∨ kF = 8 ∨ kF = 9 ∨ kF = 10) with rfl | rfl | rfl | rfl | rfl | rfl | rfl | rfl | rfl | rfl | rfl
    ·
     exact h
    ·
     exact h
    ·
     exact h
    ·
     exact h
    ·
     exact h
    ·
     exact h
    ·
     exact h
    ·
     exact h
    ·
     exact h
    ·
     exact h
    ·
     exact h
   ·
    generalize hAF : fillOf _ _ _ = AF
    replace hAF := fun x => congrFun hAF x
    simp only [List.take_succ_cons, List.take_zero, fillOf, Act.put, List.setIfInBounds_toArray, List.set_cons_zero, List.set_cons_succ, Nat.reduceAdd, Nat.zero_add] at hAF
    refine FlowAll.cons ?_ ?_
    ·
     intro xF w1 hR hd K hK
     clear hd
     simp only [← hAF, Act.put, List.setIfInBounds_toArray, List.set_cons_zero, List.set_cons_succ] at hK ⊢
     clear hAF
     try simp only [Nat.zero_add] at hK ⊢
     try simp only [Nat.reduceAdd] at hK ⊢
     obtain hbR := id hR
     rw [if_pos (by rfl)]
     go_simp
     exact hK.out _ _ (Below.refl _ _) (rfl) (fun _ _ _ => ⟨trivial, trivial⟩)
    refine FlowAll.cons ?_ ?_
    ·
     intro xF w1 hR hd K hK
     have dd0 : ((xF 0) = .pointer (some ⟨w.heap.size, 0, none⟩)) := hd 0 (by kernel_rfl)
     clear hd
     simp only [← hAF, Act.put, List.setIfInBounds_toArray, List.set_cons_zero, List.set_cons_succ] at hK ⊢
     clear hAF
     try simp only [Nat.zero_add] at hK ⊢
     try simp only [Nat.reduceAdd] at hK ⊢
     try generalize xF 0 = yy0 at *
     obtain rfl := dd0
     obtain hbR := id hR
     obtain ⟨k0, k1, _⟩ := HB.out _ hR
     rw [if_pos (by rfl)]
     go_simp
     exact hK.out _ _ (Below.refl _ _) (rfl) (fun _ _ _ => ⟨trivial, trivial⟩)
    refine FlowAll.cons ?_ ?_
    ·
     intro xF w1 hR hd K hK
     clear hd
     simp only [← hAF, Act.put, List.setIfInBounds_toArray, List.set_cons_zero, List.set_cons_succ] at hK ⊢
     clear hAF
     try simp only [Nat.zero_add] at hK ⊢
     try simp only [Nat.reduceAdd] at hK ⊢
     obtain hbR := id hR
     rw [if_pos (by rfl)]
     go_simp
     exact hK.out _ _ (Below.refl _ _) (rfl) (fun _ _ _ => ⟨trivial, trivial⟩)
    refine FlowAll.cons ?_ ?_
    ·
     intro xF w1 hR hd K hK
     have dd2 : ((xF 2) = .slice (some ⟨bi, O, none⟩) M C) := hd 2 (by kernel_rfl)
     clear hd
     simp only [← hAF, Act.put, List.setIfInBounds_toArray, List.set_cons_zero, List.set_cons_succ] at hK ⊢
     clear hAF
     try simp only [Nat.zero_add] at hK ⊢
     try simp only [Nat.reduceAdd] at hK ⊢
     try generalize xF 2 = yy2 at *
     obtain rfl := dd2
     obtain hbR := id hR
     rw [if_pos (by rfl)]
     go_simp
     exact hK.out _ _ (Below.refl _ _) (rfl) (fun _ _ _ => ⟨trivial, trivial⟩)
    refine FlowAll.cons ?_ ?_
    ·
     intro xF w1 hR hd K hK
     have dd3 : ((xF 3) = .pointer (some ⟨bi, O, none⟩)) := hd 3 (by kernel_rfl)
     clear hd
     simp only [← hAF, Act.put, List.setIfInBounds_toArray, List.set_cons_zero, List.set_cons_succ] at hK ⊢
     clear hAF
     try simp only [Nat.zero_add] at hK ⊢
     try simp only [Nat.reduceAdd] at hK ⊢
     try generalize xF 3 = yy3 at *
     obtain rfl := dd3
     obtain hbR := id hR
     have k2 := Hnx.out _ hR
     rw [if_pos (by rfl)]
     go_simp
     exact hK.out _ _ (Below.refl _ _) (rfl) (fun _ _ _ => ⟨trivial, trivial⟩)
    refine FlowAll.cons ?_ ?_
    ·
     intro xF w1 hR hd K hK
     have dd1 : ((xF 1) = .agg #[.slice sa sn sc, .int .i64 24000]) := hd 1 (by kernel_rfl)
     have dd4 : ((xF 4) = .int .i64 (nx : Int)) := hd 4 (by kernel_rfl)
     clear hd
     simp only [← hAF, Act.put, List.setIfInBounds_toArray, List.set_cons_zero, List.set_cons_succ] at hK ⊢
     clear hAF
     try simp only [Nat.zero_add] at hK ⊢
     try simp only [Nat.reduceAdd] at hK ⊢
     try generalize xF 1 = yy1 at *
     try generalize xF 4 = yy4 at *
     obtain rfl := dd1
     obtain rfl := dd4
     obtain hbR := id hR
     rw [if_pos (by rfl)]
     go_simp
     (go_at_call 23; (with_reducible refine (HTx.out _ hR).mono ?_); rintro e wK ⟨rfl, hbK⟩)
     try go_wp2_with fail
     exact hK.out _ _ (hbK) (rfl) (fun _ _ _ => ⟨trivial, trivial⟩)
    refine FlowAll.cons ?_ ?_
    ·
     intro xF w1 hR hd K hK
     have dd5 : ((xF 5) = .tuple #[.string x, .bool true]) := hd 5 (by kernel_rfl)
     clear hd
     simp only [← hAF, Act.put, List.setIfInBounds_toArray, List.set_cons_zero, List.set_cons_succ] at hK ⊢
     clear hAF
     try simp only [Nat.zero_add] at hK ⊢
     try simp only [Nat.reduceAdd] at hK ⊢
     try generalize xF 5 = yy5 at *
     obtain rfl := dd5
     obtain hbR := id hR
     rw [if_pos (by rfl)]
     go_simp
     exact hK.out _ _ (Below.refl _ _) (rfl) (fun _ _ _ => ⟨trivial, trivial⟩)
    refine FlowAll.cons ?_ ?_
    ·
     intro xF w1 hR hd K hK
     have dd6 : ((xF 6) = .tuple #[.string x, .bool true]) := hd 6 (by kernel_rfl)
     clear hd
     simp only [← hAF, Act.put, List.setIfInBounds_toArray, List.set_cons_zero, List.set_cons_succ] at hK ⊢
     clear hAF
     try simp only [Nat.zero_add] at hK ⊢
     try simp only [Nat.reduceAdd] at hK ⊢
     try generalize xF 6 = yy6 at *
     obtain rfl := dd6
     obtain hbR := id hR
     rw [if_pos (by rfl)]
     go_simp
     exact hK.out _ _ (Below.refl _ _) (rfl) (fun _ _ _ => ⟨trivial, trivial⟩)
    refine FlowAll.cons ?_ ?_
    ·
     intro xF w1 hR hd K hK
     have dd6 : ((xF 6) = .tuple #[.string x, .bool true]) := hd 6 (by kernel_rfl)
     clear hd
     simp only [← hAF, Act.put, List.setIfInBounds_toArray, List.set_cons_zero, List.set_cons_succ] at hK ⊢
     clear hAF
     try simp only [Nat.zero_add] at hK ⊢
     try simp only [Nat.reduceAdd] at hK ⊢
     try generalize xF 6 = yy6 at *
     obtain rfl := dd6
     obtain hbR := id hR
     rw [if_pos (by rfl)]
     go_simp
     exact hK.out _ _ (Below.refl _ _) (rfl) (fun _ _ _ => ⟨trivial, trivial⟩)
    refine FlowAll.cons ?_ ?_
    ·
     intro xF w1 hR hd K hK
     have dd7 : ((xF 7) = .string x) := hd 7 (by kernel_rfl)
     clear hd
     simp only [← hAF, Act.put, List.setIfInBounds_toArray, List.set_cons_zero, List.set_cons_succ] at hK ⊢
     clear hAF
     try simp only [Nat.zero_add] at hK ⊢
     try simp only [Nat.reduceAdd] at hK ⊢
     try generalize xF 7 = yy7 at *
     obtain rfl := dd7
     obtain hbR := id hR
     rw [if_pos (by rfl)]
     go_simp
     exact hK.out _ _ (Below.refl _ _) (rfl) (fun _ _ _ => ⟨trivial, trivial⟩)
    refine FlowAll.cons ?_ ?_
    ·
     intro xF w1 hR hd K hK
     have dd8 : ((xF 8) = .bool true) := hd 8 (by kernel_rfl)
     clear hd
     simp only [← hAF, Act.put, List.setIfInBounds_toArray, List.set_cons_zero, List.set_cons_succ] at hK ⊢
     clear hAF
     try simp only [Nat.zero_add] at hK ⊢
     try simp only [Nat.reduceAdd] at hK ⊢
     try generalize xF 8 = yy8 at *
     obtain rfl := dd8
     obtain hbR := id hR
     rw [if_pos (by rfl)]
     go_simp
     exact hK.out _ _ (Below.refl _ _) (rfl) (fun _ _ _ => ⟨trivial, trivial⟩)
    exact FlowAll.nil
   intro xF w1 hR hF hP
   clear hP
   have dd0 : ((xF 0) = .pointer (some ⟨w.heap.size, 0, none⟩)) := hF 0 (by omega) (by decide)
   have dd1 : ((xF 1) = .agg #[.slice sa sn sc, .int .i64 24000]) := hF 1 (by omega) (by decide)
   have dd2 : ((xF 2) = .slice (some ⟨bi, O, none⟩) M C) := hF 2 (by omega) (by decide)
   have dd3 : ((xF 3) = .pointer (some ⟨bi, O, none⟩)) := hF 3 (by omega) (by decide)
   have dd4 : ((xF 4) = .int .i64 (nx : Int)) := hF 4 (by omega) (by decide)
   have dd5 : ((xF 5) = .tuple #[.string x, .bool true]) := hF 5 (by omega) (by decide)
   have dd6 : ((xF 6) = .tuple #[.string x, .bool true]) := hF 6 (by omega) (by decide)
   have dd7 : ((xF 7) = .string x) := hF 7 (by omega) (by decide)
   have dd8 : ((xF 8) = .bool true) := hF 8 (by omega) (by decide)
   have dd9 : ((xF 9) = .string x) := hF 9 (by omega) (by decide)
   have dd10 : ((xF 10) = .bool true) := hF 10 (by omega) (by decide)
   clear hF
   simp only [List.take_succ_cons, List.take_zero, List.drop_succ_cons, List.drop_zero, fillOf, Act.put, List.setIfInBounds_toArray, List.set_cons_zero, List.set_cons_succ, Nat.reduceAdd, Nat.zero_add]
   try generalize xF 0 = yy0 at *
   try generalize xF 1 = yy1 at *
   try generalize xF 2 = yy2 at *
   try generalize xF 3 = yy3 at *
   try generalize xF 4 = yy4 at *
   try generalize xF 5 = yy5 at *
   try generalize xF 6 = yy6 at *
   try generalize xF 7 = yy7 at *
   try generalize xF 8 = yy8 at *
   try generalize xF 9 = yy9 at *
   try generalize xF 10 = yy10 at *
   clear xF
   obtain rfl := dd0
   obtain rfl := dd1
   obtain rfl := dd2
   obtain rfl := dd3
   obtain rfl := dd4
   obtain rfl := dd5
   obtain rfl := dd6
   obtain rfl := dd7
   obtain rfl := dd8
   obtain rfl := dd9
   obtain rfl := dd10
   have hRE := Lib.hid hR
   clear hR
   have D1 := hRE.out
   clear hRE
   go_wp2_with fail
   refine wp_flow 11 (fun _ => 1000) (fun ww => RowKit.Below wr.heap.size wr ww) (fun _ w w' => (fun (w w' : World) => RowKit.Below w.heap.size w w') w w') (fun kF vF wF => match kF with | 0 => (vF = .pointer (some ⟨w.heap.size, 0, none⟩)) | 1 => (vF = .agg #[.slice sa sn sc, .int .i64 24000]) | 2 => (vF = .slice (some ⟨bi, O, none⟩) M C) | 3 => (vF = .pointer (some ⟨bi, O + 1, none⟩)) | 4 => (vF = .int .i64 (ny : Int)) | 5 => (vF = .tuple #[.string y, .bool true]) | 6 => (vF = .tuple #[.string y, .bool true]) | 7 => (vF = .string y) | 8 => (vF = .bool true) | 9 => (vF = .string y) | 10 => (vF = .bool true) | _ => True) (fun _ _ _ _ => True) (by kernel_rfl) (by kernel_rfl) ?_ ?_ ?_ ?_ ?_
   ·
    exact D1.drew
   ·
    intro iF wF1 wF2 hR hT; exact hR.trans (hT.mono hR.size)
   ·
    intro kF hkF iF hiF hne hdd hanc hdan vF wF1 wF2 h hT
    rcases (by omega : kF = 0 ∨ kF = 1 ∨ kF = 2 ∨ kF = 3 ∨ kF = 4 ∨ kF = 5 ∨ kF = 6 ∨ kF = 7 ∨ kF = 8 ∨ kF = 9 ∨ kF = 10) with rfl | rfl | rfl | rfl | rfl | rfl | rfl | rfl | rfl | rfl | rfl
    ·
     exact h
    ·
     exact h
    ·
     exact h
    ·
     exact h
    ·
     exact h
    ·
     exact h
    ·
     exact h
    ·
     exact h
    ·
     exact h
    ·
     exact h
    ·
     exact h
   ·
    generalize hAF : fillOf _ _ _ = AF
    replace hAF := fun x => congrFun hAF x
    simp only [List.take_succ_cons, List.take_zero, fillOf, Act.put, List.setIfInBounds_toArray, List.set_cons_zero, List.set_cons_succ, Nat.reduceAdd, Nat.zero_add] at hAF
    refine FlowAll.cons ?_ ?_
    ·
     intro xF w2 hR hd K hK
     clear hd
     simp only [← hAF, Act.put, List.setIfInBounds_toArray, List.set_cons_zero, List.set_cons_succ] at hK ⊢
     clear hAF
     try simp only [Nat.zero_add] at hK ⊢
     try simp only [Nat.reduceAdd] at hK ⊢
     obtain hbR := id hR
     rw [if_pos (by rfl)]
     go_simp
     exact hK.out _ _ (Below.refl _ _) (rfl) (fun _ _ _ => ⟨trivial, trivial⟩)
    refine FlowAll.cons ?_ ?_
    ·
     intro xF w2 hR hd K hK
     have dd0 : ((xF 0) = .pointer (some ⟨w.heap.size, 0, none⟩)) := hd 0 (by kernel_rfl)
     clear hd
     simp only [← hAF, Act.put, List.setIfInBounds_toArray, List.set_cons_zero, List.set_cons_succ] at hK ⊢
     clear hAF
     try simp only [Nat.zero_add] at hK ⊢
     try simp only [Nat.reduceAdd] at hK ⊢
     try generalize xF 0 = yy0 at *
     obtain rfl := dd0
     obtain hbR := id hR
     obtain ⟨k0, k1, _⟩ := HB.out _ hR
     rw [if_pos (by rfl)]
     go_simp
     exact hK.out _ _ (Below.refl _ _) (rfl) (fun _ _ _ => ⟨trivial, trivial⟩)
    refine FlowAll.cons ?_ ?_
    ·
     intro xF w2 hR hd K hK
     clear hd
     simp only [← hAF, Act.put, List.setIfInBounds_toArray, List.set_cons_zero, List.set_cons_succ] at hK ⊢
     clear hAF
     try simp only [Nat.zero_add] at hK ⊢
     try simp only [Nat.reduceAdd] at hK ⊢
     obtain hbR := id hR
     rw [if_pos (by rfl)]
     go_simp
     exact hK.out _ _ (Below.refl _ _) (rfl) (fun _ _ _ => ⟨trivial, trivial⟩)
    refine FlowAll.cons ?_ ?_
    ·
     intro xF w2 hR hd K hK
     have dd2 : ((xF 2) = .slice (some ⟨bi, O, none⟩) M C) := hd 2 (by kernel_rfl)
     clear hd
     simp only [← hAF, Act.put, List.setIfInBounds_toArray, List.set_cons_zero, List.set_cons_succ] at hK ⊢
     clear hAF
     try simp only [Nat.zero_add] at hK ⊢
     try simp only [Nat.reduceAdd] at hK ⊢
     try generalize xF 2 = yy2 at *
     obtain rfl := dd2
     obtain hbR := id hR
     rw [if_pos (by rfl)]
     go_simp
     exact hK.out _ _ (Below.refl _ _) (rfl) (fun _ _ _ => ⟨trivial, trivial⟩)
    refine FlowAll.cons ?_ ?_
    ·
     intro xF w2 hR hd K hK
     have dd3 : ((xF 3) = .pointer (some ⟨bi, O + 1, none⟩)) := hd 3 (by kernel_rfl)
     clear hd
     simp only [← hAF, Act.put, List.setIfInBounds_toArray, List.set_cons_zero, List.set_cons_succ] at hK ⊢
     clear hAF
     try simp only [Nat.zero_add] at hK ⊢
     try simp only [Nat.reduceAdd] at hK ⊢
     try generalize xF 3 = yy3 at *
     obtain rfl := dd3
     obtain hbR := id hR
     have k2 := Hny.out _ hR
     rw [if_pos (by rfl)]
     go_simp
     exact hK.out _ _ (Below.refl _ _) (rfl) (fun _ _ _ => ⟨trivial, trivial⟩)
    refine FlowAll.cons ?_ ?_
    ·
     intro xF w2 hR hd K hK
     have dd1 : ((xF 1) = .agg #[.slice sa sn sc, .int .i64 24000]) := hd 1 (by kernel_rfl)
     have dd4 : ((xF 4) = .int .i64 (ny : Int)) := hd 4 (by kernel_rfl)
     clear hd
     simp only [← hAF, Act.put, List.setIfInBounds_toArray, List.set_cons_zero, List.set_cons_succ] at hK ⊢
     clear hAF
     try simp only [Nat.zero_add] at hK ⊢
     try simp only [Nat.reduceAdd] at hK ⊢
     try generalize xF 1 = yy1 at *
     try generalize xF 4 = yy4 at *
     obtain rfl := dd1
     obtain rfl := dd4
     obtain hbR := id hR
     rw [if_pos (by rfl)]
     go_simp
     (go_at_call 23; (with_reducible refine (HTy.out _ hR).mono ?_); rintro e wK ⟨rfl, hbK⟩)
     try go_wp2_with fail
     exact hK.out _ _ (hbK) (rfl) (fun _ _ _ => ⟨trivial, trivial⟩)
    refine FlowAll.cons ?_ ?_
    ·
     intro xF w2 hR hd K hK
     have dd5 : ((xF 5) = .tuple #[.string y, .bool true]) := hd 5 (by kernel_rfl)
     clear hd
     simp only [← hAF, Act.put, List.setIfInBounds_toArray, List.set_cons_zero, List.set_cons_succ] at hK ⊢
     clear hAF
     try simp only [Nat.zero_add] at hK ⊢
     try simp only [Nat.reduceAdd] at hK ⊢
     try generalize xF 5 = yy5 at *
     obtain rfl := dd5
     obtain hbR := id hR
     rw [if_pos (by rfl)]
     go_simp
     exact hK.out _ _ (Below.refl _ _) (rfl) (fun _ _ _ => ⟨trivial, trivial⟩)
    refine FlowAll.cons ?_ ?_
    ·
     intro xF w2 hR hd K hK
     have dd6 : ((xF 6) = .tuple #[.string y, .bool true]) := hd 6 (by kernel_rfl)
     clear hd
     simp only [← hAF, Act.put, List.setIfInBounds_toArray, List.set_cons_zero, List.set_cons_succ] at hK ⊢
     clear hAF
     try simp only [Nat.zero_add] at hK ⊢
     try simp only [Nat.reduceAdd] at hK ⊢
     try generalize xF 6 = yy6 at *
     obtain rfl := dd6
     obtain hbR := id hR
     rw [if_pos (by rfl)]
     go_simp
     exact hK.out _ _ (Below.refl _ _) (rfl) (fun _ _ _ => ⟨trivial, trivial⟩)
    refine FlowAll.cons ?_ ?_
    ·
     intro xF w2 hR hd K hK
     have dd6 : ((xF 6) = .tuple #[.string y, .bool true]) := hd 6 (by kernel_rfl)
     clear hd
     simp only [← hAF, Act.put, List.setIfInBounds_toArray, List.set_cons_zero, List.set_cons_succ] at hK ⊢
     clear hAF
     try simp only [Nat.zero_add] at hK ⊢
     try simp only [Nat.reduceAdd] at hK ⊢
     try generalize xF 6 = yy6 at *
     obtain rfl := dd6
     obtain hbR := id hR
     rw [if_pos (by rfl)]
     go_simp
     exact hK.out _ _ (Below.refl _ _) (rfl) (fun _ _ _ => ⟨trivial, trivial⟩)
    refine FlowAll.cons ?_ ?_
    ·
     intro xF w2 hR hd K hK
     have dd7 : ((xF 7) = .string y) := hd 7 (by kernel_rfl)
     clear hd
     simp only [← hAF, Act.put, List.setIfInBounds_toArray, List.set_cons_zero, List.set_cons_succ] at hK ⊢
     clear hAF
     try simp only [Nat.zero_add] at hK ⊢
     try simp only [Nat.reduceAdd] at hK ⊢
     try generalize xF 7 = yy7 at *
     obtain rfl := dd7
     obtain hbR := id hR
     rw [if_pos (by rfl)]
     go_simp
     exact hK.out _ _ (Below.refl _ _) (rfl) (fun _ _ _ => ⟨trivial, trivial⟩)
    refine FlowAll.cons ?_ ?_
    ·
     intro xF w2 hR hd K hK
     have dd8 : ((xF 8) = .bool true) := hd 8 (by kernel_rfl)
     clear hd
     simp only [← hAF, Act.put, List.setIfInBounds_toArray, List.set_cons_zero, List.set_cons_succ] at hK ⊢
     clear hAF
     try simp only [Nat.zero_add] at hK ⊢
     try simp only [Nat.reduceAdd] at hK ⊢
     try generalize xF 8 = yy8 at *
     obtain rfl := dd8
     obtain hbR := id hR
     rw [if_pos (by rfl)]
     go_simp
     exact hK.out _ _ (Below.refl _ _) (rfl) (fun _ _ _ => ⟨trivial, trivial⟩)
    exact FlowAll.nil
   intro xF w2 hR hF hP
   clear hP
   have dd0 : ((xF 0) = .pointer (some ⟨w.heap.size, 0, none⟩)) := hF 0 (by omega) (by decide)
   have dd1 : ((xF 1) = .agg #[.slice sa sn sc, .int .i64 24000]) := hF 1 (by omega) (by decide)
   have dd2 : ((xF 2) = .slice (some ⟨bi, O, none⟩) M C) := hF 2 (by omega) (by decide)
   have dd3 : ((xF 3) = .pointer (some ⟨bi, O + 1, none⟩)) := hF 3 (by omega) (by decide)
   have dd4 : ((xF 4) = .int .i64 (ny : Int)) := hF 4 (by omega) (by decide)
   have dd5 : ((xF 5) = .tuple #[.string y, .bool true]) := hF 5 (by omega) (by decide)
   have dd6 : ((xF 6) = .tuple #[.string y, .bool true]) := hF 6 (by omega) (by decide)
   have dd7 : ((xF 7) = .string y) := hF 7 (by omega) (by decide)
   have dd8 : ((xF 8) = .bool true) := hF 8 (by omega) (by decide)
   have dd9 : ((xF 9) = .string y) := hF 9 (by omega) (by decide)
   have dd10 : ((xF 10) = .bool true) := hF 10 (by omega) (by decide)
   clear hF
   simp only [List.take_succ_cons, List.take_zero, List.drop_succ_cons, List.drop_zero, fillOf, Act.put, List.setIfInBounds_toArray, List.set_cons_zero, List.set_cons_succ, Nat.reduceAdd, Nat.zero_add]
   try generalize xF 0 = yy0 at *
   try generalize xF 1 = yy1 at *
   try generalize xF 2 = yy2 at *
   try generalize xF 3 = yy3 at *
   try generalize xF 4 = yy4 at *
   try generalize xF 5 = yy5 at *
   try generalize xF 6 = yy6 at *
   try generalize xF 7 = yy7 at *
   try generalize xF 8 = yy8 at *
   try generalize xF 9 = yy9 at *
   try generalize xF 10 = yy10 at *
   clear xF
   obtain rfl := dd0
   obtain rfl := dd1
   obtain rfl := dd2
   obtain rfl := dd3
   obtain rfl := dd4
   obtain rfl := dd5
   obtain rfl := dd6
   obtain rfl := dd7
   obtain rfl := dd8
   obtain rfl := dd9
   obtain rfl := dd10
   have hRE := Lib.hid hR
   clear hR
   have D2 := hRE.out
   clear hRE D1
   have HOW2 := Lib.hid (own_stay HOW.out D2)
   have D3 := D.trans (D2.mono D.size)
   have HD2 := Lib.hid (HD.out.trans (D2.mono HD.out.size))
   have hz3 : w.heap.size + 1 ≤ w2.heap.size := by have := HD2.out.size; rw [World.size_alloc] at this; exact this
   go_wp2_with (at_builtin; refine kit.app1 (.tmp 49) (.tmp 53) 38 rfl rfl (w.heap.size + 1) Try.underlying38 infoLab rfl (by decide) (by decide) HOW2.out rfl rfl rfl lcells_two (by omega) hz3 ?_)
   intro v' w3 hown' hb3
   rcases own_form hown' with ⟨_, h0⟩ | ⟨g', cap', rfl, _⟩
   ·
    omega
   have HOW3 : Hid (w3.ownsRow (w.heap.size + 1) 47 2 (.slice (some ⟨g', 0, none⟩) (j + 1) cap') (j + 1) (lcells (l.take (j + 1)))) := by
    show World.ownsRow _ _ _ _ _ _ _
    rw [HXY.out, lcells_app]; exact hown'
   have HD3 : Hid (Below (w.alloc (.cells #[.slice sa sn sc, .int .i64 24000, .slice (some ⟨b, off, none⟩) q0 cap] 28)).heap.size (w.alloc (.cells #[.slice sa sn sc, .int .i64 24000, .slice (some ⟨b, off, none⟩) q0 cap] 28)) w3) := HD2.out.trans (by rw [World.size_alloc]; exact hb3)
   clear hown' hb3
   go_wp2
   go_roundw
   case rel =>
    have hO := HO.out
    have hMm := HM.out
    by_cases hC : C = 2
    ·
     rw [if_pos hC]
     refine ⟨j + 1, _, _, O, M - 2, C - 2, rfl, rfl, by omega, fun h => by omega, by omega, by omega, HOW3.out, HD3.out⟩
    ·
     rw [if_neg hC]
     refine ⟨j + 1, _, _, O + 2, M - 2, C - 2, rfl, rfl, by omega, fun h => by omega, by omega, by omega, HOW3.out, HD3.out⟩
   case measure => simp; omega
  ·
   have HLAB : Hid (Labs wr wr.heap.size (.slice oa j oc) l) := by
    have e : j = l.length := by rw [← HLL.out]; omega
    have := Cells.own HOW.out
    show Labs _ _ _ _
    rw [e, List.take_length] at this
    rw [e]; exact this
   have hM0 : M = 0 := by omega
   subst hM0
   go_wp2
   refine bodyPost_ret (v := .tuple #[.slice oa j oc, .bool true]) (by simp [results, Try.results12, go_sem]) rfl ?_
   exact ⟨_, rfl, HLAB.out, D⟩
end Go.Proofs.Ytegjpiggjcfoaaa
