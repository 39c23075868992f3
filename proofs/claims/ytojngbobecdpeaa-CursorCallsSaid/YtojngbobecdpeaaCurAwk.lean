/- the cursors' law: it is awake. -/
import Derived.Test.YtojngbobecdpeaaCurEval
namespace Go.Proofs.Ytojngbobecdpeaa
open Go Go.RowKit Go.ChangeShapes at_ pm cl
theorem cur_mk {d : Nat} {w : World} {B : Nat} {c : List Value} {k a : Int} {l : List Int} {ks : List Cur} (h : curR d w B c (.mk k l a ks)) : ∃ (lo : Option Addr) (ln lc : Nat) (ko : Option Addr) (kn kc : Nat), c = [.int .i64 k, .slice lo ln lc, .int .i64 a, .slice ko kn kc] := cur_form h
theorem rows_box {q n : Nat} {d : Nat} {W : World} {arr : Array Value} {fr : Nat × Nat} {l : List Cur} (h : W.heap[q]? = some (.cells arr 25 fr)) (cs : List (List Value)) (h0 : cs.length = l.length) (h1 : ∀ (j : Nat) (c : List Value) (x : Cur), cs[j]? = some c → l[j]? = some x → c.length = 4 ∧ curR d W W.heap.size c x) (ha : arr.toList = cs.flatten) (hn : n = l.length) (hm : n ≤ maxLen) :
    RowsAt 4 (curR d) W W.heap.size (.slice (some ⟨q, 0, none⟩) n n) l := by
  subst hn
  refine ⟨cs, h0, h1, ⟨by rw [flat_len cs (RowsAt.len h0 h1), h0], _, _, rfl, ⟨(fun e => by cases e), Nat.le_refl _⟩, hm, fun _ => ⟨_, _, rfl, lt_of_block h, fun j u hj => ?_⟩⟩⟩
  rw [Nat.zero_add]
  rw [← ha, Array.getElem?_toList] at hj
  exact boxc h j u hj
theorem one_el {P : List Value → Cur → Prop} {c : List Value} {x : Cur} (h : P c x) : ∀ (j : Nat) (c' : List Value) (x' : Cur), [c][j]? = some c' → [x][j]? = some x' → P c' x' := by
  intro j c' x' hc hx
  cases j with
  | zero => cases hc; cases hx; exact h
  | succ j => simp at hc
theorem two_el {P : List Value → Cur → Prop} {c c2 : List Value} {x x2 : Cur} (h : P c x) (h2 : P c2 x2) : ∀ (j : Nat) (c' : List Value) (x' : Cur), [c, c2][j]? = some c' → [x, x2][j]? = some x' → P c' x' := by
  intro j c' x' hc hx
  rcases j with _ | _ | j
  · cases hc; cases hx; exact h
  · cases hc; cases hx; exact h2
  · simp at hc
theorem curR_st {d : Nat} {w w' : World} {c : List Value} {x : Cur} (h : curR d w w.heap.size c x) (hb : Below w.heap.size w w') : curR d w' w'.heap.size c x := curR_steady d _ _ _ _ _ _ h hb hb.size
set_option maxHeartbeats 6400000 in
set_option maxRecDepth 100000 in
theorem awake_any (w : World) : Calls Try.prog 9 #[] w (Said true w) := by
  have HL : Hid (∀ (l : List Int) (v : Value) (W : World), At W W.heap.size v l → l.length ≤ 100000 → Calls Try.prog 33 #[v] W (CurA 1 (.mk 1 l 0 []) W)) := fun l v W h hl => list_any l v W h hl
  have BX : Hid (Below w.heap.size w w) := Below.refl _ _
  go_enter Try.func9, Try.ntmps9
  obtain ⟨V1, hV1⟩ : ∃ W, W = w.alloc (.cells #[.int .i64 1, .int .i64 2, .int .i64 5] 3) := ⟨_, rfl⟩
  have al1 : Below w.heap.size w V1 := by rw [hV1]; exact below1
  obtain ⟨q1, hq1⟩ : ∃ q, q = w.heap.size := ⟨_, rfl⟩
  have X1 : Hid (V1.heap[q1]? = some (.cells #[.int .i64 1, .int .i64 2, .int .i64 5] 3)) := by show _ = _; rw [hV1, hq1]; exact heap_alloc_new _ _
  replace BX := Lib.hid (BX.out.trans (al1.mono BX.out.size))
  have HV1 := Lib.hid hV1
  have HQ1 := Lib.hid hq1
  clear al1 hV1 hq1
  have A1 : Hid (At V1 V1.heap.size (.slice (some ⟨q1, 0, none⟩) 3 3) [1, 2, 5]) := by rw [HV1.out, HQ1.out]; exact at_lit w [1, 2, 5] _ _ rfl (by decide)
  go_wp2_with fail
  rw [← HV1.out, ← HQ1.out]
  (with_reducible refine (HL.out [1, 2, 5] _ _ A1.out (by decide)).mono ?_)
  rintro e wa ⟨ca, rfl, hfa, hba⟩
  replace BX := Lib.hid (BX.out.trans (hba.mono BX.out.size))
  replace X1 := Lib.hid ((hba.block _ (lt_of_block X1.out)).trans X1.out)
  have Ma := Lib.hid hfa.at
  obtain ⟨loa, lna, lca, koa, kna, kca, rfl⟩ := cur_mk hfa.at
  clear hfa hba
  obtain ⟨V2, hV2⟩ : ∃ W, W = wa.alloc (.cells #[.int .i64 7] 3) := ⟨_, rfl⟩
  have al2 : Below wa.heap.size wa V2 := by rw [hV2]; exact below1
  obtain ⟨q2, hq2⟩ : ∃ q, q = wa.heap.size := ⟨_, rfl⟩
  have X2 : Hid (V2.heap[q2]? = some (.cells #[.int .i64 7] 3)) := by show _ = _; rw [hV2, hq2]; exact heap_alloc_new _ _
  replace BX := Lib.hid (BX.out.trans (al2.mono BX.out.size))
  replace X1 := Lib.hid ((al2.block _ (lt_of_block X1.out)).trans X1.out)
  replace Ma := Lib.hid (curR_st Ma.out al2)
  have HV2 := Lib.hid hV2
  have HQ2 := Lib.hid hq2
  clear al2 hV2 hq2
  have A2 : Hid (At V2 V2.heap.size (.slice (some ⟨q2, 0, none⟩) 1 1) [7]) := by rw [HV2.out, HQ2.out]; exact at_lit wa [7] _ _ rfl (by decide)
  go_wp2_with fail
  rw [← HV2.out, ← HQ2.out]
  (with_reducible refine (HL.out [7] _ _ A2.out (by decide)).mono ?_)
  rintro e wb ⟨cb, rfl, hfb, hbb⟩
  replace BX := Lib.hid (BX.out.trans (hbb.mono BX.out.size))
  replace X1 := Lib.hid ((hbb.block _ (lt_of_block X1.out)).trans X1.out)
  replace Ma := Lib.hid (curR_st Ma.out hbb)
  replace X2 := Lib.hid ((hbb.block _ (lt_of_block X2.out)).trans X2.out)
  have Mb := Lib.hid hfb.at
  obtain ⟨lob, lnb, lcb, kob, knb, kcb, rfl⟩ := cur_mk hfb.at
  clear hfb hbb
  obtain ⟨V3, hV3⟩ : ∃ W, W = wb.alloc (.cells #[.int .i64 1, .slice loa lna lca, .int .i64 0, .slice koa kna kca, .int .i64 1, .slice lob lnb lcb, .int .i64 0, .slice kob knb kcb] 25) := ⟨_, rfl⟩
  have al3 : Below wb.heap.size wb V3 := by rw [hV3]; exact below1
  obtain ⟨q3, hq3⟩ : ∃ q, q = wb.heap.size := ⟨_, rfl⟩
  have X3 : Hid (V3.heap[q3]? = some (.cells #[.int .i64 1, .slice loa lna lca, .int .i64 0, .slice koa kna kca, .int .i64 1, .slice lob lnb lcb, .int .i64 0, .slice kob knb kcb] 25)) := by show _ = _; rw [hV3, hq3]; exact heap_alloc_new _ _
  replace BX := Lib.hid (BX.out.trans (al3.mono BX.out.size))
  replace X1 := Lib.hid ((al3.block _ (lt_of_block X1.out)).trans X1.out)
  replace Ma := Lib.hid (curR_st Ma.out al3)
  replace X2 := Lib.hid ((al3.block _ (lt_of_block X2.out)).trans X2.out)
  replace Mb := Lib.hid (curR_st Mb.out al3)
  have HV3 := Lib.hid hV3
  have HQ3 := Lib.hid hq3
  clear al3 hV3 hq3
  have R1 := Lib.hid (rows_box (d := 1) (n := 2) (l := [awkA, awkB]) X3.out [[.int .i64 1, .slice loa lna lca, .int .i64 0, .slice koa kna kca], [.int .i64 1, .slice lob lnb lcb, .int .i64 0, .slice kob knb kcb]] rfl (two_el ⟨rfl, Ma.out⟩ ⟨rfl, Mb.out⟩) rfl rfl (by decide))
  go_wp2_with fail
  rw [← HV3.out, ← HQ3.out]
  (with_reducible refine (cany_any 1 [awkA, awkB] _ _ R1.out (fun c hc => Cur.right_sm 1 c (by rcases List.mem_cons.1 hc with rfl | hc; { decide }; { rcases List.mem_cons.1 hc with rfl | hc; { decide }; { simp at hc } })) (by decide)).mono ?_)
  rintro e ws ⟨cs, rfl, hfs, hbs⟩
  replace BX := Lib.hid (BX.out.trans (hbs.mono BX.out.size))
  replace X1 := Lib.hid ((hbs.block _ (lt_of_block X1.out)).trans X1.out)
  replace Ma := Lib.hid (curR_st Ma.out hbs)
  replace X2 := Lib.hid ((hbs.block _ (lt_of_block X2.out)).trans X2.out)
  replace Mb := Lib.hid (curR_st Mb.out hbs)
  replace X3 := Lib.hid ((hbs.block _ (lt_of_block X3.out)).trans X3.out)
  rw [awkS_fwd] at hfs
  have Ms := Lib.hid hfs.at
  obtain ⟨los, lns, lcs, kos, kns, kcs, rfl⟩ := cur_mk hfs.at
  clear hfs hbs
  obtain ⟨V4, hV4⟩ : ∃ W, W = ws.alloc (.cells #[.int .i64 2] 3) := ⟨_, rfl⟩
  have al4 : Below ws.heap.size ws V4 := by rw [hV4]; exact below1
  obtain ⟨q4, hq4⟩ : ∃ q, q = ws.heap.size := ⟨_, rfl⟩
  have X4 : Hid (V4.heap[q4]? = some (.cells #[.int .i64 2] 3)) := by show _ = _; rw [hV4, hq4]; exact heap_alloc_new _ _
  replace BX := Lib.hid (BX.out.trans (al4.mono BX.out.size))
  replace X1 := Lib.hid ((al4.block _ (lt_of_block X1.out)).trans X1.out)
  replace Ma := Lib.hid (curR_st Ma.out al4)
  replace X2 := Lib.hid ((al4.block _ (lt_of_block X2.out)).trans X2.out)
  replace Mb := Lib.hid (curR_st Mb.out al4)
  replace X3 := Lib.hid ((al4.block _ (lt_of_block X3.out)).trans X3.out)
  replace Ms := Lib.hid (curR_st Ms.out al4)
  have HV4 := Lib.hid hV4
  have HQ4 := Lib.hid hq4
  clear al4 hV4 hq4
  have A4 : Hid (At V4 V4.heap.size (.slice (some ⟨q4, 0, none⟩) 1 1) [2]) := by rw [HV4.out, HQ4.out]; exact at_lit ws [2] _ _ rfl (by decide)
  go_wp2_with fail
  rw [← HV4.out, ← HQ4.out]
  (with_reducible refine (HL.out [2] _ _ A4.out (by decide)).mono ?_)
  rintro e wc ⟨cc, rfl, hfc, hbc⟩
  replace BX := Lib.hid (BX.out.trans (hbc.mono BX.out.size))
  replace X1 := Lib.hid ((hbc.block _ (lt_of_block X1.out)).trans X1.out)
  replace Ma := Lib.hid (curR_st Ma.out hbc)
  replace X2 := Lib.hid ((hbc.block _ (lt_of_block X2.out)).trans X2.out)
  replace Mb := Lib.hid (curR_st Mb.out hbc)
  replace X3 := Lib.hid ((hbc.block _ (lt_of_block X3.out)).trans X3.out)
  replace Ms := Lib.hid (curR_st Ms.out hbc)
  replace X4 := Lib.hid ((hbc.block _ (lt_of_block X4.out)).trans X4.out)
  have Mc := Lib.hid hfc.at
  obtain ⟨loc, lnc, lcc, koc, knc, kcc, rfl⟩ := cur_mk hfc.at
  clear hfc hbc
  obtain ⟨V5, hV5⟩ : ∃ W, W = wc.alloc (.cells #[.int .i64 1, .slice loc lnc lcc, .int .i64 0, .slice koc knc kcc] 25) := ⟨_, rfl⟩
  have al5 : Below wc.heap.size wc V5 := by rw [hV5]; exact below1
  obtain ⟨q5, hq5⟩ : ∃ q, q = wc.heap.size := ⟨_, rfl⟩
  have X5 : Hid (V5.heap[q5]? = some (.cells #[.int .i64 1, .slice loc lnc lcc, .int .i64 0, .slice koc knc kcc] 25)) := by show _ = _; rw [hV5, hq5]; exact heap_alloc_new _ _
  replace BX := Lib.hid (BX.out.trans (al5.mono BX.out.size))
  replace X1 := Lib.hid ((al5.block _ (lt_of_block X1.out)).trans X1.out)
  replace Ma := Lib.hid (curR_st Ma.out al5)
  replace X2 := Lib.hid ((al5.block _ (lt_of_block X2.out)).trans X2.out)
  replace Mb := Lib.hid (curR_st Mb.out al5)
  replace X3 := Lib.hid ((al5.block _ (lt_of_block X3.out)).trans X3.out)
  replace Ms := Lib.hid (curR_st Ms.out al5)
  replace X4 := Lib.hid ((al5.block _ (lt_of_block X4.out)).trans X4.out)
  replace Mc := Lib.hid (curR_st Mc.out al5)
  have HV5 := Lib.hid hV5
  have HQ5 := Lib.hid hq5
  clear al5 hV5 hq5
  have R2 := Lib.hid (rows_box (d := 2) (n := 1) (l := [awkC]) X5.out [[.int .i64 1, .slice loc lnc lcc, .int .i64 0, .slice koc knc kcc]] rfl (one_el ⟨rfl, curR_up _ _ _ _ _ Mc.out⟩) rfl rfl (by decide))
  go_wp2_with fail
  rw [← HV5.out, ← HQ5.out]
  (with_reducible refine (cminus_any 2 awkS _ [awkC] _ _ Ms.out (Cur.right_sm 2 awkS (by decide)) R2.out (fun c hc => Cur.right_sm 1 c (by rw [List.mem_singleton.1 hc]; decide)) (by decide)).mono ?_)
  rintro e wm ⟨cm, rfl, hfm, hbm⟩
  replace BX := Lib.hid (BX.out.trans (hbm.mono BX.out.size))
  replace X1 := Lib.hid ((hbm.block _ (lt_of_block X1.out)).trans X1.out)
  replace Ma := Lib.hid (curR_st Ma.out hbm)
  replace X2 := Lib.hid ((hbm.block _ (lt_of_block X2.out)).trans X2.out)
  replace Mb := Lib.hid (curR_st Mb.out hbm)
  replace X3 := Lib.hid ((hbm.block _ (lt_of_block X3.out)).trans X3.out)
  replace Ms := Lib.hid (curR_st Ms.out hbm)
  replace X4 := Lib.hid ((hbm.block _ (lt_of_block X4.out)).trans X4.out)
  replace Mc := Lib.hid (curR_st Mc.out hbm)
  replace X5 := Lib.hid ((hbm.block _ (lt_of_block X5.out)).trans X5.out)
  have e0 : Cur.mk 4 [] 0 ((awkS :: [awkC]).map (Cur.fwd (-9223372036854775808))) = awkM := by rfl
  rw [e0] at hfm
  clear e0
  have Mm := Lib.hid hfm.at
  obtain ⟨lom, lnm, lcm, kom, knm, kcm, rfl⟩ := cur_mk hfm.at
  clear hfm hbm
  obtain ⟨V6, hV6⟩ : ∃ W, W = wm.alloc (.cells #[.int .i64 4, .slice lom lnm lcm, .int .i64 0, .slice kom knm kcm] 25) := ⟨_, rfl⟩
  have al6 : Below wm.heap.size wm V6 := by rw [hV6]; exact below1
  obtain ⟨q6, hq6⟩ : ∃ q, q = wm.heap.size := ⟨_, rfl⟩
  have X6 : Hid (V6.heap[q6]? = some (.cells #[.int .i64 4, .slice lom lnm lcm, .int .i64 0, .slice kom knm kcm] 25)) := by show _ = _; rw [hV6, hq6]; exact heap_alloc_new _ _
  replace BX := Lib.hid (BX.out.trans (al6.mono BX.out.size))
  replace X1 := Lib.hid ((al6.block _ (lt_of_block X1.out)).trans X1.out)
  replace Ma := Lib.hid (curR_st Ma.out al6)
  replace X2 := Lib.hid ((al6.block _ (lt_of_block X2.out)).trans X2.out)
  replace Mb := Lib.hid (curR_st Mb.out al6)
  replace X3 := Lib.hid ((al6.block _ (lt_of_block X3.out)).trans X3.out)
  replace Ms := Lib.hid (curR_st Ms.out al6)
  replace X4 := Lib.hid ((al6.block _ (lt_of_block X4.out)).trans X4.out)
  replace Mc := Lib.hid (curR_st Mc.out al6)
  replace X5 := Lib.hid ((al6.block _ (lt_of_block X5.out)).trans X5.out)
  replace Mm := Lib.hid (curR_st Mm.out al6)
  have HV6 := Lib.hid hV6
  have HQ6 := Lib.hid hq6
  clear al6 hV6 hq6
  have y0 := boxc X6.out 0 _ rfl
  have y1 := boxc X6.out 1 _ rfl
  have y2 := boxc X6.out 2 _ rfl
  have y3 := boxc X6.out 3 _ rfl
  rw [HV6.out, HQ6.out] at y0 y1 y2 y3
  have HST : Hid (Calls Try.prog 17 #[.agg #[.int .i64 4, .slice lom lnm lcm, .int .i64 0, .slice kom knm kcm]] V6 (CurA 3 awkN V6)) := by
    have h := step_any 3 awkM _ V6 Mm.out
    unfold StepP at h
    simp only [awkM_now, awkN_fwd] at h
    exact h
  go_wp2_with fail
  rw [← HV6.out, ← HQ6.out]
  clear y0 y1 y2 y3
  (with_reducible refine HST.out.mono ?_)
  rintro e wn ⟨cn, rfl, hfn, hbn⟩
  replace BX := Lib.hid (BX.out.trans (hbn.mono BX.out.size))
  replace X1 := Lib.hid ((hbn.block _ (lt_of_block X1.out)).trans X1.out)
  replace Ma := Lib.hid (curR_st Ma.out hbn)
  replace X2 := Lib.hid ((hbn.block _ (lt_of_block X2.out)).trans X2.out)
  replace Mb := Lib.hid (curR_st Mb.out hbn)
  replace X3 := Lib.hid ((hbn.block _ (lt_of_block X3.out)).trans X3.out)
  replace Ms := Lib.hid (curR_st Ms.out hbn)
  replace X4 := Lib.hid ((hbn.block _ (lt_of_block X4.out)).trans X4.out)
  replace Mc := Lib.hid (curR_st Mc.out hbn)
  replace X5 := Lib.hid ((hbn.block _ (lt_of_block X5.out)).trans X5.out)
  replace Mm := Lib.hid (curR_st Mm.out hbn)
  replace X6 := Lib.hid ((hbn.block _ (lt_of_block X6.out)).trans X6.out)
  have Mn := Lib.hid hfn.at
  obtain ⟨lon, lnn, lcn, kon, knn, kcn, rfl⟩ := cur_mk hfn.at
  clear hfn hbn
  have HNW := Lib.hid (now_any 3 awkN _ _ Mn.out)
  rw [awkN_now] at HNW
  go_wp2_with fail
  (with_reducible refine HNW.out.mono ?_)
  rintro e wo ⟨rfl, hbo⟩
  replace BX := Lib.hid (BX.out.trans (hbo.mono BX.out.size))
  replace X1 := Lib.hid ((hbo.block _ (lt_of_block X1.out)).trans X1.out)
  replace Ma := Lib.hid (curR_st Ma.out hbo)
  replace X2 := Lib.hid ((hbo.block _ (lt_of_block X2.out)).trans X2.out)
  replace Mb := Lib.hid (curR_st Mb.out hbo)
  replace X3 := Lib.hid ((hbo.block _ (lt_of_block X3.out)).trans X3.out)
  replace Ms := Lib.hid (curR_st Ms.out hbo)
  replace X4 := Lib.hid ((hbo.block _ (lt_of_block X4.out)).trans X4.out)
  replace Mc := Lib.hid (curR_st Mc.out hbo)
  replace X5 := Lib.hid ((hbo.block _ (lt_of_block X5.out)).trans X5.out)
  replace Mm := Lib.hid (curR_st Mm.out hbo)
  replace X6 := Lib.hid ((hbo.block _ (lt_of_block X6.out)).trans X6.out)
  replace Mn := Lib.hid (curR_st Mn.out hbo)
  clear hbo
  simp only [Option.getD_some, Option.isSome_some]
  have y0 := boxc X6.out 0 _ rfl
  have y1 := boxc X6.out 1 _ rfl
  have y2 := boxc X6.out 2 _ rfl
  have y3 := boxc X6.out 3 _ rfl
  have HAL := Lib.hid (all_cu 3 awkM _ _ Mm.out)
  rw [awkM_all] at HAL
  go_wp2_with fail
  clear y0 y1 y2 y3
  (with_reducible refine HAL.out.mono ?_)
  rintro e wp ⟨vp, rfl, hop, hbp⟩
  replace BX := Lib.hid (BX.out.trans (hbp.mono BX.out.size))
  replace X1 := Lib.hid ((hbp.block _ (lt_of_block X1.out)).trans X1.out)
  replace Ma := Lib.hid (curR_st Ma.out hbp)
  replace X2 := Lib.hid ((hbp.block _ (lt_of_block X2.out)).trans X2.out)
  replace Mb := Lib.hid (curR_st Mb.out hbp)
  replace X3 := Lib.hid ((hbp.block _ (lt_of_block X3.out)).trans X3.out)
  replace Ms := Lib.hid (curR_st Ms.out hbp)
  replace X4 := Lib.hid ((hbp.block _ (lt_of_block X4.out)).trans X4.out)
  replace Mc := Lib.hid (curR_st Mc.out hbp)
  replace X5 := Lib.hid ((hbp.block _ (lt_of_block X5.out)).trans X5.out)
  replace Mm := Lib.hid (curR_st Mm.out hbp)
  replace X6 := Lib.hid ((hbp.block _ (lt_of_block X6.out)).trans X6.out)
  replace Mn := Lib.hid (curR_st Mn.out hbp)
  have Ap := Lib.hid (at_.own hop)
  clear hop hbp
  obtain ⟨V7, hV7⟩ : ∃ W, W = wp.alloc (.cells #[.int .i64 1, .int .i64 5, .int .i64 7] 3) := ⟨_, rfl⟩
  have al7 : Below wp.heap.size wp V7 := by rw [hV7]; exact below1
  obtain ⟨q7, hq7⟩ : ∃ q, q = wp.heap.size := ⟨_, rfl⟩
  have X7 : Hid (V7.heap[q7]? = some (.cells #[.int .i64 1, .int .i64 5, .int .i64 7] 3)) := by show _ = _; rw [hV7, hq7]; exact heap_alloc_new _ _
  replace BX := Lib.hid (BX.out.trans (al7.mono BX.out.size))
  replace X1 := Lib.hid ((al7.block _ (lt_of_block X1.out)).trans X1.out)
  replace Ma := Lib.hid (curR_st Ma.out al7)
  replace X2 := Lib.hid ((al7.block _ (lt_of_block X2.out)).trans X2.out)
  replace Mb := Lib.hid (curR_st Mb.out al7)
  replace X3 := Lib.hid ((al7.block _ (lt_of_block X3.out)).trans X3.out)
  replace Ms := Lib.hid (curR_st Ms.out al7)
  replace X4 := Lib.hid ((al7.block _ (lt_of_block X4.out)).trans X4.out)
  replace Mc := Lib.hid (curR_st Mc.out al7)
  replace X5 := Lib.hid ((al7.block _ (lt_of_block X5.out)).trans X5.out)
  replace Mm := Lib.hid (curR_st Mm.out al7)
  replace X6 := Lib.hid ((al7.block _ (lt_of_block X6.out)).trans X6.out)
  replace Mn := Lib.hid (curR_st Mn.out al7)
  replace Ap := Lib.hid ((Ap.out.below al7).mono al7.size)
  have HV7 := Lib.hid hV7
  have HQ7 := Lib.hid hq7
  clear al7 hV7 hq7
  have A7 : Hid (At V7 V7.heap.size (.slice (some ⟨q7, 0, none⟩) 3 3) [1, 5, 7]) := by rw [HV7.out, HQ7.out]; exact at_lit wp [1, 5, 7] _ _ rfl (by decide)
  go_wp2_with fail
  rw [← HV7.out, ← HQ7.out]
  (with_reducible refine (ints_any [1, 5, 7] [1, 5, 7] _ _ _ Ap.out A7.out).mono ?_)
  rintro e wq ⟨rfl, hbq⟩
  replace BX := Lib.hid (BX.out.trans (hbq.mono BX.out.size))
  replace X1 := Lib.hid ((hbq.block _ (lt_of_block X1.out)).trans X1.out)
  replace Ma := Lib.hid (curR_st Ma.out hbq)
  replace X2 := Lib.hid ((hbq.block _ (lt_of_block X2.out)).trans X2.out)
  replace Mb := Lib.hid (curR_st Mb.out hbq)
  replace X3 := Lib.hid ((hbq.block _ (lt_of_block X3.out)).trans X3.out)
  replace Ms := Lib.hid (curR_st Ms.out hbq)
  replace X4 := Lib.hid ((hbq.block _ (lt_of_block X4.out)).trans X4.out)
  replace Mc := Lib.hid (curR_st Mc.out hbq)
  replace X5 := Lib.hid ((hbq.block _ (lt_of_block X5.out)).trans X5.out)
  replace Mm := Lib.hid (curR_st Mm.out hbq)
  replace X6 := Lib.hid ((hbq.block _ (lt_of_block X6.out)).trans X6.out)
  replace Mn := Lib.hid (curR_st Mn.out hbq)
  replace Ap := Lib.hid ((Ap.out.below hbq).mono hbq.size)
  replace X7 := Lib.hid ((hbq.block _ (lt_of_block X7.out)).trans X7.out)
  replace A7 := Lib.hid ((A7.out.below hbq).mono hbq.size)
  clear hbq
  have y0 := boxc X6.out 0 _ rfl
  have y1 := boxc X6.out 1 _ rfl
  have y2 := boxc X6.out 2 _ rfl
  have y3 := boxc X6.out 3 _ rfl
  have HSK : Hid (Calls Try.prog 15 #[.agg #[.int .i64 4, .slice lom lnm lcm, .int .i64 0, .slice kom knm kcm], .int .i64 2] wq (CurA 3 awkN wq)) := by
    have h := seek_any 3 2 awkM _ wq Mm.out
    unfold SeekP at h
    simp only [awkM_right, if_true] at h
    exact h
  go_wp2_with fail
  clear y0 y1 y2 y3
  (with_reducible refine HSK.out.mono ?_)
  rintro e wr ⟨cr, rfl, hfr, hbr⟩
  replace BX := Lib.hid (BX.out.trans (hbr.mono BX.out.size))
  replace X1 := Lib.hid ((hbr.block _ (lt_of_block X1.out)).trans X1.out)
  replace Ma := Lib.hid (curR_st Ma.out hbr)
  replace X2 := Lib.hid ((hbr.block _ (lt_of_block X2.out)).trans X2.out)
  replace Mb := Lib.hid (curR_st Mb.out hbr)
  replace X3 := Lib.hid ((hbr.block _ (lt_of_block X3.out)).trans X3.out)
  replace Ms := Lib.hid (curR_st Ms.out hbr)
  replace X4 := Lib.hid ((hbr.block _ (lt_of_block X4.out)).trans X4.out)
  replace Mc := Lib.hid (curR_st Mc.out hbr)
  replace X5 := Lib.hid ((hbr.block _ (lt_of_block X5.out)).trans X5.out)
  replace Mm := Lib.hid (curR_st Mm.out hbr)
  replace X6 := Lib.hid ((hbr.block _ (lt_of_block X6.out)).trans X6.out)
  replace Mn := Lib.hid (curR_st Mn.out hbr)
  replace Ap := Lib.hid ((Ap.out.below hbr).mono hbr.size)
  replace X7 := Lib.hid ((hbr.block _ (lt_of_block X7.out)).trans X7.out)
  replace A7 := Lib.hid ((A7.out.below hbr).mono hbr.size)
  have Mr := Lib.hid hfr.at
  obtain ⟨lor, lnr, lcr, kor, knr, kcr, rfl⟩ := cur_mk hfr.at
  clear hfr hbr
  have HAM := Lib.hid (all_cu 3 awkN _ _ Mr.out)
  rw [awkN_all] at HAM
  go_wp2_with fail
  (with_reducible refine HAM.out.mono ?_)
  rintro e wt ⟨vt, rfl, hot, hbt⟩
  replace BX := Lib.hid (BX.out.trans (hbt.mono BX.out.size))
  replace X1 := Lib.hid ((hbt.block _ (lt_of_block X1.out)).trans X1.out)
  replace Ma := Lib.hid (curR_st Ma.out hbt)
  replace X2 := Lib.hid ((hbt.block _ (lt_of_block X2.out)).trans X2.out)
  replace Mb := Lib.hid (curR_st Mb.out hbt)
  replace X3 := Lib.hid ((hbt.block _ (lt_of_block X3.out)).trans X3.out)
  replace Ms := Lib.hid (curR_st Ms.out hbt)
  replace X4 := Lib.hid ((hbt.block _ (lt_of_block X4.out)).trans X4.out)
  replace Mc := Lib.hid (curR_st Mc.out hbt)
  replace X5 := Lib.hid ((hbt.block _ (lt_of_block X5.out)).trans X5.out)
  replace Mm := Lib.hid (curR_st Mm.out hbt)
  replace X6 := Lib.hid ((hbt.block _ (lt_of_block X6.out)).trans X6.out)
  replace Mn := Lib.hid (curR_st Mn.out hbt)
  replace Ap := Lib.hid ((Ap.out.below hbt).mono hbt.size)
  replace X7 := Lib.hid ((hbt.block _ (lt_of_block X7.out)).trans X7.out)
  replace A7 := Lib.hid ((A7.out.below hbt).mono hbt.size)
  replace Mr := Lib.hid (curR_st Mr.out hbt)
  have At2 := Lib.hid (at_.own hot)
  clear hot hbt
  obtain ⟨V8, hV8⟩ : ∃ W, W = wt.alloc (.cells #[.int .i64 5, .int .i64 7] 3) := ⟨_, rfl⟩
  have al8 : Below wt.heap.size wt V8 := by rw [hV8]; exact below1
  obtain ⟨q8, hq8⟩ : ∃ q, q = wt.heap.size := ⟨_, rfl⟩
  have X8 : Hid (V8.heap[q8]? = some (.cells #[.int .i64 5, .int .i64 7] 3)) := by show _ = _; rw [hV8, hq8]; exact heap_alloc_new _ _
  replace BX := Lib.hid (BX.out.trans (al8.mono BX.out.size))
  replace X1 := Lib.hid ((al8.block _ (lt_of_block X1.out)).trans X1.out)
  replace Ma := Lib.hid (curR_st Ma.out al8)
  replace X2 := Lib.hid ((al8.block _ (lt_of_block X2.out)).trans X2.out)
  replace Mb := Lib.hid (curR_st Mb.out al8)
  replace X3 := Lib.hid ((al8.block _ (lt_of_block X3.out)).trans X3.out)
  replace Ms := Lib.hid (curR_st Ms.out al8)
  replace X4 := Lib.hid ((al8.block _ (lt_of_block X4.out)).trans X4.out)
  replace Mc := Lib.hid (curR_st Mc.out al8)
  replace X5 := Lib.hid ((al8.block _ (lt_of_block X5.out)).trans X5.out)
  replace Mm := Lib.hid (curR_st Mm.out al8)
  replace X6 := Lib.hid ((al8.block _ (lt_of_block X6.out)).trans X6.out)
  replace Mn := Lib.hid (curR_st Mn.out al8)
  replace Ap := Lib.hid ((Ap.out.below al8).mono al8.size)
  replace X7 := Lib.hid ((al8.block _ (lt_of_block X7.out)).trans X7.out)
  replace A7 := Lib.hid ((A7.out.below al8).mono al8.size)
  replace Mr := Lib.hid (curR_st Mr.out al8)
  replace At2 := Lib.hid ((At2.out.below al8).mono al8.size)
  have HV8 := Lib.hid hV8
  have HQ8 := Lib.hid hq8
  clear al8 hV8 hq8
  have A8 : Hid (At V8 V8.heap.size (.slice (some ⟨q8, 0, none⟩) 2 2) [5, 7]) := by rw [HV8.out, HQ8.out]; exact at_lit wt [5, 7] _ _ rfl (by decide)
  go_wp2_with fail
  rw [← HV8.out, ← HQ8.out]
  (with_reducible refine (ints_any [5, 7] [5, 7] _ _ _ At2.out A8.out).mono ?_)
  rintro e wu ⟨rfl, hbu⟩
  replace BX := Lib.hid (BX.out.trans (hbu.mono BX.out.size))
  replace X1 := Lib.hid ((hbu.block _ (lt_of_block X1.out)).trans X1.out)
  replace Ma := Lib.hid (curR_st Ma.out hbu)
  replace X2 := Lib.hid ((hbu.block _ (lt_of_block X2.out)).trans X2.out)
  replace Mb := Lib.hid (curR_st Mb.out hbu)
  replace X3 := Lib.hid ((hbu.block _ (lt_of_block X3.out)).trans X3.out)
  replace Ms := Lib.hid (curR_st Ms.out hbu)
  replace X4 := Lib.hid ((hbu.block _ (lt_of_block X4.out)).trans X4.out)
  replace Mc := Lib.hid (curR_st Mc.out hbu)
  replace X5 := Lib.hid ((hbu.block _ (lt_of_block X5.out)).trans X5.out)
  replace Mm := Lib.hid (curR_st Mm.out hbu)
  replace X6 := Lib.hid ((hbu.block _ (lt_of_block X6.out)).trans X6.out)
  replace Mn := Lib.hid (curR_st Mn.out hbu)
  replace Ap := Lib.hid ((Ap.out.below hbu).mono hbu.size)
  replace X7 := Lib.hid ((hbu.block _ (lt_of_block X7.out)).trans X7.out)
  replace A7 := Lib.hid ((A7.out.below hbu).mono hbu.size)
  replace Mr := Lib.hid (curR_st Mr.out hbu)
  replace At2 := Lib.hid ((At2.out.below hbu).mono hbu.size)
  replace X8 := Lib.hid ((hbu.block _ (lt_of_block X8.out)).trans X8.out)
  replace A8 := Lib.hid ((A8.out.below hbu).mono hbu.size)
  clear hbu
  go_wp2
  go_ret
  exact ⟨by simp, BX.out⟩
end Go.Proofs.Ytojngbobecdpeaa
