/- the cursors' law CursorTurns: the order of what stands within a cursor makes no difference. -/
import Derived.Test.YtojngbobecdpeaaCurLaw0
import Derived.Test.YtojngbobecdpeaaFlow
namespace Go.Proofs.Ytojngbobecdpeaa
open Go Go.RowKit Go.ChangeShapes at_ pm cl
theorem OwL.one {d : Nat} {c : List Value} {x : Cur} {w : World} (h : curR d w w.heap.size c x) : OwL w.heap.size d [x] (.slice (some ⟨w.heap.size, 0, none⟩) 1 1) (w.alloc (.cells c.toArray 25)) := by
  refine ⟨[c], rfl, one_el ⟨(cur_one h).1, curR_steady d _ _ _ _ _ _ h below1 (Nat.le_refl _)⟩, ?_⟩
  have := own_lit (W := w) (k := 4) (arr := c.toArray) (T := 25) (by simpa using (cur_one h).1)
  simpa using this
theorem kind1_next {B d : Nat} {L : List Cur} {v : Value} {W W' : World} (hk : Kind1 v W) (h : OwL B d L v W) (hT : Below W.heap.size W W') : Kind1 v W' := by
  intro g cs fr hg hcs
  obtain ⟨ms, h0, h1, h2⟩ := h
  have hlt : g < W.heap.size := by
    rcases h2.2 with ⟨e, _⟩ | ⟨g', cap, cur, e, hbg, hgg, _⟩
    · rw [e] at hg; simp [Value.ownBlock] at hg
    · rw [e] at hg
      simp only [Value.ownBlock, Option.some.injEq] at hg
      subst hg
      exact lt_of_block hgg
  exact hk g cs fr hg ((hT.block g hlt).symm.trans hcs)
theorem mk_kind {ls : List (List Int)} : ∀ m ∈ ls.map mkL, m.k = 1 := by
  intro m hm
  obtain ⟨l, _, rfl⟩ := List.mem_map.1 hm
  rfl
theorem below_al {w w' : World} {o : Obj} (h : Below (w.heap.size + 1) (w.alloc o) w') : Below w.heap.size w w' := below1.trans (h.mono (by omega))
set_option maxHeartbeats 25600000 in
set_option maxRecDepth 100000 in
theorem turns_any (la lb lc : List (List Int)) (va vb vc : Value) (w : World) (ha : LRows w w.heap.size va la) (hb : LRows w w.heap.size vb lb) (hc : LRows w w.heap.size vc lc) :
    Calls Try.prog 7 #[va, vb, vc] w (Said true w) := by
  have HAW : Hid (∀ W, Calls Try.prog 9 #[] W (Said true W)) := awake_any
  have HRA : Hid (∀ W, Below w.heap.size w W → LRows W W.heap.size va la) := fun W hW => (ha.below hW).mono hW.size
  have HRB : Hid (∀ W, Below w.heap.size w W → LRows W W.heap.size vb lb) := fun W hW => (hb.below hW).mono hW.size
  have HRC : Hid (∀ W, Below w.heap.size w W → LRows W W.heap.size vc lc) := fun W hW => (hc.below hW).mono hW.size
  obtain ⟨na, hna⟩ : ∃ n, n = la.length := ⟨_, rfl⟩
  obtain ⟨nb, hnb⟩ : ∃ n, n = lb.length := ⟨_, rfl⟩
  obtain ⟨nc, hnc⟩ : ∃ n, n = lc.length := ⟨_, rfl⟩
  obtain ⟨aa, ac, rfl, _⟩ := ha
  obtain ⟨ba, bc, rfl, _⟩ := hb
  obtain ⟨ca, cc, rfl, _⟩ := hc
  rw [← hna] at HRA ⊢
  rw [← hnb] at HRB ⊢
  rw [← hnc] at HRC ⊢
  have HNA := Lib.hid hna
  have HNB := Lib.hid hnb
  have HNC := Lib.hid hnc
  have HTA : Hid (∀ W, Below w.heap.size w W → Calls Try.prog 27 #[.slice aa na ac] W (Said (rows7 la) W)) := fun W hW => lright_any la _ W (HRA.out W hW)
  have HTB : Hid (∀ W, Below w.heap.size w W → Calls Try.prog 27 #[.slice ba nb bc] W (Said (rows7 lb) W)) := fun W hW => lright_any lb _ W (HRB.out W hW)
  have HTC : Hid (∀ W, Below w.heap.size w W → Calls Try.prog 27 #[.slice ca nc cc] W (Said (rows7 lc) W)) := fun W hW => lright_any lc _ W (HRC.out W hW)
  obtain ⟨ra, hra⟩ : ∃ r, r = rows7 la := ⟨_, rfl⟩
  obtain ⟨rb, hrb⟩ : ∃ r, r = rows7 lb := ⟨_, rfl⟩
  obtain ⟨rc, hrc⟩ : ∃ r, r = rows7 lc := ⟨_, rfl⟩
  rw [← hra] at HTA
  rw [← hrb] at HTB
  rw [← hrc] at HTC
  have HSA := Lib.hid hra
  have HSB := Lib.hid hrb
  have HSC := Lib.hid hrc
  clear hna hnb hnc hra hrb hrc
  cases ra with
  | false =>
    go_enter Try.func7, Try.ntmps7
    go_wp2_with fail
    (with_reducible refine (HTA.out _ (Below.refl _ _)).mono ?_)
    rintro e w1 ⟨rfl, hb1⟩
    have D1 := Lib.hid (hb1)
    clear hb1
    go_wp2_with fail
    (with_reducible refine (HAW.out _).mono ?_)
    rintro e w9 ⟨rfl, hb9⟩
    go_wp2
    go_ret
    exact ⟨rfl, D1.out.trans (hb9.mono D1.out.size)⟩
  | true =>
    cases rb with
    | false =>
      go_enter Try.func7, Try.ntmps7
      go_wp2_with fail
      (with_reducible refine (HTA.out _ (Below.refl _ _)).mono ?_)
      rintro e w1 ⟨rfl, hb1⟩
      have D1 := Lib.hid (hb1)
      clear hb1
      go_wp2_with fail
      (with_reducible refine (HTB.out _ D1.out).mono ?_)
      rintro e w2 ⟨rfl, hb2⟩
      have D2 := Lib.hid (D1.out.trans (hb2.mono D1.out.size))
      clear hb2
      go_wp2_with fail
      (with_reducible refine (HAW.out _).mono ?_)
      rintro e w9 ⟨rfl, hb9⟩
      go_wp2
      go_ret
      exact ⟨rfl, D2.out.trans (hb9.mono D2.out.size)⟩
    | true =>
      cases rc with
      | false =>
        go_enter Try.func7, Try.ntmps7
        go_wp2_with fail
        (with_reducible refine (HTA.out _ (Below.refl _ _)).mono ?_)
        rintro e w1 ⟨rfl, hb1⟩
        have D1 := Lib.hid (hb1)
        clear hb1
        go_wp2_with fail
        (with_reducible refine (HTB.out _ D1.out).mono ?_)
        rintro e w2 ⟨rfl, hb2⟩
        have D2 := Lib.hid (D1.out.trans (hb2.mono D1.out.size))
        clear hb2
        go_wp2_with fail
        (with_reducible refine (HTC.out _ D2.out).mono ?_)
        rintro e w3 ⟨rfl, hb3⟩
        have D3 := Lib.hid (D2.out.trans (hb3.mono D2.out.size))
        clear hb3
        go_wp2_with fail
        (with_reducible refine (HAW.out _).mono ?_)
        rintro e w9 ⟨rfl, hb9⟩
        go_wp2
        go_ret
        exact ⟨rfl, D3.out.trans (hb9.mono D3.out.size)⟩
      | true =>
        have LA : Hid (Ls la) := Ls.of HSA.out.symm
        have LB : Hid (Ls lb) := Ls.of HSB.out.symm
        have LC : Hid (Ls lc) := Ls.of HSC.out.symm
        have KA : Hid (∀ W, Below w.heap.size w W → Calls Try.prog 28 #[.slice aa na ac] W (fun e w' => ∃ ao cap, e = .returned (.slice ao na cap) ∧ (na = 0 → ao = none) ∧ CsO W.heap.size 1 (la.map mkL) (.slice ao na cap) w' ∧ Below W.heap.size W w')) := fun W hW => by
          rw [HNA.out]; have h := cursors_any la _ W (HRA.out W hW) (fun l hl => by have := (LA.out.el l hl).1; omega) (by have := LA.out.len; omega); rw [HNA.out] at h; exact h
        have KB : Hid (∀ W, Below w.heap.size w W → Calls Try.prog 28 #[.slice ba nb bc] W (fun e w' => ∃ ao cap, e = .returned (.slice ao nb cap) ∧ (nb = 0 → ao = none) ∧ CsO W.heap.size 1 (lb.map mkL) (.slice ao nb cap) w' ∧ Below W.heap.size W w')) := fun W hW => by
          rw [HNB.out]; have h := cursors_any lb _ W (HRB.out W hW) (fun l hl => by have := (LB.out.el l hl).1; omega) (by have := LB.out.len; omega); rw [HNB.out] at h; exact h
        have KC : Hid (∀ W, Below w.heap.size w W → Calls Try.prog 28 #[.slice ca nc cc] W (fun e w' => ∃ ao cap, e = .returned (.slice ao nc cap) ∧ (nc = 0 → ao = none) ∧ CsO W.heap.size 1 (lc.map mkL) (.slice ao nc cap) w' ∧ Below W.heap.size W w')) := fun W hW => by
          rw [HNC.out]; have h := cursors_any lc _ W (HRC.out W hW) (fun l hl => by have := (LC.out.el l hl).1; omega) (by have := LC.out.len; omega); rw [HNC.out] at h; exact h
        go_enter Try.func7, Try.ntmps7
        go_wp2_with fail
        (with_reducible refine (HTA.out _ (Below.refl _ _)).mono ?_)
        rintro e w1 ⟨rfl, hb1⟩
        have D1 := Lib.hid (hb1)
        clear hb1
        go_wp2_with fail
        (with_reducible refine (HTB.out _ D1.out).mono ?_)
        rintro e w2 ⟨rfl, hb2⟩
        have D2 := Lib.hid (D1.out.trans (hb2.mono D1.out.size))
        clear hb2
        go_wp2_with fail
        (with_reducible refine (HTC.out _ D2.out).mono ?_)
        rintro e w3 ⟨rfl, hb3⟩
        have D3 := Lib.hid (D2.out.trans (hb3.mono D2.out.size))
        clear hb3
        clear HTA HTB HTC
        go_wp2_with fail
        (with_reducible refine (KA.out _ D3.out).mono ?_)
        rintro e w4 ⟨ao1, cp1, rfl, _, hc1, hb4⟩
        replace D3 := Lib.hid (D3.out.trans (hb4.mono D3.out.size))
        have RX := Lib.hid hc1.rows
        clear hc1 hb4
        go_wp2_with fail
        (with_reducible refine (KB.out _ D3.out).mono ?_)
        rintro e w5 ⟨ao2, cp2, rfl, _, hc2, hb5⟩
        replace D3 := Lib.hid (D3.out.trans (hb5.mono D3.out.size))
        replace RX := Lib.hid (RowsAt.next (curR_steady _) RX.out hb5)
        have RY := Lib.hid hc2.rows
        clear hc2 hb5
        have LX : Hid ((la.map mkL).length = na) := by show _ = _; rw [List.length_map, HNA.out]
        have LY : Hid ((lb.map mkL).length = nb) := by show _ = _; rw [List.length_map, HNB.out]
        have hn8 : na ≤ 8 ∧ nb ≤ 8 := by have h1 := LA.out.mlen; have h2 := LB.out.mlen; rw [LX.out] at h1; rw [LY.out] at h2; exact ⟨h1, h2⟩
        have HLL := Lib.hid hn8
        clear hn8
        go_wp2_with (at_builtin; refine appLZ (.tmp 34) (.tmp 35) w5.heap.size 1 rfl rfl (OwL.nil (Nat.le_refl _)) rfl (SrcL.of (RowsAt.below (curR_steady 1) RX.out below1 (Nat.le_refl _))) rfl (by rw [LX.out]; have := HLL.out; omega) (by simp) mk_kind ?_)
        intro aL1 cL1 wL1 hO1 hb1 _
        have hw1 := below_al hb1
        go_wp2_with (at_builtin; refine appL (.tmp 36) (.tmp 37) w5.heap.size 1 rfl rfl hO1 rfl (SrcL.of (RowsAt.below (curR_steady 1) RY.out hw1 (Nat.le_refl _))) rfl (by rw [LX.out, LY.out]; have := HLL.out; omega) hw1.size ?_)
        intro aM1 cM1 wM1 hP1 hd1 _
        have hx1 := hw1.trans hd1
        have RZ := Lib.hid (hP1.rows hx1.size)
        replace D3 := Lib.hid (D3.out.trans (hx1.mono D3.out.size))
        replace RX := Lib.hid (RowsAt.next (curR_steady _) RX.out hx1)
        replace RY := Lib.hid (RowsAt.next (curR_steady _) RY.out hx1)
        clear hO1 hb1 hw1 hP1 hd1 hx1
        go_wp2_with fail
        (with_reducible refine (cany_any 1 (la.map mkL ++ lb.map mkL) _ _ RZ.out (fun c hc => (List.mem_append.1 hc).elim (LA.out.sm c) (LB.out.sm c)) (by rw [List.length_append, LX.out, LY.out]; have := HLL.out; omega)).mono ?_)
        rintro e wN1 ⟨cs1, rfl, hf1, hg1⟩
        replace D3 := Lib.hid (D3.out.trans (hg1.mono D3.out.size))
        replace RX := Lib.hid (RowsAt.next (curR_steady _) RX.out hg1)
        replace RY := Lib.hid (RowsAt.next (curR_steady _) RY.out hg1)
        replace RZ := Lib.hid (RowsAt.next (curR_steady _) RZ.out hg1)
        rw [tAny_fwd LA.out LB.out] at hf1
        have MM : Hid (curR 2 wN1 wN1.heap.size cs1 (tAny la lb)) := hf1.at
        obtain ⟨lot1, lnt1, lct1, kot1, knt1, kct1, rfl⟩ := cur_mk hf1.at
        clear hf1 hg1 RZ
        have HAL : Hid (Calls Try.prog 20 #[.agg #[.int .i64 3, .slice lot1 lnt1 lct1, .int .i64 0, .slice kot1 knt1 kct1]] wN1 (Owned (tAny la lb).nums wN1)) := by
          have h := all_cu 2 _ _ wN1 MM.out
          rw [Cur.allN_right (tAny_right LA.out LB.out) (by decide)] at h
          exact h
        go_wp2_with fail
        (with_reducible refine (HAL.out).mono ?_)
        rintro e wO1 ⟨v1, rfl, ho1, hh1⟩
        replace D3 := Lib.hid (D3.out.trans (hh1.mono D3.out.size))
        replace RX := Lib.hid (RowsAt.next (curR_steady _) RX.out hh1)
        replace RY := Lib.hid (RowsAt.next (curR_steady _) RY.out hh1)
        have P1 := Lib.hid (at_.own ho1)
        clear ho1 hh1 HAL MM
        go_wp2_with (at_builtin; refine appLZ (.tmp 41) (.tmp 42) wO1.heap.size 1 rfl rfl (OwL.nil (Nat.le_refl _)) rfl (SrcL.of (RowsAt.below (curR_steady 1) RY.out below1 (Nat.le_refl _))) rfl (by rw [LY.out]; have := HLL.out; omega) (by simp) mk_kind ?_)
        intro aL2 cL2 wL2 hO2 hb2 _
        have hw2 := below_al hb2
        go_wp2_with (at_builtin; refine appL (.tmp 43) (.tmp 44) wO1.heap.size 1 rfl rfl hO2 rfl (SrcL.of (RowsAt.below (curR_steady 1) RX.out hw2 (Nat.le_refl _))) rfl (by rw [LX.out, LY.out]; have := HLL.out; omega) hw2.size ?_)
        intro aM2 cM2 wM2 hP2 hd2 _
        have hx2 := hw2.trans hd2
        have RZ := Lib.hid (hP2.rows hx2.size)
        replace D3 := Lib.hid (D3.out.trans (hx2.mono D3.out.size))
        replace RX := Lib.hid (RowsAt.next (curR_steady _) RX.out hx2)
        replace RY := Lib.hid (RowsAt.next (curR_steady _) RY.out hx2)
        replace P1 := Lib.hid ((P1.out.below hx2).mono hx2.size)
        clear hO2 hb2 hw2 hP2 hd2 hx2
        go_wp2_with fail
        (with_reducible refine (cany_any 1 (lb.map mkL ++ la.map mkL) _ _ RZ.out (fun c hc => (List.mem_append.1 hc).elim (LB.out.sm c) (LA.out.sm c)) (by rw [List.length_append, LX.out, LY.out]; have := HLL.out; omega)).mono ?_)
        rintro e wN2 ⟨cs2, rfl, hf2, hg2⟩
        replace D3 := Lib.hid (D3.out.trans (hg2.mono D3.out.size))
        replace RX := Lib.hid (RowsAt.next (curR_steady _) RX.out hg2)
        replace RY := Lib.hid (RowsAt.next (curR_steady _) RY.out hg2)
        replace P1 := Lib.hid ((P1.out.below hg2).mono hg2.size)
        replace RZ := Lib.hid (RowsAt.next (curR_steady _) RZ.out hg2)
        rw [tAny_fwd LB.out LA.out] at hf2
        have MM : Hid (curR 2 wN2 wN2.heap.size cs2 (tAny lb la)) := hf2.at
        obtain ⟨lot2, lnt2, lct2, kot2, knt2, kct2, rfl⟩ := cur_mk hf2.at
        clear hf2 hg2 RZ
        have HAL : Hid (Calls Try.prog 20 #[.agg #[.int .i64 3, .slice lot2 lnt2 lct2, .int .i64 0, .slice kot2 knt2 kct2]] wN2 (Owned (tAny lb la).nums wN2)) := by
          have h := all_cu 2 _ _ wN2 MM.out
          rw [Cur.allN_right (tAny_right LB.out LA.out) (by decide)] at h
          exact h
        go_wp2_with fail
        (with_reducible refine (HAL.out).mono ?_)
        rintro e wO2 ⟨v2, rfl, ho2, hh2⟩
        replace D3 := Lib.hid (D3.out.trans (hh2.mono D3.out.size))
        replace RX := Lib.hid (RowsAt.next (curR_steady _) RX.out hh2)
        replace RY := Lib.hid (RowsAt.next (curR_steady _) RY.out hh2)
        replace P1 := Lib.hid ((P1.out.below hh2).mono hh2.size)
        have P2 := Lib.hid (at_.own ho2)
        clear ho2 hh2 HAL MM
        go_wp2_with fail
        (with_reducible refine (KC.out _ D3.out).mono ?_)
        rintro e w6 ⟨ao3, cp3, rfl, _, hc3, hb6⟩
        replace D3 := Lib.hid (D3.out.trans (hb6.mono D3.out.size))
        replace RX := Lib.hid (RowsAt.next (curR_steady _) RX.out hb6)
        replace RY := Lib.hid (RowsAt.next (curR_steady _) RY.out hb6)
        replace P1 := Lib.hid ((P1.out.below hb6).mono hb6.size)
        replace P2 := Lib.hid ((P2.out.below hb6).mono hb6.size)
        have RC := Lib.hid hc3.rows
        clear hc3 hb6
        go_wp2_with fail
        (with_reducible refine (cany_any 1 (lc.map mkL) _ _ RC.out LC.out.sm (by have := LC.out.mlen; omega)).mono ?_)
        rintro e w7 ⟨cs2, rfl, hf2, hb7⟩
        replace D3 := Lib.hid (D3.out.trans (hb7.mono D3.out.size))
        replace RX := Lib.hid (RowsAt.next (curR_steady _) RX.out hb7)
        replace RY := Lib.hid (RowsAt.next (curR_steady _) RY.out hb7)
        replace P1 := Lib.hid ((P1.out.below hb7).mono hb7.size)
        replace P2 := Lib.hid ((P2.out.below hb7).mono hb7.size)
        replace RC := Lib.hid (RowsAt.next (curR_steady _) RC.out hb7)
        rw [cAny_fwd LC.out] at hf2
        have MF : Hid (curR 2 w7 w7.heap.size cs2 (cAny lc)) := hf2.at
        obtain ⟨lof, lnf, lcf, kof, knf, kcf, rfl⟩ := cur_mk hf2.at
        clear hf2 hb7 RC
        obtain ⟨V1, hV1⟩ : ∃ W, W = w7.alloc (.cells #[.int .i64 3, .slice lof lnf lcf, .int .i64 0, .slice kof knf kcf] 25) := ⟨_, rfl⟩
        have al1 : Below w7.heap.size w7 V1 := by rw [hV1]; exact below1
        obtain ⟨q1, hq1⟩ : ∃ q, q = w7.heap.size := ⟨_, rfl⟩
        have X1 : Hid (V1.heap[q1]? = some (.cells #[.int .i64 3, .slice lof lnf lcf, .int .i64 0, .slice kof knf kcf] 25)) := by show _ = _; rw [hV1, hq1]; exact heap_alloc_new _ _
        replace D3 := Lib.hid (D3.out.trans (al1.mono D3.out.size))
        replace RX := Lib.hid (RowsAt.next (curR_steady _) RX.out al1)
        replace RY := Lib.hid (RowsAt.next (curR_steady _) RY.out al1)
        replace P1 := Lib.hid ((P1.out.below al1).mono al1.size)
        replace P2 := Lib.hid ((P2.out.below al1).mono al1.size)
        replace MF := Lib.hid (curR_st MF.out al1)
        have HV1 := Lib.hid hV1
        have HQ1 := Lib.hid hq1
        clear al1 hV1 hq1
        have ZF : Hid (∀ W, Below V1.heap.size V1 W → curR 2 W V1.heap.size [.int .i64 3, .slice lof lnf lcf, .int .i64 0, .slice kof knf kcf] (cAny lc)) := fun W hW => curR_steady 2 _ _ _ _ _ _ MF.out hW (Nat.le_refl _)
        have ZX : Hid (∀ W, Below V1.heap.size V1 W → RowsAt 4 (curR 2) W V1.heap.size (.slice ao1 na cp1) (la.map mkL)) := fun W hW => rows_up (RowsAt.below (curR_steady 1) RX.out hW (Nat.le_refl _))
        have ZY : Hid (∀ W, Below V1.heap.size V1 W → RowsAt 4 (curR 2) W V1.heap.size (.slice ao2 nb cp2) (lb.map mkL)) := fun W hW => rows_up (RowsAt.below (curR_steady 1) RY.out hW (Nat.le_refl _))
        have KS : Hid (∀ (v : Value) W, Below V1.heap.size V1 W → RowsAt 4 (curR 2) W W.heap.size v (la.map mkL ++ lb.map mkL) → Calls Try.prog 24 #[.agg #[.int .i64 3, .slice lof lnf lcf, .int .i64 0, .slice kof knf kcf], v] W (CurA 3 (tSub la lb lc) W)) := fun v W hW hv => by
          have h := cminus_any 2 (cAny lc) _ _ v W (curR_steady 2 _ _ _ _ _ _ MF.out hW hW.size) (Cur.right_sm 2 _ (cAny_right LC.out)) hv (fun c hc => (List.mem_append.1 hc).elim (LA.out.sm c) (LB.out.sm c)) (by rw [List.length_append, LX.out, LY.out]; have := HLL.out; omega)
          rw [tSub_fwd LA.out LB.out LC.out] at h
          exact h
        have AS : Hid (∀ (c : List Value) W, curR 3 W W.heap.size c (tSub la lb lc) → Calls Try.prog 20 #[.agg c.toArray] W (Owned (tSub la lb lc).nums W)) := fun c W hc => by
          have h := all_cu 3 _ c W hc
          rw [Cur.allN_right (tSub_right LA.out LB.out LC.out) (by decide)] at h
          exact h
        go_wp2
        rw [← HV1.out, ← HQ1.out]
        refine wp_flow 8 (fun kF => match kF with | 1 => 3 | 3 => 5 | _ => 1000) (fun ww => RowKit.Below V1.heap.size V1 ww) (fun i w w' => if i = 5 then (fun (w w' : World) => RowKit.Below V1.heap.size w w') w w' else (fun (w w' : World) => RowKit.Below w.heap.size w w') w w') (fun kF vF wF => match kF with | 0 => (vF = .agg #[.int .i64 3, .slice lof lnf lcf, .int .i64 0, .slice kof knf kcf]) | 1 => (∃ g, vF = .slice (some ⟨g, 0, none⟩) 0 0 ∧ OwL V1.heap.size 2 [] (.slice (some ⟨g, 0, none⟩) 0 0) wF ∧ V1.heap.size ≤ wF.heap.size) | 2 => (vF = .slice ao1 na cp1) | 3 => (∃ ao cp, vF = .slice ao na cp ∧ OwL V1.heap.size 2 (la.map mkL) (.slice ao na cp) wF ∧ Kind1 (.slice ao na cp) wF ∧ V1.heap.size ≤ wF.heap.size) | 4 => (vF = .slice ao2 nb cp2) | 5 => (∃ ao nn cp, vF = .slice ao nn cp ∧ RowsAt 4 (curR 2) wF wF.heap.size (.slice ao nn cp) (la.map mkL ++ lb.map mkL)) | 6 => (∃ lox lnx lcx kox knx kcx, vF = .agg #[.int .i64 4, .slice lox lnx lcx, .int .i64 0, .slice kox knx kcx] ∧ curR 3 wF wF.heap.size [.int .i64 4, .slice lox lnx lcx, .int .i64 0, .slice kox knx kcx] (tSub la lb lc)) | 7 => (At wF wF.heap.size vF (tSub la lb lc).nums) | _ => True) (fun _ _ _ _ => True) (by kernel_rfl) (by kernel_rfl) ?_ ?_ ?_ ?_ ?_
        · exact (Below.refl _ _).drew
        · intro iF wF1 wF2 hR hT
          have hT : (fun i w w' => if i = 5 then (fun (w w' : World) => RowKit.Below V1.heap.size w w') w w' else (fun (w w' : World) => RowKit.Below w.heap.size w w') w w') iF wF1 wF2 := hT
          simp only at hT
          by_cases hi5 : iF = 5
          · rw [if_pos hi5] at hT; exact hR.trans hT
          rw [if_neg hi5] at hT
          exact hR.trans (hT.mono hR.size)
        · intro kF hkF iF hiF hne hdd hanc hdan vF wF1 wF2 h hT
          rcases (by omega : kF = 0 ∨ kF = 1 ∨ kF = 2 ∨ kF = 3 ∨ kF = 4 ∨ kF = 5 ∨ kF = 6 ∨ kF = 7) with rfl | rfl | rfl | rfl | rfl | rfl | rfl | rfl
          · exact h
          · have h : (∃ g, vF = .slice (some ⟨g, 0, none⟩) 0 0 ∧ OwL V1.heap.size 2 [] (.slice (some ⟨g, 0, none⟩) 0 0) wF1 ∧ V1.heap.size ≤ wF1.heap.size) := h
            show (∃ g, vF = .slice (some ⟨g, 0, none⟩) 0 0 ∧ OwL V1.heap.size 2 [] (.slice (some ⟨g, 0, none⟩) 0 0) wF2 ∧ V1.heap.size ≤ wF2.heap.size)
            have hT : (fun i w w' => if i = 5 then (fun (w w' : World) => RowKit.Below V1.heap.size w w') w w' else (fun (w w' : World) => RowKit.Below w.heap.size w w') w w') iF wF1 wF2 := hT
            simp only at hT
            by_cases hi5 : iF = 5
            · subst hi5; exact (anc_no hdan (by kernel_rfl)).elim
            rw [if_neg hi5] at hT
            obtain ⟨g, e, hz, hs⟩ := h
            exact ⟨g, e, hz.next hs hT, Nat.le_trans hs hT.size⟩
          · exact h
          · have h : (∃ ao cp, vF = .slice ao na cp ∧ OwL V1.heap.size 2 (la.map mkL) (.slice ao na cp) wF1 ∧ Kind1 (.slice ao na cp) wF1 ∧ V1.heap.size ≤ wF1.heap.size) := h
            show (∃ ao cp, vF = .slice ao na cp ∧ OwL V1.heap.size 2 (la.map mkL) (.slice ao na cp) wF2 ∧ Kind1 (.slice ao na cp) wF2 ∧ V1.heap.size ≤ wF2.heap.size)
            have hT : (fun i w w' => if i = 5 then (fun (w w' : World) => RowKit.Below V1.heap.size w w') w w' else (fun (w w' : World) => RowKit.Below w.heap.size w w') w w') iF wF1 wF2 := hT
            simp only at hT
            by_cases hi5 : iF = 5
            · exact absurd hi5.symm hdd
            rw [if_neg hi5] at hT
            obtain ⟨a, b, e, hz, hk, hs⟩ := h
            exact ⟨a, b, e, hz.next hs hT, kind1_next hk hz hT, Nat.le_trans hs hT.size⟩
          · exact h
          · have h : (∃ ao nn cp, vF = .slice ao nn cp ∧ RowsAt 4 (curR 2) wF1 wF1.heap.size (.slice ao nn cp) (la.map mkL ++ lb.map mkL)) := h
            show (∃ ao nn cp, vF = .slice ao nn cp ∧ RowsAt 4 (curR 2) wF2 wF2.heap.size (.slice ao nn cp) (la.map mkL ++ lb.map mkL))
            have hT : (fun i w w' => if i = 5 then (fun (w w' : World) => RowKit.Below V1.heap.size w w') w w' else (fun (w w' : World) => RowKit.Below w.heap.size w w') w w') iF wF1 wF2 := hT
            simp only at hT
            by_cases hi5 : iF = 5
            · exact absurd hi5.symm hne
            rw [if_neg hi5] at hT
            obtain ⟨a, b, c, e, hr⟩ := h
            exact ⟨a, b, c, e, RowsAt.next (curR_steady 2) hr hT⟩
          · have h : (∃ lox lnx lcx kox knx kcx, vF = .agg #[.int .i64 4, .slice lox lnx lcx, .int .i64 0, .slice kox knx kcx] ∧ curR 3 wF1 wF1.heap.size [.int .i64 4, .slice lox lnx lcx, .int .i64 0, .slice kox knx kcx] (tSub la lb lc)) := h
            show (∃ lox lnx lcx kox knx kcx, vF = .agg #[.int .i64 4, .slice lox lnx lcx, .int .i64 0, .slice kox knx kcx] ∧ curR 3 wF2 wF2.heap.size [.int .i64 4, .slice lox lnx lcx, .int .i64 0, .slice kox knx kcx] (tSub la lb lc))
            have hT : (fun i w w' => if i = 5 then (fun (w w' : World) => RowKit.Below V1.heap.size w w') w w' else (fun (w w' : World) => RowKit.Below w.heap.size w w') w w') iF wF1 wF2 := hT
            simp only at hT
            by_cases hi5 : iF = 5
            · subst hi5; exact (anc_no hanc (by kernel_rfl)).elim
            rw [if_neg hi5] at hT
            obtain ⟨a, b, c, d, f, g, e, hr⟩ := h
            exact ⟨a, b, c, d, f, g, e, curR_st hr hT⟩
          · have h : (At wF1 wF1.heap.size vF (tSub la lb lc).nums) := h
            show (At wF2 wF2.heap.size vF (tSub la lb lc).nums)
            have hT : (fun i w w' => if i = 5 then (fun (w w' : World) => RowKit.Below V1.heap.size w w') w w' else (fun (w w' : World) => RowKit.Below w.heap.size w w') w w') iF wF1 wF2 := hT
            simp only at hT
            by_cases hi5 : iF = 5
            · subst hi5; exact (anc_no hanc (by kernel_rfl)).elim
            rw [if_neg hi5] at hT
            exact (h.below hT).mono hT.size
        · generalize hAF : fillOf _ _ _ = AF
          replace hAF := fun x => congrFun hAF x
          simp only [List.take_succ_cons, List.take_zero, fillOf, Act.put, List.setIfInBounds_toArray, List.set_cons_zero, List.set_cons_succ, Nat.reduceAdd, Nat.zero_add] at hAF
          refine FlowAll.cons ?_ ?_
          · intro xF wx hR hd K hK
            clear hd
            simp only [← hAF, Act.put, List.setIfInBounds_toArray, List.set_cons_zero, List.set_cons_succ] at hK ⊢
            clear hAF
            try simp only [Nat.zero_add] at hK ⊢
            try simp only [Nat.reduceAdd] at hK ⊢
            obtain hbR := id hR
            have hxa := (hbR.block _ (lt_of_block X1.out)).trans X1.out
            have yb0 := boxc hxa 0 _ rfl
            have yb1 := boxc hxa 1 _ rfl
            have yb2 := boxc hxa 2 _ rfl
            have yb3 := boxc hxa 3 _ rfl
            clear hxa
            rw [if_pos (by rfl)]
            go_simp
            exact hK.out _ _ (Below.refl _ _) (rfl) (fun _ _ _ => ⟨trivial, trivial⟩)
          refine FlowAll.cons ?_ ?_
          · intro xF wx hR hd K hK
            clear hd
            simp only [← hAF, Act.put, List.setIfInBounds_toArray, List.set_cons_zero, List.set_cons_succ] at hK ⊢
            clear hAF
            try simp only [Nat.zero_add] at hK ⊢
            try simp only [Nat.reduceAdd] at hK ⊢
            obtain hbR := id hR
            rw [if_pos (by rfl)]
            go_simp
            exact hK.out _ _ (below1) (⟨_, rfl, OwL.nil hR.size, Nat.le_trans hR.size below1.size⟩) (fun _ _ _ => ⟨trivial, trivial⟩)
          refine FlowAll.cons ?_ ?_
          · intro xF wx hR hd K hK
            clear hd
            simp only [← hAF, Act.put, List.setIfInBounds_toArray, List.set_cons_zero, List.set_cons_succ] at hK ⊢
            clear hAF
            try simp only [Nat.zero_add] at hK ⊢
            try simp only [Nat.reduceAdd] at hK ⊢
            obtain hbR := id hR
            rw [if_pos (by rfl)]
            go_simp
            exact hK.out _ _ (Below.refl _ _) (rfl) (fun _ _ _ => ⟨trivial, trivial⟩)
          refine FlowAll.cons ?_ ?_
          · intro xF wx hR hd K hK
            have dd1 : (∃ g, (xF 1) = .slice (some ⟨g, 0, none⟩) 0 0 ∧ OwL V1.heap.size 2 [] (.slice (some ⟨g, 0, none⟩) 0 0) wx ∧ V1.heap.size ≤ wx.heap.size) := hd 1 (by kernel_rfl)
            have dd2 : ((xF 2) = .slice ao1 na cp1) := hd 2 (by kernel_rfl)
            clear hd
            simp only [← hAF, Act.put, List.setIfInBounds_toArray, List.set_cons_zero, List.set_cons_succ] at hK ⊢
            clear hAF
            try simp only [Nat.zero_add] at hK ⊢
            try simp only [Nat.reduceAdd] at hK ⊢
            try generalize xF 1 = yy1 at *
            try generalize xF 2 = yy2 at *
            obtain ⟨g0, rfl, hz0, _⟩ := dd1
            obtain rfl := dd2
            obtain hbR := id hR
            rw [if_pos (by rfl)]
            refine kit.wp_of_list (fun Q' hQ' => ?_)
            refine appLZ (.tmp 52) (.tmp 53) V1.heap.size 2 rfl rfl hz0 rfl (SrcL.of (ZX.out _ hbR)) rfl (by rw [LX.out]; have := HLL.out; omega) hR.size mk_kind ?_
            intro aN cN wN hoN hbN hkN
            rw [LX.out] at hoN hkN ⊢
            refine hQ' _ _ ?_
            simp only [Act.put, List.setIfInBounds_toArray, List.set_cons_zero, List.set_cons_succ]
            exact hK.out _ _ (hbN) (⟨aN, cN, rfl, hoN, hkN, Nat.le_trans hR.size hbN.size⟩) (fun _ _ _ => ⟨trivial, trivial⟩)
          refine FlowAll.cons ?_ ?_
          · intro xF wx hR hd K hK
            clear hd
            simp only [← hAF, Act.put, List.setIfInBounds_toArray, List.set_cons_zero, List.set_cons_succ] at hK ⊢
            clear hAF
            try simp only [Nat.zero_add] at hK ⊢
            try simp only [Nat.reduceAdd] at hK ⊢
            obtain hbR := id hR
            rw [if_pos (by rfl)]
            go_simp
            exact hK.out _ _ (Below.refl _ _) (rfl) (fun _ _ _ => ⟨trivial, trivial⟩)
          refine FlowAll.cons ?_ ?_
          · intro xF wx hR hd K hK
            have dd3 : (∃ ao cp, (xF 3) = .slice ao na cp ∧ OwL V1.heap.size 2 (la.map mkL) (.slice ao na cp) wx ∧ Kind1 (.slice ao na cp) wx ∧ V1.heap.size ≤ wx.heap.size) := hd 3 (by kernel_rfl)
            have dd4 : ((xF 4) = .slice ao2 nb cp2) := hd 4 (by kernel_rfl)
            clear hd
            simp only [← hAF, Act.put, List.setIfInBounds_toArray, List.set_cons_zero, List.set_cons_succ] at hK ⊢
            clear hAF
            try simp only [Nat.zero_add] at hK ⊢
            try simp only [Nat.reduceAdd] at hK ⊢
            try generalize xF 3 = yy3 at *
            try generalize xF 4 = yy4 at *
            obtain ⟨aoz, cpz, rfl, hz2, hk2, hs2⟩ := dd3
            obtain rfl := dd4
            obtain hbR := id hR
            rw [if_pos (by rfl)]
            refine kit.wp_of_list (fun Q' hQ' => ?_)
            have hz3 := hz2
            rw [← LX.out] at hz3
            refine appL (.tmp 54) (.tmp 55) V1.heap.size 2 rfl rfl hz3 (by simp only [LX.out]; rfl) (SrcL.of (ZY.out _ hbR)) rfl (by rw [LX.out, LY.out]; have := HLL.out; omega) hR.size ?_
            intro aN cN wN hoN hbN hgN
            refine hQ' _ _ ?_
            simp only [Act.put, List.setIfInBounds_toArray, List.set_cons_zero, List.set_cons_succ]
            have hrN := hoN.rows (Nat.le_trans hR.size hbN.size)
            exact hK.out _ _ (hbN) (⟨aN, _, cN, rfl, hrN⟩) (fun _ _ _ => ⟨trivial, trivial⟩)
          refine FlowAll.cons ?_ ?_
          · intro xF wx hR hd K hK
            have dd0 : ((xF 0) = .agg #[.int .i64 3, .slice lof lnf lcf, .int .i64 0, .slice kof knf kcf]) := hd 0 (by kernel_rfl)
            have dd5 : (∃ ao nn cp, (xF 5) = .slice ao nn cp ∧ RowsAt 4 (curR 2) wx wx.heap.size (.slice ao nn cp) (la.map mkL ++ lb.map mkL)) := hd 5 (by kernel_rfl)
            clear hd
            simp only [← hAF, Act.put, List.setIfInBounds_toArray, List.set_cons_zero, List.set_cons_succ] at hK ⊢
            clear hAF
            try simp only [Nat.zero_add] at hK ⊢
            try simp only [Nat.reduceAdd] at hK ⊢
            try generalize xF 0 = yy0 at *
            try generalize xF 5 = yy5 at *
            obtain rfl := dd0
            obtain ⟨ao5, nn5, cp5, rfl, hr5⟩ := dd5
            obtain hbR := id hR
            rw [if_pos (by rfl)]
            go_simp
            (go_at_call 24; (with_reducible refine (KS.out _ _ hbR hr5).mono ?_); rintro e wK ⟨cK, rfl, hfK, hbK⟩; obtain ⟨loy, lny, lcy, koy, kny, kcy, rfl⟩ := cur_mk hfK.at)
            try go_wp2_with fail
            exact hK.out _ _ (hbK) (⟨_, _, _, _, _, _, rfl, hfK.at⟩) (fun _ _ _ => ⟨trivial, trivial⟩)
          refine FlowAll.cons ?_ ?_
          · intro xF wx hR hd K hK
            have dd6 : (∃ lox lnx lcx kox knx kcx, (xF 6) = .agg #[.int .i64 4, .slice lox lnx lcx, .int .i64 0, .slice kox knx kcx] ∧ curR 3 wx wx.heap.size [.int .i64 4, .slice lox lnx lcx, .int .i64 0, .slice kox knx kcx] (tSub la lb lc)) := hd 6 (by kernel_rfl)
            clear hd
            simp only [← hAF, Act.put, List.setIfInBounds_toArray, List.set_cons_zero, List.set_cons_succ] at hK ⊢
            clear hAF
            try simp only [Nat.zero_add] at hK ⊢
            try simp only [Nat.reduceAdd] at hK ⊢
            try generalize xF 6 = yy6 at *
            obtain ⟨lo3, ln3, lc3, ko3, kn3, kc3, rfl, hm6⟩ := dd6
            obtain hbR := id hR
            rw [if_pos (by rfl)]
            go_simp
            (go_at_call 20; (with_reducible refine (AS.out _ _ hm6).mono ?_); rintro e wK ⟨vK, rfl, hoK, hbK⟩)
            try go_wp2_with fail
            exact hK.out _ _ (hbK) (at_.own hoK) (fun _ _ _ => ⟨trivial, trivial⟩)
          exact FlowAll.nil
        intro xF wx hR hF hP
        clear hP
        have dd0 : ((xF 0) = .agg #[.int .i64 3, .slice lof lnf lcf, .int .i64 0, .slice kof knf kcf]) := hF 0 (by omega) (by decide)
        have dd2 : ((xF 2) = .slice ao1 na cp1) := hF 2 (by omega) (by decide)
        have dd4 : ((xF 4) = .slice ao2 nb cp2) := hF 4 (by omega) (by decide)
        have dd5 : (∃ ao nn cp, (xF 5) = .slice ao nn cp ∧ RowsAt 4 (curR 2) wx wx.heap.size (.slice ao nn cp) (la.map mkL ++ lb.map mkL)) := hF 5 (by omega) (by decide)
        have dd6 : (∃ lox lnx lcx kox knx kcx, (xF 6) = .agg #[.int .i64 4, .slice lox lnx lcx, .int .i64 0, .slice kox knx kcx] ∧ curR 3 wx wx.heap.size [.int .i64 4, .slice lox lnx lcx, .int .i64 0, .slice kox knx kcx] (tSub la lb lc)) := hF 6 (by omega) (by decide)
        have dd7 : (At wx wx.heap.size (xF 7) (tSub la lb lc).nums) := hF 7 (by omega) (by decide)
        clear hF
        simp only [List.take_succ_cons, List.take_zero, List.drop_succ_cons, List.drop_zero, fillOf, Act.put, List.setIfInBounds_toArray, List.set_cons_zero, List.set_cons_succ, Nat.reduceAdd, Nat.zero_add]
        try generalize xF 0 = yy0 at *
        try generalize xF 1 = yy1 at *
        try generalize xF 2 = yy2 at *
        try generalize xF 3 = yy3 at *
        try generalize xF 4 = yy4 at *
        try generalize xF 5 = yy5 at *
        try generalize xF 6 = yy6 at *
        try generalize xF 7 = yy7 at *
        clear xF
        obtain rfl := dd0
        obtain rfl := dd2
        obtain rfl := dd4
        obtain ⟨ao5, nn5, cp5, rfl, hr5⟩ := dd5
        obtain ⟨lo3, ln3, lc3, ko3, kn3, kc3, rfl, hm6⟩ := dd6
        have hat7 := dd7
        have hRE := Lib.hid hR
        clear hR
        have P3 := Lib.hid hat7
        have hbx := hRE.out
        clear hat7 hm6 hr5 hRE ZF ZX ZY KS AS
        replace D3 := Lib.hid (D3.out.trans (hbx.mono D3.out.size))
        replace RX := Lib.hid (RowsAt.next (curR_steady _) RX.out hbx)
        replace RY := Lib.hid (RowsAt.next (curR_steady _) RY.out hbx)
        replace P1 := Lib.hid ((P1.out.below hbx).mono hbx.size)
        replace P2 := Lib.hid ((P2.out.below hbx).mono hbx.size)
        replace MF := Lib.hid (curR_st MF.out hbx)
        replace X1 := Lib.hid ((hbx.block _ (lt_of_block X1.out)).trans X1.out)
        clear hbx
        as_aux_lemma =>
          have y0 := boxc X1.out 0 _ rfl
          have y1 := boxc X1.out 1 _ rfl
          have y2 := boxc X1.out 2 _ rfl
          have y3 := boxc X1.out 3 _ rfl
          have KO : Hid (Calls Try.prog 24 #[.agg #[.int .i64 3, .slice lof lnf lcf, .int .i64 0, .slice kof knf kcf], .slice ao2 nb cp2] wx (CurA 3 (tOne lb lc) wx)) := by
            have h := cminus_any 2 (cAny lc) _ _ (.slice ao2 nb cp2) wx MF.out (Cur.right_sm 2 _ (cAny_right LC.out)) (rows_up RY.out) LB.out.sm (by rw [LY.out]; have := HLL.out; omega)
            rw [tOne_fwd LB.out LC.out] at h
            exact h
          go_wp2_with fail
          clear y0 y1 y2 y3
          (with_reducible refine (KO.out).mono ?_)
          rintro e wo ⟨co, rfl, hfo, hbo⟩
          replace D3 := Lib.hid (D3.out.trans (hbo.mono D3.out.size))
          replace RX := Lib.hid (RowsAt.next (curR_steady _) RX.out hbo)
          replace RY := Lib.hid (RowsAt.next (curR_steady _) RY.out hbo)
          replace P1 := Lib.hid ((P1.out.below hbo).mono hbo.size)
          replace P2 := Lib.hid ((P2.out.below hbo).mono hbo.size)
          replace MF := Lib.hid (curR_st MF.out hbo)
          replace X1 := Lib.hid ((hbo.block _ (lt_of_block X1.out)).trans X1.out)
          replace P3 := Lib.hid ((P3.out.below hbo).mono hbo.size)
          have MO : Hid (curR 3 wo wo.heap.size co (tOne lb lc)) := hfo.at
          obtain ⟨loo, lno, lco, koo, kno, kco, rfl⟩ := cur_mk hfo.at
          clear hfo hbo KO
          have KT : Hid (Calls Try.prog 24 #[.agg #[.int .i64 4, .slice loo lno lco, .int .i64 0, .slice koo kno kco], .slice ao1 na cp1] wo (CurA 4 (tTwo la lb lc) wo)) := by
            have h := cminus_any 3 (tOne lb lc) _ _ (.slice ao1 na cp1) wo MO.out (Cur.right_sm 3 _ (tOne_right LB.out LC.out)) (rows_up (rows_up RX.out)) LA.out.sm (by rw [LX.out]; have := HLL.out; omega)
            rw [tTwo_fwd LA.out LB.out LC.out] at h
            exact h
          go_wp2_with fail
          (with_reducible refine (KT.out).mono ?_)
          rintro e wt ⟨ct, rfl, hft, hbt⟩
          replace D3 := Lib.hid (D3.out.trans (hbt.mono D3.out.size))
          replace RX := Lib.hid (RowsAt.next (curR_steady _) RX.out hbt)
          replace RY := Lib.hid (RowsAt.next (curR_steady _) RY.out hbt)
          replace P1 := Lib.hid ((P1.out.below hbt).mono hbt.size)
          replace P2 := Lib.hid ((P2.out.below hbt).mono hbt.size)
          replace MF := Lib.hid (curR_st MF.out hbt)
          replace X1 := Lib.hid ((hbt.block _ (lt_of_block X1.out)).trans X1.out)
          replace P3 := Lib.hid ((P3.out.below hbt).mono hbt.size)
          have MT : Hid (curR 4 wt wt.heap.size ct (tTwo la lb lc)) := hft.at
          obtain ⟨lot, lnt, lct, kot, knt, kct, rfl⟩ := cur_mk hft.at
          clear hft hbt KT MO
          have AT : Hid (Calls Try.prog 20 #[.agg #[.int .i64 4, .slice lot lnt lct, .int .i64 0, .slice kot knt kct]] wt (Owned (tTwo la lb lc).nums wt)) := by
            have h := all_cu 4 _ _ wt MT.out
            rw [Cur.allN_right (tTwo_right LA.out LB.out LC.out) (by decide)] at h
            exact h
          go_wp2_with fail
          (with_reducible refine (AT.out).mono ?_)
          rintro e wu ⟨v4, rfl, ho4, hh4⟩
          replace D3 := Lib.hid (D3.out.trans (hh4.mono D3.out.size))
          replace RX := Lib.hid (RowsAt.next (curR_steady _) RX.out hh4)
          replace RY := Lib.hid (RowsAt.next (curR_steady _) RY.out hh4)
          replace P1 := Lib.hid ((P1.out.below hh4).mono hh4.size)
          replace P2 := Lib.hid ((P2.out.below hh4).mono hh4.size)
          replace MF := Lib.hid (curR_st MF.out hh4)
          replace X1 := Lib.hid ((hh4.block _ (lt_of_block X1.out)).trans X1.out)
          replace P3 := Lib.hid ((P3.out.below hh4).mono hh4.size)
          have P4 := Lib.hid (at_.own ho4)
          clear ho4 hh4 AT MT
          have y0 := boxc X1.out 0 _ rfl
          have y1 := boxc X1.out 1 _ rfl
          have y2 := boxc X1.out 2 _ rfl
          have y3 := boxc X1.out 3 _ rfl
          go_wp2_with (at_builtin; first | (refine appL (.tmp 66) (.tmp 67) wu.heap.size 2 rfl rfl (OwL.one MF.out) rfl (SrcL.of (rows_up (RowsAt.below (curR_steady 1) RX.out below1 (Nat.le_refl _)))) rfl (by rw [LX.out]; have := HLL.out; simp; omega) (by simp) ?_; intro aL cL wL hO hb _; obtain ⟨nL, hnL⟩ : ∃ n, n = ([cAny lc] ++ la.map mkL).length := ⟨_, rfl⟩; rw [← hnL] at hO ⊢; have HNL := Lib.hid hnL; have HO9 := Lib.hid hO; have HW9 : Hid (Below wu.heap.size wu wL) := below1.trans hb; clear hnL hO hb) | (refine appL (.tmp 68) (.tmp 69) wu.heap.size 2 rfl rfl HO9.out rfl (SrcL.of (rows_up (RowsAt.below (curR_steady 1) RY.out HW9.out (Nat.le_refl _)))) rfl (by rw [List.length_append, LX.out, LY.out]; have := HLL.out; simp; omega) HW9.out.size ?_; intro aM cM wM hP hd _; obtain ⟨nM, hnM⟩ : ∃ n, n = ([cAny lc] ++ la.map mkL ++ lb.map mkL).length := ⟨_, rfl⟩; rw [← hnM] at hP ⊢; have HNM := Lib.hid hnM; have HP9 := Lib.hid hP; have HX9 := Lib.hid (HW9.out.trans hd); clear hnM hP hd) | fail)
          clear y0 y1 y2 y3
          have hx := HX9.out
          have RZ := Lib.hid (HP9.out.rows hx.size)
          replace D3 := Lib.hid (D3.out.trans (hx.mono D3.out.size))
          replace RX := Lib.hid (RowsAt.next (curR_steady _) RX.out hx)
          replace RY := Lib.hid (RowsAt.next (curR_steady _) RY.out hx)
          replace P1 := Lib.hid ((P1.out.below hx).mono hx.size)
          replace P2 := Lib.hid ((P2.out.below hx).mono hx.size)
          replace MF := Lib.hid (curR_st MF.out hx)
          replace X1 := Lib.hid ((hx.block _ (lt_of_block X1.out)).trans X1.out)
          replace P3 := Lib.hid ((P3.out.below hx).mono hx.size)
          replace P4 := Lib.hid ((P4.out.below hx).mono hx.size)
          clear hx HO9 HW9 HP9 HX9
          have KB2 : Hid (Calls Try.prog 22 #[.slice aM nM cM] wM (CurA 3 (tBothA la lb lc) wM)) := by
            have h := cboth_any 2 _ _ wM RZ.out (fun c hc => Cur.right_sm 2 c (tBothA_kids LA.out LB.out LC.out c hc)) (Nat.le_trans (tBothA_len LA.out LB.out) (by decide))
            rw [tBothA_fwd LA.out LB.out LC.out] at h
            exact h
          go_wp2_with fail
          (with_reducible refine (KB2.out).mono ?_)
          rintro e wb ⟨cb, rfl, hfb, hbb⟩
          replace D3 := Lib.hid (D3.out.trans (hbb.mono D3.out.size))
          replace RX := Lib.hid (RowsAt.next (curR_steady _) RX.out hbb)
          replace RY := Lib.hid (RowsAt.next (curR_steady _) RY.out hbb)
          replace P1 := Lib.hid ((P1.out.below hbb).mono hbb.size)
          replace P2 := Lib.hid ((P2.out.below hbb).mono hbb.size)
          replace MF := Lib.hid (curR_st MF.out hbb)
          replace X1 := Lib.hid ((hbb.block _ (lt_of_block X1.out)).trans X1.out)
          replace P3 := Lib.hid ((P3.out.below hbb).mono hbb.size)
          replace P4 := Lib.hid ((P4.out.below hbb).mono hbb.size)
          replace RZ := Lib.hid (RowsAt.next (curR_steady _) RZ.out hbb)
          have MB : Hid (curR 3 wb wb.heap.size cb (tBothA la lb lc)) := hfb.at
          obtain ⟨lob, lnb, lcb, kob, knb, kcb, rfl⟩ := cur_mk hfb.at
          clear hfb hbb KB2 RZ
          have AB : Hid (Calls Try.prog 20 #[.agg #[.int .i64 2, .slice lob lnb lcb, .int .i64 0, .slice kob knb kcb]] wb (Owned (tBothA la lb lc).nums wb)) := by
            have h := all_cu 3 _ _ wb MB.out
            rw [Cur.allN_right (tBothA_right LA.out LB.out LC.out) (by decide)] at h
            exact h
          go_wp2_with fail
          (with_reducible refine (AB.out).mono ?_)
          rintro e wv ⟨v5, rfl, ho5, hh5⟩
          replace D3 := Lib.hid (D3.out.trans (hh5.mono D3.out.size))
          replace RX := Lib.hid (RowsAt.next (curR_steady _) RX.out hh5)
          replace RY := Lib.hid (RowsAt.next (curR_steady _) RY.out hh5)
          replace P1 := Lib.hid ((P1.out.below hh5).mono hh5.size)
          replace P2 := Lib.hid ((P2.out.below hh5).mono hh5.size)
          replace MF := Lib.hid (curR_st MF.out hh5)
          replace X1 := Lib.hid ((hh5.block _ (lt_of_block X1.out)).trans X1.out)
          replace P3 := Lib.hid ((P3.out.below hh5).mono hh5.size)
          replace P4 := Lib.hid ((P4.out.below hh5).mono hh5.size)
          have P5 := Lib.hid (at_.own ho5)
          clear ho5 hh5 AB MB
          as_aux_lemma =>
            have ZF : Hid (∀ W, Below wv.heap.size wv W → curR 2 W wv.heap.size [.int .i64 3, .slice lof lnf lcf, .int .i64 0, .slice kof knf kcf] (cAny lc)) := fun W hW => curR_steady 2 _ _ _ _ _ _ MF.out hW (Nat.le_refl _)
            have ZX : Hid (∀ W, Below wv.heap.size wv W → RowsAt 4 (curR 2) W wv.heap.size (.slice ao1 na cp1) (la.map mkL)) := fun W hW => rows_up (RowsAt.below (curR_steady 1) RX.out hW (Nat.le_refl _))
            have ZY : Hid (∀ W, Below wv.heap.size wv W → RowsAt 4 (curR 2) W wv.heap.size (.slice ao2 nb cp2) (lb.map mkL)) := fun W hW => rows_up (RowsAt.below (curR_steady 1) RY.out hW (Nat.le_refl _))
            have KB3 : Hid (∀ (v : Value) W, RowsAt 4 (curR 2) W W.heap.size v (lb.map mkL ++ la.map mkL ++ [cAny lc]) → Calls Try.prog 22 #[v] W (CurA 3 (tBothB la lb lc) W)) := fun v W hv => by
              have h := cboth_any 2 _ v W hv (fun c hc => Cur.right_sm 2 c (tBothB_kids LA.out LB.out LC.out c hc)) (Nat.le_trans (tBothB_len LA.out LB.out) (by decide))
              rw [tBothB_fwd LA.out LB.out LC.out] at h
              exact h
            have AB3 : Hid (∀ (c : List Value) W, curR 3 W W.heap.size c (tBothB la lb lc) → Calls Try.prog 20 #[.agg c.toArray] W (Owned (tBothB la lb lc).nums W)) := fun c W hc => by
              have h := all_cu 3 _ c W hc
              rw [Cur.allN_right (tBothB_right LA.out LB.out LC.out) (by decide)] at h
              exact h
            go_wp2
            refine wp_flow 10 (fun kF => match kF with | 0 => 2 | 2 => 4 | 4 => 7 | 6 => 7 | _ => 1000) (fun ww => RowKit.Below wv.heap.size wv ww) (fun i w w' => if i = 7 then (fun (w w' : World) => RowKit.Below wv.heap.size w w' ∧ True) w w' else if i = 4 then (fun (w w' : World) => RowKit.Below wv.heap.size w w' ∧ ∀ (j : Nat) (cs : Array Value) (fr : Nat × Nat), w.heap[j]? = some (Obj.cells cs 25 fr) → cs[0]? = some (Value.int .i64 3) → w'.heap[j]? = w.heap[j]?) w w' else (fun (w w' : World) => RowKit.Below w.heap.size w w') w w') (fun kF vF wF => match kF with | 0 => (∃ g, vF = .slice (some ⟨g, 0, none⟩) 0 0 ∧ OwL wv.heap.size 2 [] (.slice (some ⟨g, 0, none⟩) 0 0) wF ∧ wv.heap.size ≤ wF.heap.size) | 1 => (vF = .slice ao2 nb cp2) | 2 => (∃ ao cp, vF = .slice ao nb cp ∧ OwL wv.heap.size 2 (lb.map mkL) (.slice ao nb cp) wF ∧ Kind1 (.slice ao nb cp) wF ∧ wv.heap.size ≤ wF.heap.size) | 3 => (vF = .slice ao1 na cp1) | 4 => (∃ ao cp, vF = .slice ao (nb + na) cp ∧ OwL wv.heap.size 2 (lb.map mkL ++ la.map mkL) (.slice ao (nb + na) cp) wF ∧ wv.heap.size ≤ wF.heap.size) | 5 => (vF = .agg #[.int .i64 3, .slice lof lnf lcf, .int .i64 0, .slice kof knf kcf]) | 6 => (∃ g, vF = .slice (some ⟨g, 0, none⟩) 1 1 ∧ wF.heap[g]? = some (.cells #[.int .i64 3, .slice lof lnf lcf, .int .i64 0, .slice kof knf kcf] 25)) | 7 => (∃ ao nn cp, vF = .slice ao nn cp ∧ RowsAt 4 (curR 2) wF wF.heap.size (.slice ao nn cp) (lb.map mkL ++ la.map mkL ++ [cAny lc])) | 8 => (∃ lox lnx lcx kox knx kcx, vF = .agg #[.int .i64 2, .slice lox lnx lcx, .int .i64 0, .slice kox knx kcx] ∧ curR 3 wF wF.heap.size [.int .i64 2, .slice lox lnx lcx, .int .i64 0, .slice kox knx kcx] (tBothB la lb lc)) | 9 => (At wF wF.heap.size vF (tBothB la lb lc).nums) | _ => True) (fun _ _ _ _ => True) (by kernel_rfl) (by kernel_rfl) ?_ ?_ ?_ ?_ ?_
            · exact (Below.refl _ _).drew
            · intro iF wF1 wF2 hR hT
              have hT : (fun i w w' => if i = 7 then (fun (w w' : World) => RowKit.Below wv.heap.size w w' ∧ True) w w' else if i = 4 then (fun (w w' : World) => RowKit.Below wv.heap.size w w' ∧ ∀ (j : Nat) (cs : Array Value) (fr : Nat × Nat), w.heap[j]? = some (Obj.cells cs 25 fr) → cs[0]? = some (Value.int .i64 3) → w'.heap[j]? = w.heap[j]?) w w' else (fun (w w' : World) => RowKit.Below w.heap.size w w') w w') iF wF1 wF2 := hT
              simp only at hT
              by_cases hi7 : iF = 7
              · rw [if_pos hi7] at hT; exact hR.trans hT.1
              rw [if_neg hi7] at hT
              by_cases hi4 : iF = 4
              · rw [if_pos hi4] at hT; exact hR.trans hT.1
              rw [if_neg hi4] at hT
              exact hR.trans (hT.mono hR.size)
            · intro kF hkF iF hiF hne hdd hanc hdan vF wF1 wF2 h hT
              rcases (by omega : kF = 0 ∨ kF = 1 ∨ kF = 2 ∨ kF = 3 ∨ kF = 4 ∨ kF = 5 ∨ kF = 6 ∨ kF = 7 ∨ kF = 8 ∨ kF = 9) with rfl | rfl | rfl | rfl | rfl | rfl | rfl | rfl | rfl | rfl
              · have h : (∃ g, vF = .slice (some ⟨g, 0, none⟩) 0 0 ∧ OwL wv.heap.size 2 [] (.slice (some ⟨g, 0, none⟩) 0 0) wF1 ∧ wv.heap.size ≤ wF1.heap.size) := h
                show (∃ g, vF = .slice (some ⟨g, 0, none⟩) 0 0 ∧ OwL wv.heap.size 2 [] (.slice (some ⟨g, 0, none⟩) 0 0) wF2 ∧ wv.heap.size ≤ wF2.heap.size)
                have hT : (fun i w w' => if i = 7 then (fun (w w' : World) => RowKit.Below wv.heap.size w w' ∧ True) w w' else if i = 4 then (fun (w w' : World) => RowKit.Below wv.heap.size w w' ∧ ∀ (j : Nat) (cs : Array Value) (fr : Nat × Nat), w.heap[j]? = some (Obj.cells cs 25 fr) → cs[0]? = some (Value.int .i64 3) → w'.heap[j]? = w.heap[j]?) w w' else (fun (w w' : World) => RowKit.Below w.heap.size w w') w w') iF wF1 wF2 := hT
                simp only at hT
                by_cases hi7 : iF = 7
                · subst hi7; exact (anc_no hdan (by kernel_rfl)).elim
                rw [if_neg hi7] at hT
                by_cases hi4 : iF = 4
                · subst hi4; exact (anc_no hdan (by kernel_rfl)).elim
                rw [if_neg hi4] at hT
                obtain ⟨g, e, hz, hs⟩ := h
                exact ⟨g, e, hz.next hs hT, Nat.le_trans hs hT.size⟩
              · exact h
              · have h : (∃ ao cp, vF = .slice ao nb cp ∧ OwL wv.heap.size 2 (lb.map mkL) (.slice ao nb cp) wF1 ∧ Kind1 (.slice ao nb cp) wF1 ∧ wv.heap.size ≤ wF1.heap.size) := h
                show (∃ ao cp, vF = .slice ao nb cp ∧ OwL wv.heap.size 2 (lb.map mkL) (.slice ao nb cp) wF2 ∧ Kind1 (.slice ao nb cp) wF2 ∧ wv.heap.size ≤ wF2.heap.size)
                have hT : (fun i w w' => if i = 7 then (fun (w w' : World) => RowKit.Below wv.heap.size w w' ∧ True) w w' else if i = 4 then (fun (w w' : World) => RowKit.Below wv.heap.size w w' ∧ ∀ (j : Nat) (cs : Array Value) (fr : Nat × Nat), w.heap[j]? = some (Obj.cells cs 25 fr) → cs[0]? = some (Value.int .i64 3) → w'.heap[j]? = w.heap[j]?) w w' else (fun (w w' : World) => RowKit.Below w.heap.size w w') w w') iF wF1 wF2 := hT
                simp only at hT
                by_cases hi7 : iF = 7
                · subst hi7; exact (anc_no hdan (by kernel_rfl)).elim
                rw [if_neg hi7] at hT
                by_cases hi4 : iF = 4
                · exact absurd hi4.symm hdd
                rw [if_neg hi4] at hT
                obtain ⟨a, b, e, hz, hk, hs⟩ := h
                exact ⟨a, b, e, hz.next hs hT, kind1_next hk hz hT, Nat.le_trans hs hT.size⟩
              · exact h
              · have h : (∃ ao cp, vF = .slice ao (nb + na) cp ∧ OwL wv.heap.size 2 (lb.map mkL ++ la.map mkL) (.slice ao (nb + na) cp) wF1 ∧ wv.heap.size ≤ wF1.heap.size) := h
                show (∃ ao cp, vF = .slice ao (nb + na) cp ∧ OwL wv.heap.size 2 (lb.map mkL ++ la.map mkL) (.slice ao (nb + na) cp) wF2 ∧ wv.heap.size ≤ wF2.heap.size)
                have hT : (fun i w w' => if i = 7 then (fun (w w' : World) => RowKit.Below wv.heap.size w w' ∧ True) w w' else if i = 4 then (fun (w w' : World) => RowKit.Below wv.heap.size w w' ∧ ∀ (j : Nat) (cs : Array Value) (fr : Nat × Nat), w.heap[j]? = some (Obj.cells cs 25 fr) → cs[0]? = some (Value.int .i64 3) → w'.heap[j]? = w.heap[j]?) w w' else (fun (w w' : World) => RowKit.Below w.heap.size w w') w w') iF wF1 wF2 := hT
                simp only at hT
                by_cases hi7 : iF = 7
                · exact absurd hi7.symm hdd
                rw [if_neg hi7] at hT
                by_cases hi4 : iF = 4
                · exact absurd hi4.symm hne
                rw [if_neg hi4] at hT
                obtain ⟨a, b, e, hz, hs⟩ := h
                exact ⟨a, b, e, hz.next hs hT, Nat.le_trans hs hT.size⟩
              · exact h
              · have h : (∃ g, vF = .slice (some ⟨g, 0, none⟩) 1 1 ∧ wF1.heap[g]? = some (.cells #[.int .i64 3, .slice lof lnf lcf, .int .i64 0, .slice kof knf kcf] 25)) := h
                show (∃ g, vF = .slice (some ⟨g, 0, none⟩) 1 1 ∧ wF2.heap[g]? = some (.cells #[.int .i64 3, .slice lof lnf lcf, .int .i64 0, .slice kof knf kcf] 25))
                have hT : (fun i w w' => if i = 7 then (fun (w w' : World) => RowKit.Below wv.heap.size w w' ∧ True) w w' else if i = 4 then (fun (w w' : World) => RowKit.Below wv.heap.size w w' ∧ ∀ (j : Nat) (cs : Array Value) (fr : Nat × Nat), w.heap[j]? = some (Obj.cells cs 25 fr) → cs[0]? = some (Value.int .i64 3) → w'.heap[j]? = w.heap[j]?) w w' else (fun (w w' : World) => RowKit.Below w.heap.size w w') w w') iF wF1 wF2 := hT
                simp only at hT
                by_cases hi7 : iF = 7
                · exact absurd hi7.symm hdd
                rw [if_neg hi7] at hT
                by_cases hi4 : iF = 4
                · rw [if_pos hi4] at hT
                  obtain ⟨g, e, hg⟩ := h
                  exact ⟨g, e, (hT.2 _ _ _ hg rfl).trans hg⟩
                rw [if_neg hi4] at hT
                obtain ⟨g, e, hg⟩ := h
                exact ⟨g, e, (hT.block _ (lt_of_block hg)).trans hg⟩
              · have h : (∃ ao nn cp, vF = .slice ao nn cp ∧ RowsAt 4 (curR 2) wF1 wF1.heap.size (.slice ao nn cp) (lb.map mkL ++ la.map mkL ++ [cAny lc])) := h
                show (∃ ao nn cp, vF = .slice ao nn cp ∧ RowsAt 4 (curR 2) wF2 wF2.heap.size (.slice ao nn cp) (lb.map mkL ++ la.map mkL ++ [cAny lc]))
                have hT : (fun i w w' => if i = 7 then (fun (w w' : World) => RowKit.Below wv.heap.size w w' ∧ True) w w' else if i = 4 then (fun (w w' : World) => RowKit.Below wv.heap.size w w' ∧ ∀ (j : Nat) (cs : Array Value) (fr : Nat × Nat), w.heap[j]? = some (Obj.cells cs 25 fr) → cs[0]? = some (Value.int .i64 3) → w'.heap[j]? = w.heap[j]?) w w' else (fun (w w' : World) => RowKit.Below w.heap.size w w') w w') iF wF1 wF2 := hT
                simp only at hT
                by_cases hi7 : iF = 7
                · exact absurd hi7.symm hne
                rw [if_neg hi7] at hT
                by_cases hi4 : iF = 4
                · subst hi4; exact (anc_no hanc (by kernel_rfl)).elim
                rw [if_neg hi4] at hT
                obtain ⟨a, b, c, e, hr⟩ := h
                exact ⟨a, b, c, e, RowsAt.next (curR_steady 2) hr hT⟩
              · have h : (∃ lox lnx lcx kox knx kcx, vF = .agg #[.int .i64 2, .slice lox lnx lcx, .int .i64 0, .slice kox knx kcx] ∧ curR 3 wF1 wF1.heap.size [.int .i64 2, .slice lox lnx lcx, .int .i64 0, .slice kox knx kcx] (tBothB la lb lc)) := h
                show (∃ lox lnx lcx kox knx kcx, vF = .agg #[.int .i64 2, .slice lox lnx lcx, .int .i64 0, .slice kox knx kcx] ∧ curR 3 wF2 wF2.heap.size [.int .i64 2, .slice lox lnx lcx, .int .i64 0, .slice kox knx kcx] (tBothB la lb lc))
                have hT : (fun i w w' => if i = 7 then (fun (w w' : World) => RowKit.Below wv.heap.size w w' ∧ True) w w' else if i = 4 then (fun (w w' : World) => RowKit.Below wv.heap.size w w' ∧ ∀ (j : Nat) (cs : Array Value) (fr : Nat × Nat), w.heap[j]? = some (Obj.cells cs 25 fr) → cs[0]? = some (Value.int .i64 3) → w'.heap[j]? = w.heap[j]?) w w' else (fun (w w' : World) => RowKit.Below w.heap.size w w') w w') iF wF1 wF2 := hT
                simp only at hT
                by_cases hi7 : iF = 7
                · subst hi7; exact (anc_no hanc (by kernel_rfl)).elim
                rw [if_neg hi7] at hT
                by_cases hi4 : iF = 4
                · subst hi4; exact (anc_no hanc (by kernel_rfl)).elim
                rw [if_neg hi4] at hT
                obtain ⟨a, b, c, d, f, g, e, hr⟩ := h
                exact ⟨a, b, c, d, f, g, e, curR_st hr hT⟩
              · have h : (At wF1 wF1.heap.size vF (tBothB la lb lc).nums) := h
                show (At wF2 wF2.heap.size vF (tBothB la lb lc).nums)
                have hT : (fun i w w' => if i = 7 then (fun (w w' : World) => RowKit.Below wv.heap.size w w' ∧ True) w w' else if i = 4 then (fun (w w' : World) => RowKit.Below wv.heap.size w w' ∧ ∀ (j : Nat) (cs : Array Value) (fr : Nat × Nat), w.heap[j]? = some (Obj.cells cs 25 fr) → cs[0]? = some (Value.int .i64 3) → w'.heap[j]? = w.heap[j]?) w w' else (fun (w w' : World) => RowKit.Below w.heap.size w w') w w') iF wF1 wF2 := hT
                simp only at hT
                by_cases hi7 : iF = 7
                · subst hi7; exact (anc_no hanc (by kernel_rfl)).elim
                rw [if_neg hi7] at hT
                by_cases hi4 : iF = 4
                · subst hi4; exact (anc_no hanc (by kernel_rfl)).elim
                rw [if_neg hi4] at hT
                exact (h.below hT).mono hT.size
            · generalize hAF : fillOf _ _ _ = AF
              replace hAF := fun x => congrFun hAF x
              simp only [List.take_succ_cons, List.take_zero, fillOf, Act.put, List.setIfInBounds_toArray, List.set_cons_zero, List.set_cons_succ, Nat.reduceAdd, Nat.zero_add] at hAF
              refine FlowAll.cons ?_ ?_
              · intro xF wx hR hd K hK
                clear hd
                simp only [← hAF, Act.put, List.setIfInBounds_toArray, List.set_cons_zero, List.set_cons_succ] at hK ⊢
                clear hAF
                try simp only [Nat.zero_add] at hK ⊢
                try simp only [Nat.reduceAdd] at hK ⊢
                obtain hbR := id hR
                rw [if_pos (by rfl)]
                go_simp
                exact hK.out _ _ (below1) (⟨_, rfl, OwL.nil hR.size, Nat.le_trans hR.size below1.size⟩) (fun _ _ _ => ⟨trivial, trivial⟩)
              refine FlowAll.cons ?_ ?_
              · intro xF wx hR hd K hK
                clear hd
                simp only [← hAF, Act.put, List.setIfInBounds_toArray, List.set_cons_zero, List.set_cons_succ] at hK ⊢
                clear hAF
                try simp only [Nat.zero_add] at hK ⊢
                try simp only [Nat.reduceAdd] at hK ⊢
                obtain hbR := id hR
                rw [if_pos (by rfl)]
                go_simp
                exact hK.out _ _ (Below.refl _ _) (rfl) (fun _ _ _ => ⟨trivial, trivial⟩)
              refine FlowAll.cons ?_ ?_
              · intro xF wx hR hd K hK
                have dd0 : (∃ g, (xF 0) = .slice (some ⟨g, 0, none⟩) 0 0 ∧ OwL wv.heap.size 2 [] (.slice (some ⟨g, 0, none⟩) 0 0) wx ∧ wv.heap.size ≤ wx.heap.size) := hd 0 (by kernel_rfl)
                have dd1 : ((xF 1) = .slice ao2 nb cp2) := hd 1 (by kernel_rfl)
                clear hd
                simp only [← hAF, Act.put, List.setIfInBounds_toArray, List.set_cons_zero, List.set_cons_succ] at hK ⊢
                clear hAF
                try simp only [Nat.zero_add] at hK ⊢
                try simp only [Nat.reduceAdd] at hK ⊢
                try generalize xF 0 = yy0 at *
                try generalize xF 1 = yy1 at *
                obtain ⟨g0, rfl, hz0, _⟩ := dd0
                obtain rfl := dd1
                obtain hbR := id hR
                rw [if_pos (by rfl)]
                refine kit.wp_of_list (fun Q' hQ' => ?_)
                refine appLZ (.tmp 73) (.tmp 74) wv.heap.size 2 rfl rfl hz0 rfl (SrcL.of (ZY.out _ hbR)) rfl (by rw [LY.out]; have := HLL.out; omega) hR.size mk_kind ?_
                intro aN cN wN hoN hbN hkN
                rw [LY.out] at hoN hkN ⊢
                refine hQ' _ _ ?_
                simp only [Act.put, List.setIfInBounds_toArray, List.set_cons_zero, List.set_cons_succ]
                exact hK.out _ _ (hbN) (⟨aN, cN, rfl, hoN, hkN, Nat.le_trans hR.size hbN.size⟩) (fun _ _ _ => ⟨trivial, trivial⟩)
              refine FlowAll.cons ?_ ?_
              · intro xF wx hR hd K hK
                clear hd
                simp only [← hAF, Act.put, List.setIfInBounds_toArray, List.set_cons_zero, List.set_cons_succ] at hK ⊢
                clear hAF
                try simp only [Nat.zero_add] at hK ⊢
                try simp only [Nat.reduceAdd] at hK ⊢
                obtain hbR := id hR
                rw [if_pos (by rfl)]
                go_simp
                exact hK.out _ _ (Below.refl _ _) (rfl) (fun _ _ _ => ⟨trivial, trivial⟩)
              refine FlowAll.cons ?_ ?_
              · intro xF wx hR hd K hK
                have dd2 : (∃ ao cp, (xF 2) = .slice ao nb cp ∧ OwL wv.heap.size 2 (lb.map mkL) (.slice ao nb cp) wx ∧ Kind1 (.slice ao nb cp) wx ∧ wv.heap.size ≤ wx.heap.size) := hd 2 (by kernel_rfl)
                have dd3 : ((xF 3) = .slice ao1 na cp1) := hd 3 (by kernel_rfl)
                clear hd
                simp only [← hAF, Act.put, List.setIfInBounds_toArray, List.set_cons_zero, List.set_cons_succ] at hK ⊢
                clear hAF
                try simp only [Nat.zero_add] at hK ⊢
                try simp only [Nat.reduceAdd] at hK ⊢
                try generalize xF 2 = yy2 at *
                try generalize xF 3 = yy3 at *
                obtain ⟨aoz, cpz, rfl, hz2, hk2, hs2⟩ := dd2
                obtain rfl := dd3
                obtain hbR := id hR
                rw [if_pos (by rfl)]
                refine kit.wp_of_list (fun Q' hQ' => ?_)
                have hz3 := hz2
                rw [← LY.out] at hz3
                refine appL (.tmp 75) (.tmp 76) wv.heap.size 2 rfl rfl hz3 (by simp only [LY.out]; rfl) (SrcL.of (ZX.out _ hbR)) rfl (by rw [LX.out, LY.out]; have := HLL.out; omega) hR.size ?_
                intro aN cN wN hoN hbN hgN
                have hkN : ∀ (j : Nat) (cs : Array Value) (fr : Nat × Nat), wx.heap[j]? = some (Obj.cells cs 25 fr) → cs[0]? = some (Value.int .i64 3) → wN.heap[j]? = wx.heap[j]? := by
                  intro j cs fr hj h0
                  exact hgN.block j (lt_of_block hj) (fun e => hk2 j cs fr (by rw [LY.out] at e; exact e.symm) hj h0)
                refine hQ' _ _ ?_
                simp only [Act.put, List.setIfInBounds_toArray, List.set_cons_zero, List.set_cons_succ]
                rw [List.length_append, LX.out, LY.out] at hoN ⊢
                exact hK.out _ _ (⟨hbN, hkN⟩) (⟨aN, cN, rfl, hoN, Nat.le_trans hR.size hbN.size⟩) (fun _ _ _ => ⟨trivial, trivial⟩)
              refine FlowAll.cons ?_ ?_
              · intro xF wx hR hd K hK
                clear hd
                simp only [← hAF, Act.put, List.setIfInBounds_toArray, List.set_cons_zero, List.set_cons_succ] at hK ⊢
                clear hAF
                try simp only [Nat.zero_add] at hK ⊢
                try simp only [Nat.reduceAdd] at hK ⊢
                obtain hbR := id hR
                have hxa := (hbR.block _ (lt_of_block X1.out)).trans X1.out
                have yb0 := boxc hxa 0 _ rfl
                have yb1 := boxc hxa 1 _ rfl
                have yb2 := boxc hxa 2 _ rfl
                have yb3 := boxc hxa 3 _ rfl
                clear hxa
                rw [if_pos (by rfl)]
                go_simp
                exact hK.out _ _ (Below.refl _ _) (rfl) (fun _ _ _ => ⟨trivial, trivial⟩)
              refine FlowAll.cons ?_ ?_
              · intro xF wx hR hd K hK
                have dd5 : ((xF 5) = .agg #[.int .i64 3, .slice lof lnf lcf, .int .i64 0, .slice kof knf kcf]) := hd 5 (by kernel_rfl)
                clear hd
                simp only [← hAF, Act.put, List.setIfInBounds_toArray, List.set_cons_zero, List.set_cons_succ] at hK ⊢
                clear hAF
                try simp only [Nat.zero_add] at hK ⊢
                try simp only [Nat.reduceAdd] at hK ⊢
                try generalize xF 5 = yy5 at *
                obtain rfl := dd5
                obtain hbR := id hR
                rw [if_pos (by rfl)]
                go_simp
                exact hK.out _ _ (below1) (⟨_, rfl, heap_alloc_new _ _⟩) (fun _ _ _ => ⟨trivial, trivial⟩)
              refine FlowAll.cons ?_ ?_
              · intro xF wx hR hd K hK
                have dd4 : (∃ ao cp, (xF 4) = .slice ao (nb + na) cp ∧ OwL wv.heap.size 2 (lb.map mkL ++ la.map mkL) (.slice ao (nb + na) cp) wx ∧ wv.heap.size ≤ wx.heap.size) := hd 4 (by kernel_rfl)
                have dd6 : (∃ g, (xF 6) = .slice (some ⟨g, 0, none⟩) 1 1 ∧ wx.heap[g]? = some (.cells #[.int .i64 3, .slice lof lnf lcf, .int .i64 0, .slice kof knf kcf] 25)) := hd 6 (by kernel_rfl)
                clear hd
                simp only [← hAF, Act.put, List.setIfInBounds_toArray, List.set_cons_zero, List.set_cons_succ] at hK ⊢
                clear hAF
                try simp only [Nat.zero_add] at hK ⊢
                try simp only [Nat.reduceAdd] at hK ⊢
                try generalize xF 4 = yy4 at *
                try generalize xF 6 = yy6 at *
                obtain ⟨ao4, cp4, rfl, hz4, hs4⟩ := dd4
                obtain ⟨g6, rfl, hg6⟩ := dd6
                obtain hbR := id hR
                rw [if_pos (by rfl)]
                refine kit.wp_of_list (fun Q' hQ' => ?_)
                have hn4 : (lb.map mkL ++ la.map mkL).length = nb + na := by rw [List.length_append, LX.out, LY.out]
                have hz5 := hz4
                rw [← hn4] at hz5
                refine appL (.tmp 77) (.tmp 79) wv.heap.size 2 rfl rfl hz5 (by simp only [hn4]; rfl) (SrcL.box (c := [.int .i64 3, .slice lof lnf lcf, .int .i64 0, .slice kof knf kcf]) hg6 (ZF.out _ hbR)) rfl (by rw [hn4, List.length_singleton]; have := HLL.out; omega) hR.size ?_
                intro aN cN wN hoN hbN hgN
                refine hQ' _ _ ?_
                simp only [Act.put, List.setIfInBounds_toArray, List.set_cons_zero, List.set_cons_succ]
                have hrN := hoN.rows (Nat.le_trans hR.size hbN.size)
                exact hK.out _ _ (⟨hbN, trivial⟩) (⟨aN, _, cN, rfl, hrN⟩) (fun _ _ _ => ⟨trivial, trivial⟩)
              refine FlowAll.cons ?_ ?_
              · intro xF wx hR hd K hK
                have dd7 : (∃ ao nn cp, (xF 7) = .slice ao nn cp ∧ RowsAt 4 (curR 2) wx wx.heap.size (.slice ao nn cp) (lb.map mkL ++ la.map mkL ++ [cAny lc])) := hd 7 (by kernel_rfl)
                clear hd
                simp only [← hAF, Act.put, List.setIfInBounds_toArray, List.set_cons_zero, List.set_cons_succ] at hK ⊢
                clear hAF
                try simp only [Nat.zero_add] at hK ⊢
                try simp only [Nat.reduceAdd] at hK ⊢
                try generalize xF 7 = yy7 at *
                obtain ⟨ao7, nn7, cp7, rfl, hr7⟩ := dd7
                obtain hbR := id hR
                rw [if_pos (by rfl)]
                go_simp
                (go_at_call 22; (with_reducible refine (KB3.out _ _ hr7).mono ?_); rintro e wK ⟨cK, rfl, hfK, hbK⟩; obtain ⟨loy, lny, lcy, koy, kny, kcy, rfl⟩ := cur_mk hfK.at)
                try go_wp2_with fail
                exact hK.out _ _ (hbK) (⟨_, _, _, _, _, _, rfl, hfK.at⟩) (fun _ _ _ => ⟨trivial, trivial⟩)
              refine FlowAll.cons ?_ ?_
              · intro xF wx hR hd K hK
                have dd8 : (∃ lox lnx lcx kox knx kcx, (xF 8) = .agg #[.int .i64 2, .slice lox lnx lcx, .int .i64 0, .slice kox knx kcx] ∧ curR 3 wx wx.heap.size [.int .i64 2, .slice lox lnx lcx, .int .i64 0, .slice kox knx kcx] (tBothB la lb lc)) := hd 8 (by kernel_rfl)
                clear hd
                simp only [← hAF, Act.put, List.setIfInBounds_toArray, List.set_cons_zero, List.set_cons_succ] at hK ⊢
                clear hAF
                try simp only [Nat.zero_add] at hK ⊢
                try simp only [Nat.reduceAdd] at hK ⊢
                try generalize xF 8 = yy8 at *
                obtain ⟨lo8, ln8, lc8, ko8, kn8, kc8, rfl, hm8⟩ := dd8
                obtain hbR := id hR
                rw [if_pos (by rfl)]
                go_simp
                (go_at_call 20; (with_reducible refine (AB3.out _ _ hm8).mono ?_); rintro e wK ⟨vK, rfl, hoK, hbK⟩)
                try go_wp2_with fail
                exact hK.out _ _ (hbK) (at_.own hoK) (fun _ _ _ => ⟨trivial, trivial⟩)
              exact FlowAll.nil
            intro xF wx hR hF hP
            clear hP
            have dd1 : ((xF 1) = .slice ao2 nb cp2) := hF 1 (by omega) (by decide)
            have dd3 : ((xF 3) = .slice ao1 na cp1) := hF 3 (by omega) (by decide)
            have dd5 : ((xF 5) = .agg #[.int .i64 3, .slice lof lnf lcf, .int .i64 0, .slice kof knf kcf]) := hF 5 (by omega) (by decide)
            have dd7 : (∃ ao nn cp, (xF 7) = .slice ao nn cp ∧ RowsAt 4 (curR 2) wx wx.heap.size (.slice ao nn cp) (lb.map mkL ++ la.map mkL ++ [cAny lc])) := hF 7 (by omega) (by decide)
            have dd8 : (∃ lox lnx lcx kox knx kcx, (xF 8) = .agg #[.int .i64 2, .slice lox lnx lcx, .int .i64 0, .slice kox knx kcx] ∧ curR 3 wx wx.heap.size [.int .i64 2, .slice lox lnx lcx, .int .i64 0, .slice kox knx kcx] (tBothB la lb lc)) := hF 8 (by omega) (by decide)
            have dd9 : (At wx wx.heap.size (xF 9) (tBothB la lb lc).nums) := hF 9 (by omega) (by decide)
            clear hF
            simp only [List.take_succ_cons, List.take_zero, List.drop_succ_cons, List.drop_zero, fillOf, Act.put, List.setIfInBounds_toArray, List.set_cons_zero, List.set_cons_succ, Nat.reduceAdd, Nat.zero_add]
            try generalize xF 0 = yy0 at *
            try generalize xF 1 = yy1 at *
            try generalize xF 2 = yy2 at *
            try generalize xF 3 = yy3 at *
            try generalize xF 4 = yy4 at *
            try generalize xF 5 = yy5 at *
            try generalize xF 6 = yy6 at *
            try generalize xF 7 = yy7 at *
            try generalize xF 8 = yy8 at *
            try generalize xF 9 = yy9 at *
            clear xF
            obtain rfl := dd1
            obtain rfl := dd3
            obtain rfl := dd5
            obtain ⟨ao7, nn7, cp7, rfl, hr7⟩ := dd7
            obtain ⟨lo8, ln8, lc8, ko8, kn8, kc8, rfl, hm8⟩ := dd8
            have hat9 := dd9
            have hRE := Lib.hid hR
            clear hR
            have P6 := Lib.hid hat9
            have hbx := hRE.out
            clear hat9 hm8 hr7 hRE ZF ZX ZY KB3 AB3
            replace D3 := Lib.hid (D3.out.trans (hbx.mono D3.out.size))
            replace RX := Lib.hid (RowsAt.next (curR_steady _) RX.out hbx)
            replace RY := Lib.hid (RowsAt.next (curR_steady _) RY.out hbx)
            replace P1 := Lib.hid ((P1.out.below hbx).mono hbx.size)
            replace P2 := Lib.hid ((P2.out.below hbx).mono hbx.size)
            replace MF := Lib.hid (curR_st MF.out hbx)
            replace X1 := Lib.hid ((hbx.block _ (lt_of_block X1.out)).trans X1.out)
            replace P3 := Lib.hid ((P3.out.below hbx).mono hbx.size)
            replace P4 := Lib.hid ((P4.out.below hbx).mono hbx.size)
            replace P5 := Lib.hid ((P5.out.below hbx).mono hbx.size)
            clear hbx
            as_aux_lemma =>
              have E1 := tAny_turn LA.out LB.out
              have E2 := tSub_turn (la := la) (lb := lb) LC.out
              have E3 := tBoth_turn LA.out LB.out LC.out
              rw [E1] at P1
              rw [E2] at P3
              rw [E3] at P5
              clear E1 E2 E3
              go_wp2_with fail
              (with_reducible refine (ints_same _ _ _ _ P1.out P2.out).mono ?_)
              rintro e wq ⟨rfl, hz1⟩
              replace D3 := Lib.hid (D3.out.trans (hz1.mono D3.out.size))
              replace RX := Lib.hid (RowsAt.next (curR_steady _) RX.out hz1)
              replace RY := Lib.hid (RowsAt.next (curR_steady _) RY.out hz1)
              replace P1 := Lib.hid ((P1.out.below hz1).mono hz1.size)
              replace P2 := Lib.hid ((P2.out.below hz1).mono hz1.size)
              replace MF := Lib.hid (curR_st MF.out hz1)
              replace X1 := Lib.hid ((hz1.block _ (lt_of_block X1.out)).trans X1.out)
              replace P3 := Lib.hid ((P3.out.below hz1).mono hz1.size)
              replace P4 := Lib.hid ((P4.out.below hz1).mono hz1.size)
              replace P5 := Lib.hid ((P5.out.below hz1).mono hz1.size)
              replace P6 := Lib.hid ((P6.out.below hz1).mono hz1.size)
              go_wp2_with fail
              (with_reducible refine (ints_same _ _ _ _ P3.out P4.out).mono ?_)
              rintro e wr ⟨rfl, hz2⟩
              replace D3 := Lib.hid (D3.out.trans (hz2.mono D3.out.size))
              replace RX := Lib.hid (RowsAt.next (curR_steady _) RX.out hz2)
              replace RY := Lib.hid (RowsAt.next (curR_steady _) RY.out hz2)
              replace P1 := Lib.hid ((P1.out.below hz2).mono hz2.size)
              replace P2 := Lib.hid ((P2.out.below hz2).mono hz2.size)
              replace MF := Lib.hid (curR_st MF.out hz2)
              replace X1 := Lib.hid ((hz2.block _ (lt_of_block X1.out)).trans X1.out)
              replace P3 := Lib.hid ((P3.out.below hz2).mono hz2.size)
              replace P4 := Lib.hid ((P4.out.below hz2).mono hz2.size)
              replace P5 := Lib.hid ((P5.out.below hz2).mono hz2.size)
              replace P6 := Lib.hid ((P6.out.below hz2).mono hz2.size)
              go_wp2_with fail
              (with_reducible refine (ints_same _ _ _ _ P5.out P6.out).mono ?_)
              rintro e ws ⟨rfl, hz3⟩
              replace D3 := Lib.hid (D3.out.trans (hz3.mono D3.out.size))
              replace RX := Lib.hid (RowsAt.next (curR_steady _) RX.out hz3)
              replace RY := Lib.hid (RowsAt.next (curR_steady _) RY.out hz3)
              replace P1 := Lib.hid ((P1.out.below hz3).mono hz3.size)
              replace P2 := Lib.hid ((P2.out.below hz3).mono hz3.size)
              replace MF := Lib.hid (curR_st MF.out hz3)
              replace X1 := Lib.hid ((hz3.block _ (lt_of_block X1.out)).trans X1.out)
              replace P3 := Lib.hid ((P3.out.below hz3).mono hz3.size)
              replace P4 := Lib.hid ((P4.out.below hz3).mono hz3.size)
              replace P5 := Lib.hid ((P5.out.below hz3).mono hz3.size)
              replace P6 := Lib.hid ((P6.out.below hz3).mono hz3.size)
              go_wp2_with fail
              (with_reducible refine (HAW.out _).mono ?_)
              rintro e wt2 ⟨rfl, hz4⟩
              go_wp2
              go_ret
              exact ⟨rfl, D3.out.trans (hz4.mono D3.out.size)⟩
end Go.Proofs.Ytojngbobecdpeaa
