/- the cursors' law CursorLists: cursors over lists have the numbers of the lists put together. -/
import Derived.Test.YtojngbobecdpeaaCurZero
import Derived.Test.YtojngbobecdpeaaTwoWp
import Derived.Test.YtojngbobecdpeaaFlow
namespace Go.Proofs.Ytojngbobecdpeaa
open Go Go.RowKit Go.ChangeShapes at_ pm cl
set_option maxHeartbeats 25600000 in
set_option maxRecDepth 100000 in
theorem lists_any (la lb lc : List (List Int)) (va vb vc : Value) (w : World) (ha : LRows w w.heap.size va la) (hb : LRows w w.heap.size vb lb) (hc : LRows w w.heap.size vc lc) :
    Calls Try.prog 5 #[va, vb, vc] w (Said true w) := by
  have HAW : Hid (∀ W, Calls Try.prog 9 #[] W (Said true W)) := awake_any
  have HRA : Hid (∀ W, Below w.heap.size w W → LRows W W.heap.size va la) := fun W hW => (ha.below hW).mono hW.size
  have HRB : Hid (∀ W, Below w.heap.size w W → LRows W W.heap.size vb lb) := fun W hW => (hb.below hW).mono hW.size
  have HRC : Hid (∀ W, Below w.heap.size w W → LRows W W.heap.size vc lc) := fun W hW => (hc.below hW).mono hW.size
  obtain ⟨na, hna⟩ : ∃ n, n = la.length := ⟨_, rfl⟩
  obtain ⟨nb, hnb⟩ : ∃ n, n = lb.length := ⟨_, rfl⟩
  obtain ⟨nc, hnc⟩ : ∃ n, n = lc.length := ⟨_, rfl⟩
  obtain ⟨aa, ac, rfl, _⟩ := ha
  obtain ⟨ba, bc, rfl, _⟩ := hb
  obtain ⟨ca, cc, rfl, _⟩ := hc
  rw [← hna] at HRA ⊢
  rw [← hnb] at HRB ⊢
  rw [← hnc] at HRC ⊢
  have HNA := Lib.hid hna
  have HNB := Lib.hid hnb
  have HNC := Lib.hid hnc
  have HTA : Hid (∀ W, Below w.heap.size w W → Calls Try.prog 27 #[.slice aa na ac] W (Said (rows7 la) W)) := fun W hW => lright_any la _ W (HRA.out W hW)
  have HTB : Hid (∀ W, Below w.heap.size w W → Calls Try.prog 27 #[.slice ba nb bc] W (Said (rows7 lb) W)) := fun W hW => lright_any lb _ W (HRB.out W hW)
  have HTC : Hid (∀ W, Below w.heap.size w W → Calls Try.prog 27 #[.slice ca nc cc] W (Said (rows7 lc) W)) := fun W hW => lright_any lc _ W (HRC.out W hW)
  obtain ⟨ra, hra⟩ : ∃ r, r = rows7 la := ⟨_, rfl⟩
  obtain ⟨rb, hrb⟩ : ∃ r, r = rows7 lb := ⟨_, rfl⟩
  obtain ⟨rc, hrc⟩ : ∃ r, r = rows7 lc := ⟨_, rfl⟩
  rw [← hra] at HTA
  rw [← hrb] at HTB
  rw [← hrc] at HTC
  have HSA := Lib.hid hra
  have HSB := Lib.hid hrb
  have HSC := Lib.hid hrc
  clear hna hnb hnc hra hrb hrc
  cases ra with
  | false =>
    go_enter Try.func5, Try.ntmps5
    go_wp2_with fail
    (with_reducible refine (HTA.out _ (Below.refl _ _)).mono ?_)
    rintro e w1 ⟨rfl, hb1⟩
    have D1 := Lib.hid (hb1)
    clear hb1
    go_wp2_with fail
    (with_reducible refine (HAW.out _).mono ?_)
    rintro e w9 ⟨rfl, hb9⟩
    go_wp2
    go_ret
    exact ⟨rfl, D1.out.trans (hb9.mono D1.out.size)⟩
  | true =>
    cases rb with
    | false =>
      go_enter Try.func5, Try.ntmps5
      go_wp2_with fail
      (with_reducible refine (HTA.out _ (Below.refl _ _)).mono ?_)
      rintro e w1 ⟨rfl, hb1⟩
      have D1 := Lib.hid (hb1)
      clear hb1
      go_wp2_with fail
      (with_reducible refine (HTB.out _ D1.out).mono ?_)
      rintro e w2 ⟨rfl, hb2⟩
      have D2 := Lib.hid (D1.out.trans (hb2.mono D1.out.size))
      clear hb2
      go_wp2_with fail
      (with_reducible refine (HAW.out _).mono ?_)
      rintro e w9 ⟨rfl, hb9⟩
      go_wp2
      go_ret
      exact ⟨rfl, D2.out.trans (hb9.mono D2.out.size)⟩
    | true =>
      cases rc with
      | false =>
        go_enter Try.func5, Try.ntmps5
        go_wp2_with fail
        (with_reducible refine (HTA.out _ (Below.refl _ _)).mono ?_)
        rintro e w1 ⟨rfl, hb1⟩
        have D1 := Lib.hid (hb1)
        clear hb1
        go_wp2_with fail
        (with_reducible refine (HTB.out _ D1.out).mono ?_)
        rintro e w2 ⟨rfl, hb2⟩
        have D2 := Lib.hid (D1.out.trans (hb2.mono D1.out.size))
        clear hb2
        go_wp2_with fail
        (with_reducible refine (HTC.out _ D2.out).mono ?_)
        rintro e w3 ⟨rfl, hb3⟩
        have D3 := Lib.hid (D2.out.trans (hb3.mono D2.out.size))
        clear hb3
        go_wp2_with fail
        (with_reducible refine (HAW.out _).mono ?_)
        rintro e w9 ⟨rfl, hb9⟩
        go_wp2
        go_ret
        exact ⟨rfl, D3.out.trans (hb9.mono D3.out.size)⟩
      | true =>
        have LA : Hid (Ls la) := Ls.of HSA.out.symm
        have LB : Hid (Ls lb) := Ls.of HSB.out.symm
        have LC : Hid (Ls lc) := Ls.of HSC.out.symm
        have KA : Hid (∀ W, Below w.heap.size w W → Calls Try.prog 28 #[.slice aa na ac] W (fun e w' => ∃ ao cap, e = .returned (.slice ao na cap) ∧ (na = 0 → ao = none) ∧ CsO W.heap.size 1 (la.map mkL) (.slice ao na cap) w' ∧ Below W.heap.size W w')) := fun W hW => by
          rw [HNA.out]; have h := cursors_any la _ W (HRA.out W hW) (fun l hl => by have := (LA.out.el l hl).1; omega) (by have := LA.out.len; omega); rw [HNA.out] at h; exact h
        have KB : Hid (∀ W, Below w.heap.size w W → Calls Try.prog 28 #[.slice ba nb bc] W (fun e w' => ∃ ao cap, e = .returned (.slice ao nb cap) ∧ (nb = 0 → ao = none) ∧ CsO W.heap.size 1 (lb.map mkL) (.slice ao nb cap) w' ∧ Below W.heap.size W w')) := fun W hW => by
          rw [HNB.out]; have h := cursors_any lb _ W (HRB.out W hW) (fun l hl => by have := (LB.out.el l hl).1; omega) (by have := LB.out.len; omega); rw [HNB.out] at h; exact h
        have KC : Hid (∀ W, Below w.heap.size w W → Calls Try.prog 28 #[.slice ca nc cc] W (fun e w' => ∃ ao cap, e = .returned (.slice ao nc cap) ∧ (nc = 0 → ao = none) ∧ CsO W.heap.size 1 (lc.map mkL) (.slice ao nc cap) w' ∧ Below W.heap.size W w')) := fun W hW => by
          rw [HNC.out]; have h := cursors_any lc _ W (HRC.out W hW) (fun l hl => by have := (LC.out.el l hl).1; omega) (by have := LC.out.len; omega); rw [HNC.out] at h; exact h
        go_enter Try.func5, Try.ntmps5
        go_wp2_with fail
        (with_reducible refine (HTA.out _ (Below.refl _ _)).mono ?_)
        rintro e w1 ⟨rfl, hb1⟩
        have D1 := Lib.hid (hb1)
        clear hb1
        go_wp2_with fail
        (with_reducible refine (HTB.out _ D1.out).mono ?_)
        rintro e w2 ⟨rfl, hb2⟩
        have D2 := Lib.hid (D1.out.trans (hb2.mono D1.out.size))
        clear hb2
        go_wp2_with fail
        (with_reducible refine (HTC.out _ D2.out).mono ?_)
        rintro e w3 ⟨rfl, hb3⟩
        have D3 := Lib.hid (D2.out.trans (hb3.mono D2.out.size))
        clear hb3
        clear HTA HTB HTC
        go_wp2_with fail
        (with_reducible refine (KA.out _ D3.out).mono ?_)
        rintro e w4 ⟨ao1, cp1, rfl, _, hc1, hb4⟩
        replace D3 := Lib.hid (D3.out.trans (hb4.mono D3.out.size))
        have R1 := Lib.hid hc1.rows
        clear hc1 hb4
        go_wp2_with fail
        (with_reducible refine (cboth_any 1 (la.map mkL) _ _ R1.out LA.out.sm (by have := LA.out.mlen; omega)).mono ?_)
        rintro e w5 ⟨cs1, rfl, hf1, hb5⟩
        replace D3 := Lib.hid (D3.out.trans (hb5.mono D3.out.size))
        replace R1 := Lib.hid (RowsAt.next (curR_steady _) R1.out hb5)
        rw [cBoth_fwd LA.out] at hf1
        have M1 : Hid (curR 2 w5 w5.heap.size cs1 (cBoth la)) := hf1.at
        obtain ⟨lo1, ln1, lc1, ko1, kn1, kc1, rfl⟩ := cur_mk hf1.at
        clear hf1 hb5 R1
        obtain ⟨V1, hV1⟩ : ∃ W, W = w5.alloc (.cells #[.int .i64 2, .slice lo1 ln1 lc1, .int .i64 0, .slice ko1 kn1 kc1] 25) := ⟨_, rfl⟩
        have al1 : Below w5.heap.size w5 V1 := by rw [hV1]; exact below1
        obtain ⟨q1, hq1⟩ : ∃ q, q = w5.heap.size := ⟨_, rfl⟩
        have X1 : Hid (V1.heap[q1]? = some (.cells #[.int .i64 2, .slice lo1 ln1 lc1, .int .i64 0, .slice ko1 kn1 kc1] 25)) := by show _ = _; rw [hV1, hq1]; exact heap_alloc_new _ _
        replace D3 := Lib.hid (D3.out.trans (al1.mono D3.out.size))
        replace M1 := Lib.hid (curR_st M1.out al1)
        have HV1 := Lib.hid hV1
        have HQ1 := Lib.hid hq1
        clear al1 hV1 hq1
        go_wp2_with fail
        rw [← HV1.out, ← HQ1.out]
        (with_reducible refine (KB.out _ D3.out).mono ?_)
        rintro e w6 ⟨ao2, cp2, rfl, _, hc2, hb6⟩
        replace D3 := Lib.hid (D3.out.trans (hb6.mono D3.out.size))
        replace M1 := Lib.hid (curR_st M1.out hb6)
        replace X1 := Lib.hid ((hb6.block _ (lt_of_block X1.out)).trans X1.out)
        have R2 := Lib.hid hc2.rows
        clear hc2 hb6
        go_wp2_with fail
        (with_reducible refine (cany_any 1 (lb.map mkL) _ _ R2.out LB.out.sm (by have := LB.out.mlen; omega)).mono ?_)
        rintro e w7 ⟨cs2, rfl, hf2, hb7⟩
        replace D3 := Lib.hid (D3.out.trans (hb7.mono D3.out.size))
        replace M1 := Lib.hid (curR_st M1.out hb7)
        replace X1 := Lib.hid ((hb7.block _ (lt_of_block X1.out)).trans X1.out)
        replace R2 := Lib.hid (RowsAt.next (curR_steady _) R2.out hb7)
        rw [cAny_fwd LB.out] at hf2
        have M2 : Hid (curR 2 w7 w7.heap.size cs2 (cAny lb)) := hf2.at
        obtain ⟨lo2, ln2, lc2, ko2, kn2, kc2, rfl⟩ := cur_mk hf2.at
        clear hf2 hb7 R2
        obtain ⟨V2, hV2⟩ : ∃ W, W = w7.alloc (.cells #[.int .i64 3, .slice lo2 ln2 lc2, .int .i64 0, .slice ko2 kn2 kc2] 25) := ⟨_, rfl⟩
        have al2 : Below w7.heap.size w7 V2 := by rw [hV2]; exact below1
        obtain ⟨q2, hq2⟩ : ∃ q, q = w7.heap.size := ⟨_, rfl⟩
        have X2 : Hid (V2.heap[q2]? = some (.cells #[.int .i64 3, .slice lo2 ln2 lc2, .int .i64 0, .slice ko2 kn2 kc2] 25)) := by show _ = _; rw [hV2, hq2]; exact heap_alloc_new _ _
        replace D3 := Lib.hid (D3.out.trans (al2.mono D3.out.size))
        replace M1 := Lib.hid (curR_st M1.out al2)
        replace X1 := Lib.hid ((al2.block _ (lt_of_block X1.out)).trans X1.out)
        replace M2 := Lib.hid (curR_st M2.out al2)
        have HV2 := Lib.hid hV2
        have HQ2 := Lib.hid hq2
        clear al2 hV2 hq2
        have Z1 : Hid (∀ W, Below V2.heap.size V2 W → curR 2 W V2.heap.size [.int .i64 2, .slice lo1 ln1 lc1, .int .i64 0, .slice ko1 kn1 kc1] (cBoth la)) := fun W hW => curR_steady 2 _ _ _ _ _ _ M1.out hW (Nat.le_refl _)
        have Z2 : Hid (∀ W, Below V2.heap.size V2 W → curR 2 W W.heap.size [.int .i64 3, .slice lo2 ln2 lc2, .int .i64 0, .slice ko2 kn2 kc2] (cAny lb)) := fun W hW => curR_st M2.out hW
        have HSM : Hid (∀ c ∈ lc.map mkL ++ [cBoth la], c.sm) := fun c hc => (List.mem_append.1 hc).elim (LC.out.sm c) (fun h => by rw [List.mem_singleton.1 h]; exact Cur.right_sm 2 _ (cBoth_right LA.out))
        have HSL : Hid ((lc.map mkL ++ [cBoth la]).length ≤ 9) := by show _ ≤ _; rw [List.length_append, List.length_singleton]; have := LC.out.mlen; omega
        have HLC : Hid ((lc.map mkL).length = nc) := by show _ = _; rw [List.length_map, HNC.out]
        go_wp2
        rw [← HV2.out, ← HQ2.out]
        refine wp_flow 8 (fun kF => match kF with | 2 => 5 | 4 => 5 | _ => 1000) (fun ww => RowKit.Below V2.heap.size V2 ww) (fun i w w' => if i = 5 then (fun (w w' : World) => RowKit.Below V2.heap.size w w' ∧ ∀ (j : Nat) (cs : Array Value) (fr : Nat × Nat), w.heap[j]? = some (Obj.cells cs 25 fr) → cs[0]? = some (Value.int .i64 0) → w'.heap[j]? = w.heap[j]?) w w' else (fun (w w' : World) => RowKit.Below w.heap.size w w') w w') (fun kF vF wF => match kF with | 0 => (vF = .agg #[.int .i64 3, .slice lo2 ln2 lc2, .int .i64 0, .slice ko2 kn2 kc2]) | 1 => (vF = .slice ca nc cc) | 2 => (∃ ao cp, vF = .slice ao nc cp ∧ (nc = 0 → ao = none) ∧ CsO V2.heap.size 1 (lc.map mkL) (.slice ao nc cp) wF) | 3 => (vF = .agg #[.int .i64 2, .slice lo1 ln1 lc1, .int .i64 0, .slice ko1 kn1 kc1]) | 4 => (∃ g, vF = .slice (some ⟨g, 0, none⟩) 1 1 ∧ wF.heap[g]? = some (.cells #[.int .i64 2, .slice lo1 ln1 lc1, .int .i64 0, .slice ko1 kn1 kc1] 25)) | 5 => (∃ ao nn cp, vF = .slice ao nn cp ∧ RowsAt 4 (curR 2) wF wF.heap.size (.slice ao nn cp) (lc.map mkL ++ [cBoth la])) | 6 => (∃ lox lnx lcx kox knx kcx, vF = .agg #[.int .i64 4, .slice lox lnx lcx, .int .i64 0, .slice kox knx kcx] ∧ curT 3 wF wF.heap.size [.int .i64 4, .slice lox lnx lcx, .int .i64 0, .slice kox knx kcx] (cSub la lb lc)) | 7 => (∃ g, vF = .pointer (some ⟨g, 0, none⟩) ∧ wF.heap[g]? = some (.cells #[.int .i64 0, .slice none 0 0, .int .i64 0, .slice none 0 0] 25) ∧ V2.heap.size ≤ g) | _ => True) (fun _ _ _ _ => True) (by kernel_rfl) (by kernel_rfl) ?_ ?_ ?_ ?_ ?_
        · exact (Below.refl _ _).drew
        · intro iF wF1 wF2 hR hT
          have hT : (fun i w w' => if i = 5 then (fun (w w' : World) => RowKit.Below V2.heap.size w w' ∧ ∀ (j : Nat) (cs : Array Value) (fr : Nat × Nat), w.heap[j]? = some (Obj.cells cs 25 fr) → cs[0]? = some (Value.int .i64 0) → w'.heap[j]? = w.heap[j]?) w w' else (fun (w w' : World) => RowKit.Below w.heap.size w w') w w') iF wF1 wF2 := hT
          simp only at hT
          by_cases hi5 : iF = 5
          · rw [if_pos hi5] at hT; exact hR.trans hT.1
          rw [if_neg hi5] at hT
          exact hR.trans (hT.mono hR.size)
        · intro kF hkF iF hiF hne hdd hanc hdan vF wF1 wF2 h hT
          rcases (by omega : kF = 0 ∨ kF = 1 ∨ kF = 2 ∨ kF = 3 ∨ kF = 4 ∨ kF = 5 ∨ kF = 6 ∨ kF = 7) with rfl | rfl | rfl | rfl | rfl | rfl | rfl | rfl
          · exact h
          · exact h
          · have h : (∃ ao cp, vF = .slice ao nc cp ∧ (nc = 0 → ao = none) ∧ CsO V2.heap.size 1 (lc.map mkL) (.slice ao nc cp) wF1) := h
            show (∃ ao cp, vF = .slice ao nc cp ∧ (nc = 0 → ao = none) ∧ CsO V2.heap.size 1 (lc.map mkL) (.slice ao nc cp) wF2)
            have hT : (fun i w w' => if i = 5 then (fun (w w' : World) => RowKit.Below V2.heap.size w w' ∧ ∀ (j : Nat) (cs : Array Value) (fr : Nat × Nat), w.heap[j]? = some (Obj.cells cs 25 fr) → cs[0]? = some (Value.int .i64 0) → w'.heap[j]? = w.heap[j]?) w w' else (fun (w w' : World) => RowKit.Below w.heap.size w w') w w') iF wF1 wF2 := hT
            simp only at hT
            by_cases hi5 : iF = 5
            · exact absurd hi5.symm hdd
            rw [if_neg hi5] at hT
            obtain ⟨a, b, e, hz, hf⟩ := h
            exact ⟨a, b, e, hz, hf.next hT⟩
          · exact h
          · have h : (∃ g, vF = .slice (some ⟨g, 0, none⟩) 1 1 ∧ wF1.heap[g]? = some (.cells #[.int .i64 2, .slice lo1 ln1 lc1, .int .i64 0, .slice ko1 kn1 kc1] 25)) := h
            show (∃ g, vF = .slice (some ⟨g, 0, none⟩) 1 1 ∧ wF2.heap[g]? = some (.cells #[.int .i64 2, .slice lo1 ln1 lc1, .int .i64 0, .slice ko1 kn1 kc1] 25))
            have hT : (fun i w w' => if i = 5 then (fun (w w' : World) => RowKit.Below V2.heap.size w w' ∧ ∀ (j : Nat) (cs : Array Value) (fr : Nat × Nat), w.heap[j]? = some (Obj.cells cs 25 fr) → cs[0]? = some (Value.int .i64 0) → w'.heap[j]? = w.heap[j]?) w w' else (fun (w w' : World) => RowKit.Below w.heap.size w w') w w') iF wF1 wF2 := hT
            simp only at hT
            by_cases hi5 : iF = 5
            · exact absurd hi5.symm hdd
            rw [if_neg hi5] at hT
            obtain ⟨g, e, hg⟩ := h
            exact ⟨g, e, (hT.block _ (lt_of_block hg)).trans hg⟩
          · have h : (∃ ao nn cp, vF = .slice ao nn cp ∧ RowsAt 4 (curR 2) wF1 wF1.heap.size (.slice ao nn cp) (lc.map mkL ++ [cBoth la])) := h
            show (∃ ao nn cp, vF = .slice ao nn cp ∧ RowsAt 4 (curR 2) wF2 wF2.heap.size (.slice ao nn cp) (lc.map mkL ++ [cBoth la]))
            have hT : (fun i w w' => if i = 5 then (fun (w w' : World) => RowKit.Below V2.heap.size w w' ∧ ∀ (j : Nat) (cs : Array Value) (fr : Nat × Nat), w.heap[j]? = some (Obj.cells cs 25 fr) → cs[0]? = some (Value.int .i64 0) → w'.heap[j]? = w.heap[j]?) w w' else (fun (w w' : World) => RowKit.Below w.heap.size w w') w w') iF wF1 wF2 := hT
            simp only at hT
            by_cases hi5 : iF = 5
            · exact absurd hi5.symm hne
            rw [if_neg hi5] at hT
            obtain ⟨a, b, c, e, hr⟩ := h
            exact ⟨a, b, c, e, RowsAt.next (curR_steady 2) hr hT⟩
          · have h : (∃ lox lnx lcx kox knx kcx, vF = .agg #[.int .i64 4, .slice lox lnx lcx, .int .i64 0, .slice kox knx kcx] ∧ curT 3 wF1 wF1.heap.size [.int .i64 4, .slice lox lnx lcx, .int .i64 0, .slice kox knx kcx] (cSub la lb lc)) := h
            show (∃ lox lnx lcx kox knx kcx, vF = .agg #[.int .i64 4, .slice lox lnx lcx, .int .i64 0, .slice kox knx kcx] ∧ curT 3 wF2 wF2.heap.size [.int .i64 4, .slice lox lnx lcx, .int .i64 0, .slice kox knx kcx] (cSub la lb lc))
            have hT : (fun i w w' => if i = 5 then (fun (w w' : World) => RowKit.Below V2.heap.size w w' ∧ ∀ (j : Nat) (cs : Array Value) (fr : Nat × Nat), w.heap[j]? = some (Obj.cells cs 25 fr) → cs[0]? = some (Value.int .i64 0) → w'.heap[j]? = w.heap[j]?) w w' else (fun (w w' : World) => RowKit.Below w.heap.size w w') w w') iF wF1 wF2 := hT
            simp only at hT
            by_cases hi5 : iF = 5
            · subst hi5; exact (anc_no hanc (by kernel_rfl)).elim
            rw [if_neg hi5] at hT
            obtain ⟨a, b, c, d, f, g, e, hr⟩ := h
            exact ⟨a, b, c, d, f, g, e, curT_steady 3 _ _ _ _ _ _ hr hT hT.size⟩
          · have h : (∃ g, vF = .pointer (some ⟨g, 0, none⟩) ∧ wF1.heap[g]? = some (.cells #[.int .i64 0, .slice none 0 0, .int .i64 0, .slice none 0 0] 25) ∧ V2.heap.size ≤ g) := h
            show (∃ g, vF = .pointer (some ⟨g, 0, none⟩) ∧ wF2.heap[g]? = some (.cells #[.int .i64 0, .slice none 0 0, .int .i64 0, .slice none 0 0] 25) ∧ V2.heap.size ≤ g)
            have hT : (fun i w w' => if i = 5 then (fun (w w' : World) => RowKit.Below V2.heap.size w w' ∧ ∀ (j : Nat) (cs : Array Value) (fr : Nat × Nat), w.heap[j]? = some (Obj.cells cs 25 fr) → cs[0]? = some (Value.int .i64 0) → w'.heap[j]? = w.heap[j]?) w w' else (fun (w w' : World) => RowKit.Below w.heap.size w w') w w') iF wF1 wF2 := hT
            simp only at hT
            by_cases hi5 : iF = 5
            · rw [if_pos hi5] at hT
              obtain ⟨g, e, hg, hB⟩ := h
              exact ⟨g, e, (hT.2 _ _ _ hg rfl).trans hg, hB⟩
            rw [if_neg hi5] at hT
            obtain ⟨g, e, hg, hB⟩ := h
            exact ⟨g, e, (hT.block _ (lt_of_block hg)).trans hg, hB⟩
        · generalize hAF : fillOf _ _ _ = AF
          replace hAF := fun x => congrFun hAF x
          simp only [List.take_succ_cons, List.take_zero, fillOf, Act.put, List.setIfInBounds_toArray, List.set_cons_zero, List.set_cons_succ, Nat.reduceAdd, Nat.zero_add] at hAF
          refine FlowAll.cons ?_ ?_
          · intro xF wx hR hd K hK
            clear hd
            simp only [← hAF, Act.put, List.setIfInBounds_toArray, List.set_cons_zero, List.set_cons_succ] at hK ⊢
            clear hAF
            try simp only [Nat.zero_add] at hK ⊢
            try simp only [Nat.reduceAdd] at hK ⊢
            obtain hbR := id hR
            have hxa := (hbR.block _ (lt_of_block X2.out)).trans X2.out
            have yb0 := boxc hxa 0 _ rfl
            have yb1 := boxc hxa 1 _ rfl
            have yb2 := boxc hxa 2 _ rfl
            have yb3 := boxc hxa 3 _ rfl
            clear hxa
            rw [if_pos (by rfl)]
            go_simp
            exact hK.out _ _ (Below.refl _ _) (rfl) (fun _ _ _ => ⟨trivial, trivial⟩)
          refine FlowAll.cons ?_ ?_
          · intro xF wx hR hd K hK
            clear hd
            simp only [← hAF, Act.put, List.setIfInBounds_toArray, List.set_cons_zero, List.set_cons_succ] at hK ⊢
            clear hAF
            try simp only [Nat.zero_add] at hK ⊢
            try simp only [Nat.reduceAdd] at hK ⊢
            obtain hbR := id hR
            rw [if_pos (by rfl)]
            go_simp
            exact hK.out _ _ (Below.refl _ _) (rfl) (fun _ _ _ => ⟨trivial, trivial⟩)
          refine FlowAll.cons ?_ ?_
          · intro xF wx hR hd K hK
            have dd1 : ((xF 1) = .slice ca nc cc) := hd 1 (by kernel_rfl)
            clear hd
            simp only [← hAF, Act.put, List.setIfInBounds_toArray, List.set_cons_zero, List.set_cons_succ] at hK ⊢
            clear hAF
            try simp only [Nat.zero_add] at hK ⊢
            try simp only [Nat.reduceAdd] at hK ⊢
            try generalize xF 1 = yy1 at *
            obtain rfl := dd1
            obtain hbR := id hR
            rw [if_pos (by rfl)]
            go_simp
            (go_at_call 28; (with_reducible refine (KC.out _ (D3.out.trans (hbR.mono D3.out.size))).mono ?_); rintro e wK ⟨aK, cK, rfl, hzK, hcK, hbK⟩)
            try go_wp2_with fail
            exact hK.out _ _ (hbK) (⟨aK, cK, rfl, hzK, hcK.low hbR.size⟩) (fun _ _ _ => ⟨trivial, trivial⟩)
          refine FlowAll.cons ?_ ?_
          · intro xF wx hR hd K hK
            clear hd
            simp only [← hAF, Act.put, List.setIfInBounds_toArray, List.set_cons_zero, List.set_cons_succ] at hK ⊢
            clear hAF
            try simp only [Nat.zero_add] at hK ⊢
            try simp only [Nat.reduceAdd] at hK ⊢
            obtain hbR := id hR
            have hxa := (hbR.block _ (lt_of_block X1.out)).trans X1.out
            have yb0 := boxc hxa 0 _ rfl
            have yb1 := boxc hxa 1 _ rfl
            have yb2 := boxc hxa 2 _ rfl
            have yb3 := boxc hxa 3 _ rfl
            clear hxa
            rw [if_pos (by rfl)]
            go_simp
            exact hK.out _ _ (Below.refl _ _) (rfl) (fun _ _ _ => ⟨trivial, trivial⟩)
          refine FlowAll.cons ?_ ?_
          · intro xF wx hR hd K hK
            have dd3 : ((xF 3) = .agg #[.int .i64 2, .slice lo1 ln1 lc1, .int .i64 0, .slice ko1 kn1 kc1]) := hd 3 (by kernel_rfl)
            clear hd
            simp only [← hAF, Act.put, List.setIfInBounds_toArray, List.set_cons_zero, List.set_cons_succ] at hK ⊢
            clear hAF
            try simp only [Nat.zero_add] at hK ⊢
            try simp only [Nat.reduceAdd] at hK ⊢
            try generalize xF 3 = yy3 at *
            obtain rfl := dd3
            obtain hbR := id hR
            rw [if_pos (by rfl)]
            go_simp
            exact hK.out _ _ (below1) (⟨_, rfl, heap_alloc_new _ _⟩) (fun _ _ _ => ⟨trivial, trivial⟩)
          refine FlowAll.cons ?_ ?_
          · intro xF wx hR hd K hK
            have dd2 : (∃ ao cp, (xF 2) = .slice ao nc cp ∧ (nc = 0 → ao = none) ∧ CsO V2.heap.size 1 (lc.map mkL) (.slice ao nc cp) wx) := hd 2 (by kernel_rfl)
            have dd4 : (∃ g, (xF 4) = .slice (some ⟨g, 0, none⟩) 1 1 ∧ wx.heap[g]? = some (.cells #[.int .i64 2, .slice lo1 ln1 lc1, .int .i64 0, .slice ko1 kn1 kc1] 25)) := hd 4 (by kernel_rfl)
            clear hd
            simp only [← hAF, Act.put, List.setIfInBounds_toArray, List.set_cons_zero, List.set_cons_succ] at hK ⊢
            clear hAF
            try simp only [Nat.zero_add] at hK ⊢
            try simp only [Nat.reduceAdd] at hK ⊢
            try generalize xF 2 = yy2 at *
            try generalize xF 4 = yy4 at *
            obtain ⟨ao, cp, rfl, hao, hcs⟩ := dd2
            obtain ⟨g4, rfl, hg4⟩ := dd4
            obtain hbR := id hR
            rw [if_pos (by rfl)]
            refine kit.wp_of_list (fun Q' hQ' => ?_)
            have hcsF : First1 (.slice ao nc cp) wx := by
              have h := hcs
              rw [← HLC.out] at h hao ⊢
              exact h.first hao (fun m hm => by obtain ⟨l, _, rfl⟩ := List.mem_map.1 hm; rfl)
            have hcs2 : CsO V2.heap.size 2 (lc.map mkL) (.slice ao nc cp) wx := hcs.up
            refine appC (.tmp 32) (.tmp 34) V2.heap.size 2 rfl rfl hcs2 rfl (SrcL.box (c := [.int .i64 2, .slice lo1 ln1 lc1, .int .i64 0, .slice ko1 kn1 kc1]) hg4 (Z1.out _ hbR)) rfl (by rw [HLC.out, List.length_singleton]; have := LC.out.mlen; rw [HLC.out] at this; omega) hbR.size ?_
            intro aN cN wN hrN hbN hgN
            have hkN : ∀ (j : Nat) (cs : Array Value) (fr : Nat × Nat), wx.heap[j]? = some (Obj.cells cs 25 fr) → cs[0]? = some (Value.int .i64 0) → wN.heap[j]? = wx.heap[j]? := by
              intro j cs fr hj h0
              refine hgN.block j (lt_of_block hj) (fun e => ?_)
              have h1 := hcsF j cs fr e.symm hj
              rw [h0] at h1
              cases h1
            refine hQ' _ _ ?_
            simp only [Act.put, List.setIfInBounds_toArray, List.set_cons_zero, List.set_cons_succ]
            exact hK.out _ _ (⟨hbN, hkN⟩) (⟨aN, _, cN, rfl, hrN⟩) (fun _ _ _ => ⟨trivial, trivial⟩)
          refine FlowAll.cons ?_ ?_
          · intro xF wx hR hd K hK
            have dd0 : ((xF 0) = .agg #[.int .i64 3, .slice lo2 ln2 lc2, .int .i64 0, .slice ko2 kn2 kc2]) := hd 0 (by kernel_rfl)
            have dd5 : (∃ ao nn cp, (xF 5) = .slice ao nn cp ∧ RowsAt 4 (curR 2) wx wx.heap.size (.slice ao nn cp) (lc.map mkL ++ [cBoth la])) := hd 5 (by kernel_rfl)
            clear hd
            simp only [← hAF, Act.put, List.setIfInBounds_toArray, List.set_cons_zero, List.set_cons_succ] at hK ⊢
            clear hAF
            try simp only [Nat.zero_add] at hK ⊢
            try simp only [Nat.reduceAdd] at hK ⊢
            try generalize xF 0 = yy0 at *
            try generalize xF 5 = yy5 at *
            obtain rfl := dd0
            obtain ⟨ao5, nn5, cp5, rfl, hr5⟩ := dd5
            obtain hbR := id hR
            rw [if_pos (by rfl)]
            go_simp
            (go_at_call 24; (with_reducible refine (cminus_anyT 2 (cAny lb) _ _ _ _ (Z2.out _ hbR) (Cur.right_sm 2 _ (cAny_right LB.out)) hr5 HSM.out (by have := HSL.out; omega)).mono ?_); rintro e wK ⟨cK, rfl, hfK, hbK⟩; rw [cSub_fwd LA.out LB.out LC.out] at hfK; obtain ⟨loy, lny, lcy, koy, kny, kcy, rfl⟩ := cur_mk hfK.at.un)
            try go_wp2_with fail
            exact hK.out _ _ (hbK) (⟨_, _, _, _, _, _, rfl, hfK.at⟩) (fun _ _ _ => ⟨trivial, trivial⟩)
          refine FlowAll.cons ?_ ?_
          · intro xF wx hR hd K hK
            clear hd
            simp only [← hAF, Act.put, List.setIfInBounds_toArray, List.set_cons_zero, List.set_cons_succ] at hK ⊢
            clear hAF
            try simp only [Nat.zero_add] at hK ⊢
            try simp only [Nat.reduceAdd] at hK ⊢
            obtain hbR := id hR
            rw [if_pos (by rfl)]
            go_simp
            exact hK.out _ _ (below1) (⟨_, rfl, heap_alloc_new _ _, hR.size⟩) (fun _ _ _ => ⟨trivial, trivial⟩)
          exact FlowAll.nil
        intro xF wx hR hF hP
        clear hP
        have dd0 : ((xF 0) = .agg #[.int .i64 3, .slice lo2 ln2 lc2, .int .i64 0, .slice ko2 kn2 kc2]) := hF 0 (by omega) (by decide)
        have dd1 : ((xF 1) = .slice ca nc cc) := hF 1 (by omega) (by decide)
        have dd3 : ((xF 3) = .agg #[.int .i64 2, .slice lo1 ln1 lc1, .int .i64 0, .slice ko1 kn1 kc1]) := hF 3 (by omega) (by decide)
        have dd5 : (∃ ao nn cp, (xF 5) = .slice ao nn cp ∧ RowsAt 4 (curR 2) wx wx.heap.size (.slice ao nn cp) (lc.map mkL ++ [cBoth la])) := hF 5 (by omega) (by decide)
        have dd6 : (∃ lox lnx lcx kox knx kcx, (xF 6) = .agg #[.int .i64 4, .slice lox lnx lcx, .int .i64 0, .slice kox knx kcx] ∧ curT 3 wx wx.heap.size [.int .i64 4, .slice lox lnx lcx, .int .i64 0, .slice kox knx kcx] (cSub la lb lc)) := hF 6 (by omega) (by decide)
        have dd7 : (∃ g, (xF 7) = .pointer (some ⟨g, 0, none⟩) ∧ wx.heap[g]? = some (.cells #[.int .i64 0, .slice none 0 0, .int .i64 0, .slice none 0 0] 25) ∧ V2.heap.size ≤ g) := hF 7 (by omega) (by decide)
        clear hF
        simp only [List.take_succ_cons, List.take_zero, List.drop_succ_cons, List.drop_zero, fillOf, Act.put, List.setIfInBounds_toArray, List.set_cons_zero, List.set_cons_succ, Nat.reduceAdd, Nat.zero_add]
        try generalize xF 0 = yy0 at *
        try generalize xF 1 = yy1 at *
        try generalize xF 2 = yy2 at *
        try generalize xF 3 = yy3 at *
        try generalize xF 4 = yy4 at *
        try generalize xF 5 = yy5 at *
        try generalize xF 6 = yy6 at *
        try generalize xF 7 = yy7 at *
        clear xF
        obtain rfl := dd0
        obtain rfl := dd1
        obtain rfl := dd3
        obtain ⟨ao5, nn5, cp5, rfl, hr5⟩ := dd5
        obtain ⟨lo3, ln3, lc3, ko3, kn3, kc3, rfl, hm6⟩ := dd6
        obtain ⟨g7, rfl, hg7, hg7B⟩ := dd7
        have hRE := Lib.hid hR
        clear hR
        have hxx : wx.heap[g7]? = some (.cells #[.int .i64 0, .slice none 0 0, .int .i64 0, .slice none 0 0] 25 (0, 0)) := hg7
        have HXX := Lib.hid hxx
        have HM6 := Lib.hid hm6
        have HG7B := Lib.hid hg7B
        clear hm6 hg7 hg7B hr5
        go_wp2_with ((with_reducible show wpList _ _ _ (Oper.mk _ (Op.store 25 (.tmp 9) _) _ _ _ _ :: _) _ _); refine wpList_store_row rfl 25 (.tmp 9) _ rfl g7 #[.int .i64 4, .slice lo3 ln3 lc3, .int .i64 0, .slice ko3 kn3 kc3] rfl rfl 25 #[.int .i64 0, .slice none 0 0, .int .i64 0, .slice none 0 0] hxx csize rfl (by simp [Value.oneCell']) ?_)
        obtain ⟨VZ, hVZ⟩ : ∃ W, W = World.setRow wx g7 #[.int .i64 4, .slice lo3 ln3 lc3, .int .i64 0, .slice ko3 kn3 kc3] := ⟨_, rfl⟩
        have hbx : Below V2.heap.size V2 VZ := by rw [hVZ]; exact below_setRow hRE.out HG7B.out _
        have X9 : Hid (VZ.heap[g7]? = some (.cells #[.int .i64 4, .slice lo3 ln3 lc3, .int .i64 0, .slice ko3 kn3 kc3] 25)) := by show _ = _; rw [hVZ]; exact setRow_heap _ _ _ _ _ _ hxx
        have M3 : Hid (curR 3 VZ VZ.heap.size [.int .i64 4, .slice lo3 ln3 lc3, .int .i64 0, .slice ko3 kn3 kc3] (cSub la lb lc)) := by
          show curR 3 _ _ _ _
          rw [hVZ, setRow_size]
          exact (curT_zero HXX.out _ 3 3 _ _ _ HM6.out (cSub_right LA.out LB.out LC.out)).un
        rw [← hVZ]
        replace D3 := Lib.hid (D3.out.trans (hbx.mono D3.out.size))
        replace M1 := Lib.hid (curR_st M1.out hbx)
        replace X1 := Lib.hid ((hbx.block _ (lt_of_block X1.out)).trans X1.out)
        replace M2 := Lib.hid (curR_st M2.out hbx)
        replace X2 := Lib.hid ((hbx.block _ (lt_of_block X2.out)).trans X2.out)
        clear hbx hVZ hxx HXX HM6 HG7B hRE Z1 Z2 HSM HSL
        have Z1 : Hid (∀ W, Below VZ.heap.size VZ W → curR 2 W W.heap.size [.int .i64 2, .slice lo1 ln1 lc1, .int .i64 0, .slice ko1 kn1 kc1] (cBoth la)) := fun W hW => curR_st M1.out hW
        have Z2 : Hid (∀ W, Below VZ.heap.size VZ W → curR 2 W W.heap.size [.int .i64 3, .slice lo2 ln2 lc2, .int .i64 0, .slice ko2 kn2 kc2] (cAny lb)) := fun W hW => curR_st M2.out hW
        have Z3 : Hid (∀ W, Below VZ.heap.size VZ W → curR 3 W W.heap.size [.int .i64 4, .slice lo3 ln3 lc3, .int .i64 0, .slice ko3 kn3 kc3] (cSub la lb lc)) := fun W hW => curR_st M3.out hW
        obtain ⟨NA, hNA⟩ : ∃ N, N = allOf la := ⟨_, rfl⟩
        obtain ⟨NB, hNB⟩ : ∃ N, N = mergeOf lb := ⟨_, rfl⟩
        obtain ⟨NC, hNC⟩ : ∃ N, N = mergeOf lc := ⟨_, rfl⟩
        obtain ⟨NS, hNS⟩ : ∃ N, N = minus (minus NB NC) NA := ⟨_, rfl⟩
        have AL1 : Hid (∀ W, Below VZ.heap.size VZ W → Calls Try.prog 20 #[.agg #[.int .i64 2, .slice lo1 ln1 lc1, .int .i64 0, .slice ko1 kn1 kc1]] W (Owned NA W)) := fun W hW => by
          have h := all_cu 2 _ _ W (Z1.out W hW)
          rw [Cur.allN_right (cBoth_right LA.out) (by decide), cBoth_nums, ← hNA] at h
          exact h
        have AL2 : Hid (∀ W, Below VZ.heap.size VZ W → Calls Try.prog 20 #[.agg #[.int .i64 3, .slice lo2 ln2 lc2, .int .i64 0, .slice ko2 kn2 kc2]] W (Owned NB W)) := fun W hW => by
          have h := all_cu 2 _ _ W (Z2.out W hW)
          rw [Cur.allN_right (cAny_right LB.out) (by decide), cAny_nums, ← hNB] at h
          exact h
        have AL3 : Hid (∀ W, Below VZ.heap.size VZ W → Calls Try.prog 20 #[.agg #[.int .i64 4, .slice lo3 ln3 lc3, .int .i64 0, .slice ko3 kn3 kc3]] W (Owned NS W)) := fun W hW => by
          have h := all_cu 3 _ _ W (Z3.out W hW)
          rw [Cur.allN_right (cSub_right LA.out LB.out LC.out) (by decide), cSub_nums LA.out LB.out LC.out, ← hNA, ← hNB, ← hNC, ← hNS] at h
          exact h
        have PA : Hid (∀ W, Below VZ.heap.size VZ W → Calls Try.prog 30 #[.slice aa na ac] W (Owned NA W)) := fun W hW => by rw [hNA]; exact all_any la _ W (HRA.out _ (D3.out.trans (hW.mono D3.out.size))) LA.out.good
        have PB : Hid (∀ W, Below VZ.heap.size VZ W → Calls Try.prog 31 #[.slice ba nb bc] W (Owned NB W)) := fun W hW => by rw [hNB]; exact merge_any _ lb _ W (Nat.le_refl _) (HRB.out _ (D3.out.trans (hW.mono D3.out.size))) LB.out.good (by have := LB.out.len; omega)
        have PC : Hid (∀ W, Below VZ.heap.size VZ W → Calls Try.prog 31 #[.slice ca nc cc] W (Owned NC W)) := fun W hW => by rw [hNC]; exact merge_any _ lc _ W (Nat.le_refl _) (HRC.out _ (D3.out.trans (hW.mono D3.out.size))) LC.out.good (by have := LC.out.len; omega)
        have GA : Hid (Inc NA ∧ NA.length ≤ 100000) := by
          rw [hNA]; have h := allOf_good LA.out.good
          exact ⟨h.1, by have := h.2; omega⟩
        have GB : Hid (Inc NB ∧ NB.length ≤ 100000) := by
          rw [hNB]; have h := merge_good LB.out.good; have := LB.out.len
          exact ⟨h.1, by have := h.2; omega⟩
        have GC : Hid (Inc NC ∧ NC.length ≤ 100000) := by
          rw [hNC]; have h := merge_good LC.out.good; have := LC.out.len
          exact ⟨h.1, by have := h.2; omega⟩
        have HNS := Lib.hid hNS
        have K4 : Hid (∀ (v : Value) W, RowsAt 4 (curR 3) W W.heap.size v [cAny lb, cSub la lb lc] → Calls Try.prog 22 #[v] W (CurA 4 (cFour la lb lc) W)) := fun v W hv => by
          have h := cboth_any 3 [cAny lb, cSub la lb lc] v W hv (fun c hc => Cur.right_sm 3 c (cFour_kids LA.out LB.out LC.out c hc)) (by simp)
          rw [cFour_fwd LA.out LB.out LC.out] at h
          exact h
        have A4 : Hid (∀ (c : List Value) W, curR 4 W W.heap.size c (cFour la lb lc) → Calls Try.prog 20 #[.agg c.toArray] W (Owned NS W)) := fun c W hc => by
          have h := all_cu 4 _ c W hc
          rw [Cur.allN_right (cFour_right LA.out LB.out LC.out) (by decide), cFour_nums LA.out LB.out LC.out, cSub_nums LA.out LB.out LC.out, ← hNA, ← hNB, ← hNC, ← hNS] at h
          exact h
        clear hNA hNB hNC hNS HSA HSB HSC KA KB KC M1 M2 M3
        as_aux_lemma =>
          refine wp_flow 38 (fun _ => 1000) (fun ww => RowKit.Below VZ.heap.size VZ ww) (fun _ w w' => (fun (w w' : World) => RowKit.Below w.heap.size w w') w w') (fun kF vF wF => match kF with | 0 => (vF = .agg #[.int .i64 2, .slice lo1 ln1 lc1, .int .i64 0, .slice ko1 kn1 kc1]) | 1 => (At wF wF.heap.size vF NA) | 2 => (vF = .slice aa na ac) | 3 => (At wF wF.heap.size vF NA) | 4 => (vF = .bool true) | 5 => (vF = .bool true) | 6 => (vF = .agg #[.int .i64 3, .slice lo2 ln2 lc2, .int .i64 0, .slice ko2 kn2 kc2]) | 7 => (At wF wF.heap.size vF NB) | 8 => (vF = .slice ba nb bc) | 9 => (At wF wF.heap.size vF NB) | 10 => (vF = .bool true) | 11 => (vF = .bool true) | 12 => (vF = .bool true) | 13 => (vF = .agg #[.int .i64 4, .slice lo3 ln3 lc3, .int .i64 0, .slice ko3 kn3 kc3]) | 14 => (At wF wF.heap.size vF NS) | 15 => (vF = .slice ba nb bc) | 16 => (At wF wF.heap.size vF NB) | 17 => (vF = .slice ca nc cc) | 18 => (At wF wF.heap.size vF NC) | 19 => (At wF wF.heap.size vF (minus NB NC)) | 20 => (vF = .slice aa na ac) | 21 => (At wF wF.heap.size vF NA) | 22 => (At wF wF.heap.size vF NS) | 23 => (vF = .bool true) | 24 => (vF = .bool true) | 25 => (vF = .bool true) | 26 => (vF = .agg #[.int .i64 3, .slice lo2 ln2 lc2, .int .i64 0, .slice ko2 kn2 kc2]) | 27 => (vF = .agg #[.int .i64 4, .slice lo3 ln3 lc3, .int .i64 0, .slice ko3 kn3 kc3]) | 28 => (∃ g, vF = .slice (some ⟨g, 0, none⟩) 2 2 ∧ wF.heap[g]? = some (.cells #[.int .i64 3, .slice lo2 ln2 lc2, .int .i64 0, .slice ko2 kn2 kc2, .int .i64 4, .slice lo3 ln3 lc3, .int .i64 0, .slice ko3 kn3 kc3] 25)) | 29 => (∃ lox lnx lcx kox knx kcx, vF = .agg #[.int .i64 2, .slice lox lnx lcx, .int .i64 0, .slice kox knx kcx] ∧ curR 4 wF wF.heap.size [.int .i64 2, .slice lox lnx lcx, .int .i64 0, .slice kox knx kcx] (cFour la lb lc)) | 30 => (At wF wF.heap.size vF NS) | 31 => (vF = .agg #[.int .i64 4, .slice lo3 ln3 lc3, .int .i64 0, .slice ko3 kn3 kc3]) | 32 => (At wF wF.heap.size vF NS) | 33 => (vF = .bool true) | 34 => (vF = .bool true) | 35 => (vF = .bool true) | 36 => (vF = .bool true) | 37 => (vF = .bool true) | _ => True) (fun _ _ _ _ => True) (by kernel_rfl) (by kernel_rfl) ?_ ?_ ?_ ?_ ?_
          · exact (Below.refl _ _).drew
          · intro iF wF1 wF2 hR hT; exact hR.trans (hT.mono hR.size)
          · intro kF hkF iF hiF hne hdd hanc hdan vF wF1 wF2 h hT
            rcases (by omega : kF = 0 ∨ kF = 1 ∨ kF = 2 ∨ kF = 3 ∨ kF = 4 ∨ kF = 5 ∨ kF = 6 ∨ kF = 7 ∨ kF = 8 ∨ kF = 9 ∨ kF = 10 ∨ kF = 11 ∨ kF = 12 ∨ kF = 13 ∨ kF = 14 ∨ kF = 15 ∨ kF = 16 ∨ kF = 17 ∨ kF = 18 ∨ kF = 19 ∨ kF = 20 ∨ kF = 21 ∨ kF = 22 ∨ kF = 23 ∨ kF = 24 ∨ kF = 25 ∨ kF = 26 ∨ kF = 27 ∨ kF = 28 ∨ kF = 29 ∨ kF = 30 ∨ kF = 31 ∨ kF = 32 ∨ kF = 33 ∨ kF = 34 ∨ kF = 35 ∨ kF = 36 ∨ kF = 37) with rfl | rfl | rfl | rfl | rfl | rfl | rfl | rfl | rfl | rfl | rfl | rfl | rfl | rfl | rfl | rfl | rfl | rfl | rfl | rfl | rfl | rfl | rfl | rfl | rfl | rfl | rfl | rfl | rfl | rfl | rfl | rfl | rfl | rfl | rfl | rfl | rfl | rfl
            · exact h
            · have h : (At wF1 wF1.heap.size vF NA) := h
              show (At wF2 wF2.heap.size vF NA)
              have hT : (fun (w w' : World) => RowKit.Below w.heap.size w w') wF1 wF2 := hT
              simp only at hT
              exact (h.below hT).mono hT.size
            · exact h
            · have h : (At wF1 wF1.heap.size vF NA) := h
              show (At wF2 wF2.heap.size vF NA)
              have hT : (fun (w w' : World) => RowKit.Below w.heap.size w w') wF1 wF2 := hT
              simp only at hT
              exact (h.below hT).mono hT.size
            · exact h
            · exact h
            · exact h
            · have h : (At wF1 wF1.heap.size vF NB) := h
              show (At wF2 wF2.heap.size vF NB)
              have hT : (fun (w w' : World) => RowKit.Below w.heap.size w w') wF1 wF2 := hT
              simp only at hT
              exact (h.below hT).mono hT.size
            · exact h
            · have h : (At wF1 wF1.heap.size vF NB) := h
              show (At wF2 wF2.heap.size vF NB)
              have hT : (fun (w w' : World) => RowKit.Below w.heap.size w w') wF1 wF2 := hT
              simp only at hT
              exact (h.below hT).mono hT.size
            · exact h
            · exact h
            · exact h
            · exact h
            · have h : (At wF1 wF1.heap.size vF NS) := h
              show (At wF2 wF2.heap.size vF NS)
              have hT : (fun (w w' : World) => RowKit.Below w.heap.size w w') wF1 wF2 := hT
              simp only at hT
              exact (h.below hT).mono hT.size
            · exact h
            · have h : (At wF1 wF1.heap.size vF NB) := h
              show (At wF2 wF2.heap.size vF NB)
              have hT : (fun (w w' : World) => RowKit.Below w.heap.size w w') wF1 wF2 := hT
              simp only at hT
              exact (h.below hT).mono hT.size
            · exact h
            · have h : (At wF1 wF1.heap.size vF NC) := h
              show (At wF2 wF2.heap.size vF NC)
              have hT : (fun (w w' : World) => RowKit.Below w.heap.size w w') wF1 wF2 := hT
              simp only at hT
              exact (h.below hT).mono hT.size
            · have h : (At wF1 wF1.heap.size vF (minus NB NC)) := h
              show (At wF2 wF2.heap.size vF (minus NB NC))
              have hT : (fun (w w' : World) => RowKit.Below w.heap.size w w') wF1 wF2 := hT
              simp only at hT
              exact (h.below hT).mono hT.size
            · exact h
            · have h : (At wF1 wF1.heap.size vF NA) := h
              show (At wF2 wF2.heap.size vF NA)
              have hT : (fun (w w' : World) => RowKit.Below w.heap.size w w') wF1 wF2 := hT
              simp only at hT
              exact (h.below hT).mono hT.size
            · have h : (At wF1 wF1.heap.size vF NS) := h
              show (At wF2 wF2.heap.size vF NS)
              have hT : (fun (w w' : World) => RowKit.Below w.heap.size w w') wF1 wF2 := hT
              simp only at hT
              exact (h.below hT).mono hT.size
            · exact h
            · exact h
            · exact h
            · exact h
            · exact h
            · have h : (∃ g, vF = .slice (some ⟨g, 0, none⟩) 2 2 ∧ wF1.heap[g]? = some (.cells #[.int .i64 3, .slice lo2 ln2 lc2, .int .i64 0, .slice ko2 kn2 kc2, .int .i64 4, .slice lo3 ln3 lc3, .int .i64 0, .slice ko3 kn3 kc3] 25)) := h
              show (∃ g, vF = .slice (some ⟨g, 0, none⟩) 2 2 ∧ wF2.heap[g]? = some (.cells #[.int .i64 3, .slice lo2 ln2 lc2, .int .i64 0, .slice ko2 kn2 kc2, .int .i64 4, .slice lo3 ln3 lc3, .int .i64 0, .slice ko3 kn3 kc3] 25))
              have hT : (fun (w w' : World) => RowKit.Below w.heap.size w w') wF1 wF2 := hT
              simp only at hT
              obtain ⟨g, e, hg⟩ := h
              exact ⟨g, e, (hT.block _ (lt_of_block hg)).trans hg⟩
            · have h : (∃ lox lnx lcx kox knx kcx, vF = .agg #[.int .i64 2, .slice lox lnx lcx, .int .i64 0, .slice kox knx kcx] ∧ curR 4 wF1 wF1.heap.size [.int .i64 2, .slice lox lnx lcx, .int .i64 0, .slice kox knx kcx] (cFour la lb lc)) := h
              show (∃ lox lnx lcx kox knx kcx, vF = .agg #[.int .i64 2, .slice lox lnx lcx, .int .i64 0, .slice kox knx kcx] ∧ curR 4 wF2 wF2.heap.size [.int .i64 2, .slice lox lnx lcx, .int .i64 0, .slice kox knx kcx] (cFour la lb lc))
              have hT : (fun (w w' : World) => RowKit.Below w.heap.size w w') wF1 wF2 := hT
              simp only at hT
              obtain ⟨a, b, c, d, f, g, e, hr⟩ := h
              exact ⟨a, b, c, d, f, g, e, curR_st hr hT⟩
            · have h : (At wF1 wF1.heap.size vF NS) := h
              show (At wF2 wF2.heap.size vF NS)
              have hT : (fun (w w' : World) => RowKit.Below w.heap.size w w') wF1 wF2 := hT
              simp only at hT
              exact (h.below hT).mono hT.size
            · exact h
            · have h : (At wF1 wF1.heap.size vF NS) := h
              show (At wF2 wF2.heap.size vF NS)
              have hT : (fun (w w' : World) => RowKit.Below w.heap.size w w') wF1 wF2 := hT
              simp only at hT
              exact (h.below hT).mono hT.size
            · exact h
            · exact h
            · exact h
            · exact h
            · exact h
          · generalize hAF : fillOf _ _ _ = AF
            replace hAF := fun x => congrFun hAF x
            simp only [List.take_succ_cons, List.take_zero, fillOf, Act.put, List.setIfInBounds_toArray, List.set_cons_zero, List.set_cons_succ, Nat.reduceAdd, Nat.zero_add] at hAF
            refine FlowAll.cons ?_ ?_
            · intro xF wy hR hd K hK
              clear hd
              simp only [← hAF, Act.put, List.setIfInBounds_toArray, List.set_cons_zero, List.set_cons_succ] at hK ⊢
              clear hAF
              try simp only [Nat.zero_add] at hK ⊢
              try simp only [Nat.reduceAdd] at hK ⊢
              obtain hbR := id hR
              have hxa := (hbR.block _ (lt_of_block X1.out)).trans X1.out
              have yb0 := boxc hxa 0 _ rfl
              have yb1 := boxc hxa 1 _ rfl
              have yb2 := boxc hxa 2 _ rfl
              have yb3 := boxc hxa 3 _ rfl
              clear hxa
              rw [if_pos (by rfl)]
              go_simp
              exact hK.out _ _ (Below.refl _ _) (rfl) (fun _ _ _ => ⟨trivial, trivial⟩)
            refine FlowAll.cons ?_ ?_
            · intro xF wy hR hd K hK
              have dd0 : ((xF 0) = .agg #[.int .i64 2, .slice lo1 ln1 lc1, .int .i64 0, .slice ko1 kn1 kc1]) := hd 0 (by kernel_rfl)
              clear hd
              simp only [← hAF, Act.put, List.setIfInBounds_toArray, List.set_cons_zero, List.set_cons_succ] at hK ⊢
              clear hAF
              try simp only [Nat.zero_add] at hK ⊢
              try simp only [Nat.reduceAdd] at hK ⊢
              try generalize xF 0 = yy0 at *
              obtain rfl := dd0
              obtain hbR := id hR
              rw [if_pos (by rfl)]
              go_simp
              (go_at_call 20; (with_reducible refine (AL1.out _ hbR).mono ?_); rintro e wK ⟨vK, rfl, hoK, hbK⟩)
              try go_wp2_with fail
              exact hK.out _ _ (hbK) (at_.own hoK) (fun _ _ _ => ⟨trivial, trivial⟩)
            refine FlowAll.cons ?_ ?_
            · intro xF wy hR hd K hK
              clear hd
              simp only [← hAF, Act.put, List.setIfInBounds_toArray, List.set_cons_zero, List.set_cons_succ] at hK ⊢
              clear hAF
              try simp only [Nat.zero_add] at hK ⊢
              try simp only [Nat.reduceAdd] at hK ⊢
              obtain hbR := id hR
              rw [if_pos (by rfl)]
              go_simp
              exact hK.out _ _ (Below.refl _ _) (rfl) (fun _ _ _ => ⟨trivial, trivial⟩)
            refine FlowAll.cons ?_ ?_
            · intro xF wy hR hd K hK
              have dd2 : ((xF 2) = .slice aa na ac) := hd 2 (by kernel_rfl)
              clear hd
              simp only [← hAF, Act.put, List.setIfInBounds_toArray, List.set_cons_zero, List.set_cons_succ] at hK ⊢
              clear hAF
              try simp only [Nat.zero_add] at hK ⊢
              try simp only [Nat.reduceAdd] at hK ⊢
              try generalize xF 2 = yy2 at *
              obtain rfl := dd2
              obtain hbR := id hR
              rw [if_pos (by rfl)]
              go_simp
              (go_at_call 30; (with_reducible refine (PA.out _ hbR).mono ?_); rintro e wK ⟨vK, rfl, hoK, hbK⟩)
              try go_wp2_with fail
              exact hK.out _ _ (hbK) (at_.own hoK) (fun _ _ _ => ⟨trivial, trivial⟩)
            refine FlowAll.cons ?_ ?_
            · intro xF wy hR hd K hK
              have dd1 : (At wy wy.heap.size (xF 1) NA) := hd 1 (by kernel_rfl)
              have dd3 : (At wy wy.heap.size (xF 3) NA) := hd 3 (by kernel_rfl)
              clear hd
              simp only [← hAF, Act.put, List.setIfInBounds_toArray, List.set_cons_zero, List.set_cons_succ] at hK ⊢
              clear hAF
              try simp only [Nat.zero_add] at hK ⊢
              try simp only [Nat.reduceAdd] at hK ⊢
              try generalize xF 1 = yy1 at *
              try generalize xF 3 = yy3 at *
              have hat1 := dd1
              have hat3 := dd3
              obtain hbR := id hR
              rw [if_pos (by rfl)]
              go_simp
              (go_at_call 19; (with_reducible refine (ints_same _ _ _ _ hat1 hat3).mono ?_); rintro e wK ⟨rfl, hbK⟩)
              try go_wp2_with fail
              exact hK.out _ _ (hbK) (rfl) (fun _ _ _ => ⟨trivial, trivial⟩)
            refine FlowAll.cons ?_ ?_
            · intro xF wy hR hd K hK
              have dd4 : ((xF 4) = .bool true) := hd 4 (by kernel_rfl)
              clear hd
              simp only [← hAF, Act.put, List.setIfInBounds_toArray, List.set_cons_zero, List.set_cons_succ] at hK ⊢
              clear hAF
              try simp only [Nat.zero_add] at hK ⊢
              try simp only [Nat.reduceAdd] at hK ⊢
              try generalize xF 4 = yy4 at *
              obtain rfl := dd4
              obtain hbR := id hR
              rw [if_pos (by rfl)]
              go_simp
              exact hK.out _ _ (Below.refl _ _) (rfl) (fun _ _ _ => ⟨trivial, trivial⟩)
            refine FlowAll.cons ?_ ?_
            · intro xF wy hR hd K hK
              have dd5 : ((xF 5) = .bool true) := hd 5 (by kernel_rfl)
              clear hd
              simp only [← hAF, Act.put, List.setIfInBounds_toArray, List.set_cons_zero, List.set_cons_succ] at hK ⊢
              clear hAF
              try simp only [Nat.zero_add] at hK ⊢
              try simp only [Nat.reduceAdd] at hK ⊢
              try generalize xF 5 = yy5 at *
              obtain rfl := dd5
              obtain hbR := id hR
              have hxa := (hbR.block _ (lt_of_block X2.out)).trans X2.out
              have yb0 := boxc hxa 0 _ rfl
              have yb1 := boxc hxa 1 _ rfl
              have yb2 := boxc hxa 2 _ rfl
              have yb3 := boxc hxa 3 _ rfl
              clear hxa
              rw [if_pos (by rfl)]
              go_simp
              exact hK.out _ _ (Below.refl _ _) (rfl) (fun _ _ _ => ⟨trivial, trivial⟩)
            refine FlowAll.cons ?_ ?_
            · intro xF wy hR hd K hK
              have dd5 : ((xF 5) = .bool true) := hd 5 (by kernel_rfl)
              have dd6 : ((xF 6) = .agg #[.int .i64 3, .slice lo2 ln2 lc2, .int .i64 0, .slice ko2 kn2 kc2]) := hd 6 (by kernel_rfl)
              clear hd
              simp only [← hAF, Act.put, List.setIfInBounds_toArray, List.set_cons_zero, List.set_cons_succ] at hK ⊢
              clear hAF
              try simp only [Nat.zero_add] at hK ⊢
              try simp only [Nat.reduceAdd] at hK ⊢
              try generalize xF 5 = yy5 at *
              try generalize xF 6 = yy6 at *
              obtain rfl := dd5
              obtain rfl := dd6
              obtain hbR := id hR
              rw [if_pos (by rfl)]
              go_simp
              (go_at_call 20; (with_reducible refine (AL2.out _ hbR).mono ?_); rintro e wK ⟨vK, rfl, hoK, hbK⟩)
              try go_wp2_with fail
              exact hK.out _ _ (hbK) (at_.own hoK) (fun _ _ _ => ⟨trivial, trivial⟩)
            refine FlowAll.cons ?_ ?_
            · intro xF wy hR hd K hK
              have dd5 : ((xF 5) = .bool true) := hd 5 (by kernel_rfl)
              clear hd
              simp only [← hAF, Act.put, List.setIfInBounds_toArray, List.set_cons_zero, List.set_cons_succ] at hK ⊢
              clear hAF
              try simp only [Nat.zero_add] at hK ⊢
              try simp only [Nat.reduceAdd] at hK ⊢
              try generalize xF 5 = yy5 at *
              obtain rfl := dd5
              obtain hbR := id hR
              rw [if_pos (by rfl)]
              go_simp
              exact hK.out _ _ (Below.refl _ _) (rfl) (fun _ _ _ => ⟨trivial, trivial⟩)
            refine FlowAll.cons ?_ ?_
            · intro xF wy hR hd K hK
              have dd5 : ((xF 5) = .bool true) := hd 5 (by kernel_rfl)
              have dd8 : ((xF 8) = .slice ba nb bc) := hd 8 (by kernel_rfl)
              clear hd
              simp only [← hAF, Act.put, List.setIfInBounds_toArray, List.set_cons_zero, List.set_cons_succ] at hK ⊢
              clear hAF
              try simp only [Nat.zero_add] at hK ⊢
              try simp only [Nat.reduceAdd] at hK ⊢
              try generalize xF 5 = yy5 at *
              try generalize xF 8 = yy8 at *
              obtain rfl := dd5
              obtain rfl := dd8
              obtain hbR := id hR
              rw [if_pos (by rfl)]
              go_simp
              (go_at_call 31; (with_reducible refine (PB.out _ hbR).mono ?_); rintro e wK ⟨vK, rfl, hoK, hbK⟩)
              try go_wp2_with fail
              exact hK.out _ _ (hbK) (at_.own hoK) (fun _ _ _ => ⟨trivial, trivial⟩)
            refine FlowAll.cons ?_ ?_
            · intro xF wy hR hd K hK
              have dd5 : ((xF 5) = .bool true) := hd 5 (by kernel_rfl)
              have dd7 : (At wy wy.heap.size (xF 7) NB) := hd 7 (by kernel_rfl)
              have dd9 : (At wy wy.heap.size (xF 9) NB) := hd 9 (by kernel_rfl)
              clear hd
              simp only [← hAF, Act.put, List.setIfInBounds_toArray, List.set_cons_zero, List.set_cons_succ] at hK ⊢
              clear hAF
              try simp only [Nat.zero_add] at hK ⊢
              try simp only [Nat.reduceAdd] at hK ⊢
              try generalize xF 5 = yy5 at *
              try generalize xF 7 = yy7 at *
              try generalize xF 9 = yy9 at *
              obtain rfl := dd5
              have hat7 := dd7
              have hat9 := dd9
              obtain hbR := id hR
              rw [if_pos (by rfl)]
              go_simp
              (go_at_call 19; (with_reducible refine (ints_same _ _ _ _ hat7 hat9).mono ?_); rintro e wK ⟨rfl, hbK⟩)
              try go_wp2_with fail
              exact hK.out _ _ (hbK) (rfl) (fun _ _ _ => ⟨trivial, trivial⟩)
            refine FlowAll.cons ?_ ?_
            · intro xF wy hR hd K hK
              have dd5 : ((xF 5) = .bool true) := hd 5 (by kernel_rfl)
              have dd10 : ((xF 10) = .bool true) := hd 10 (by kernel_rfl)
              clear hd
              simp only [← hAF, Act.put, List.setIfInBounds_toArray, List.set_cons_zero, List.set_cons_succ] at hK ⊢
              clear hAF
              try simp only [Nat.zero_add] at hK ⊢
              try simp only [Nat.reduceAdd] at hK ⊢
              try generalize xF 5 = yy5 at *
              try generalize xF 10 = yy10 at *
              obtain rfl := dd5
              obtain rfl := dd10
              obtain hbR := id hR
              rw [if_pos (by rfl)]
              go_simp
              exact hK.out _ _ (Below.refl _ _) (rfl) (fun _ _ _ => ⟨trivial, trivial⟩)
            refine FlowAll.cons ?_ ?_
            · intro xF wy hR hd K hK
              have dd11 : ((xF 11) = .bool true) := hd 11 (by kernel_rfl)
              clear hd
              simp only [← hAF, Act.put, List.setIfInBounds_toArray, List.set_cons_zero, List.set_cons_succ] at hK ⊢
              clear hAF
              try simp only [Nat.zero_add] at hK ⊢
              try simp only [Nat.reduceAdd] at hK ⊢
              try generalize xF 11 = yy11 at *
              obtain rfl := dd11
              obtain hbR := id hR
              rw [if_pos (by rfl)]
              go_simp
              exact hK.out _ _ (Below.refl _ _) (rfl) (fun _ _ _ => ⟨trivial, trivial⟩)
            refine FlowAll.cons ?_ ?_
            · intro xF wy hR hd K hK
              have dd12 : ((xF 12) = .bool true) := hd 12 (by kernel_rfl)
              clear hd
              simp only [← hAF, Act.put, List.setIfInBounds_toArray, List.set_cons_zero, List.set_cons_succ] at hK ⊢
              clear hAF
              try simp only [Nat.zero_add] at hK ⊢
              try simp only [Nat.reduceAdd] at hK ⊢
              try generalize xF 12 = yy12 at *
              obtain rfl := dd12
              obtain hbR := id hR
              have hxa := (hbR.block _ (lt_of_block X9.out)).trans X9.out
              have yb0 := boxc hxa 0 _ rfl
              have yb1 := boxc hxa 1 _ rfl
              have yb2 := boxc hxa 2 _ rfl
              have yb3 := boxc hxa 3 _ rfl
              clear hxa
              rw [if_pos (by rfl)]
              go_simp
              exact hK.out _ _ (Below.refl _ _) (rfl) (fun _ _ _ => ⟨trivial, trivial⟩)
            refine FlowAll.cons ?_ ?_
            · intro xF wy hR hd K hK
              have dd12 : ((xF 12) = .bool true) := hd 12 (by kernel_rfl)
              have dd13 : ((xF 13) = .agg #[.int .i64 4, .slice lo3 ln3 lc3, .int .i64 0, .slice ko3 kn3 kc3]) := hd 13 (by kernel_rfl)
              clear hd
              simp only [← hAF, Act.put, List.setIfInBounds_toArray, List.set_cons_zero, List.set_cons_succ] at hK ⊢
              clear hAF
              try simp only [Nat.zero_add] at hK ⊢
              try simp only [Nat.reduceAdd] at hK ⊢
              try generalize xF 12 = yy12 at *
              try generalize xF 13 = yy13 at *
              obtain rfl := dd12
              obtain rfl := dd13
              obtain hbR := id hR
              rw [if_pos (by rfl)]
              go_simp
              (go_at_call 20; (with_reducible refine (AL3.out _ hbR).mono ?_); rintro e wK ⟨vK, rfl, hoK, hbK⟩)
              try go_wp2_with fail
              exact hK.out _ _ (hbK) (at_.own hoK) (fun _ _ _ => ⟨trivial, trivial⟩)
            refine FlowAll.cons ?_ ?_
            · intro xF wy hR hd K hK
              have dd12 : ((xF 12) = .bool true) := hd 12 (by kernel_rfl)
              clear hd
              simp only [← hAF, Act.put, List.setIfInBounds_toArray, List.set_cons_zero, List.set_cons_succ] at hK ⊢
              clear hAF
              try simp only [Nat.zero_add] at hK ⊢
              try simp only [Nat.reduceAdd] at hK ⊢
              try generalize xF 12 = yy12 at *
              obtain rfl := dd12
              obtain hbR := id hR
              rw [if_pos (by rfl)]
              go_simp
              exact hK.out _ _ (Below.refl _ _) (rfl) (fun _ _ _ => ⟨trivial, trivial⟩)
            refine FlowAll.cons ?_ ?_
            · intro xF wy hR hd K hK
              have dd12 : ((xF 12) = .bool true) := hd 12 (by kernel_rfl)
              have dd15 : ((xF 15) = .slice ba nb bc) := hd 15 (by kernel_rfl)
              clear hd
              simp only [← hAF, Act.put, List.setIfInBounds_toArray, List.set_cons_zero, List.set_cons_succ] at hK ⊢
              clear hAF
              try simp only [Nat.zero_add] at hK ⊢
              try simp only [Nat.reduceAdd] at hK ⊢
              try generalize xF 12 = yy12 at *
              try generalize xF 15 = yy15 at *
              obtain rfl := dd12
              obtain rfl := dd15
              obtain hbR := id hR
              rw [if_pos (by rfl)]
              go_simp
              (go_at_call 31; (with_reducible refine (PB.out _ hbR).mono ?_); rintro e wK ⟨vK, rfl, hoK, hbK⟩)
              try go_wp2_with fail
              exact hK.out _ _ (hbK) (at_.own hoK) (fun _ _ _ => ⟨trivial, trivial⟩)
            refine FlowAll.cons ?_ ?_
            · intro xF wy hR hd K hK
              have dd12 : ((xF 12) = .bool true) := hd 12 (by kernel_rfl)
              clear hd
              simp only [← hAF, Act.put, List.setIfInBounds_toArray, List.set_cons_zero, List.set_cons_succ] at hK ⊢
              clear hAF
              try simp only [Nat.zero_add] at hK ⊢
              try simp only [Nat.reduceAdd] at hK ⊢
              try generalize xF 12 = yy12 at *
              obtain rfl := dd12
              obtain hbR := id hR
              rw [if_pos (by rfl)]
              go_simp
              exact hK.out _ _ (Below.refl _ _) (rfl) (fun _ _ _ => ⟨trivial, trivial⟩)
            refine FlowAll.cons ?_ ?_
            · intro xF wy hR hd K hK
              have dd12 : ((xF 12) = .bool true) := hd 12 (by kernel_rfl)
              have dd17 : ((xF 17) = .slice ca nc cc) := hd 17 (by kernel_rfl)
              clear hd
              simp only [← hAF, Act.put, List.setIfInBounds_toArray, List.set_cons_zero, List.set_cons_succ] at hK ⊢
              clear hAF
              try simp only [Nat.zero_add] at hK ⊢
              try simp only [Nat.reduceAdd] at hK ⊢
              try generalize xF 12 = yy12 at *
              try generalize xF 17 = yy17 at *
              obtain rfl := dd12
              obtain rfl := dd17
              obtain hbR := id hR
              rw [if_pos (by rfl)]
              go_simp
              (go_at_call 31; (with_reducible refine (PC.out _ hbR).mono ?_); rintro e wK ⟨vK, rfl, hoK, hbK⟩)
              try go_wp2_with fail
              exact hK.out _ _ (hbK) (at_.own hoK) (fun _ _ _ => ⟨trivial, trivial⟩)
            refine FlowAll.cons ?_ ?_
            · intro xF wy hR hd K hK
              have dd12 : ((xF 12) = .bool true) := hd 12 (by kernel_rfl)
              have dd16 : (At wy wy.heap.size (xF 16) NB) := hd 16 (by kernel_rfl)
              have dd18 : (At wy wy.heap.size (xF 18) NC) := hd 18 (by kernel_rfl)
              clear hd
              simp only [← hAF, Act.put, List.setIfInBounds_toArray, List.set_cons_zero, List.set_cons_succ] at hK ⊢
              clear hAF
              try simp only [Nat.zero_add] at hK ⊢
              try simp only [Nat.reduceAdd] at hK ⊢
              try generalize xF 12 = yy12 at *
              try generalize xF 16 = yy16 at *
              try generalize xF 18 = yy18 at *
              obtain rfl := dd12
              have hat16 := dd16
              have hat18 := dd18
              obtain hbR := id hR
              rw [if_pos (by rfl)]
              go_simp
              (go_at_call 32; (with_reducible refine (minus_any _ _ _ _ _ hat16 hat18 GB.out.1 GC.out.1 GB.out.2 GC.out.2).mono ?_); rintro e wK ⟨vK, rfl, hoK, hbK⟩)
              try go_wp2_with fail
              exact hK.out _ _ (hbK) (at_.own hoK) (fun _ _ _ => ⟨trivial, trivial⟩)
            refine FlowAll.cons ?_ ?_
            · intro xF wy hR hd K hK
              have dd12 : ((xF 12) = .bool true) := hd 12 (by kernel_rfl)
              clear hd
              simp only [← hAF, Act.put, List.setIfInBounds_toArray, List.set_cons_zero, List.set_cons_succ] at hK ⊢
              clear hAF
              try simp only [Nat.zero_add] at hK ⊢
              try simp only [Nat.reduceAdd] at hK ⊢
              try generalize xF 12 = yy12 at *
              obtain rfl := dd12
              obtain hbR := id hR
              rw [if_pos (by rfl)]
              go_simp
              exact hK.out _ _ (Below.refl _ _) (rfl) (fun _ _ _ => ⟨trivial, trivial⟩)
            refine FlowAll.cons ?_ ?_
            · intro xF wy hR hd K hK
              have dd12 : ((xF 12) = .bool true) := hd 12 (by kernel_rfl)
              have dd20 : ((xF 20) = .slice aa na ac) := hd 20 (by kernel_rfl)
              clear hd
              simp only [← hAF, Act.put, List.setIfInBounds_toArray, List.set_cons_zero, List.set_cons_succ] at hK ⊢
              clear hAF
              try simp only [Nat.zero_add] at hK ⊢
              try simp only [Nat.reduceAdd] at hK ⊢
              try generalize xF 12 = yy12 at *
              try generalize xF 20 = yy20 at *
              obtain rfl := dd12
              obtain rfl := dd20
              obtain hbR := id hR
              rw [if_pos (by rfl)]
              go_simp
              (go_at_call 30; (with_reducible refine (PA.out _ hbR).mono ?_); rintro e wK ⟨vK, rfl, hoK, hbK⟩)
              try go_wp2_with fail
              exact hK.out _ _ (hbK) (at_.own hoK) (fun _ _ _ => ⟨trivial, trivial⟩)
            refine FlowAll.cons ?_ ?_
            · intro xF wy hR hd K hK
              have dd12 : ((xF 12) = .bool true) := hd 12 (by kernel_rfl)
              have dd19 : (At wy wy.heap.size (xF 19) (minus NB NC)) := hd 19 (by kernel_rfl)
              have dd21 : (At wy wy.heap.size (xF 21) NA) := hd 21 (by kernel_rfl)
              clear hd
              simp only [← hAF, Act.put, List.setIfInBounds_toArray, List.set_cons_zero, List.set_cons_succ] at hK ⊢
              clear hAF
              try simp only [Nat.zero_add] at hK ⊢
              try simp only [Nat.reduceAdd] at hK ⊢
              try generalize xF 12 = yy12 at *
              try generalize xF 19 = yy19 at *
              try generalize xF 21 = yy21 at *
              obtain rfl := dd12
              have hat19 := dd19
              have hat21 := dd21
              obtain hbR := id hR
              rw [if_pos (by rfl)]
              go_simp
              (go_at_call 32; (with_reducible refine (minus_any _ _ _ _ _ hat19 hat21 (show Inc (minus NB NC) ∧ (minus NB NC).length ≤ 100000 from ⟨inc_minus GB.out.1, Nat.le_trans (minus_le _ _) GB.out.2⟩).1 GA.out.1 (show Inc (minus NB NC) ∧ (minus NB NC).length ≤ 100000 from ⟨inc_minus GB.out.1, Nat.le_trans (minus_le _ _) GB.out.2⟩).2 GA.out.2).mono ?_); rintro e wK ⟨vK, rfl, hoK, hbK⟩)
              try go_wp2_with fail
              refine hK.out _ _ ?_ ?_ ?_
              · exact hbK
              · rw [HNS.out]; exact at_.own hoK
              · exact fun _ _ _ => ⟨trivial, trivial⟩
            refine FlowAll.cons ?_ ?_
            · intro xF wy hR hd K hK
              have dd12 : ((xF 12) = .bool true) := hd 12 (by kernel_rfl)
              have dd14 : (At wy wy.heap.size (xF 14) NS) := hd 14 (by kernel_rfl)
              have dd22 : (At wy wy.heap.size (xF 22) NS) := hd 22 (by kernel_rfl)
              clear hd
              simp only [← hAF, Act.put, List.setIfInBounds_toArray, List.set_cons_zero, List.set_cons_succ] at hK ⊢
              clear hAF
              try simp only [Nat.zero_add] at hK ⊢
              try simp only [Nat.reduceAdd] at hK ⊢
              try generalize xF 12 = yy12 at *
              try generalize xF 14 = yy14 at *
              try generalize xF 22 = yy22 at *
              obtain rfl := dd12
              have hat14 := dd14
              have hat22 := dd22
              obtain hbR := id hR
              rw [if_pos (by rfl)]
              go_simp
              (go_at_call 19; (with_reducible refine (ints_same _ _ _ _ hat14 hat22).mono ?_); rintro e wK ⟨rfl, hbK⟩)
              try go_wp2_with fail
              exact hK.out _ _ (hbK) (rfl) (fun _ _ _ => ⟨trivial, trivial⟩)
            refine FlowAll.cons ?_ ?_
            · intro xF wy hR hd K hK
              have dd12 : ((xF 12) = .bool true) := hd 12 (by kernel_rfl)
              have dd23 : ((xF 23) = .bool true) := hd 23 (by kernel_rfl)
              clear hd
              simp only [← hAF, Act.put, List.setIfInBounds_toArray, List.set_cons_zero, List.set_cons_succ] at hK ⊢
              clear hAF
              try simp only [Nat.zero_add] at hK ⊢
              try simp only [Nat.reduceAdd] at hK ⊢
              try generalize xF 12 = yy12 at *
              try generalize xF 23 = yy23 at *
              obtain rfl := dd12
              obtain rfl := dd23
              obtain hbR := id hR
              rw [if_pos (by rfl)]
              go_simp
              exact hK.out _ _ (Below.refl _ _) (rfl) (fun _ _ _ => ⟨trivial, trivial⟩)
            refine FlowAll.cons ?_ ?_
            · intro xF wy hR hd K hK
              have dd24 : ((xF 24) = .bool true) := hd 24 (by kernel_rfl)
              clear hd
              simp only [← hAF, Act.put, List.setIfInBounds_toArray, List.set_cons_zero, List.set_cons_succ] at hK ⊢
              clear hAF
              try simp only [Nat.zero_add] at hK ⊢
              try simp only [Nat.reduceAdd] at hK ⊢
              try generalize xF 24 = yy24 at *
              obtain rfl := dd24
              obtain hbR := id hR
              rw [if_pos (by rfl)]
              go_simp
              exact hK.out _ _ (Below.refl _ _) (rfl) (fun _ _ _ => ⟨trivial, trivial⟩)
            refine FlowAll.cons ?_ ?_
            · intro xF wy hR hd K hK
              have dd25 : ((xF 25) = .bool true) := hd 25 (by kernel_rfl)
              clear hd
              simp only [← hAF, Act.put, List.setIfInBounds_toArray, List.set_cons_zero, List.set_cons_succ] at hK ⊢
              clear hAF
              try simp only [Nat.zero_add] at hK ⊢
              try simp only [Nat.reduceAdd] at hK ⊢
              try generalize xF 25 = yy25 at *
              obtain rfl := dd25
              obtain hbR := id hR
              have hxa := (hbR.block _ (lt_of_block X2.out)).trans X2.out
              have yb0 := boxc hxa 0 _ rfl
              have yb1 := boxc hxa 1 _ rfl
              have yb2 := boxc hxa 2 _ rfl
              have yb3 := boxc hxa 3 _ rfl
              clear hxa
              rw [if_pos (by rfl)]
              go_simp
              exact hK.out _ _ (Below.refl _ _) (rfl) (fun _ _ _ => ⟨trivial, trivial⟩)
            refine FlowAll.cons ?_ ?_
            · intro xF wy hR hd K hK
              have dd25 : ((xF 25) = .bool true) := hd 25 (by kernel_rfl)
              clear hd
              simp only [← hAF, Act.put, List.setIfInBounds_toArray, List.set_cons_zero, List.set_cons_succ] at hK ⊢
              clear hAF
              try simp only [Nat.zero_add] at hK ⊢
              try simp only [Nat.reduceAdd] at hK ⊢
              try generalize xF 25 = yy25 at *
              obtain rfl := dd25
              obtain hbR := id hR
              have hxa := (hbR.block _ (lt_of_block X9.out)).trans X9.out
              have yb0 := boxc hxa 0 _ rfl
              have yb1 := boxc hxa 1 _ rfl
              have yb2 := boxc hxa 2 _ rfl
              have yb3 := boxc hxa 3 _ rfl
              clear hxa
              rw [if_pos (by rfl)]
              go_simp
              exact hK.out _ _ (Below.refl _ _) (rfl) (fun _ _ _ => ⟨trivial, trivial⟩)
            refine FlowAll.cons ?_ ?_
            · intro xF wy hR hd K hK
              have dd25 : ((xF 25) = .bool true) := hd 25 (by kernel_rfl)
              have dd26 : ((xF 26) = .agg #[.int .i64 3, .slice lo2 ln2 lc2, .int .i64 0, .slice ko2 kn2 kc2]) := hd 26 (by kernel_rfl)
              have dd27 : ((xF 27) = .agg #[.int .i64 4, .slice lo3 ln3 lc3, .int .i64 0, .slice ko3 kn3 kc3]) := hd 27 (by kernel_rfl)
              clear hd
              simp only [← hAF, Act.put, List.setIfInBounds_toArray, List.set_cons_zero, List.set_cons_succ] at hK ⊢
              clear hAF
              try simp only [Nat.zero_add] at hK ⊢
              try simp only [Nat.reduceAdd] at hK ⊢
              try generalize xF 25 = yy25 at *
              try generalize xF 26 = yy26 at *
              try generalize xF 27 = yy27 at *
              obtain rfl := dd25
              obtain rfl := dd26
              obtain rfl := dd27
              obtain hbR := id hR
              rw [if_pos (by rfl)]
              refine two_wp rfl rfl ?_
              simp only [Act.put, List.setIfInBounds_toArray, List.set_cons_zero, List.set_cons_succ]
              exact hK.out _ _ (below1) (⟨_, rfl, heap_alloc_new _ _⟩) (fun _ _ _ => ⟨trivial, trivial⟩)
            refine FlowAll.cons ?_ ?_
            · intro xF wy hR hd K hK
              have dd25 : ((xF 25) = .bool true) := hd 25 (by kernel_rfl)
              have dd28 : (∃ g, (xF 28) = .slice (some ⟨g, 0, none⟩) 2 2 ∧ wy.heap[g]? = some (.cells #[.int .i64 3, .slice lo2 ln2 lc2, .int .i64 0, .slice ko2 kn2 kc2, .int .i64 4, .slice lo3 ln3 lc3, .int .i64 0, .slice ko3 kn3 kc3] 25)) := hd 28 (by kernel_rfl)
              clear hd
              simp only [← hAF, Act.put, List.setIfInBounds_toArray, List.set_cons_zero, List.set_cons_succ] at hK ⊢
              clear hAF
              try simp only [Nat.zero_add] at hK ⊢
              try simp only [Nat.reduceAdd] at hK ⊢
              try generalize xF 25 = yy25 at *
              try generalize xF 28 = yy28 at *
              obtain rfl := dd25
              obtain ⟨g28, rfl, hg28⟩ := dd28
              obtain hbR := id hR
              rw [if_pos (by rfl)]
              go_simp
              (go_at_call 22; (with_reducible refine (K4.out _ _ (rows_box (d := 3) (n := 2) (l := [cAny lb, cSub la lb lc]) hg28 [[.int .i64 3, .slice lo2 ln2 lc2, .int .i64 0, .slice ko2 kn2 kc2], [.int .i64 4, .slice lo3 ln3 lc3, .int .i64 0, .slice ko3 kn3 kc3]] rfl (two_el ⟨rfl, curR_up _ _ _ _ _ (Z2.out _ hbR)⟩ ⟨rfl, Z3.out _ hbR⟩) rfl rfl (by decide))).mono ?_); rintro e wK ⟨cK, rfl, hfK, hbK⟩; obtain ⟨loy, lny, lcy, koy, kny, kcy, rfl⟩ := cur_mk hfK.at)
              try go_wp2_with fail
              exact hK.out _ _ (hbK) (⟨_, _, _, _, _, _, rfl, hfK.at⟩) (fun _ _ _ => ⟨trivial, trivial⟩)
            refine FlowAll.cons ?_ ?_
            · intro xF wy hR hd K hK
              have dd25 : ((xF 25) = .bool true) := hd 25 (by kernel_rfl)
              have dd29 : (∃ lox lnx lcx kox knx kcx, (xF 29) = .agg #[.int .i64 2, .slice lox lnx lcx, .int .i64 0, .slice kox knx kcx] ∧ curR 4 wy wy.heap.size [.int .i64 2, .slice lox lnx lcx, .int .i64 0, .slice kox knx kcx] (cFour la lb lc)) := hd 29 (by kernel_rfl)
              clear hd
              simp only [← hAF, Act.put, List.setIfInBounds_toArray, List.set_cons_zero, List.set_cons_succ] at hK ⊢
              clear hAF
              try simp only [Nat.zero_add] at hK ⊢
              try simp only [Nat.reduceAdd] at hK ⊢
              try generalize xF 25 = yy25 at *
              try generalize xF 29 = yy29 at *
              obtain rfl := dd25
              obtain ⟨lo4, ln4, lc4, ko4, kn4, kc4, rfl, hm29⟩ := dd29
              obtain hbR := id hR
              rw [if_pos (by rfl)]
              go_simp
              (go_at_call 20; (with_reducible refine (A4.out _ _ hm29).mono ?_); rintro e wK ⟨vK, rfl, hoK, hbK⟩)
              try go_wp2_with fail
              exact hK.out _ _ (hbK) (at_.own hoK) (fun _ _ _ => ⟨trivial, trivial⟩)
            refine FlowAll.cons ?_ ?_
            · intro xF wy hR hd K hK
              have dd25 : ((xF 25) = .bool true) := hd 25 (by kernel_rfl)
              clear hd
              simp only [← hAF, Act.put, List.setIfInBounds_toArray, List.set_cons_zero, List.set_cons_succ] at hK ⊢
              clear hAF
              try simp only [Nat.zero_add] at hK ⊢
              try simp only [Nat.reduceAdd] at hK ⊢
              try generalize xF 25 = yy25 at *
              obtain rfl := dd25
              obtain hbR := id hR
              have hxa := (hbR.block _ (lt_of_block X9.out)).trans X9.out
              have yb0 := boxc hxa 0 _ rfl
              have yb1 := boxc hxa 1 _ rfl
              have yb2 := boxc hxa 2 _ rfl
              have yb3 := boxc hxa 3 _ rfl
              clear hxa
              rw [if_pos (by rfl)]
              go_simp
              exact hK.out _ _ (Below.refl _ _) (rfl) (fun _ _ _ => ⟨trivial, trivial⟩)
            refine FlowAll.cons ?_ ?_
            · intro xF wy hR hd K hK
              have dd25 : ((xF 25) = .bool true) := hd 25 (by kernel_rfl)
              have dd31 : ((xF 31) = .agg #[.int .i64 4, .slice lo3 ln3 lc3, .int .i64 0, .slice ko3 kn3 kc3]) := hd 31 (by kernel_rfl)
              clear hd
              simp only [← hAF, Act.put, List.setIfInBounds_toArray, List.set_cons_zero, List.set_cons_succ] at hK ⊢
              clear hAF
              try simp only [Nat.zero_add] at hK ⊢
              try simp only [Nat.reduceAdd] at hK ⊢
              try generalize xF 25 = yy25 at *
              try generalize xF 31 = yy31 at *
              obtain rfl := dd25
              obtain rfl := dd31
              obtain hbR := id hR
              rw [if_pos (by rfl)]
              go_simp
              (go_at_call 20; (with_reducible refine (AL3.out _ hbR).mono ?_); rintro e wK ⟨vK, rfl, hoK, hbK⟩)
              try go_wp2_with fail
              exact hK.out _ _ (hbK) (at_.own hoK) (fun _ _ _ => ⟨trivial, trivial⟩)
            refine FlowAll.cons ?_ ?_
            · intro xF wy hR hd K hK
              have dd25 : ((xF 25) = .bool true) := hd 25 (by kernel_rfl)
              have dd30 : (At wy wy.heap.size (xF 30) NS) := hd 30 (by kernel_rfl)
              have dd32 : (At wy wy.heap.size (xF 32) NS) := hd 32 (by kernel_rfl)
              clear hd
              simp only [← hAF, Act.put, List.setIfInBounds_toArray, List.set_cons_zero, List.set_cons_succ] at hK ⊢
              clear hAF
              try simp only [Nat.zero_add] at hK ⊢
              try simp only [Nat.reduceAdd] at hK ⊢
              try generalize xF 25 = yy25 at *
              try generalize xF 30 = yy30 at *
              try generalize xF 32 = yy32 at *
              obtain rfl := dd25
              have hat30 := dd30
              have hat32 := dd32
              obtain hbR := id hR
              rw [if_pos (by rfl)]
              go_simp
              (go_at_call 19; (with_reducible refine (ints_same _ _ _ _ hat30 hat32).mono ?_); rintro e wK ⟨rfl, hbK⟩)
              try go_wp2_with fail
              exact hK.out _ _ (hbK) (rfl) (fun _ _ _ => ⟨trivial, trivial⟩)
            refine FlowAll.cons ?_ ?_
            · intro xF wy hR hd K hK
              have dd25 : ((xF 25) = .bool true) := hd 25 (by kernel_rfl)
              have dd33 : ((xF 33) = .bool true) := hd 33 (by kernel_rfl)
              clear hd
              simp only [← hAF, Act.put, List.setIfInBounds_toArray, List.set_cons_zero, List.set_cons_succ] at hK ⊢
              clear hAF
              try simp only [Nat.zero_add] at hK ⊢
              try simp only [Nat.reduceAdd] at hK ⊢
              try generalize xF 25 = yy25 at *
              try generalize xF 33 = yy33 at *
              obtain rfl := dd25
              obtain rfl := dd33
              obtain hbR := id hR
              rw [if_pos (by rfl)]
              go_simp
              exact hK.out _ _ (Below.refl _ _) (rfl) (fun _ _ _ => ⟨trivial, trivial⟩)
            refine FlowAll.cons ?_ ?_
            · intro xF wy hR hd K hK
              have dd34 : ((xF 34) = .bool true) := hd 34 (by kernel_rfl)
              clear hd
              simp only [← hAF, Act.put, List.setIfInBounds_toArray, List.set_cons_zero, List.set_cons_succ] at hK ⊢
              clear hAF
              try simp only [Nat.zero_add] at hK ⊢
              try simp only [Nat.reduceAdd] at hK ⊢
              try generalize xF 34 = yy34 at *
              obtain rfl := dd34
              obtain hbR := id hR
              rw [if_pos (by rfl)]
              go_simp
              exact hK.out _ _ (Below.refl _ _) (rfl) (fun _ _ _ => ⟨trivial, trivial⟩)
            refine FlowAll.cons ?_ ?_
            · intro xF wy hR hd K hK
              have dd35 : ((xF 35) = .bool true) := hd 35 (by kernel_rfl)
              clear hd
              simp only [← hAF, Act.put, List.setIfInBounds_toArray, List.set_cons_zero, List.set_cons_succ] at hK ⊢
              clear hAF
              try simp only [Nat.zero_add] at hK ⊢
              try simp only [Nat.reduceAdd] at hK ⊢
              try generalize xF 35 = yy35 at *
              obtain rfl := dd35
              obtain hbR := id hR
              rw [if_pos (by rfl)]
              go_simp
              (go_at_call 9; (with_reducible refine (HAW.out _).mono ?_); rintro e wK ⟨rfl, hbK⟩)
              try go_wp2_with fail
              exact hK.out _ _ (hbK) (rfl) (fun _ _ _ => ⟨trivial, trivial⟩)
            refine FlowAll.cons ?_ ?_
            · intro xF wy hR hd K hK
              have dd35 : ((xF 35) = .bool true) := hd 35 (by kernel_rfl)
              have dd36 : ((xF 36) = .bool true) := hd 36 (by kernel_rfl)
              clear hd
              simp only [← hAF, Act.put, List.setIfInBounds_toArray, List.set_cons_zero, List.set_cons_succ] at hK ⊢
              clear hAF
              try simp only [Nat.zero_add] at hK ⊢
              try simp only [Nat.reduceAdd] at hK ⊢
              try generalize xF 35 = yy35 at *
              try generalize xF 36 = yy36 at *
              obtain rfl := dd35
              obtain rfl := dd36
              obtain hbR := id hR
              rw [if_pos (by rfl)]
              go_simp
              exact hK.out _ _ (Below.refl _ _) (rfl) (fun _ _ _ => ⟨trivial, trivial⟩)
            exact FlowAll.nil
          intro xF wy hR hF hP
          clear hP
          have dd0 : ((xF 0) = .agg #[.int .i64 2, .slice lo1 ln1 lc1, .int .i64 0, .slice ko1 kn1 kc1]) := hF 0 (by omega) (by decide)
          have dd1 : (At wy wy.heap.size (xF 1) NA) := hF 1 (by omega) (by decide)
          have dd2 : ((xF 2) = .slice aa na ac) := hF 2 (by omega) (by decide)
          have dd3 : (At wy wy.heap.size (xF 3) NA) := hF 3 (by omega) (by decide)
          have dd4 : ((xF 4) = .bool true) := hF 4 (by omega) (by decide)
          have dd5 : ((xF 5) = .bool true) := hF 5 (by omega) (by decide)
          have dd6 : ((xF 6) = .agg #[.int .i64 3, .slice lo2 ln2 lc2, .int .i64 0, .slice ko2 kn2 kc2]) := hF 6 (by omega) (by decide)
          have dd7 : (At wy wy.heap.size (xF 7) NB) := hF 7 (by omega) (by decide)
          have dd8 : ((xF 8) = .slice ba nb bc) := hF 8 (by omega) (by decide)
          have dd9 : (At wy wy.heap.size (xF 9) NB) := hF 9 (by omega) (by decide)
          have dd10 : ((xF 10) = .bool true) := hF 10 (by omega) (by decide)
          have dd11 : ((xF 11) = .bool true) := hF 11 (by omega) (by decide)
          have dd12 : ((xF 12) = .bool true) := hF 12 (by omega) (by decide)
          have dd13 : ((xF 13) = .agg #[.int .i64 4, .slice lo3 ln3 lc3, .int .i64 0, .slice ko3 kn3 kc3]) := hF 13 (by omega) (by decide)
          have dd14 : (At wy wy.heap.size (xF 14) NS) := hF 14 (by omega) (by decide)
          have dd15 : ((xF 15) = .slice ba nb bc) := hF 15 (by omega) (by decide)
          have dd16 : (At wy wy.heap.size (xF 16) NB) := hF 16 (by omega) (by decide)
          have dd17 : ((xF 17) = .slice ca nc cc) := hF 17 (by omega) (by decide)
          have dd18 : (At wy wy.heap.size (xF 18) NC) := hF 18 (by omega) (by decide)
          have dd19 : (At wy wy.heap.size (xF 19) (minus NB NC)) := hF 19 (by omega) (by decide)
          have dd20 : ((xF 20) = .slice aa na ac) := hF 20 (by omega) (by decide)
          have dd21 : (At wy wy.heap.size (xF 21) NA) := hF 21 (by omega) (by decide)
          have dd22 : (At wy wy.heap.size (xF 22) NS) := hF 22 (by omega) (by decide)
          have dd23 : ((xF 23) = .bool true) := hF 23 (by omega) (by decide)
          have dd24 : ((xF 24) = .bool true) := hF 24 (by omega) (by decide)
          have dd25 : ((xF 25) = .bool true) := hF 25 (by omega) (by decide)
          have dd26 : ((xF 26) = .agg #[.int .i64 3, .slice lo2 ln2 lc2, .int .i64 0, .slice ko2 kn2 kc2]) := hF 26 (by omega) (by decide)
          have dd27 : ((xF 27) = .agg #[.int .i64 4, .slice lo3 ln3 lc3, .int .i64 0, .slice ko3 kn3 kc3]) := hF 27 (by omega) (by decide)
          have dd28 : (∃ g, (xF 28) = .slice (some ⟨g, 0, none⟩) 2 2 ∧ wy.heap[g]? = some (.cells #[.int .i64 3, .slice lo2 ln2 lc2, .int .i64 0, .slice ko2 kn2 kc2, .int .i64 4, .slice lo3 ln3 lc3, .int .i64 0, .slice ko3 kn3 kc3] 25)) := hF 28 (by omega) (by decide)
          have dd29 : (∃ lox lnx lcx kox knx kcx, (xF 29) = .agg #[.int .i64 2, .slice lox lnx lcx, .int .i64 0, .slice kox knx kcx] ∧ curR 4 wy wy.heap.size [.int .i64 2, .slice lox lnx lcx, .int .i64 0, .slice kox knx kcx] (cFour la lb lc)) := hF 29 (by omega) (by decide)
          have dd30 : (At wy wy.heap.size (xF 30) NS) := hF 30 (by omega) (by decide)
          have dd31 : ((xF 31) = .agg #[.int .i64 4, .slice lo3 ln3 lc3, .int .i64 0, .slice ko3 kn3 kc3]) := hF 31 (by omega) (by decide)
          have dd32 : (At wy wy.heap.size (xF 32) NS) := hF 32 (by omega) (by decide)
          have dd33 : ((xF 33) = .bool true) := hF 33 (by omega) (by decide)
          have dd34 : ((xF 34) = .bool true) := hF 34 (by omega) (by decide)
          have dd35 : ((xF 35) = .bool true) := hF 35 (by omega) (by decide)
          have dd36 : ((xF 36) = .bool true) := hF 36 (by omega) (by decide)
          have dd37 : ((xF 37) = .bool true) := hF 37 (by omega) (by decide)
          clear hF
          simp only [List.take_succ_cons, List.take_zero, List.drop_succ_cons, List.drop_zero, fillOf, Act.put, List.setIfInBounds_toArray, List.set_cons_zero, List.set_cons_succ, Nat.reduceAdd, Nat.zero_add]
          try generalize xF 0 = yy0 at *
          try generalize xF 1 = yy1 at *
          try generalize xF 2 = yy2 at *
          try generalize xF 3 = yy3 at *
          try generalize xF 4 = yy4 at *
          try generalize xF 5 = yy5 at *
          try generalize xF 6 = yy6 at *
          try generalize xF 7 = yy7 at *
          try generalize xF 8 = yy8 at *
          try generalize xF 9 = yy9 at *
          try generalize xF 10 = yy10 at *
          try generalize xF 11 = yy11 at *
          try generalize xF 12 = yy12 at *
          try generalize xF 13 = yy13 at *
          try generalize xF 14 = yy14 at *
          try generalize xF 15 = yy15 at *
          try generalize xF 16 = yy16 at *
          try generalize xF 17 = yy17 at *
          try generalize xF 18 = yy18 at *
          try generalize xF 19 = yy19 at *
          try generalize xF 20 = yy20 at *
          try generalize xF 21 = yy21 at *
          try generalize xF 22 = yy22 at *
          try generalize xF 23 = yy23 at *
          try generalize xF 24 = yy24 at *
          try generalize xF 25 = yy25 at *
          try generalize xF 26 = yy26 at *
          try generalize xF 27 = yy27 at *
          try generalize xF 28 = yy28 at *
          try generalize xF 29 = yy29 at *
          try generalize xF 30 = yy30 at *
          try generalize xF 31 = yy31 at *
          try generalize xF 32 = yy32 at *
          try generalize xF 33 = yy33 at *
          try generalize xF 34 = yy34 at *
          try generalize xF 35 = yy35 at *
          try generalize xF 36 = yy36 at *
          try generalize xF 37 = yy37 at *
          clear xF
          obtain rfl := dd0
          have hat1 := dd1
          obtain rfl := dd2
          have hat3 := dd3
          obtain rfl := dd4
          obtain rfl := dd5
          obtain rfl := dd6
          have hat7 := dd7
          obtain rfl := dd8
          have hat9 := dd9
          obtain rfl := dd10
          obtain rfl := dd11
          obtain rfl := dd12
          obtain rfl := dd13
          have hat14 := dd14
          obtain rfl := dd15
          have hat16 := dd16
          obtain rfl := dd17
          have hat18 := dd18
          have hat19 := dd19
          obtain rfl := dd20
          have hat21 := dd21
          have hat22 := dd22
          obtain rfl := dd23
          obtain rfl := dd24
          obtain rfl := dd25
          obtain rfl := dd26
          obtain rfl := dd27
          obtain ⟨g28, rfl, hg28⟩ := dd28
          obtain ⟨lo4, ln4, lc4, ko4, kn4, kc4, rfl, hm29⟩ := dd29
          have hat30 := dd30
          obtain rfl := dd31
          have hat32 := dd32
          obtain rfl := dd33
          obtain rfl := dd34
          obtain rfl := dd35
          obtain rfl := dd36
          obtain rfl := dd37
          have hRE := Lib.hid hR
          clear hR
          go_wp2
          go_ret
          exact ⟨rfl, D3.out.trans (hRE.out.mono D3.out.size)⟩
end Go.Proofs.Ytojngbobecdpeaa
