/- texts put together: SerEmp, Close. -/
import Derived.Test.YtegjpiggjcfoaaaPd18
import Derived.Carry
import Derived.Deep.DeepHandedRow
import Derived.JoinedCond
import Derived.Lib.LaidTab
import Derived.Lib.SliceRun
import Derived.OpenShut
import Derived.ProofKit
import Derived.Test.YtegjpiggjcfoaaaRows
import Derived.WalkKit
namespace Go.Proofs.Ytegjpiggjcfoaaa
open Go Go.RowKit Go.ChangeShapes cl Go.Sort
theorem cn_find {R : List se.Row} {k : Nat} (hp : 0 < cn R k) : k < 6 ∧ (fnd R (nres k)).1 = (se.find R (nlab k) : Int) ∧ se.find R (nlab k) < R.length ∧ (se.at_ R (se.find R (nlab k))).1 = nlab k ∧ 0 < (se.at_ R (se.find R (nlab k))).2 := by
 unfold cn at hp
 by_cases h6 : k < 6
 ·
  rw [if_pos h6] at hp
  have hf := se.cntR_pos.2 hp
  obtain ⟨g0, g1⟩ := se.find_yes hf
  refine ⟨h6, ?_, hf, g1, g0⟩
  unfold fnd
  rw [show nres k = (0, nlab k) from if_pos h6, if_pos ⟨rfl, hf⟩]
 ·
  rw [if_neg h6] at hp; omega
theorem cn_gone {S : List tb.Sym} {R : List se.Row} {k : Nat} (h : se.Ok S R) (hp : 0 < cn R k) : (se.drop S R (se.find R (nlab k) : Int)).2.2 = 0 ∧ ∀ j, j < 7 → cn (se.drop S R (se.find R (nlab k) : Int)).2.1 j = if j = k then cn R k - 1 else cn R j := by
 obtain ⟨h6, _, hf, g1, g0⟩ := cn_find hp
 have hu : se.used R (se.find R (nlab k) : Int) = true := decide_eq_true ⟨by omega, by omega, by rw [Int.toNat_natCast]; omega⟩
 refine ⟨by rw [drop_code5, if_pos hu], fun j hj => ?_⟩
 have hrt : rtext R (se.find R (nlab k) : Int) = nam k := by
  unfold rtext
  rw [if_pos hu, Int.toNat_natCast, g1]
  have h1 := nlab_text k h6
  exact (lm.text_iff.1 h1).2.symm
 rw [cn_drop h hj, hrt]
 by_cases e : j = k
 ·
  subst e; rw [if_pos ⟨hu, rfl⟩, if_pos rfl]
 ·
  rw [if_neg (fun hh => e (nam_inj j hj k (by omega) hh.2)), if_neg e]
set_option maxHeartbeats 6400000 in
set_option maxRecDepth 100000 in
theorem empties_any (l : List (List Int)) (v : Value) (w : World) (hm : MX w) (h : KInts 3 w w.heap.size v l) :
  Calls Try.prog 4 #[v] w (Said true w) := by
 have HAW : Hid (∀ W, Below w.heap.size w W → Calls Try.prog 7 #[] W (Said true W)) := fun W hW => awake_any W (hm.next hW)
 have HPY := Lib.hid (played_any l v w hm h)
 have HNR : Hid (∀ W, Calls Try.prog 9 #[] W fun e w' => ∃ b, e = .returned (.slice (some ⟨b, 0, none⟩) 7 7) ∧ w'.heap[b]? = some (.cells (cl.strs NM).toArray 9 (0, 0)) ∧ Below W.heap.size W w') := names_row
 have HFA : Hid (∀ (j : Nat) S R vs vr W, j < 7 → Below w.heap.size w W → se.Ok S R → SerAt W W.heap.size vs vr S R → Calls Try.prog 10 #[tval vs vr, .string (nam j)] W (SFindP R (nres j) W)) := fun j S R vs vr W hj hW hok h0 =>
  sfind_any (nam j) (nres j) S R vs vr W (nam_is j hj) (nam_max j) (hm.next hW) hok h0
 have HRT : Hid (∀ S R vs vr W, se.Ok S R → SerAt W W.heap.size vs vr S R → Calls Try.prog 8 #[tval vs vr] W (Said true W)) := fun S R vs vr W hok h0 => sright_any S R vs vr W hok h0
 obtain ⟨q, hq⟩ : ∃ q, q = l.length := ⟨_, rfl⟩
 obtain ⟨so, sc, rfl⟩ : ∃ ao cap, v = .slice ao q cap := by
  obtain ⟨ao, cap, e, _, _⟩ := h.form
  exact ⟨ao, cap, by rw [hq]; exact e⟩
 rw [← hq] at HPY
 clear h hq hm
 unfold PlayedP at HPY
 have HDA : Hid (∀ (id : Int) S R vs vr W, se.Ok S R → SerAt W W.heap.size vs vr S R → Calls Try.prog 13 #[tval vs vr, .int .i64 id] W (SDropQ (se.drop S R id) S R vr W)) := fun id S R vs vr W hok h0 => sdrop_full id S R vs vr W hok h0
 go_enter Try.func4, Try.ntmps4
 go_wp2_with fail
 (with_reducible refine HPY.out.mono ?_)
 rintro e w1 ⟨vs, vr, G, S, R, rfl, hpl, hser, hrb, hrx, hct, hb1⟩
 obtain ⟨x1, y1, z1, x2, y2, z2, rfl, rfl⟩ := hser.vals
 obtain ⟨WT, hWT⟩ : ∃ W, W = w1.alloc (.cells #[.slice x1 y1 z1, .int .i64 24000, .slice x2 y2 z2] 28) := ⟨_, rfl⟩
 have hbT : Below w1.heap.size w1 WT := by rw [hWT]; exact (Below.refl _ _).alloc (Nat.le_refl _) _
 obtain ⟨B1, hB1⟩ : ∃ B, B = w1.heap.size := ⟨_, rfl⟩
 have HXT : Hid (Xt G S R (.slice x1 y1 z1) (.slice x2 y2 z2) B1 WT) := ⟨hser.next hbT, hrb.next hbT, hrx.next hbT, by rw [hWT, hB1]; exact heap_new _ _ _⟩
 have HCT := Lib.hid (hct.step hbT)
 have HDT := Lib.hid (hb1.trans (hbT.mono hb1.size))
 have HPL := Lib.hid hpl
 have HWT := Lib.hid hWT
 have HB1 := Lib.hid hB1
 by_cases hq1 : 60 < q
 ·
  have hqd : decide (q ≤ 60) = false := decide_eq_false (by omega)
  rw [hqd]
  clear hpl hser hrb hrx hct hb1 hWT hbT hB1
  go_wp2_with fail
  rw [← HWT.out]
  (with_reducible refine (HAW.out _ HDT.out).mono ?_)
  rintro e w2 ⟨rfl, hb2⟩
  have hfin := HDT.out.trans (hb2.mono HDT.out.size)
  go_wp2
  go_ret
  exact ⟨rfl, hfin⟩
 have hb1s := hb1.size
 have hqd : decide (q ≤ 60) = true := decide_eq_true (by omega)
 rw [hqd]
 have hnil : ∀ (W : World), (binOp .eql 29 (.slice (some ⟨G, 0, none⟩) 7 7) (.slice none 0 0)).run Try.prog W = .ok (.bool false) W := fun W => Lib.run_eql_slice_nil W _ _ _ _ _ _ _ Try.underlying29
 clear hpl hser hrb hrx hct hb1 hWT hbT hB1 hq1 hqd
 go_wp2_with fail
 rw [← HWT.out]
 (with_reducible refine (HNR.out _).mono ?_)
 rintro e w3 ⟨nb, rfl, hn3, hb3⟩
 have HXN := Lib.hid (HXT.out.step hb3)
 have HCN := Lib.hid (HCT.out.step hb3)
 have HDN := Lib.hid (HDT.out.trans (hb3.mono HDT.out.size))
 have HNN := Lib.hid hn3
 have HBL : Hid (w.heap.size ≤ B1) := by show _ ≤ _; rw [HB1.out]; exact hb1s
 have HP0 : Hid (∀ i, cn R i ≤ 60) := fun i => (cn_bd HPL.out i).2
 obtain ⟨R0, hR0⟩ : ∃ x, x = R := ⟨_, rfl⟩
 rw [← hR0] at HP0
 have HCI : Hid (∀ i, i < 7 → cn R i = if i < 0 then 0 else cn R0 i) := fun i _ => by rw [if_neg (by omega), hR0]
 rw [← hR0] at HCN
 clear hnil hn3 hb3 HXT HCT HDT HPY HWT hR0
 go_wp2
 rw [← HB1.out]
 go_loopw [27] (fun i wr => ∃ (k : Nat) (S : List tb.Sym) (R : List se.Row) (x1 x2 : Option Addr) (y1 z1 y2 z2 : Nat) (K : Nat), i = .int .i64 k ∧ k ≤ 7 ∧ Hid (se.Pl K S R) ∧ Hid (Xt G S R (.slice x1 y1 z1) (.slice x2 y2 z2) B1 wr) ∧ Hid (Ct w.heap.size G (cnl (cn R0)) wr) ∧ Hid (wr.heap[nb]? = some (.cells (cl.strs NM).toArray 9 (0, 0))) ∧ Hid (Below w.heap.size w wr) ∧ Hid (∀ i, i < 7 → cn R i = if i < k then 0 else cn R0 i)) (fun i _ => 7 - (intOf i).toNat)
 case atStart => exact ⟨0, _, _, _, _, _, _, _, _, 60, rfl, by omega, HPL.out, HXN.out, HCN.out, HNN.out, HDN.out, HCI.out⟩
 case round =>
  obtain ⟨k, S, R, x1, x2, y1, z1, y2, z2, K, rfl, hk, HPL, HX, HCT, HN, HD, HCI⟩ := hrel
  by_cases hk7 : k < 7
  ·
   have hkI : (k : Int) < 7 := by omega
   have n0 := row_cell HN.out (nm_get hk7)
   have hc0 := HCT.out.cell (cnl_get (cn R0) hk7)
   have hcb : 0 ≤ cn R0 k := by
    have h1 := HCI.out k hk7
    rw [if_neg (by omega)] at h1
    rw [← h1]; exact (cn_bd HPL.out k).1
   obtain ⟨N, hN⟩ : ∃ N : Nat, cn R0 k = (N : Int) := ⟨(cn R0 k).toNat, by omega⟩
   rw [hN] at hc0
   have hN60 : N ≤ 60 := by have := HP0.out k; omega
   have HCJ : Hid (∀ i, i < 7 → cn R i = if i < k then 0 else if i = k then ((N : Nat) : Int) - ((0 : Nat) : Int) else cn R0 i) := fun i hi => by
    rw [HCI.out i hi]
    by_cases e : i = k
    ·
     subst e; rw [if_neg (Nat.lt_irrefl _), if_neg (Nat.lt_irrefl _), if_pos rfl, hN]; omega
    ·
     rw [if_neg e]
   clear hN hcb
   go_wp2
   clear n0 hc0
   go_loopw [36] (fun i wx => ∃ (j : Nat) (S : List tb.Sym) (R : List se.Row) (x1 x2 : Option Addr) (y1 z1 y2 z2 : Nat) (K : Nat), i = .int .i64 j ∧ j ≤ N ∧ Hid (se.Pl K S R) ∧ Hid (Xt G S R (.slice x1 y1 z1) (.slice x2 y2 z2) B1 wx) ∧ Hid (Ct w.heap.size G (cnl (cn R0)) wx) ∧ Hid (wx.heap[nb]? = some (.cells (cl.strs NM).toArray 9 (0, 0))) ∧ Hid (Below w.heap.size w wx) ∧ Hid (∀ i, i < 7 → cn R i = if i < k then 0 else if i = k then (N : Int) - (j : Int) else cn R0 i)) (fun i _ => N - (intOf i).toNat)
   case atStart => exact ⟨0, _, _, _, _, _, _, _, _, K, rfl, by omega, HPL.out, HX.out, HCT.out, HN.out, HD.out, HCJ.out⟩
   case round =>
    rename World => wx
    clear HPL HX HCT HN HD HCI HCJ
    obtain ⟨j, S, R, x1, x2, y1, z1, y2, z2, K, rfl, hj, HPL, HX, HCT, HN, HD, HCJ⟩ := hrel
    by_cases hjN : j < N
    ·
     have hjI : (j : Int) < (N : Int) := by omega
     have hck := HCJ.out k hk7
     rw [if_neg (Nat.lt_irrefl _), if_pos rfl] at hck
     have hpos : 0 < cn R k := by omega
     obtain ⟨h6, hf1, hfR, hf2, hf3⟩ := cn_find hpos
     obtain ⟨hg1, hg2⟩ := cn_gone HPL.out.ok hpos
     have HFI := Lib.hid (HFA.out k _ _ _ _ _ hk7 HD.out HPL.out.ok HX.out.ser)
     unfold SFindP at HFI
     rw [hf1] at HFI
     obtain ⟨id, hid⟩ : ∃ x, x = se.find R (nlab k) := ⟨_, rfl⟩
     rw [← hid] at HFI hg1 hg2
     have HDQ : Hid (∀ W, Xt G S R (.slice x1 y1 z1) (.slice x2 y2 z2) B1 W → Calls Try.prog 13 #[tval (.slice x1 y1 z1) (.slice x2 y2 z2), .int .i64 (id : Int)] W (SDropQ (se.drop S R (id : Int)) S R (.slice x2 y2 z2) W)) := fun W hx => HDA.out (id : Int) S R _ _ W HPL.out.ok hx.ser
     have HP2 := Lib.hid (HPL.out.drop (id := (id : Int)))
     have HG2 := Lib.hid hg2
     unfold SDropQ at HDQ
     obtain ⟨⟨S2, R2, code⟩, hrr⟩ : ∃ x, x = se.drop S R (id : Int) := ⟨_, rfl⟩
     rw [← hrr] at HDQ HP2 HG2 hg1
     simp only at HDQ HP2 HG2 hg1
     obtain rfl : code = 0 := hg1
     have HCK := Lib.hid hck
     obtain ⟨⟨t0, t1, t2⟩, _⟩ := HX.out.cell
     obtain ⟨fb, hfb⟩ : ∃ x, x = (fnd R (nres k)).2 := ⟨_, rfl⟩
     rw [← hfb] at HFI
     clear hrr hid hf1 hfR hf2 hf3 hg2 hck hpos hfb
     go_wp2_with fail
     (with_reducible refine HFI.out.mono ?_)
     rintro e w4 ⟨rfl, hb4⟩
     have HX4 := Lib.hid (HX.out.step hb4)
     have HC4 := Lib.hid (HCT.out.step hb4)
     have HN4 := Lib.hid (heap_keep hb4 HN.out)
     have HD4 := Lib.hid (HD.out.trans (hb4.mono HD.out.size))
     have HDK := Lib.hid (HDQ.out _ HX4.out)
     clear t0 t1 t2
     obtain ⟨⟨t0, t1, t2⟩, _⟩ := HX4.out.cell
     go_wp2_with fail
     (with_reducible refine HDK.out.mono ?_)
     rintro e w5 ⟨vs5, vr5, rfl, hs5, hb5, hr5, hx5⟩
     obtain ⟨p1, p2, p3, p4, p5, p6, rfl, rfl⟩ := hs5.vals
     have hr6 := hr5 HX4.out.rb
     have hx6 := hx5 _ HC4.out.lt.2 HX4.out.rx
     have hT5 := HX4.out.step hb5
     have hC5 := HC4.out.step hb5
     have hN5 := heap_keep hb5 HN4.out
     have hD5 := HD4.out.trans (hb5.mono HD4.out.size)
     obtain ⟨W6, hW6⟩ : ∃ W, W = ((w5.setCell ⟨B1, 0, none⟩ (.slice p1 p2 p3)).setCell ⟨B1, 1, none⟩ (.int .i64 24000)).setCell ⟨B1, 2, none⟩ (.slice p4 p5 p6) := ⟨_, rfl⟩
     have hT6 : Xt G S2 R2 (.slice p1 p2 p3) (.slice p4 p5 p6) B1 W6 := by
      rw [hW6]
      exact Xt.keep ⟨hs5, hr6, hx6⟩ (off_box hT5.row) (by rw [set3_size]; exact Nat.le_refl _) (fun b _ hb => set3_far hb.symm) (set3_row hT5.row)
     have hC6 : Ct w.heap.size G (cnl (cn R0)) W6 := by rw [hW6]; exact hC5.far3 hT5.row
     have hN6 : W6.heap[nb]? = some (.cells (cl.strs NM).toArray 9 (0, 0)) := by
      rw [hW6, set3_far (fun e => ?_)]
      ·
       exact hN5
      ·
       have h1 := hT5.row
       rw [e, hN5] at h1
       simp only [Option.some.injEq, Obj.cells.injEq] at h1
       exact absurd h1.2.1 (by decide)
     have hD6 : Below w.heap.size w W6 := by
      rw [hW6]
      exact ((hD5.setCell (p := ⟨B1, 0, none⟩) HBL.out (.slice p1 p2 p3)).setCell (p := ⟨B1, 1, none⟩) HBL.out (.int .i64 24000)).setCell (p := ⟨B1, 2, none⟩) HBL.out (.slice p4 p5 p6)
     have hA6 : Below W6.heap.size W6 (W6.alloc (.cells #[.slice p1 p2 p3, .int .i64 24000, .slice p4 p5 p6] 28)) := (Below.refl _ _).alloc (Nat.le_refl _) _
     have HT7 := Lib.hid (hT6.step hA6)
     have HC7 := Lib.hid (hC6.step hA6)
     have HN7 := Lib.hid (heap_keep hA6 hN6)
     have HD7 := Lib.hid (hD6.trans (hA6.mono hD6.size))
     rw [hW6] at HT7 HC7 HN7 HD7
     have hBw : B1 < w5.heap.size := hT5.lt
     have HCJ2 : Hid (∀ i, i < 7 → cn R2 i = if i < k then 0 else if i = k then (N : Int) - ((j + 1 : Nat) : Int) else cn R0 i) := fun i hi => by
      rw [HG2.out i hi]
      by_cases e : i = k
      ·
       subst e; rw [if_pos rfl, if_neg (Nat.lt_irrefl _), if_pos rfl, HCK.out]; omega
      ·
       rw [if_neg e, if_neg e, HCJ.out i hi, if_neg e]
     obtain ⟨⟨v0, v1, v2⟩, ⟨u0, u1, u2⟩⟩ := hT5.cell
     clear hs5 hb5 hr5 hx5 hr6 hx6 hT5 hT6 hC5 hC6 hN5 hN6 hD5 hD6 hA6 hW6 t0 t1 t2
     go_wp2
     go_roundw
     case rel => exact ⟨j + 1, _, _, _, _, _, _, _, _, _, by go_num, by omega, HP2.out, HT7.out, HC7.out, HN7.out, HD7.out, HCJ2.out⟩
     case measure => simp [intOf]; omega
    ·
     obtain rfl : j = N := by omega
     have HCI2 : Hid (∀ i, i < 7 → cn R i = if i < k + 1 then 0 else cn R0 i) := fun i hi => by
      rw [HCJ.out i hi]
      by_cases e : i = k
      ·
       subst e; rw [if_neg (Nat.lt_irrefl _), if_pos rfl, if_pos (Nat.lt_succ_self _)]; omega
      ·
       rw [if_neg e]
       by_cases h2 : i < k
       ·
        rw [if_pos h2, if_pos (by omega)]
       ·
        rw [if_neg h2, if_neg (by omega)]
     go_wp2
     go_roundw
     case rel => exact ⟨k + 1, _, _, _, _, _, _, _, _, _, by go_num, by omega, HPL.out, HX.out, HCT.out, HN.out, HD.out, HCI2.out⟩
     case measure => simp [intOf]; omega
  ·
   obtain rfl : k = 7 := by omega
   have HEM : Hid (∀ j, j < S.length → (tb.at_ S j).2 = 0 ∧ (tb.at_ S j).1 = .empty) := fun j hj => HPL.out.empty (fun i hi => by
    have h1 := HCI.out i (by omega)
    rw [if_pos (by omega)] at h1
    unfold cn at h1
    rwa [if_pos hi] at h1) hj
   have hyS : y1 = S.length := by
    obtain ⟨_, _, e, _⟩ := Cells.form HX.out.ser.1
    simp only [Value.slice.injEq] at e
    exact e.2.1
   have HYS := Lib.hid hyS
   obtain ⟨⟨t0, t1, t2⟩, _⟩ := HX.out.cell
   clear hyS
   have HRR := Lib.hid (fun (W : World) (hW : Below wr.heap.size wr W) => HRT.out S R (.slice x1 y1 z1) (.slice x2 y2 z2) W HPL.out.ok (HX.out.ser.next hW))
   have hy4 : y1 ≤ 24000 := by have := HPL.out.ok.right.2.2.1; have := HPL.out.ok.right.2.1; rw [HYS.out]; omega
   go_wp2
   clear t0 t1 t2
   go_loopw [59] (fun i wx => ∃ j : Nat, i = .int .i64 j ∧ j ≤ y1 ∧ Hid (Below wr.heap.size wr wx)) (fun i _ => y1 - (intOf i).toNat)
   case atStart => exact ⟨0, rfl, by omega, Below.refl _ _⟩
   case round =>
    rename World => wx
    obtain ⟨j, rfl, hj, HE⟩ := hrel
    by_cases hjy : j < y1
    ·
     have hjI : (j : Int) < (y1 : Int) := by omega
     obtain ⟨bs, os, rfl, hBs, r0, r1⟩ := Tabs.get HX.out.ser.1 HYS.out hjy
     have c0 := (HE.out.cell (p := ⟨bs, os + j * 2, none⟩) hBs).trans r0
     have c1 := (HE.out.cell (p := ⟨bs, os + j * 2 + 1, none⟩) hBs).trans r1
     obtain ⟨g0, g1⟩ := HEM.out j (by rw [← HYS.out]; exact hjy)
     rw [g0] at c1
     rw [g1] at c0
     have HE2 := Lib.hid (HE.out.trans (((Below.refl wx.heap.size wx).alloc (Nat.le_refl _) (.cells #[.string .empty, .int .i64 0] 52)).mono HE.out.size))
     clear r0 r1 g0 g1
     go_wp2
     go_roundw
     case rel => exact ⟨j + 1, by go_num, by omega, HE2.out⟩
     case measure => simp [intOf]; omega
    ·
     have hjI : ¬ (j : Int) < (y1 : Int) := by omega
     have HX9 := Lib.hid (HX.out.step HE.out)
     have HR9 := Lib.hid (HRR.out wx HE.out)
     have HD9 := Lib.hid (HD.out.trans (HE.out.mono HD.out.size))
     obtain ⟨⟨t0, t1, t2⟩, _⟩ := HX9.out.cell
     go_wp2_with fail
     (with_reducible refine HR9.out.mono ?_)
     rintro e w8 ⟨rfl, hb8⟩
     have HD8 := Lib.hid (HD9.out.trans (hb8.mono HD9.out.size))
     go_wp2_with fail
     (with_reducible refine (HAW.out _ HD8.out).mono ?_)
     rintro e w9 ⟨rfl, hb9⟩
     have hfin := HD8.out.trans (hb9.mono HD8.out.size)
     go_wp2
     go_ret
     exact ⟨rfl, hfin⟩
end Go.Proofs.Ytegjpiggjcfoaaa
namespace Go.Proofs.Ytegjpiggjcfoaaa.close
open Go.RowKit Go.WideShapes Go.ChangeShapes
section
variable {H : Type} {enc : TypeId × Value → H} {P : Program}
theorem trodAll_stays (hl : laidOutB P = true) {W W' : World} (hb : Below W.heap.size W W') :
  ∀ (ts : List TypeId) (vs : List Value) (ds : List (DataW H)) (ps : List MemPlace), (∀ t ∈ ts, P.readableRec t = true ∧ t < P.types.size) → (∀ x ∈ ps, x.block < W.heap.size) →
   DataW.TrodAll enc P W 0 (fun _ => true) true ts vs ds ps → DataW.TrodAll enc P W' 0 (fun b => decide (b < W.heap.size)) true ts vs ds ps := by
 intro ts
 induction ts with
 | nil =>
  intro vs ds ps _ _ h
  obtain ⟨rfl, rfl, rfl⟩ := trodAll_nil h
  exact rfl
 | cons t ts ih =>
  intro vs ds ps ht hlt h
  obtain ⟨v, vs', d, ds', p, q, rfl, rfl, rfl, h0, r0⟩ := trodAll_cons h
  have h1 := ht t (List.mem_cons_self ..)
  exact ⟨p, q, Below.trod hl h1.1 h1.2 h0 hb (fun x hx => hlt x (List.mem_append_left _ hx)),
   ih _ _ _ (fun u hu => ht u (List.mem_cons_of_mem _ hu)) (fun x hx => hlt x (List.mem_append_right _ hx)) r0, rfl⟩
theorem law_post (hl : laidOutB P = true) {f : Func} {s : ChangeSpec} {apart fresh handsOn : Bool} {W W' : World} {args : Array Value} {ds gs : List (DataW H)} {before : List MemPlace} {tb : TypeId}
  (hts : ∀ t ∈ f.params.toList, P.readableRec t = true ∧ t < P.types.size) (hvars : s.vars = []) (hrt : f.resultTypes = #[tb]) (hb4 : P.underlying tb = some .bool)
  (hW : DataW.Whole enc P f.params.toList s.vars apart W args.toList ds gs before) (hs : s.fn H (ds ++ gs) = { results := [.lit (.bool true)], args := ds, vars := [] })
  (hb : Below W.heap.size W W') : s.post enc P f apart fresh handsOn false W args (.bool true) W' := by
 have hlt : ∀ p ∈ before, p.block < W.heap.size := fun p hp => hW.lt p hp
 have hW' := hW
 obtain ⟨p, q, hA, hV, rfl, _, _⟩ := hW'
 rw [hvars] at hV
 obtain ⟨rfl, rfl⟩ := trodVars_none hV
 refine ⟨ds, [], p ++ [], [], p, [], hW, ?_, ?_, ?_, World.keptBut_mono (fun x hx => ⟨hx, Or.inr (Or.inl (by simpa using hx))⟩) (hb.frame (· ∈ p ++ [])), fun h => by cases h⟩
 ·
  rw [hs, hrt]
  exact trodAll_cons_mk (shut_bool hb4 true) trodAll_mk0
 ·
  rw [hs]
  exact trodAll_stays hl hb _ _ _ _ hts (fun x hx => hlt x (List.mem_append_left _ hx)) hA
 ·
  rw [hs, hvars]
  exact rfl
end
end Go.Proofs.Ytegjpiggjcfoaaa.close
