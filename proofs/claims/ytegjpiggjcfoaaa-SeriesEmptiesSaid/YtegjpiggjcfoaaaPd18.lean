/- texts put together: SerPld. -/
import Derived.Test.YtegjpiggjcfoaaaPd16
import Derived.Test.YtegjpiggjcfoaaaPd17
namespace Go.Proofs.Ytegjpiggjcfoaaa
open Go Go.RowKit Go.ChangeShapes cl Go.Sort
theorem u64_rem (x : Int) (m : Nat) (hm : 0 < m) : ∃ J : Nat, (IntKind.u64.wrap x).tmod (m : Int) = (J : Int) ∧ J < m := by
 have h0 : 0 ≤ IntKind.u64.wrap x := by rw [IntKind.wrap_u64]; omega
 have h1 := Int.tmod_nonneg (m : Int) h0
 have h2 := Int.tmod_lt_of_pos (IntKind.u64.wrap x) (show (0 : Int) < m by omega)
 exact ⟨((IntKind.u64.wrap x).tmod (m : Int)).toNat, by omega, by omega⟩
theorem drop_code5 (S : List tb.Sym) (R : List se.Row) (id : Int) : (se.drop S R id).2.2 = if se.used R id = true then 0 else 5 := by
 unfold se.drop
 split
 ·
  split <;> rfl
 ·
  rfl
theorem mid_same {f g : Nat → Int} {j : Nat} (h : g j = f j) : cnl (fun i => if i < j + 1 then g i else f i) = cnl (fun i => if i < j then g i else f i) := by
 refine cnl_congr fun i _ => ?_
 by_cases e : i = j
 ·
  subst e; rw [if_pos (Nat.lt_succ_self _), if_neg (Nat.lt_irrefl _), h]
 ·
  by_cases h2 : i < j
  ·
   rw [if_pos h2, if_pos (by omega)]
  ·
   rw [if_neg h2, if_neg (by omega)]
def PlayedP (q : Nat) (w : World) (e : Ending) (w' : World) : Prop := ∃ (vs vr : Value) (G : Nat) (S : List tb.Sym) (R : List se.Row), e = .returned (.tuple #[tval vs vr, .slice (some ⟨G, 0, none⟩) 7 7, .bool (decide (q ≤ 60))]) ∧ se.Pl 60 S R ∧ SerAt w' w'.heap.size vs vr S R ∧ RB w' vr ∧ RX G S R w' vr ∧ Ct w.heap.size G (cnl (cn R)) w' ∧ Below w.heap.size w w'
set_option maxHeartbeats 6400000 in
set_option maxRecDepth 100000 in
theorem played_any (l : List (List Int)) (v : Value) (w : World) (hm : MX w) (h : KInts 3 w w.heap.size v l) :
  Calls Try.prog 6 #[v] w (PlayedP l.length w) := by
 obtain ⟨q, hq⟩ : ∃ q, q = l.length := ⟨_, rfl⟩
 obtain ⟨so, sc, rfl, hqm⟩ : ∃ ao cap, v = .slice ao q cap ∧ q ≤ maxLen := by
  obtain ⟨ao, cap, e, _, hm⟩ := h.form
  exact ⟨ao, cap, by rw [hq]; exact e, by rw [hq]; exact hm⟩
 unfold maxLen at hqm
 rw [← hq]
 have HC := Lib.hid h
 have HQ := Lib.hid hq
 have HNR : Hid (∀ W, Calls Try.prog 9 #[] W fun e w' => ∃ b, e = .returned (.slice (some ⟨b, 0, none⟩) 7 7) ∧ w'.heap[b]? = some (.cells (cl.strs NM).toArray 9 (0, 0)) ∧ Below W.heap.size W w') := names_row
 have HNEW : Hid (∀ W, Calls Try.prog 15 #[] W fun e w' => e = .returned (tval (.slice none 0 0) (.slice none 0 0)) ∧ Below W.heap.size W w') := snew_any
 have HPA : Hid (∀ (j : Nat) S R vs vr W, j < 7 → Below w.heap.size w W → se.Ok S R → SerAt W W.heap.size vs vr S R → Calls Try.prog 14 #[tval vs vr, .string (nam j)] W (SPutQ (se.put S R (nres j)) S R vr W)) := fun j S R vs vr W hj hW hok h0 =>
  sput_full (nam j) (nres j) S R vs vr W (nam_is j hj) (nam_max j) (hm.next hW) hok h0 (nres_canon j)
 obtain ⟨i0, gi, gz0, gz1, gz2⟩ := info_parts infoInt
 have HI := Lib.hid (And.intro gi (And.intro gz0 (And.intro gz1 gz2)))
 obtain ⟨W0, hW0⟩ : ∃ W, W = w.alloc (.cells #[.slice none 0 0, .int .i64 0, .slice none 0 0] 28) := ⟨_, rfl⟩
 have hb0 : Below w.heap.size w W0 := by rw [hW0]; exact (Below.refl _ _).alloc (Nat.le_refl _) _
 have hr0 : W0.heap[w.heap.size]? = some (.cells #[.slice none 0 0, .int .i64 0, .slice none 0 0] 28 (0, 0)) := by rw [hW0]; exact heap_new _ _ _
 have HW0 := Lib.hid hW0
 clear h hq hm gi gz0 gz1 gz2 hW0
 go_enter Try.func6, Try.ntmps6
 go_wp2_with fail
 rw [← HW0.out]
 (with_reducible refine (HNEW.out _).mono ?_)
 rintro e w1 ⟨rfl, hb1⟩
 have hb01 := hb0.trans (hb1.mono hb0.size)
 have hr1 := heap_keep hb1 hr0
 obtain ⟨WT, hWT⟩ : ∃ W, W = w1.alloc (.cells #[.slice none 0 0, .int .i64 24000, .slice none 0 0] 28) := ⟨_, rfl⟩
 have hbT : Below w1.heap.size w1 WT := by rw [hWT]; exact (Below.refl _ _).alloc (Nat.le_refl _) _
 have hrT : WT.heap[w1.heap.size]? = some (.cells #[.slice none 0 0, .int .i64 24000, .slice none 0 0] 28 (0, 0)) := by rw [hWT]; exact heap_new _ _ _
 have hsT : WT.heap.size = w1.heap.size + 1 := by rw [hWT, World.size_alloc]
 have HWT := Lib.hid hWT
 have hz1 : w.heap.size < w1.heap.size := (Array.getElem?_eq_some_iff.1 hr1).1
 clear hWT hr0 hb1 hb0
 go_wp2_with (at_make; rw [← HWT.out]; refine wpList_make_full _ rfl _ _ 29 rfl w.heap.size 3 i0 (.int .i64 0) 1 Try.underlying29 HI.out.1 HI.out.2.1 HI.out.2.2.1 .i64 .i64 _ _ 7 rfl rfl rfl rfl (by rw [HI.out.2.2.2]; omega) (by unfold maxLen; omega) (by omega) ?_)
 intro w2 hown2 hgrow2
 have hb2 : Below WT.heap.size WT w2 := (Below.refl _ _).grown hgrow2 (Nat.le_refl _) (fun j hj => by cases hj)
 have hbT2 := hbT.trans (hb2.mono hbT.size)
 have hb02 := hb01.trans (hbT2.mono hb01.size)
 obtain ⟨B1, hB1⟩ : ∃ B, B = w1.heap.size := ⟨_, rfl⟩
 obtain ⟨G, hG⟩ : ∃ G, G = w1.heap.size + 1 := ⟨_, rfl⟩
 rw [← hG] at hown2
 have hGB : ¬ G = B1 := by omega
 have HX0 : Hid (Xt G [] [] (.slice none 0 0) (.slice none 0 0) B1 w2) := ⟨nil_ser _, nil_rb _, ⟨[], rfl, (fun j c x hc => by cases hc), Cells.nil _ _ _⟩, by rw [hB1]; exact heap_keep hb2 hrT⟩
 have HC0 : Hid (Ct w.heap.size G (cnl (cn [])) w2) := by
  refine ⟨?_, fun u hu => ?_⟩
  ·
   have e : cnl (cn []) = (madeCells #[Value.int .i64 0] 7).toList := by
    rw [show (7 : Nat) = 7 * 1 from rfl, made_one]
    rfl
   rw [e]; exact hown2
  ·
   obtain ⟨i, _, rfl⟩ := List.mem_map.1 hu
   exact ⟨_, rfl⟩
 have HR0 : Hid (w2.heap[w.heap.size]? = some (.cells #[.slice none 0 0, .int .i64 0, .slice none 0 0] 28 (0, 0))) := heap_keep hbT2 hr1
 have HD0 := Lib.hid hb02
 have HBZ : Hid (w.heap.size < B1) := by show _ < _; omega
 have HGB := Lib.hid hGB
 have HB1 := Lib.hid hB1
 have HG := Lib.hid hG
 rw [← hG]
 obtain ⟨⟨t0, t1, t2⟩, _⟩ := HX0.out.cell
 have r0 := row_cell HR0.out (j := 0) rfl
 have r1 := row_cell HR0.out (j := 1) rfl
 have r2 := row_cell HR0.out (j := 2) rfl
 have f0 := row_free (j := 0) HR0.out
 have f1 := row_free (j := 1) HR0.out
 have f2 := row_free (j := 2) HR0.out
 rw [hB1] at t0 t1 t2
 clear hown2 hgrow2 hb2 hbT2 hb02 hb01 hr1 hbT hrT hsT hG hGB hB1
 by_cases hq1 : 60 < q
 ·
  have hqI : (60 : Int) < (q : Int) := by omega
  have HRET : Hid (PlayedP q w (.returned (.tuple #[tval (.slice none 0 0) (.slice none 0 0), .slice (some ⟨G, 0, none⟩) 7 7, .bool false])) (((w2.setCell ⟨w.heap.size, 0, none⟩ (.slice none 0 0)).setCell ⟨w.heap.size, 1, none⟩ (.int .i64 24000)).setCell ⟨w.heap.size, 2, none⟩ (.slice none 0 0))) := by
   have hx := HX0.out.other (x := .slice none 0 0) (y := .int .i64 24000) (u := .slice none 0 0) HR0.out (by have := HBZ.out; omega)
   refine ⟨_, _, G, [], [], by rw [decide_eq_false (by omega)], pl_mono se.pl_nil (by omega), hx.ser, hx.rb, hx.rx, HC0.out.far3 HR0.out, ((HD0.out.setCell (Nat.le_refl _) _).setCell (Nat.le_refl _) _).setCell (Nat.le_refl _) _⟩
  go_wp2
  refine bodyPost_ret (v := .tuple #[tval (.slice none 0 0) (.slice none 0 0), .slice (some ⟨G, 0, none⟩) 7 7, .bool false]) (by simp [results, Try.results6, go_sem, r0, r1, r2, tval]) rfl ?_
  exact HRET.out
 have hqI : ¬ (60 : Int) < (q : Int) := by omega
 clear r0 r1 r2 f0 f1 f2
 go_wp2
 clear t0 t1 t2
 rw [← HB1.out]
 go_loopw [28] (fun i wr => ∃ (k : Nat) (S : List tb.Sym) (R : List se.Row) (x1 x2 : Option Addr) (y1 z1 y2 z2 : Nat), i = .int .i64 k ∧ k ≤ q ∧ Hid (se.Pl k S R) ∧ Hid (Xt G S R (.slice x1 y1 z1) (.slice x2 y2 z2) B1 wr) ∧ Hid (Ct w.heap.size G (cnl (cn R)) wr) ∧ Hid (wr.heap[w.heap.size]? = some (.cells #[.slice none 0 0, .int .i64 0, .slice none 0 0] 28 (0, 0))) ∧ Hid (Below w.heap.size w wr)) (fun i _ => q - (intOf i).toNat)
 case atStart => exact ⟨0, _, _, _, _, _, _, _, _, rfl, by omega, se.pl_nil, HX0.out, HC0.out, HR0.out, HD0.out⟩
 case round =>
  clear HX0 HC0 HR0 HD0
  obtain ⟨k, S, R, x1, x2, y1, z1, y2, z2, rfl, hk, HPL, HT, HCT, HR, HD⟩ := hrel
  by_cases hlt : k < q
  ·
   have hkI : (k : Int) < (q : Int) := by omega
   obtain ⟨b, off, rfl, hB, hcl, _, _⟩ := KInts.get HC.out HQ.out hlt
   have hbl := HD.out
   have e0 := (hbl.cell (p := ⟨b, off + (k * 3 + 0), none⟩) hB).trans (hcl 0 (by decide))
   have e1 := (hbl.cell (p := ⟨b, off + (k * 3 + 1), none⟩) hB).trans (hcl 1 (by decide))
   have e2 := (hbl.cell (p := ⟨b, off + (k * 3 + 2), none⟩) hB).trans (hcl 2 (by decide))
   obtain ⟨oK, hoK⟩ : ∃ x, x = (l.getD k []).getD 0 0 := ⟨_, rfl⟩
   obtain ⟨oA, hoA⟩ : ∃ x, x = (l.getD k []).getD 1 0 := ⟨_, rfl⟩
   obtain ⟨oB, hoB⟩ : ∃ x, x = (l.getD k []).getD 2 0 := ⟨_, rfl⟩
   rw [← hoK] at e0
   rw [← hoA] at e1
   rw [← hoB] at e2
   replace e0 : wr.cell? ⟨b, off + k * 3, none⟩ = some (.int .i64 oK) := e0
   replace e1 : wr.cell? ⟨b, off + k * 3 + 1, none⟩ = some (.int .i64 oA) := e1
   replace e2 : wr.cell? ⟨b, off + k * 3 + 2, none⟩ = some (.int .i64 oB) := e2
   have hrz : w.heap.size < wr.heap.size := (Array.getElem?_eq_some_iff.1 HR.out).1
   obtain ⟨WP, hWP⟩ : ∃ W, W = (wr.alloc (.cells #[.int .i64 oK, .int .i64 oA, .int .i64 oB] 58)) := ⟨_, rfl⟩
   have hA1 : Below wr.heap.size wr WP := by rw [hWP]; exact (Below.refl _ _).alloc (Nat.le_refl _) _
   have hop : WP.heap[wr.heap.size]? = some (.cells #[.int .i64 oK, .int .i64 oA, .int .i64 oB] 58 (0, 0)) := by rw [hWP]; exact heap_new _ _ _
   have HTP := Lib.hid (HT.out.step hA1)
   have HCP := Lib.hid (HCT.out.step hA1)
   have HRP := Lib.hid (heap_keep hA1 HR.out)
   have HDP := Lib.hid (HD.out.trans (hA1.mono HD.out.size))
   have HGP : Hid (G < WP.heap.size) := HCP.out.lt.2
   have HOP := Lib.hid hop
   have HWP := Lib.hid hWP
   have hBr : B1 < wr.heap.size := HT.out.lt
   obtain ⟨⟨t0, t1, t2⟩, _⟩ := HTP.out.cell
   rw [hWP] at t0 t1 t2
   clear HT HCT HR HD hcl hoK hoA hoB hA1 hop hWP hbl
   by_cases h1 : oK = 1
   ·
    subst h1
    have HTXT := Lib.hid (stext_any oB S R (.slice x1 y1 z1) (.slice x2 y2 z2) WP HPL.out.ok HTP.out.ser)
    unfold STextP at HTXT
    have HDC0 : Hid (∀ W, Xt G S R (.slice x1 y1 z1) (.slice x2 y2 z2) B1 W → Calls Try.prog 13 #[tval (.slice x1 y1 z1) (.slice x2 y2 z2), .int .i64 oB] W (SDropQ (se.drop S R oB) S R (.slice x2 y2 z2) W)) := fun W hx => sdrop_full oB S R _ _ W HPL.out.ok hx.ser
    have HP1 := Lib.hid (HPL.out.drop (id := oB))
    have HP3 : Hid (∀ j, j < 7 → cn (se.drop S R oB).2.1 j = if se.used R oB = true ∧ nam j = rtext R oB then cn R j - 1 else cn R j) := fun j hj => cn_drop HPL.out.ok hj
    have HP2 : Hid ((se.drop S R oB).2.2 = if se.used R oB = true then 0 else 5) := drop_code5 S R oB
    unfold SDropQ at HDC0
    obtain ⟨⟨S2, R2, code⟩, hrr⟩ : ∃ x, x = se.drop S R oB := ⟨_, rfl⟩
    obtain ⟨U, hU⟩ : ∃ x, x = se.used R oB := ⟨_, rfl⟩
    obtain ⟨s, hs⟩ : ∃ x, x = rtext R oB := ⟨_, rfl⟩
    rw [← hrr] at HDC0 HP1 HP2 HP3
    rw [← hU] at HTXT HP2 HP3
    rw [← hs] at HTXT HP3
    simp only at HDC0 HP1 HP2 HP3
    have HDC := HDC0
    clear hrr hU hs HDC0
    go_wp2_with fail
    rw [← HWP.out]
    (with_reducible refine HTXT.out.mono ?_)
    rintro e w3 ⟨rfl, hb3⟩
    have HT3 := Lib.hid (HTP.out.step hb3)
    have HC3 := Lib.hid (HCP.out.step hb3)
    have HR3 := Lib.hid (heap_keep hb3 HRP.out)
    have HO3 := Lib.hid (heap_keep hb3 HOP.out)
    have HD3 := Lib.hid (HDP.out.trans (hb3.mono HDP.out.size))
    have HD := Lib.hid (HDC.out _ HT3.out)
    clear hb3 t0 t1 t2 e0 e1 e2 HTP HCP HRP HDP HOP HWP HTXT HDC
    obtain ⟨⟨t0, t1, t2⟩, _⟩ := HT3.out.cell
    have o2 := row_cell HO3.out (j := 2) rfl
    go_wp2_with fail
    (with_reducible refine HD.out.mono ?_)
    rintro e w4 ⟨vs4, vr4, rfl, hs4, hb4, hr4, hx4⟩
    obtain ⟨p1, p2, p3, p4, p5, p6, rfl, rfl⟩ := hs4.vals
    have hrb4 := hr4 HT3.out.rb
    have hrx4 := hx4 _ HC3.out.lt.2 HT3.out.rx
    obtain ⟨WX, hWX⟩ : ∃ W, W = w4.alloc (.cells #[.slice p1 p2 p3, .int .i64 24000, .slice p4 p5 p6] 28) := ⟨_, rfl⟩
    have hbX : Below w4.heap.size w4 WX := by rw [hWX]; exact (Below.refl _ _).alloc (Nat.le_refl _) _
    have hb3X := hb4.trans (hbX.mono hb4.size)
    have HXX : Hid (Xt G S2 R2 (.slice p1 p2 p3) (.slice p4 p5 p6) w4.heap.size WX) := ⟨hs4.next hbX, hrb4.next hbX, hrx4.next hbX, by rw [hWX]; exact heap_new _ _ _⟩
    have HTX := Lib.hid (HT3.out.step hb3X)
    have HCX := Lib.hid (HC3.out.step hb3X)
    have HRX := Lib.hid (heap_keep hb3X HR3.out)
    have HDX := Lib.hid (HD3.out.trans (hb3X.mono HD3.out.size))
    obtain ⟨BX, hBX⟩ : ∃ B, B = w4.heap.size := ⟨_, rfl⟩
    rw [← hBX] at HXX
    have HBX := Lib.hid hBX
    have HWX := Lib.hid hWX
    have hB1z : ¬ B1 = w.heap.size := by have := HBZ.out; omega
    clear hs4 hr4 hx4 hrb4 hrx4 hWX hbX hb3X hb4 hBX HT3 HC3 HR3 HO3 HD3 HD o2 t0 t1 t2
    by_cases hUt : U = true
    ·
     obtain rfl : U = true := hUt
     obtain rfl : code = 0 := by have := HP2.out; rw [if_pos rfl] at this; exact this
     go_wp2_with fail
     rw [← HWX.out]
     (with_reducible refine (HNR.out _).mono ?_)
     rintro e w5 ⟨nb, rfl, hn5, hb5⟩
     have HT5 := Lib.hid (HTX.out.step hb5)
     have HX5 := Lib.hid (HXX.out.step hb5)
     have HC5 := Lib.hid (HCX.out.step hb5)
     have HR5 := Lib.hid (heap_keep hb5 HRX.out)
     have HD5 := Lib.hid (HDX.out.trans (hb5.mono HDX.out.size))
     have HN5 := Lib.hid hn5
     have HC50 : Hid (Ct w.heap.size G (cnl (fun i => if i < 0 then cn R2 i else cn R i)) w5) := by
      have e : cnl (fun i => if i < 0 then cn R2 i else cn R i) = cnl (cn R) := cnl_congr fun i _ => by rw [if_neg (by omega)]
      show Ct _ _ _ _
      rw [e]; exact HC5.out
     clear hn5 hb5 HTX HXX HCX HRX HDX HWX HC5
     go_wp2
     rw [← HBX.out]
     go_loopw [56] (fun i wx => ∃ j : Nat, i = .int .i64 j ∧ j ≤ 7 ∧ Hid (Xt G S R (.slice x1 y1 z1) (.slice x2 y2 z2) B1 wx) ∧ Hid (Xt G S2 R2 (.slice p1 p2 p3) (.slice p4 p5 p6) BX wx) ∧ Hid (Ct w.heap.size G (cnl (fun i => if i < j then cn R2 i else cn R i)) wx) ∧ Hid (wx.heap[w.heap.size]? = some (.cells #[.slice none 0 0, .int .i64 0, .slice none 0 0] 28 (0, 0))) ∧ Hid (wx.heap[nb]? = some (.cells (cl.strs NM).toArray 9 (0, 0))) ∧ Hid (Below w.heap.size w wx)) (fun i _ => 7 - (intOf i).toNat)
     case atStart => exact ⟨0, rfl, by omega, HT5.out, HX5.out, HC50.out, HR5.out, HN5.out, HD5.out⟩
     case round =>
      rename World => wx
      clear HT5 HX5 HC50 HR5 HN5 HD5
      obtain ⟨j, rfl, hj, HT, HX, HCT, HR, HN, HD⟩ := hrel
      by_cases hj7 : j < 7
      ·
       have hjI : (j : Int) < 7 := by omega
       have n0 := row_cell HN.out (nm_get hj7)
       by_cases he : nam j = s
       ·
        rw [he] at n0
        have HC1 := HCT.out.cell (cnl_get (fun i => if i < j then cn R2 i else cn R i) hj7)
        have hc0 : wx.cell? ⟨G, j, none⟩ = some (.int .i64 (cn R j)) := by
         simpa using HC1
        have hcf := HCT.out.free j
        have hcb := cn_bd HPL.out j
        have HJ2 : Hid (cn R2 j = cn R j - 1) := by show _ = _; rw [HP3.out j hj7]; simp [he]
        have HMS := Lib.hid (mid_step (f := cn R) (g := cn R2) (j := j))
        obtain ⟨c, hcc⟩ : ∃ x, x = cn R j := ⟨_, rfl⟩
        rw [← hcc] at hc0 hcb HJ2
        obtain ⟨y, hy⟩ : ∃ y, c - 1 = y := ⟨_, rfl⟩
        have hwy : wrap64 y = y := IntWalk.wrap64_in _ (by omega)
        have hwy2 : IntKind.i64.wrap y = y := IntWalk.i64_in _ (by omega)
        rw [hy] at HJ2
        have HT2 := Lib.hid (HT.out.cnt (i := j) (u := .int .i64 y) HCT.out)
        have HX2 := Lib.hid (HX.out.cnt (i := j) (u := .int .i64 y) HCT.out)
        have HC2 := Lib.hid (HCT.out.set (i := j) y)
        rw [← HJ2.out, ← HMS.out, HJ2.out] at HC2
        have HR2 : Hid ((wx.setCell ⟨G, j, none⟩ (.int .i64 y)).heap[w.heap.size]? = some (.cells #[.slice none 0 0, .int .i64 0, .slice none 0 0] 28 (0, 0))) := by
         show _ = _
         rw [heap_far (HCT.out.ne HR.out (by decide))]; exact HR.out
        have HN2 : Hid ((wx.setCell ⟨G, j, none⟩ (.int .i64 y)).heap[nb]? = some (.cells (cl.strs NM).toArray 9 (0, 0))) := by
         show _ = _
         rw [heap_far (HCT.out.ne HN.out (by decide))]; exact HN.out
        have HD2 := Lib.hid (HD.out.setCell (p := ⟨G, j, none⟩) HCT.out.lt.1 (.int .i64 y))
        clear HC1 hcc HJ2 HMS he HT HX HCT HR HN HD
        go_wp2
        go_roundw
        case rel => exact ⟨j + 1, by go_num, by omega, HT2.out, HX2.out, HC2.out, HR2.out, HN2.out, HD2.out⟩
        case measure => simp [intOf]; omega
       ·
        have hne1 := str_neT he
        have hne2 : ((nam j).toList == s.toList) = false := by simpa using hne1
        have HC2 : Hid (Ct w.heap.size G (cnl (fun i => if i < j + 1 then cn R2 i else cn R i)) wx) := by
         show Ct _ _ _ _
         rw [mid_same (show cn R2 j = cn R j by rw [HP3.out j hj7, if_neg (fun hh => he hh.2)])]; exact HCT.out
        go_wp2
        go_roundw
        case rel => exact ⟨j + 1, by go_num, by omega, HT.out, HX.out, HC2.out, HR.out, HN.out, HD.out⟩
        case measure => simp [intOf]; omega
      ·
       obtain rfl : j = 7 := by omega
       have HT7 := Lib.hid (HT.out.store HX.out)
       have HC7 := Lib.hid (HCT.out.far3 (x := .slice p1 p2 p3) (y := .int .i64 24000) (z := .slice p4 p5 p6) HT.out.row)
       have hcng : cnl (fun i => if i < 7 then cn R2 i else cn R i) = cnl (cn R2) := cnl_congr fun i hi => by rw [if_pos hi]
       rw [hcng] at HC7
       have HR7 : Hid ((((wx.setCell ⟨B1, 0, none⟩ (.slice p1 p2 p3)).setCell ⟨B1, 1, none⟩ (.int .i64 24000)).setCell ⟨B1, 2, none⟩ (.slice p4 p5 p6)).heap[w.heap.size]? = some (.cells #[.slice none 0 0, .int .i64 0, .slice none 0 0] 28 (0, 0))) := by
        show _ = _
        rw [set3_far hB1z]; exact HR.out
       have HD7 : Hid (Below w.heap.size w (((wx.setCell ⟨B1, 0, none⟩ (.slice p1 p2 p3)).setCell ⟨B1, 1, none⟩ (.int .i64 24000)).setCell ⟨B1, 2, none⟩ (.slice p4 p5 p6))) :=
        ((HD.out.setCell (Nat.le_of_lt HBZ.out) _).setCell (Nat.le_of_lt HBZ.out) _).setCell (Nat.le_of_lt HBZ.out) _
       obtain ⟨⟨k0, k1, k2⟩, _⟩ := HX.out.cell
       obtain ⟨⟨t0, t1, t2⟩, ⟨u0, u1, u2⟩⟩ := HT.out.cell
       have hP1 := HP1.out
       clear hcng HX HT HCT HR HD HN
       go_wp2
       go_roundw
       case rel => exact ⟨k + 1, _, _, _, _, _, _, _, _, by go_num, by omega, hP1, HT7.out, HC7.out, HR7.out, HD7.out⟩
       case measure => simp [intOf]; omega
    ·
     obtain rfl : U = false := by simpa using hUt
     obtain rfl : code = 5 := by have := HP2.out; rw [if_neg (by decide)] at this; exact this
     go_wp2_with fail
     rw [← HWX.out]
     (with_reducible refine (HNR.out _).mono ?_)
     rintro e w5 ⟨nb, rfl, hn5, hb5⟩
     have HT5 := Lib.hid (HTX.out.step hb5)
     have HX5 := Lib.hid (HXX.out.step hb5)
     have HC5 := Lib.hid (HCX.out.step hb5)
     have HR5 := Lib.hid (heap_keep hb5 HRX.out)
     have HD5 := Lib.hid (HDX.out.trans (hb5.mono HDX.out.size))
     have HN5 := Lib.hid hn5
     have HC50 : Hid (Ct w.heap.size G (cnl (fun i => if i < 0 then cn R2 i else cn R i)) w5) := by
      have e : cnl (fun i => if i < 0 then cn R2 i else cn R i) = cnl (cn R) := cnl_congr fun i _ => by rw [if_neg (by omega)]
      show Ct _ _ _ _
      rw [e]; exact HC5.out
     clear hn5 hb5 HTX HXX HCX HRX HDX HWX HC5
     go_wp2
     rw [← HBX.out]
     go_loopw [56] (fun i wx => ∃ j : Nat, i = .int .i64 j ∧ j ≤ 7 ∧ Hid (Xt G S R (.slice x1 y1 z1) (.slice x2 y2 z2) B1 wx) ∧ Hid (Xt G S2 R2 (.slice p1 p2 p3) (.slice p4 p5 p6) BX wx) ∧ Hid (Ct w.heap.size G (cnl (fun i => if i < j then cn R2 i else cn R i)) wx) ∧ Hid (wx.heap[w.heap.size]? = some (.cells #[.slice none 0 0, .int .i64 0, .slice none 0 0] 28 (0, 0))) ∧ Hid (wx.heap[nb]? = some (.cells (cl.strs NM).toArray 9 (0, 0))) ∧ Hid (Below w.heap.size w wx)) (fun i _ => 7 - (intOf i).toNat)
     case atStart => exact ⟨0, rfl, by omega, HT5.out, HX5.out, HC50.out, HR5.out, HN5.out, HD5.out⟩
     case round =>
      rename World => wx
      clear HT5 HX5 HC50 HR5 HN5 HD5
      obtain ⟨j, rfl, hj, HT, HX, HCT, HR, HN, HD⟩ := hrel
      by_cases hj7 : j < 7
      ·
       have hjI : (j : Int) < 7 := by omega
       have n0 := row_cell HN.out (nm_get hj7)
       have HC2 : Hid (Ct w.heap.size G (cnl (fun i => if i < j + 1 then cn R2 i else cn R i)) wx) := by
        show Ct _ _ _ _
        rw [mid_same (show cn R2 j = cn R j by rw [HP3.out j hj7, if_neg (fun hh => Bool.false_ne_true hh.1)])]; exact HCT.out
       go_wp2
       go_roundw
       case rel => exact ⟨j + 1, by go_num, by omega, HT.out, HX.out, HC2.out, HR.out, HN.out, HD.out⟩
       case measure => simp [intOf]; omega
      ·
       obtain rfl : j = 7 := by omega
       have HT7 := Lib.hid (HT.out.store HX.out)
       have HC7 := Lib.hid (HCT.out.far3 (x := .slice p1 p2 p3) (y := .int .i64 24000) (z := .slice p4 p5 p6) HT.out.row)
       have hcng : cnl (fun i => if i < 7 then cn R2 i else cn R i) = cnl (cn R2) := cnl_congr fun i hi => by rw [if_pos hi]
       rw [hcng] at HC7
       have HR7 : Hid ((((wx.setCell ⟨B1, 0, none⟩ (.slice p1 p2 p3)).setCell ⟨B1, 1, none⟩ (.int .i64 24000)).setCell ⟨B1, 2, none⟩ (.slice p4 p5 p6)).heap[w.heap.size]? = some (.cells #[.slice none 0 0, .int .i64 0, .slice none 0 0] 28 (0, 0))) := by
        show _ = _
        rw [set3_far hB1z]; exact HR.out
       have HD7 : Hid (Below w.heap.size w (((wx.setCell ⟨B1, 0, none⟩ (.slice p1 p2 p3)).setCell ⟨B1, 1, none⟩ (.int .i64 24000)).setCell ⟨B1, 2, none⟩ (.slice p4 p5 p6))) :=
        ((HD.out.setCell (Nat.le_of_lt HBZ.out) _).setCell (Nat.le_of_lt HBZ.out) _).setCell (Nat.le_of_lt HBZ.out) _
       obtain ⟨⟨k0, k1, k2⟩, _⟩ := HX.out.cell
       obtain ⟨⟨t0, t1, t2⟩, ⟨u0, u1, u2⟩⟩ := HT.out.cell
       have hP1 := HP1.out
       clear hcng HX HT HCT HR HD HN
       go_wp2
       go_roundw
       case rel => exact ⟨k + 1, _, _, _, _, _, _, _, _, by go_num, by omega, hP1, HT7.out, HC7.out, HR7.out, HD7.out⟩
       case measure => simp [intOf]; omega
   ·
    have h1b : (oK == 1) = false := by simpa using h1
    obtain ⟨JJ, hJJ0, hJ7⟩ := u64_rem oA 7 (by decide)
    have hJe : (IntKind.u64.wrap oA).tmod 7 = (JJ : Int) := hJJ0
    have HJ7 := Lib.hid hJ7
    have hJi : IntKind.i64.wrap (JJ : Int) = (JJ : Int) := IntWalk.i64_in _ (by omega)
    have HPC0 : Hid (∀ W, Below w.heap.size w W → Xt G S R (.slice x1 y1 z1) (.slice x2 y2 z2) B1 W → Calls Try.prog 14 #[tval (.slice x1 y1 z1) (.slice x2 y2 z2), .string (nam JJ)] W (SPutQ (se.put S R (nres JJ)) S R (.slice x2 y2 z2) W)) := fun W hW hx => HPA.out JJ S R _ _ W HJ7.out hW HPL.out.ok hx.ser
    obtain ⟨HP1, HP2, HP3⟩ := pl_put HPL.out (by omega) hJ7
    have HP1 := Lib.hid HP1
    have HP2 := Lib.hid HP2
    have HP3 := Lib.hid HP3
    unfold SPutQ at HPC0
    obtain ⟨⟨S2, R2, num, code⟩, hrr⟩ : ∃ x, x = se.put S R (nres JJ) := ⟨_, rfl⟩
    rw [← hrr] at HPC0 HP1 HP2 HP3
    simp only at HPC0 HP1 HP2 HP3
    have HPC := HPC0
    clear hrr hJJ0 HPC0
    go_wp2
    rw [← HWP.out]
    refine wp_flowH 14 (fun kF => match kF with | 1 => 3 | 3 => 4 | 5 => 6 | 7 => 11 | 10 => 11 | _ => 1000) (fun ww => RowKit.Below WP.heap.size WP ww) (fun i w w' => if i = 11 then (fun (w w' : World) => ∃ g x y z, w' = ((w.setCell ⟨g, 0, none⟩ x).setCell ⟨g, 1, none⟩ y).setCell ⟨g, 2, none⟩ z ∧ WP.heap.size ≤ g ∧ ∃ a1 n1 c1 zz a2 n2 c2, w.heap[g]? = some (.cells #[.slice a1 n1 c1, .int .i64 zz, .slice a2 n2 c2] 28 (0, 0))) w w' else (fun (w w' : World) => RowKit.Below w.heap.size w w') w w') (fun sF wF => match sF with  | _ => True) (fun kF vF wF => match kF with | 0 => (vF = tval (.slice x1 y1 z1) (.slice x2 y2 z2)) | 1 => (∃ b, vF = .slice (some ⟨b, 0, none⟩) 7 7 ∧ wF.heap[b]? = some (.cells (cl.strs NM).toArray 9 (0, 0))) | 2 => (vF = .int .i64 (JJ : Int)) | 3 => (∃ b, vF = .pointer (some ⟨b, JJ, none⟩) ∧ wF.cell? ⟨b, JJ, none⟩ = some (.string (nam JJ)) ∧ b < wF.heap.size) | 4 => (vF = .string (nam JJ)) | 5 => (∃ vs' vr', vF = .tuple #[tval vs' vr', .int .i64 num, .int .i64 code] ∧ SerAt wF wF.heap.size vs' vr' S2 R2 ∧ RB wF vr' ∧ RX G S2 R2 wF vr') | 6 => (∃ vs' vr', vF = .tuple #[tval vs' vr', .int .i64 num, .int .i64 code] ∧ SerAt wF wF.heap.size vs' vr' S2 R2 ∧ RB wF vr' ∧ RX G S2 R2 wF vr') | 7 => (∃ vs' vr', vF = tval vs' vr' ∧ SerAt wF wF.heap.size vs' vr' S2 R2 ∧ RB wF vr' ∧ RX G S2 R2 wF vr') | 8 => (vF = .int .i64 num) | 9 => (vF = .int .i64 code) | 10 => (∃ g, vF = .pointer (some ⟨g, 0, none⟩) ∧ WP.heap.size ≤ g ∧ wF.heap[g]? = some (.cells #[.slice none 0 0, .int .i64 0, .slice none 0 0] 28 (0, 0))) | 11 => (True) | 12 => (vF = .int .i64 num) | 13 => (vF = .int .i64 code) | _ => True) (fun _ _ _ _ => True) (fun kF jF vF uF wF => if kF = 11 ∧ jF = 10 then (∃ g vs' vr', uF = .pointer (some ⟨g, 0, none⟩) ∧ WP.heap.size ≤ g ∧ Xt G S2 R2 vs' vr' g wF) else True) (by kernel_rfl) (by kernel_rfl) ?_ ?_ ?_ ?_ ?_ ?_ ?_ ?_
    ·
     exact (Below.refl _ _).drew
    ·
     intro sF hsF
     rcases (by omega : sF = 0 ∨ sF = 1 ∨ sF = 2 ∨ sF = 3 ∨ sF = 4 ∨ sF = 5 ∨ sF = 6 ∨ sF = 7 ∨ sF = 8 ∨ sF = 9 ∨ sF = 10 ∨ sF = 11 ∨ sF = 12 ∨ sF = 13) with rfl | rfl | rfl | rfl | rfl | rfl | rfl | rfl | rfl | rfl | rfl | rfl | rfl | rfl
     ·
      exact trivial
     ·
      exact trivial
     ·
      exact trivial
     ·
      exact trivial
     ·
      exact trivial
     ·
      exact trivial
     ·
      exact trivial
     ·
      exact trivial
     ·
      exact trivial
     ·
      exact trivial
     ·
      exact trivial
     ·
      exact trivial
     ·
      exact trivial
     ·
      exact trivial
    ·
     intro iF wF1 wF2 hR hT
     have hT : (fun i w w' => if i = 11 then (fun (w w' : World) => ∃ g x y z, w' = ((w.setCell ⟨g, 0, none⟩ x).setCell ⟨g, 1, none⟩ y).setCell ⟨g, 2, none⟩ z ∧ WP.heap.size ≤ g ∧ ∃ a1 n1 c1 zz a2 n2 c2, w.heap[g]? = some (.cells #[.slice a1 n1 c1, .int .i64 zz, .slice a2 n2 c2] 28 (0, 0))) w w' else (fun (w w' : World) => RowKit.Below w.heap.size w w') w w') iF wF1 wF2 := hT
     simp only at hT
     by_cases hi11 : iF = 11
     ·
      rw [if_pos hi11] at hT; (obtain ⟨g, x, y, z, rfl, hg, _⟩ := hT; exact ((hR.setCell hg _).setCell hg _).setCell hg _)
     rw [if_neg hi11] at hT
     exact hR.trans (hT.mono hR.size)
    ·
     intro sF hsF iF hiF hne hanc wF1 wF2 hRF hgF hT
     rcases (by omega : sF = 0 ∨ sF = 1 ∨ sF = 2 ∨ sF = 3 ∨ sF = 4 ∨ sF = 5 ∨ sF = 6 ∨ sF = 7 ∨ sF = 8 ∨ sF = 9 ∨ sF = 10 ∨ sF = 11 ∨ sF = 12 ∨ sF = 13) with rfl | rfl | rfl | rfl | rfl | rfl | rfl | rfl | rfl | rfl | rfl | rfl | rfl | rfl
     ·
      exact trivial
     ·
      exact trivial
     ·
      exact trivial
     ·
      exact trivial
     ·
      exact trivial
     ·
      exact trivial
     ·
      exact trivial
     ·
      exact trivial
     ·
      exact trivial
     ·
      exact trivial
     ·
      exact trivial
     ·
      exact trivial
     ·
      exact trivial
     ·
      exact trivial
    ·
     intro iF hiF jF hjF kF hkF hne hanc uF vF wF1 wF2 hp hT
     by_cases hij : iF = 11 ∧ jF = 10
     ·
      rw [if_pos hij] at hp ⊢
      obtain ⟨rfl, rfl⟩ := hij
      have hT : (fun i w w' => if i = 11 then (fun (w w' : World) => ∃ g x y z, w' = ((w.setCell ⟨g, 0, none⟩ x).setCell ⟨g, 1, none⟩ y).setCell ⟨g, 2, none⟩ z ∧ WP.heap.size ≤ g ∧ ∃ a1 n1 c1 zz a2 n2 c2, w.heap[g]? = some (.cells #[.slice a1 n1 c1, .int .i64 zz, .slice a2 n2 c2] 28 (0, 0))) w w' else (fun (w w' : World) => RowKit.Below w.heap.size w w') w w') kF wF1 wF2 := hT
      simp only at hT
      by_cases hi11 : kF = 11
      ·
       exact absurd hi11 hne
      rw [if_neg hi11] at hT
      obtain ⟨g, vs', vr', e, h1, h2⟩ := hp
      exact ⟨g, vs', vr', e, h1, h2.step hT⟩
     ·
      rw [if_neg hij]; trivial
    ·
     intro kF hkF iF hiF hne hdd hanc hdan vF wF1 wF2 h hT
     rcases (by omega : kF = 0 ∨ kF = 1 ∨ kF = 2 ∨ kF = 3 ∨ kF = 4 ∨ kF = 5 ∨ kF = 6 ∨ kF = 7 ∨ kF = 8 ∨ kF = 9 ∨ kF = 10 ∨ kF = 11 ∨ kF = 12 ∨ kF = 13) with rfl | rfl | rfl | rfl | rfl | rfl | rfl | rfl | rfl | rfl | rfl | rfl | rfl | rfl
     ·
      exact h
     ·
      have h : (∃ b, vF = .slice (some ⟨b, 0, none⟩) 7 7 ∧ wF1.heap[b]? = some (.cells (cl.strs NM).toArray 9 (0, 0))) := h
      show (∃ b, vF = .slice (some ⟨b, 0, none⟩) 7 7 ∧ wF2.heap[b]? = some (.cells (cl.strs NM).toArray 9 (0, 0)))
      have hT : (fun i w w' => if i = 11 then (fun (w w' : World) => ∃ g x y z, w' = ((w.setCell ⟨g, 0, none⟩ x).setCell ⟨g, 1, none⟩ y).setCell ⟨g, 2, none⟩ z ∧ WP.heap.size ≤ g ∧ ∃ a1 n1 c1 zz a2 n2 c2, w.heap[g]? = some (.cells #[.slice a1 n1 c1, .int .i64 zz, .slice a2 n2 c2] 28 (0, 0))) w w' else (fun (w w' : World) => RowKit.Below w.heap.size w w') w w') iF wF1 wF2 := hT
      simp only at hT
      by_cases hi11 : iF = 11
      ·
       subst hi11; exact (anc_no hdan (by kernel_rfl)).elim
      rw [if_neg hi11] at hT
      obtain ⟨b, e, h1⟩ := h
      exact ⟨b, e, heap_keep hT h1⟩
     ·
      exact h
     ·
      have h : (∃ b, vF = .pointer (some ⟨b, JJ, none⟩) ∧ wF1.cell? ⟨b, JJ, none⟩ = some (.string (nam JJ)) ∧ b < wF1.heap.size) := h
      show (∃ b, vF = .pointer (some ⟨b, JJ, none⟩) ∧ wF2.cell? ⟨b, JJ, none⟩ = some (.string (nam JJ)) ∧ b < wF2.heap.size)
      have hT : (fun i w w' => if i = 11 then (fun (w w' : World) => ∃ g x y z, w' = ((w.setCell ⟨g, 0, none⟩ x).setCell ⟨g, 1, none⟩ y).setCell ⟨g, 2, none⟩ z ∧ WP.heap.size ≤ g ∧ ∃ a1 n1 c1 zz a2 n2 c2, w.heap[g]? = some (.cells #[.slice a1 n1 c1, .int .i64 zz, .slice a2 n2 c2] 28 (0, 0))) w w' else (fun (w w' : World) => RowKit.Below w.heap.size w w') w w') iF wF1 wF2 := hT
      simp only at hT
      by_cases hi11 : iF = 11
      ·
       subst hi11; exact (anc_no hdan (by kernel_rfl)).elim
      rw [if_neg hi11] at hT
      obtain ⟨b, e, h1, h2⟩ := h
      exact ⟨b, e, (hT.cell (p := ⟨b, JJ, none⟩) h2).trans h1, Nat.lt_of_lt_of_le h2 hT.size⟩
     ·
      exact h
     ·
      have h : (∃ vs' vr', vF = .tuple #[tval vs' vr', .int .i64 num, .int .i64 code] ∧ SerAt wF1 wF1.heap.size vs' vr' S2 R2 ∧ RB wF1 vr' ∧ RX G S2 R2 wF1 vr') := h
      show (∃ vs' vr', vF = .tuple #[tval vs' vr', .int .i64 num, .int .i64 code] ∧ SerAt wF2 wF2.heap.size vs' vr' S2 R2 ∧ RB wF2 vr' ∧ RX G S2 R2 wF2 vr')
      have hT : (fun i w w' => if i = 11 then (fun (w w' : World) => ∃ g x y z, w' = ((w.setCell ⟨g, 0, none⟩ x).setCell ⟨g, 1, none⟩ y).setCell ⟨g, 2, none⟩ z ∧ WP.heap.size ≤ g ∧ ∃ a1 n1 c1 zz a2 n2 c2, w.heap[g]? = some (.cells #[.slice a1 n1 c1, .int .i64 zz, .slice a2 n2 c2] 28 (0, 0))) w w' else (fun (w w' : World) => RowKit.Below w.heap.size w w') w w') iF wF1 wF2 := hT
      simp only at hT
      by_cases hi11 : iF = 11
      ·
       subst hi11; exact (anc_no hdan (by kernel_rfl)).elim
      rw [if_neg hi11] at hT
      obtain ⟨vs', vr', e, h1, h2, h3⟩ := h
      exact ⟨vs', vr', e, h1.next hT, h2.next hT, h3.next hT⟩
     ·
      have h : (∃ vs' vr', vF = .tuple #[tval vs' vr', .int .i64 num, .int .i64 code] ∧ SerAt wF1 wF1.heap.size vs' vr' S2 R2 ∧ RB wF1 vr' ∧ RX G S2 R2 wF1 vr') := h
      show (∃ vs' vr', vF = .tuple #[tval vs' vr', .int .i64 num, .int .i64 code] ∧ SerAt wF2 wF2.heap.size vs' vr' S2 R2 ∧ RB wF2 vr' ∧ RX G S2 R2 wF2 vr')
      have hT : (fun i w w' => if i = 11 then (fun (w w' : World) => ∃ g x y z, w' = ((w.setCell ⟨g, 0, none⟩ x).setCell ⟨g, 1, none⟩ y).setCell ⟨g, 2, none⟩ z ∧ WP.heap.size ≤ g ∧ ∃ a1 n1 c1 zz a2 n2 c2, w.heap[g]? = some (.cells #[.slice a1 n1 c1, .int .i64 zz, .slice a2 n2 c2] 28 (0, 0))) w w' else (fun (w w' : World) => RowKit.Below w.heap.size w w') w w') iF wF1 wF2 := hT
      simp only at hT
      by_cases hi11 : iF = 11
      ·
       rw [if_pos hi11] at hT
       obtain ⟨vs', vr', e, h1, h2, h3⟩ := h
       obtain ⟨gq, xx, yy, zz, rfl, _, _, _, _, _, _, _, _, hrow⟩ := hT
       obtain ⟨k1, k2, k3⟩ := off_keep (W' := (((wF1.setCell ⟨gq, 0, none⟩ xx).setCell ⟨gq, 1, none⟩ yy).setCell ⟨gq, 2, none⟩ zz)) ⟨h1, h2, h3⟩ (off_box hrow) (by rw [set3_size]; exact Nat.le_refl _) (fun b _ hb => set3_far hb.symm)
       exact ⟨vs', vr', e, k1, k2, k3⟩
      rw [if_neg hi11] at hT
      obtain ⟨vs', vr', e, h1, h2, h3⟩ := h
      exact ⟨vs', vr', e, h1.next hT, h2.next hT, h3.next hT⟩
     ·
      have h : (∃ vs' vr', vF = tval vs' vr' ∧ SerAt wF1 wF1.heap.size vs' vr' S2 R2 ∧ RB wF1 vr' ∧ RX G S2 R2 wF1 vr') := h
      show (∃ vs' vr', vF = tval vs' vr' ∧ SerAt wF2 wF2.heap.size vs' vr' S2 R2 ∧ RB wF2 vr' ∧ RX G S2 R2 wF2 vr')
      have hT : (fun i w w' => if i = 11 then (fun (w w' : World) => ∃ g x y z, w' = ((w.setCell ⟨g, 0, none⟩ x).setCell ⟨g, 1, none⟩ y).setCell ⟨g, 2, none⟩ z ∧ WP.heap.size ≤ g ∧ ∃ a1 n1 c1 zz a2 n2 c2, w.heap[g]? = some (.cells #[.slice a1 n1 c1, .int .i64 zz, .slice a2 n2 c2] 28 (0, 0))) w w' else (fun (w w' : World) => RowKit.Below w.heap.size w w') w w') iF wF1 wF2 := hT
      simp only at hT
      by_cases hi11 : iF = 11
      ·
       exact absurd hi11.symm hdd
      rw [if_neg hi11] at hT
      obtain ⟨vs', vr', e, h1, h2, h3⟩ := h
      exact ⟨vs', vr', e, h1.next hT, h2.next hT, h3.next hT⟩
     ·
      exact h
     ·
      exact h
     ·
      have h : (∃ g, vF = .pointer (some ⟨g, 0, none⟩) ∧ WP.heap.size ≤ g ∧ wF1.heap[g]? = some (.cells #[.slice none 0 0, .int .i64 0, .slice none 0 0] 28 (0, 0))) := h
      show (∃ g, vF = .pointer (some ⟨g, 0, none⟩) ∧ WP.heap.size ≤ g ∧ wF2.heap[g]? = some (.cells #[.slice none 0 0, .int .i64 0, .slice none 0 0] 28 (0, 0)))
      have hT : (fun i w w' => if i = 11 then (fun (w w' : World) => ∃ g x y z, w' = ((w.setCell ⟨g, 0, none⟩ x).setCell ⟨g, 1, none⟩ y).setCell ⟨g, 2, none⟩ z ∧ WP.heap.size ≤ g ∧ ∃ a1 n1 c1 zz a2 n2 c2, w.heap[g]? = some (.cells #[.slice a1 n1 c1, .int .i64 zz, .slice a2 n2 c2] 28 (0, 0))) w w' else (fun (w w' : World) => RowKit.Below w.heap.size w w') w w') iF wF1 wF2 := hT
      simp only at hT
      by_cases hi11 : iF = 11
      ·
       exact absurd hi11.symm hdd
      rw [if_neg hi11] at hT
      obtain ⟨g, e, h1, h2⟩ := h
      exact ⟨g, e, h1, heap_keep hT h2⟩
     ·
      exact h
     ·
      exact h
     ·
      exact h
    ·
     generalize hAF : fillOf _ _ _ = AF
     replace hAF := fun x => congrFun hAF x
     simp only [List.take_succ_cons, List.take_zero, fillOf, Act.put, List.setIfInBounds_toArray, List.set_cons_zero, List.set_cons_succ, Nat.reduceAdd, Nat.zero_add] at hAF
     refine FlowAllH.cons ?_ ?_
     ·
      intro xF w5 hR hg hd K hK
      clear hg
      clear hd
      simp only [← hAF, Act.put, List.setIfInBounds_toArray, List.set_cons_zero, List.set_cons_succ] at hK ⊢
      clear hAF
      try simp only [Nat.zero_add] at hK ⊢
      try simp only [Nat.reduceAdd] at hK ⊢
      obtain hbR := id hR
      obtain ⟨⟨k0, k1, k2⟩, _⟩ := (HTP.out.step hbR).cell
      rw [if_pos (by rfl)]
      go_simp
      exact hK.out _ _ (Below.refl _ _) (rfl) (fun _ _ _ => ⟨trivial, trivial⟩) (fun jF _ => Eq.mpr (if_neg (fun hh => absurd hh.1 (by decide))) trivial)
     refine FlowAllH.cons ?_ ?_
     ·
      intro xF w5 hR hg hd K hK
      clear hg
      clear hd
      simp only [← hAF, Act.put, List.setIfInBounds_toArray, List.set_cons_zero, List.set_cons_succ] at hK ⊢
      clear hAF
      try simp only [Nat.zero_add] at hK ⊢
      try simp only [Nat.reduceAdd] at hK ⊢
      obtain hbR := id hR
      rw [if_pos (by rfl)]
      go_simp
      (go_at_call 9; (with_reducible refine (HNR.out _).mono ?_); rintro e wK ⟨b, rfl, hs, hbK⟩)
      try go_wp2_with fail
      exact hK.out _ _ (hbK) (⟨_, rfl, hs⟩) (fun _ _ _ => ⟨trivial, trivial⟩) (fun jF _ => Eq.mpr (if_neg (fun hh => absurd hh.1 (by decide))) trivial)
     refine FlowAllH.cons ?_ ?_
     ·
      intro xF w5 hR hg hd K hK
      clear hg
      clear hd
      simp only [← hAF, Act.put, List.setIfInBounds_toArray, List.set_cons_zero, List.set_cons_succ] at hK ⊢
      clear hAF
      try simp only [Nat.zero_add] at hK ⊢
      try simp only [Nat.reduceAdd] at hK ⊢
      obtain hbR := id hR
      rw [if_pos (by rfl)]
      go_simp
      exact hK.out _ _ (Below.refl _ _) (rfl) (fun _ _ _ => ⟨trivial, trivial⟩) (fun jF _ => Eq.mpr (if_neg (fun hh => absurd hh.1 (by decide))) trivial)
     refine FlowAllH.cons ?_ ?_
     ·
      intro xF w5 hR hg hd K hK
      clear hg
      have dd1 : (∃ b, (xF 1) = .slice (some ⟨b, 0, none⟩) 7 7 ∧ w5.heap[b]? = some (.cells (cl.strs NM).toArray 9 (0, 0))) := hd 1 (by kernel_rfl)
      have dd2 : ((xF 2) = .int .i64 (JJ : Int)) := hd 2 (by kernel_rfl)
      clear hd
      simp only [← hAF, Act.put, List.setIfInBounds_toArray, List.set_cons_zero, List.set_cons_succ] at hK ⊢
      clear hAF
      try simp only [Nat.zero_add] at hK ⊢
      try simp only [Nat.reduceAdd] at hK ⊢
      try generalize xF 1 = yy1 at *
      try generalize xF 2 = yy2 at *
      obtain ⟨nb1, rfl, hn1⟩ := dd1
      obtain rfl := dd2
      obtain hbR := id hR
      have hJ7 := HJ7.out
      have hJi : (JJ : Int) < 7 := by omega
      have hJ0 : (0 : Int) ≤ (JJ : Int) := by omega
      rw [if_pos (by rfl)]
      go_simp
      exact hK.out _ _ (Below.refl _ _) (⟨_, rfl, row_cell hn1 (nm_get HJ7.out), (Array.getElem?_eq_some_iff.1 hn1).1⟩) (fun _ _ _ => ⟨trivial, trivial⟩) (fun jF _ => Eq.mpr (if_neg (fun hh => absurd hh.1 (by decide))) trivial)
     refine FlowAllH.cons ?_ ?_
     ·
      intro xF w5 hR hg hd K hK
      clear hg
      have dd3 : (∃ b, (xF 3) = .pointer (some ⟨b, JJ, none⟩) ∧ w5.cell? ⟨b, JJ, none⟩ = some (.string (nam JJ)) ∧ b < w5.heap.size) := hd 3 (by kernel_rfl)
      clear hd
      simp only [← hAF, Act.put, List.setIfInBounds_toArray, List.set_cons_zero, List.set_cons_succ] at hK ⊢
      clear hAF
      try simp only [Nat.zero_add] at hK ⊢
      try simp only [Nat.reduceAdd] at hK ⊢
      try generalize xF 3 = yy3 at *
      obtain ⟨nc3, rfl, hc3, hl3⟩ := dd3
      obtain hbR := id hR
      rw [if_pos (by rfl)]
      go_simp
      exact hK.out _ _ (Below.refl _ _) (rfl) (fun _ _ _ => ⟨trivial, trivial⟩) (fun jF _ => Eq.mpr (if_neg (fun hh => absurd hh.1 (by decide))) trivial)
     refine FlowAllH.cons ?_ ?_
     ·
      intro xF w5 hR hg hd K hK
      clear hg
      have dd0 : ((xF 0) = tval (.slice x1 y1 z1) (.slice x2 y2 z2)) := hd 0 (by kernel_rfl)
      have dd4 : ((xF 4) = .string (nam JJ)) := hd 4 (by kernel_rfl)
      clear hd
      simp only [← hAF, Act.put, List.setIfInBounds_toArray, List.set_cons_zero, List.set_cons_succ] at hK ⊢
      clear hAF
      try simp only [Nat.zero_add] at hK ⊢
      try simp only [Nat.reduceAdd] at hK ⊢
      try generalize xF 0 = yy0 at *
      try generalize xF 4 = yy4 at *
      obtain rfl := dd0
      obtain rfl := dd4
      obtain hbR := id hR
      rw [if_pos (by rfl)]
      go_simp
      (have HTX := Lib.hid (HTP.out.step hbR); have hbw := HDP.out.trans (hbR.mono HDP.out.size); go_at_call 14; (with_reducible refine (HPC.out _ hbw HTX.out).mono ?_); rintro e wK ⟨vs', vr', rfl, hs', hbK, hr', hx'⟩)
      try go_wp2_with fail
      exact hK.out _ _ (hbK) (⟨_, _, rfl, hs', hr' HTX.out.rb, hx' _ (Nat.lt_of_lt_of_le HGP.out hbR.size) HTX.out.rx⟩) (fun _ _ _ => ⟨trivial, trivial⟩) (fun jF _ => Eq.mpr (if_neg (fun hh => absurd hh.1 (by decide))) trivial)
     refine FlowAllH.cons ?_ ?_
     ·
      intro xF w5 hR hg hd K hK
      clear hg
      have dd5 : (∃ vs' vr', (xF 5) = .tuple #[tval vs' vr', .int .i64 num, .int .i64 code] ∧ SerAt w5 w5.heap.size vs' vr' S2 R2 ∧ RB w5 vr' ∧ RX G S2 R2 w5 vr') := hd 5 (by kernel_rfl)
      clear hd
      simp only [← hAF, Act.put, List.setIfInBounds_toArray, List.set_cons_zero, List.set_cons_succ] at hK ⊢
      clear hAF
      try simp only [Nat.zero_add] at hK ⊢
      try simp only [Nat.reduceAdd] at hK ⊢
      try generalize xF 5 = yy5 at *
      obtain ⟨vs5, vr5, rfl, hs5, hr5, hx5⟩ := dd5
      obtain hbR := id hR
      rw [if_pos (by rfl)]
      go_simp
      exact hK.out _ _ (Below.refl _ _) (⟨_, _, rfl, hs5, hr5, hx5⟩) (fun _ _ _ => ⟨trivial, trivial⟩) (fun jF _ => Eq.mpr (if_neg (fun hh => absurd hh.1 (by decide))) trivial)
     refine FlowAllH.cons ?_ ?_
     ·
      intro xF w5 hR hg hd K hK
      clear hg
      have dd6 : (∃ vs' vr', (xF 6) = .tuple #[tval vs' vr', .int .i64 num, .int .i64 code] ∧ SerAt w5 w5.heap.size vs' vr' S2 R2 ∧ RB w5 vr' ∧ RX G S2 R2 w5 vr') := hd 6 (by kernel_rfl)
      clear hd
      simp only [← hAF, Act.put, List.setIfInBounds_toArray, List.set_cons_zero, List.set_cons_succ] at hK ⊢
      clear hAF
      try simp only [Nat.zero_add] at hK ⊢
      try simp only [Nat.reduceAdd] at hK ⊢
      try generalize xF 6 = yy6 at *
      obtain ⟨vs6, vr6, rfl, hs6, hr6, hx6⟩ := dd6
      obtain hbR := id hR
      rw [if_pos (by rfl)]
      go_simp
      exact hK.out _ _ (Below.refl _ _) (⟨_, _, rfl, hs6, hr6, hx6⟩) (fun _ _ _ => ⟨trivial, trivial⟩) (fun jF _ => Eq.mpr (if_neg (fun hh => absurd hh.1 (by decide))) trivial)
     refine FlowAllH.cons ?_ ?_
     ·
      intro xF w5 hR hg hd K hK
      clear hg
      have dd6 : (∃ vs' vr', (xF 6) = .tuple #[tval vs' vr', .int .i64 num, .int .i64 code] ∧ SerAt w5 w5.heap.size vs' vr' S2 R2 ∧ RB w5 vr' ∧ RX G S2 R2 w5 vr') := hd 6 (by kernel_rfl)
      clear hd
      simp only [← hAF, Act.put, List.setIfInBounds_toArray, List.set_cons_zero, List.set_cons_succ] at hK ⊢
      clear hAF
      try simp only [Nat.zero_add] at hK ⊢
      try simp only [Nat.reduceAdd] at hK ⊢
      try generalize xF 6 = yy6 at *
      obtain ⟨vs6, vr6, rfl, hs6, hr6, hx6⟩ := dd6
      obtain hbR := id hR
      rw [if_pos (by rfl)]
      go_simp
      exact hK.out _ _ (Below.refl _ _) (rfl) (fun _ _ _ => ⟨trivial, trivial⟩) (fun jF _ => Eq.mpr (if_neg (fun hh => absurd hh.1 (by decide))) trivial)
     refine FlowAllH.cons ?_ ?_
     ·
      intro xF w5 hR hg hd K hK
      clear hg
      have dd6 : (∃ vs' vr', (xF 6) = .tuple #[tval vs' vr', .int .i64 num, .int .i64 code] ∧ SerAt w5 w5.heap.size vs' vr' S2 R2 ∧ RB w5 vr' ∧ RX G S2 R2 w5 vr') := hd 6 (by kernel_rfl)
      clear hd
      simp only [← hAF, Act.put, List.setIfInBounds_toArray, List.set_cons_zero, List.set_cons_succ] at hK ⊢
      clear hAF
      try simp only [Nat.zero_add] at hK ⊢
      try simp only [Nat.reduceAdd] at hK ⊢
      try generalize xF 6 = yy6 at *
      obtain ⟨vs6, vr6, rfl, hs6, hr6, hx6⟩ := dd6
      obtain hbR := id hR
      rw [if_pos (by rfl)]
      go_simp
      exact hK.out _ _ (Below.refl _ _) (rfl) (fun _ _ _ => ⟨trivial, trivial⟩) (fun jF _ => Eq.mpr (if_neg (fun hh => absurd hh.1 (by decide))) trivial)
     refine FlowAllH.cons ?_ ?_
     ·
      intro xF w5 hR hg hd K hK
      clear hg
      clear hd
      simp only [← hAF, Act.put, List.setIfInBounds_toArray, List.set_cons_zero, List.set_cons_succ] at hK ⊢
      clear hAF
      try simp only [Nat.zero_add] at hK ⊢
      try simp only [Nat.reduceAdd] at hK ⊢
      obtain hbR := id hR
      rw [if_pos (by rfl)]
      go_simp
      exact hK.out _ _ ((Below.refl _ _).alloc (Nat.le_refl _) _) (⟨_, rfl, hR.size, heap_new _ _ _⟩) (fun _ _ _ => ⟨trivial, trivial⟩) (fun jF _ => Eq.mpr (if_neg (fun hh => absurd hh.1 (by decide))) trivial)
     refine FlowAllH.cons ?_ ?_
     ·
      intro xF w5 hR hg hd K hK
      clear hg
      have dd7 : (∃ vs' vr', (xF 7) = tval vs' vr' ∧ SerAt w5 w5.heap.size vs' vr' S2 R2 ∧ RB w5 vr' ∧ RX G S2 R2 w5 vr') := hd 7 (by kernel_rfl)
      have dd10 : (∃ g, (xF 10) = .pointer (some ⟨g, 0, none⟩) ∧ WP.heap.size ≤ g ∧ w5.heap[g]? = some (.cells #[.slice none 0 0, .int .i64 0, .slice none 0 0] 28 (0, 0))) := hd 10 (by kernel_rfl)
      clear hd
      simp only [← hAF, Act.put] at hK ⊢
      clear hAF
      try simp only [Nat.zero_add] at hK ⊢
      try simp only [Nat.reduceAdd] at hK ⊢
      try generalize xF 7 = yy7 at *
      obtain ⟨vs7, vr7, rfl, hs7, hr7, hx7⟩ := dd7
      obtain ⟨g10, he10, hl10, hz10⟩ := dd10
      simp only [he10] at hK ⊢
      obtain hbR := id hR
      have k0 := row_cell hz10 (j := 0) rfl
      have k1 := row_cell hz10 (j := 1) rfl
      have k2 := row_cell hz10 (j := 2) rfl
      have f0 := row_free (j := 0) hz10
      have f1 := row_free (j := 1) hz10
      have f2 := row_free (j := 2) hz10
      have HZ10 := Lib.hid hz10
      obtain ⟨p1, p2, p3, p4, p5, p6, rfl, rfl⟩ := hs7.vals
      rw [if_pos (by rfl)]
      go_simp
      exact hK.out undef _ (⟨_, _, _, _, rfl, hl10, _, _, _, _, _, _, _, HZ10.out⟩) (trivial) (fun _ _ _ => ⟨trivial, trivial⟩) (fun jF _ => by (show (if _ ∧ jF = 10 then _ else True)); split; (rename_i hh; obtain ⟨_, rfl⟩ := hh; exact ⟨_, _, _, he10, hl10, Xt.keep ⟨hs7, hr7, hx7⟩ (off_box HZ10.out) (by rw [set3_size]; exact Nat.le_refl _) (fun b _ hb => set3_far hb.symm) (set3_row HZ10.out)⟩); trivial)
     refine FlowAllH.cons ?_ ?_
     ·
      intro xF w5 hR hg hd K hK
      clear hg
      have dd8 : ((xF 8) = .int .i64 num) := hd 8 (by kernel_rfl)
      clear hd
      simp only [← hAF, Act.put, List.setIfInBounds_toArray, List.set_cons_zero, List.set_cons_succ] at hK ⊢
      clear hAF
      try simp only [Nat.zero_add] at hK ⊢
      try simp only [Nat.reduceAdd] at hK ⊢
      try generalize xF 8 = yy8 at *
      obtain rfl := dd8
      obtain hbR := id hR
      rw [if_pos (by rfl)]
      go_simp
      exact hK.out _ _ (Below.refl _ _) (rfl) (fun _ _ _ => ⟨trivial, trivial⟩) (fun jF _ => Eq.mpr (if_neg (fun hh => absurd hh.1 (by decide))) trivial)
     refine FlowAllH.cons ?_ ?_
     ·
      intro xF w5 hR hg hd K hK
      clear hg
      have dd9 : ((xF 9) = .int .i64 code) := hd 9 (by kernel_rfl)
      clear hd
      simp only [← hAF, Act.put, List.setIfInBounds_toArray, List.set_cons_zero, List.set_cons_succ] at hK ⊢
      clear hAF
      try simp only [Nat.zero_add] at hK ⊢
      try simp only [Nat.reduceAdd] at hK ⊢
      try generalize xF 9 = yy9 at *
      obtain rfl := dd9
      obtain hbR := id hR
      rw [if_pos (by rfl)]
      go_simp
      exact hK.out _ _ (Below.refl _ _) (rfl) (fun _ _ _ => ⟨trivial, trivial⟩) (fun jF _ => Eq.mpr (if_neg (fun hh => absurd hh.1 (by decide))) trivial)
     exact FlowAllH.nil
    intro xF w5 hR hF hP hW2
    have hpw := hW2 11 (by omega) 10 (by decide)
    rw [if_pos ⟨rfl, rfl⟩] at hpw
    clear hW2
    clear hP
    have dd0 : ((xF 0) = tval (.slice x1 y1 z1) (.slice x2 y2 z2)) := hF 0 (by omega) (by decide)
    have dd2 : ((xF 2) = .int .i64 (JJ : Int)) := hF 2 (by omega) (by decide)
    have dd4 : ((xF 4) = .string (nam JJ)) := hF 4 (by omega) (by decide)
    have dd6 : (∃ vs' vr', (xF 6) = .tuple #[tval vs' vr', .int .i64 num, .int .i64 code] ∧ SerAt w5 w5.heap.size vs' vr' S2 R2 ∧ RB w5 vr' ∧ RX G S2 R2 w5 vr') := hF 6 (by omega) (by decide)
    have dd8 : ((xF 8) = .int .i64 num) := hF 8 (by omega) (by decide)
    have dd9 : ((xF 9) = .int .i64 code) := hF 9 (by omega) (by decide)
    have dd11 : (True) := hF 11 (by omega) (by decide)
    have dd12 : ((xF 12) = .int .i64 num) := hF 12 (by omega) (by decide)
    have dd13 : ((xF 13) = .int .i64 code) := hF 13 (by omega) (by decide)
    clear hF
    simp only [List.take_succ_cons, List.take_zero, List.drop_succ_cons, List.drop_zero, fillOf, Act.put, List.setIfInBounds_toArray, List.set_cons_zero, List.set_cons_succ, Nat.reduceAdd, Nat.zero_add]
    try generalize xF 0 = yy0 at *
    try generalize xF 1 = yy1 at *
    try generalize xF 2 = yy2 at *
    try generalize xF 3 = yy3 at *
    try generalize xF 4 = yy4 at *
    try generalize xF 5 = yy5 at *
    try generalize xF 6 = yy6 at *
    try generalize xF 7 = yy7 at *
    try generalize xF 8 = yy8 at *
    try generalize xF 9 = yy9 at *
    try generalize xF 10 = yy10 at *
    try generalize xF 11 = yy11 at *
    try generalize xF 12 = yy12 at *
    try generalize xF 13 = yy13 at *
    clear xF
    obtain rfl := dd0
    obtain rfl := dd2
    obtain rfl := dd4
    obtain ⟨vs6, vr6, rfl, hs6, hr6, hx6⟩ := dd6
    obtain rfl := dd8
    obtain rfl := dd9
    have _ := dd11
    obtain rfl := dd12
    obtain rfl := dd13
    have hRE := Lib.hid hR
    clear hR
    obtain ⟨gx, vs5, vr5, rfl, hgx, hX⟩ := hpw
    have D5 := hRE.out
    have HX5 := Lib.hid hX
    have HT5 := Lib.hid (HTP.out.step D5)
    have HC5 := Lib.hid (HCP.out.step D5)
    have HR5 := Lib.hid (heap_keep D5 HRP.out)
    have HD5 := Lib.hid (HDP.out.trans (D5.mono HDP.out.size))
    obtain ⟨p1, p2, p3, p4, p5, p6, rfl, rfl⟩ := hX.ser.vals
    have hB1z : ¬ B1 = w.heap.size := by have := HBZ.out; omega
    clear hRE hX hgx D5 hs6 hr6 hx6 e0 e1 e2 t0 t1 t2 HTP HCP HRP HDP HOP HWP
    by_cases h6 : JJ < 6
    ·
     obtain rfl : code = 0 := by have := HP2.out; rw [if_pos h6] at this; exact this
     have h6I : (JJ : Int) < 6 := by omega
     have hc0 := HC5.out.cell (cnl_get (cn R) HJ7.out)
     have hcf := HC5.out.free JJ
     have hcb := cn_bd HPL.out JJ
     have HSET : Hid ((cnl (cn R)).set JJ (.int .i64 (cn R JJ + 1)) = cnl (cn R2)) := by
      show _ = _
      rw [cnl_set]
      refine cnl_congr fun i hi => ?_
      rw [HP3.out i]
      by_cases e : i = JJ
      ·
       rw [if_pos e, if_pos ⟨e, h6⟩]
      ·
       rw [if_neg e, if_neg (fun hh => e hh.1)]
     obtain ⟨c, hcc⟩ : ∃ x, x = cn R JJ := ⟨_, rfl⟩
     rw [← hcc] at hc0 hcb HSET
     obtain ⟨y, hy⟩ : ∃ y, c + 1 = y := ⟨_, rfl⟩
     have hwy : wrap64 y = y := IntWalk.wrap64_in _ (by omega)
     have hwy2 : IntKind.i64.wrap y = y := IntWalk.i64_in _ (by omega)
     rw [hy] at HSET
     have HX6 := Lib.hid (HX5.out.cnt (i := JJ) (u := .int .i64 y) HC5.out)
     have HT6 := Lib.hid (HT5.out.cnt (i := JJ) (u := .int .i64 y) HC5.out)
     have HC6 := Lib.hid (HC5.out.set (i := JJ) y)
     rw [HSET.out] at HC6
     have HT7 := Lib.hid (HT6.out.store HX6.out)
     have HC7 := Lib.hid (HC6.out.far3 (x := .slice p1 p2 p3) (y := .int .i64 24000) (z := .slice p4 p5 p6) HT6.out.row)
     have hGz : G ≠ w.heap.size := HC5.out.ne HR5.out (by decide)
     have HR7 : Hid (((((w5.setCell ⟨G, JJ, none⟩ (.int .i64 y)).setCell ⟨B1, 0, none⟩ (.slice p1 p2 p3)).setCell ⟨B1, 1, none⟩ (.int .i64 24000)).setCell ⟨B1, 2, none⟩ (.slice p4 p5 p6)).heap[w.heap.size]? = some (.cells #[.slice none 0 0, .int .i64 0, .slice none 0 0] 28 (0, 0))) := by
      show _ = _
      rw [set3_far hB1z, heap_far hGz]; exact HR5.out
     have HD7 : Hid (Below w.heap.size w ((((w5.setCell ⟨G, JJ, none⟩ (.int .i64 y)).setCell ⟨B1, 0, none⟩ (.slice p1 p2 p3)).setCell ⟨B1, 1, none⟩ (.int .i64 24000)).setCell ⟨B1, 2, none⟩ (.slice p4 p5 p6))) :=
      (((HD5.out.setCell HC5.out.lt.1 _).setCell (Nat.le_of_lt HBZ.out) _).setCell (Nat.le_of_lt HBZ.out) _).setCell (Nat.le_of_lt HBZ.out) _
     obtain ⟨⟨k0, k1, k2⟩, _⟩ := HX6.out.cell
     obtain ⟨⟨t0, t1, t2⟩, ⟨u0, u1, u2⟩⟩ := HT6.out.cell
     obtain ⟨_, ⟨v0, v1, v2⟩⟩ := HT5.out.cell
     have hP1 := HP1.out
     clear hcc HSET HX6 HT6 HC6 HX5 HT5 HC5 HR5 HD5 HP2 HP3
     go_wp2
     go_roundw
     case rel => exact ⟨k + 1, _, _, _, _, _, _, _, _, by go_num, by omega, hP1, HT7.out, HC7.out, HR7.out, HD7.out⟩
     case measure => simp [intOf]; omega
    ·
     obtain rfl : code = 8 := by have := HP2.out; rw [if_neg h6] at this; exact this
     have h6I : ¬ (JJ : Int) < 6 := by omega
     have HT7 := Lib.hid (HT5.out.store HX5.out)
     have HC7 := Lib.hid (HC5.out.far3 (x := .slice p1 p2 p3) (y := .int .i64 24000) (z := .slice p4 p5 p6) HT5.out.row)
     have hcng : cnl (cn R) = cnl (cn R2) := cnl_congr fun i _ => by rw [HP3.out i, if_neg (fun hh => h6 hh.2)]
     rw [hcng] at HC7
     have HR7 : Hid ((((w5.setCell ⟨B1, 0, none⟩ (.slice p1 p2 p3)).setCell ⟨B1, 1, none⟩ (.int .i64 24000)).setCell ⟨B1, 2, none⟩ (.slice p4 p5 p6)).heap[w.heap.size]? = some (.cells #[.slice none 0 0, .int .i64 0, .slice none 0 0] 28 (0, 0))) := by
      show _ = _
      rw [set3_far hB1z]; exact HR5.out
     have HD7 : Hid (Below w.heap.size w (((w5.setCell ⟨B1, 0, none⟩ (.slice p1 p2 p3)).setCell ⟨B1, 1, none⟩ (.int .i64 24000)).setCell ⟨B1, 2, none⟩ (.slice p4 p5 p6))) :=
      ((HD5.out.setCell (Nat.le_of_lt HBZ.out) _).setCell (Nat.le_of_lt HBZ.out) _).setCell (Nat.le_of_lt HBZ.out) _
     obtain ⟨⟨k0, k1, k2⟩, _⟩ := HX5.out.cell
     obtain ⟨⟨t0, t1, t2⟩, ⟨u0, u1, u2⟩⟩ := HT5.out.cell
     have hP1 := HP1.out
     clear hcng HX5 HT5 HC5 HR5 HD5 HP2 HP3
     go_wp2
     go_roundw
     case rel => exact ⟨k + 1, _, _, _, _, _, _, _, _, by go_num, by omega, hP1, HT7.out, HC7.out, HR7.out, HD7.out⟩
     case measure => simp [intOf]; omega
  ·
   obtain rfl : k = q := by omega
   have hne : w.heap.size ≠ B1 := by have := HBZ.out; omega
   have hne1 : ¬ w.heap.size = B1 := hne
   have hne2 : ¬ B1 = w.heap.size := fun e => hne e.symm
   obtain ⟨⟨t0, t1, t2⟩, _⟩ := HT.out.cell
   have r0 := row_cell HR.out (j := 0) rfl
   have r1 := row_cell HR.out (j := 1) rfl
   have r2 := row_cell HR.out (j := 2) rfl
   have f0 := row_free (j := 0) HR.out
   have f1 := row_free (j := 1) HR.out
   have f2 := row_free (j := 2) HR.out
   have HRET : Hid (PlayedP k w (.returned (.tuple #[tval (.slice x1 y1 z1) (.slice x2 y2 z2), .slice (some ⟨G, 0, none⟩) 7 7, .bool true])) (((wr.setCell ⟨w.heap.size, 0, none⟩ (.slice x1 y1 z1)).setCell ⟨w.heap.size, 1, none⟩ (.int .i64 24000)).setCell ⟨w.heap.size, 2, none⟩ (.slice x2 y2 z2))) := by
    have hx := HT.out.other (x := .slice x1 y1 z1) (y := .int .i64 24000) (u := .slice x2 y2 z2) HR.out hne
    exact ⟨_, _, G, S, R, by rw [decide_eq_true (by omega)], pl_mono HPL.out (by omega), hx.ser, hx.rb, hx.rx, HCT.out.far3 HR.out, ((HD.out.setCell (Nat.le_refl _) _).setCell (Nat.le_refl _) _).setCell (Nat.le_refl _) _⟩
   go_wp2
   refine bodyPost_ret (v := .tuple #[tval (.slice x1 y1 z1) (.slice x2 y2 z2), .slice (some ⟨G, 0, none⟩) 7 7, .bool true]) (by simp [results, Try.results6, go_sem, r0, r1, r2, tval]) rfl ?_
   exact HRET.out
end Go.Proofs.Ytegjpiggjcfoaaa
