/- texts put together: SerStays, Close. -/
import Derived.Test.YtegjpiggjcfoaaaPb15
import Derived.Test.YtegjpiggjcfoaaaPb16
import Derived.Carry
import Derived.Deep.DeepHandedRow
import Derived.JoinedCond
import Derived.Lib.LaidTab
import Derived.OpenShut
import Derived.ProofKit
import Derived.Test.YtegjpiggjcfoaaaRows
import Derived.WalkKit
namespace Go.Proofs.Ytegjpiggjcfoaaa
open Go Go.RowKit Go.ChangeShapes cl Go.Sort
theorem u64_mod (x : Int) (m : Nat) (hm : 0 < m) : ∃ J : Nat, (IntKind.u64.wrap x).tmod (m : Int) = (J : Int) ∧ J < m := by
 have h0 : 0 ≤ IntKind.u64.wrap x := by rw [IntKind.wrap_u64]; omega
 have h1 := Int.tmod_nonneg (m : Int) h0
 have h2 := Int.tmod_lt_of_pos (IntKind.u64.wrap x) (show (0 : Int) < m by omega)
 exact ⟨((IntKind.u64.wrap x).tmod (m : Int)).toNat, by omega, by omega⟩
theorem put_one (J : Nat) (h : J < 6) : se.put [] [] (nres J) = ((se.puts [] (se.texts (nlab J))).1, [(nlab J, 1)], 0, 0) := by
 have hn : nres J = (0, nlab J) := if_pos h
 rw [hn]
 refine se.put_first ?_
 rcases (by omega : J = 0 ∨ J = 1 ∨ J = 2 ∨ J = 3 ∨ J = 4 ∨ J = 5) with rfl | rfl | rfl | rfl | rfl | rfl <;> decide +kernel
set_option maxHeartbeats 6400000 in
set_option maxRecDepth 100000 in
theorem stays_any (l : List (List Int)) (which : Int) (v : Value) (w : World) (hm : MX w) (h : KInts 3 w w.heap.size v l) :
  Calls Try.prog 5 #[v, .int .i64 which] w (Said true w) := by
 have HAW : Hid (∀ W, Below w.heap.size w W → Calls Try.prog 7 #[] W (Said true W)) := fun W hW => awake_any W (hm.next hW)
 obtain ⟨q, hq⟩ : ∃ q, q = l.length := ⟨_, rfl⟩
 obtain ⟨so, sc, rfl, hqm⟩ : ∃ ao cap, v = .slice ao q cap ∧ q ≤ maxLen := by
  obtain ⟨ao, cap, e, _, hm⟩ := h.form
  exact ⟨ao, cap, by rw [hq]; exact e, by rw [hq]; exact hm⟩
 unfold maxLen at hqm
 have HC := Lib.hid h
 have HQ := Lib.hid hq
 have HNM : Hid (∀ W, Calls Try.prog 9 #[] W fun e w' => ∃ b, e = .returned (.slice (some ⟨b, 0, none⟩) 7 7) ∧ Strs w' w'.heap.size (.slice (some ⟨b, 0, none⟩) 7 7) NM ∧ Below W.heap.size W w') := names_any
 have HNEW : Hid (∀ W, Calls Try.prog 15 #[] W fun e w' => e = .returned (tval (.slice none 0 0) (.slice none 0 0)) ∧ Below W.heap.size W w') := snew_any
 clear h hq
 by_cases hq1 : 60 < q
 ·
  have hqI : (60 : Int) < (q : Int) := by omega
  go_enter Try.func5, Try.ntmps5
  go_wp2_with fail
  (with_reducible refine (HAW.out _ (Below.refl _ _)).mono ?_)
  rintro e w1 ⟨rfl, hb1⟩
  go_wp2
  go_ret
  exact ⟨rfl, hb1⟩
 have hqI : ¬ (60 : Int) < (q : Int) := by omega
 obtain ⟨J, hJe0, hJ6⟩ := u64_mod which 6 (by decide)
 have hJe : (IntKind.u64.wrap which).tmod 6 = (J : Int) := hJe0
 clear hJe0
 have hJi : (J : Int) < 7 := by omega
 have hJ6' : J < 6 := hJ6
 have P1 : Hid (∀ W, Below w.heap.size w W → Calls Try.prog 14 #[tval (.slice none 0 0) (.slice none 0 0), .string (nam J)] W (fun e w' => ∃ vs' vr', e = .returned (.tuple #[tval vs' vr', .int .i64 0, .int .i64 0]) ∧ SerAt w' w'.heap.size vs' vr' (se.puts [] (se.texts (nlab J))).1 [(nlab J, 1)] ∧ Below W.heap.size W w' ∧ (RB W (.slice none 0 0) → RB w' vr'))) := fun W hW => by
  have h := sput_any (nam J) (nres J) [] [] _ _ W (nam_is J (by omega)) (nam_max J) (hm.next hW) se.ok_nil (nil_ser W) (nres_canon J)
  rw [put_one J hJ6'] at h; exact h
 have HR0 : Hid (se.Ok (se.puts [] (se.texts (nlab J))).1 [(nlab J, 1)] ∧ se.Is [(nlab J, 1)] 0 (nlab J)) := by
  have h := se.ok_put (r := nres J) se.ok_nil (nres_canon J)
  rw [put_one J hJ6'] at h
  exact ⟨h, Nat.one_pos, (by show (0 : Int) < 1; decide), rfl⟩
 have HPA : Hid (∀ (j : Nat) S R vs vr W, j < 7 → Below w.heap.size w W → se.Ok S R → SerAt W W.heap.size vs vr S R → Calls Try.prog 14 #[tval vs vr, .string (nam j)] W (SPutP (se.put S R (nres j)) vr W)) := fun j S R vs vr W hj hW hok h0 =>
  sput_any (nam j) (nres j) S R vs vr W (nam_is j hj) (nam_max j) (hm.next hW) hok h0 (nres_canon j)
 have HFA : Hid (∀ S R vs vr W, Below w.heap.size w W → se.Ok S R → se.Is R 0 (nlab J) → SerAt W W.heap.size vs vr S R → Calls Try.prog 10 #[tval vs vr, .string (nam J)] W (fun e w' => e = .returned (.tuple #[.int .i64 0, .bool true]) ∧ Below W.heap.size W w')) := fun S R vs vr W hW hok hi h0 => by
  have h := sfind_any (nam J) (nres J) S R vs vr W (nam_is J (by omega)) (nam_max J) (hm.next hW) hok h0
  obtain ⟨f1, f2⟩ := hi.find hok
  unfold SFindP fnd at h
  have hn : nres J = (0, nlab J) := if_pos hJ6'
  rw [hn, if_pos ⟨rfl, f2⟩] at h
  simp only [f1] at h
  exact h
 clear hm
 go_enter Try.func5, Try.ntmps5
 go_wp2_with fail
 (with_reducible refine (HNM.out _).mono ?_)
 rintro e w1 ⟨nb, rfl, hn1, hb1⟩
 have HN1 := Lib.hid hn1
 have c0 := names_cell hn1 J (by omega)
 have HP1 := Lib.hid (P1.out)
 clear hn1
 go_wp2_with fail
 (with_reducible refine (HNEW.out _).mono ?_)
 rintro e w2 ⟨rfl, hb2⟩
 have hbw2 := hb1.trans (hb2.mono hb1.size)
 have HPW := Lib.hid (HP1.out w2 hbw2)
 clear c0
 go_wp2_with fail
 (with_reducible refine HPW.out.mono ?_)
 rintro e wa ⟨vs1, vr1, rfl, hs1, hb3, hr1⟩
 have hbwa := hbw2.trans (hb3.mono hbw2.size)
 have HT1 := Lib.hid (Tv.start HR0.out.1 hs1 (hr1 (nil_rb _)) hbwa)
 obtain ⟨x1, y1, z1, x2, y2, z2, rfl, rfl⟩ := hs1.vals
 obtain ⟨B1, hB1⟩ : ∃ B, B = wa.heap.size := ⟨_, rfl⟩
 have HB := Lib.hid hB1
 rw [← hB1] at HT1
 have hB1l : w.heap.size ≤ B1 := HT1.out.low
 clear hs1 hr1 hb3 hB1 hb1 hb2 hbw2 hJe hJi
 go_wp2
 rw [← HB.out]
 go_loopw [36] (fun i wr => ∃ (k : Nat) (S : List tb.Sym) (R : List se.Row) (x1 x2 : Option Addr) (y1 z1 y2 z2 : Nat), i = .int .i64 k ∧ k ≤ q ∧ Hid (Tv w B1 S R (.slice x1 y1 z1) (.slice x2 y2 z2) wr) ∧ Hid (se.Is R 0 (nlab J))) (fun i _ => q - (intOf i).toNat)
 case atStart => exact ⟨0, _, _, x1, x2, y1, z1, y2, z2, rfl, by omega, HT1.out, HR0.out.2⟩
 case round =>
  clear HT1
  obtain ⟨k, S, R, x1, x2, y1, z1, y2, z2, rfl, hk, HT, HIS⟩ := hrel
  by_cases hlt : k < q
  ·
   have hkI : (k : Int) < (q : Int) := by omega
   obtain ⟨b, off, rfl, hB, hcl, _, _⟩ := KInts.get HC.out HQ.out hlt
   have hbl := HT.out.below
   have e0 := (hbl.cell (p := ⟨b, off + (k * 3 + 0), none⟩) hB).trans (hcl 0 (by decide))
   have e1 := (hbl.cell (p := ⟨b, off + (k * 3 + 1), none⟩) hB).trans (hcl 1 (by decide))
   have e2 := (hbl.cell (p := ⟨b, off + (k * 3 + 2), none⟩) hB).trans (hcl 2 (by decide))
   obtain ⟨oK, hoK⟩ : ∃ x, x = (l.getD k []).getD 0 0 := ⟨_, rfl⟩
   obtain ⟨oA, hoA⟩ : ∃ x, x = (l.getD k []).getD 1 0 := ⟨_, rfl⟩
   obtain ⟨oB, hoB⟩ : ∃ x, x = (l.getD k []).getD 2 0 := ⟨_, rfl⟩
   rw [← hoK] at e0
   rw [← hoA] at e1
   rw [← hoB] at e2
   replace e0 : wr.cell? ⟨b, off + k * 3, none⟩ = some (.int .i64 oK) := e0
   replace e1 : wr.cell? ⟨b, off + k * 3 + 1, none⟩ = some (.int .i64 oA) := e1
   replace e2 : wr.cell? ⟨b, off + k * 3 + 2, none⟩ = some (.int .i64 oB) := e2
   obtain ⟨⟨t0, t1, t2⟩, _⟩ := HT.out.cell
   have hB1r : B1 < wr.heap.size := HT.out.lt
   have hA1 : Below wr.heap.size wr (wr.alloc (.cells #[.int .i64 oK, .int .i64 oA, .int .i64 oB] 58)) := (Below.refl _ _).alloc (Nat.le_refl _) _
   have HT1 := Lib.hid (HT.out.step hA1)
   obtain ⟨⟨s0, s1, s2⟩, _⟩ := HT1.out.cell
   have HXP0 := Tv.start (w := w) HT1.out.ok HT1.out.ser HT1.out.rb HT1.out.below
   rw [World.size_alloc] at HXP0
   obtain ⟨WP, hWP⟩ : ∃ W, W = ((wr.alloc (.cells #[.int .i64 oK, .int .i64 oA, .int .i64 oB] 58)).alloc (.cells #[.slice x1 y1 z1, .int .i64 24000, .slice x2 y2 z2] 28)) := ⟨_, rfl⟩
   rw [← hWP] at HXP0
   have hA2 : Below wr.heap.size wr WP := by rw [hWP]; exact hA1.trans ((Below.refl _ _).alloc (by rw [World.size_alloc]; omega) _)
   have HTP := Lib.hid (HT.out.step hA2)
   have HXP := Lib.hid HXP0
   have hop : WP.heap[wr.heap.size]? = some (.cells #[.int .i64 oK, .int .i64 oA, .int .i64 oB] 58 (0, 0)) := by
    rw [hWP]
    exact heap_keep ((Below.refl _ _).alloc (Nat.le_refl _) _) (heap_new wr _ _)
   have HOP := Lib.hid hop
   have HNE : Hid (wr.heap.size + 1 ≠ B1) := by show ¬ _ = _; omega
   have HLX : Hid (w.heap.size ≤ wr.heap.size + 1) := HXP.out.low
   have HWP := Lib.hid hWP
   clear HT hcl hoK hoA hoB hA1 hA2 hop HXP0 hWP HT1
   by_cases h1 : oK = 1
   ·
    subst h1
    by_cases h0 : oB = 0
    ·
     subst h0
     go_wp2
     go_roundw
     case rel => exact ⟨k + 1, _, _, _, _, _, _, _, _, by go_num, by omega, by rw [← HWP.out]; exact HTP.out, HIS.out⟩
     case measure => simp [intOf]; omega
    ·
     have hb0 : (oB == 0) = false := by simpa using h0
     have HDC := Lib.hid (sdrop_any oB S R (.slice x1 y1 z1) (.slice x2 y2 z2) WP HTP.out.ok HTP.out.ser)
     have HOK2 : Hid (se.Ok (se.drop S R oB).1 (se.drop S R oB).2.1) := se.ok_drop HTP.out.ok
     have HI2 : Hid (se.Is (se.drop S R oB).2.1 0 (nlab J)) := HIS.out.drop h0
     have HCODE : Hid ((se.drop S R oB).2.2 = 0 ∨ ((se.drop S R oB).2.2 ≠ 0 ∧ (se.drop S R oB).1 = S ∧ (se.drop S R oB).2.1 = R)) := se.drop_code S R oB
     unfold SDropP at HDC
     obtain ⟨⟨S2, R2, code⟩, hrr⟩ : ∃ x, x = se.drop S R oB := ⟨_, rfl⟩
     rw [← hrr] at HDC HOK2 HI2 HCODE
     simp only at HDC HOK2 HI2 HCODE
     clear hrr
     go_wp2_with fail
     rw [← HWP.out]
     (with_reducible refine HDC.out.mono ?_)
     rintro e w4 ⟨vs4, vr4, rfl, hs4, hb4, hr4⟩
     have HT4 := Lib.hid (HTP.out.step hb4)
     have HX4 := Lib.hid (HXP.out.step hb4)
     obtain ⟨p1, p2, p3, p4, p5, p6, rfl, rfl⟩ := hs4.vals
     have HXT := Lib.hid (HX4.out.store HOK2.out hs4 (hr4 HTP.out.rb))
     have HTT := Lib.hid (HT4.out.other (x := .slice p1 p2 p3) (y := .int .i64 24000) (u := .slice p4 p5 p6) HX4.out.row HNE.out HLX.out)
     clear hs4 hr4 hb4 e0 e1 e2 s0 s1 s2 t0 t1 t2
     obtain ⟨⟨k0, k1, k2⟩, ⟨g0, g1, g2⟩⟩ := HX4.out.cell
     obtain ⟨⟨t0, t1, t2⟩, ⟨u0, u1, u2⟩⟩ := HT4.out.cell
     have hn1 : ¬ wr.heap.size + 1 = B1 := HNE.out
     have hn2 : ¬ B1 = wr.heap.size + 1 := fun e => hn1 e.symm
     by_cases hc : code = 0
     ·
      subst hc
      have HT6 : Hid (Tv w B1 S2 R2 (.slice p1 p2 p3) (.slice p4 p5 p6) ((((((w4.setCell ⟨wr.heap.size + 1, 0, none⟩ (.slice p1 p2 p3)).setCell ⟨wr.heap.size + 1, 1, none⟩ (.int .i64 24000)).setCell ⟨wr.heap.size + 1, 2, none⟩ (.slice p4 p5 p6)).setCell ⟨B1, 0, none⟩ (.slice p1 p2 p3)).setCell ⟨B1, 1, none⟩ (.int .i64 24000)).setCell ⟨B1, 2, none⟩ (.slice p4 p5 p6))) := HTT.out.store HXT.out.ok HXT.out.ser HXT.out.rb
      have HFC := Lib.hid (HFA.out _ _ _ _ _ HT6.out.below HT6.out.ok HI2.out HT6.out.ser)
      skip
      go_wp2_with fail
      (with_reducible refine HFC.out.mono ?_)
      rintro e w7 ⟨rfl, hb7⟩
      have HT7 := Lib.hid (HT6.out.step hb7)
      go_wp2
      go_roundw
      case rel => exact ⟨k + 1, _, _, _, _, _, _, _, _, by go_num, by omega, HT7.out, HI2.out⟩
      case measure => simp [intOf]; omega
     ·
      have hcn : (code != 0) = true := by simpa using hc
      obtain ⟨hS2, hR2⟩ : S2 = S ∧ R2 = R := by
       rcases HCODE.out with h1 | h1
       ·
        exact absurd h1 hc
       ·
        exact h1.2
      subst hS2
      subst hR2
      have HSM := Lib.hid (ssame_eq S2 R2 _ _ _ _ (((w4.setCell ⟨wr.heap.size + 1, 0, none⟩ (.slice p1 p2 p3)).setCell ⟨wr.heap.size + 1, 1, none⟩ (.int .i64 24000)).setCell ⟨wr.heap.size + 1, 2, none⟩ (.slice p4 p5 p6)) HXT.out.ser HTT.out.ser)
      go_wp2_with fail
      (with_reducible refine HSM.out.mono ?_)
      rintro e w6 ⟨rfl, hb6⟩
      replace HXT := Lib.hid (HXT.out.step hb6)
      replace HTT := Lib.hid (HTT.out.step hb6)
      clear k0 k1 k2 g0 g1 g2 t0 t1 t2 u0 u1 u2 HT4 HX4
      obtain ⟨⟨k0, k1, k2⟩, _⟩ := HXT.out.cell
      obtain ⟨⟨t0, t1, t2⟩, ⟨u0, u1, u2⟩⟩ := HTT.out.cell
      have HT6 : Hid (Tv w B1 S2 R2 (.slice p1 p2 p3) (.slice p4 p5 p6) (((w6.setCell ⟨B1, 0, none⟩ (.slice p1 p2 p3)).setCell ⟨B1, 1, none⟩ (.int .i64 24000)).setCell ⟨B1, 2, none⟩ (.slice p4 p5 p6))) := HTT.out.store HXT.out.ok HXT.out.ser HXT.out.rb
      have HFC := Lib.hid (HFA.out _ _ _ _ _ HT6.out.below HT6.out.ok HI2.out HT6.out.ser)
      skip
      go_wp2_with fail
      (with_reducible refine HFC.out.mono ?_)
      rintro e w7 ⟨rfl, hb7⟩
      have HT7 := Lib.hid (HT6.out.step hb7)
      go_wp2
      go_roundw
      case rel => exact ⟨k + 1, _, _, _, _, _, _, _, _, by go_num, by omega, HT7.out, HI2.out⟩
      case measure => simp [intOf]; omega
   ·
    have h1b : (oK == 1) = false := by simpa using h1
    obtain ⟨JJ, hJJ0, hJ7⟩ := u64_mod oA 7 (by decide)
    have HJE : Hid ((IntKind.u64.wrap oA).tmod 7 = (JJ : Int)) := hJJ0
    have HJ7 := Lib.hid hJ7
    have HPC0 : Hid (∀ W, Tv w B1 S R (.slice x1 y1 z1) (.slice x2 y2 z2) W → Calls Try.prog 14 #[tval (.slice x1 y1 z1) (.slice x2 y2 z2), .string (nam JJ)] W (SPutP (se.put S R (nres JJ)) (.slice x2 y2 z2) W)) := fun W hW => HPA.out JJ S R _ _ W HJ7.out hW.below hW.ok hW.ser
    have HOK2 : Hid (se.Ok (se.put S R (nres JJ)).1 (se.put S R (nres JJ)).2.1) := se.ok_put HTP.out.ok (nres_canon JJ)
    have HI2 : Hid (se.Is (se.put S R (nres JJ)).2.1 0 (nlab J)) := HIS.out.put HTP.out.ok
    have HCODE : Hid ((se.put S R (nres JJ)).2.2.2 = 0 ∨ ((se.put S R (nres JJ)).2.2.2 ≠ 0 ∧ (se.put S R (nres JJ)).1 = S ∧ (se.put S R (nres JJ)).2.1 = R)) := se.put_code S R (nres JJ)
    unfold SPutP at HPC0
    obtain ⟨⟨S2, R2, num, code⟩, hrr⟩ : ∃ x, x = se.put S R (nres JJ) := ⟨_, rfl⟩
    rw [← hrr] at HPC0 HOK2 HI2 HCODE
    simp only at HPC0 HOK2 HI2 HCODE
    have HPC := HPC0
    clear hrr hJJ0 hJ7 HPC0
    go_wp2
    rw [← HWP.out]
    refine wp_flowG 15 (fun kF => match kF with | 1 => 6 | 6 => 7 | 8 => 9 | 10 => 13 | _ => 1000) (fun ww => Tv w B1 S R (.slice x1 y1 z1) (.slice x2 y2 z2) ww ∧ ww.heap[wr.heap.size]? = some (.cells #[.int .i64 oK, .int .i64 oA, .int .i64 oB] 58 (0, 0))) (fun i w w' => if i = 13 then (fun (w w' : World) => ∃ x y z, w' = ((w.setCell ⟨wr.heap.size + 1, 0, none⟩ x).setCell ⟨wr.heap.size + 1, 1, none⟩ y).setCell ⟨wr.heap.size + 1, 2, none⟩ z ∧ ∃ a1 n1 c1 zz a2 n2 c2, w.heap[wr.heap.size + 1]? = some (.cells #[.slice a1 n1 c1, .int .i64 zz, .slice a2 n2 c2] 28 (0, 0))) w w' else (fun (w w' : World) => RowKit.Below w.heap.size w w') w w') (fun sF wF => match sF with | 13 => (Tv w (wr.heap.size + 1) S R (.slice x1 y1 z1) (.slice x2 y2 z2) wF) | _ => True) (fun kF vF wF => match kF with | 0 => (vF = tval (.slice x1 y1 z1) (.slice x2 y2 z2)) | 1 => (∃ b, vF = .slice (some ⟨b, 0, none⟩) 7 7 ∧ Strs wF wF.heap.size (.slice (some ⟨b, 0, none⟩) 7 7) NM) | 2 => (vF = .pointer (some ⟨wr.heap.size, 1, none⟩)) | 3 => (vF = .int .i64 oA) | 4 => (vF = .int .u64 (IntKind.u64.wrap oA)) | 5 => (vF = .int .u64 (JJ : Int)) | 6 => (∃ b, vF = .pointer (some ⟨b, JJ, none⟩) ∧ wF.cell? ⟨b, JJ, none⟩ = some (.string (nam (JJ))) ∧ b < wF.heap.size) | 7 => (vF = .string (nam JJ)) | 8 => (∃ vs' vr', vF = .tuple #[tval vs' vr', .int .i64 num, .int .i64 code] ∧ SerAt wF wF.heap.size vs' vr' S2 R2 ∧ RB wF vr') | 9 => (∃ vs' vr', vF = .tuple #[tval vs' vr', .int .i64 num, .int .i64 code] ∧ SerAt wF wF.heap.size vs' vr' S2 R2 ∧ RB wF vr') | 10 => (∃ vs' vr', vF = tval vs' vr' ∧ SerAt wF wF.heap.size vs' vr' S2 R2 ∧ RB wF vr') | 11 => (vF = .int .i64 num) | 12 => (vF = .int .i64 code) | 13 => (∃ vs' vr', Tv w (wr.heap.size + 1) S2 R2 vs' vr' wF) | 14 => (vF = .int .i64 code) | _ => True) (fun _ _ _ _ => True) (by kernel_rfl) (by kernel_rfl) ?_ ?_ ?_ ?_ ?_ ?_ ?_
    ·
     exact ⟨HTP.out.step ((Below.refl _ _).drew), heap_keep ((Below.refl _ _).drew) HOP.out⟩
    ·
     intro sF hsF
     rcases (by omega : sF = 0 ∨ sF = 1 ∨ sF = 2 ∨ sF = 3 ∨ sF = 4 ∨ sF = 5 ∨ sF = 6 ∨ sF = 7 ∨ sF = 8 ∨ sF = 9 ∨ sF = 10 ∨ sF = 11 ∨ sF = 12 ∨ sF = 13 ∨ sF = 14) with rfl | rfl | rfl | rfl | rfl | rfl | rfl | rfl | rfl | rfl | rfl | rfl | rfl | rfl | rfl
     ·
      exact trivial
     ·
      exact trivial
     ·
      exact trivial
     ·
      exact trivial
     ·
      exact trivial
     ·
      exact trivial
     ·
      exact trivial
     ·
      exact trivial
     ·
      exact trivial
     ·
      exact trivial
     ·
      exact trivial
     ·
      exact trivial
     ·
      exact trivial
     ·
      exact HXP.out.step ((Below.refl _ _).drew)
     ·
      exact trivial
    ·
     intro iF wF1 wF2 hR hT
     have hT : (fun i w w' => if i = 13 then (fun (w w' : World) => ∃ x y z, w' = ((w.setCell ⟨wr.heap.size + 1, 0, none⟩ x).setCell ⟨wr.heap.size + 1, 1, none⟩ y).setCell ⟨wr.heap.size + 1, 2, none⟩ z ∧ ∃ a1 n1 c1 zz a2 n2 c2, w.heap[wr.heap.size + 1]? = some (.cells #[.slice a1 n1 c1, .int .i64 zz, .slice a2 n2 c2] 28 (0, 0))) w w' else (fun (w w' : World) => RowKit.Below w.heap.size w w') w w') iF wF1 wF2 := hT
     simp only at hT
     by_cases hi13 : iF = 13
     ·
      rw [if_pos hi13] at hT; (obtain ⟨x, y, z, rfl, _, _, _, _, _, _, _, hrow⟩ := hT; exact ⟨hR.1.other hrow HNE.out HLX.out, by rw [set3_far (by omega)]; exact hR.2⟩)
     rw [if_neg hi13] at hT
     exact ⟨hR.1.step hT, heap_keep hT hR.2⟩
    ·
     intro sF hsF iF hiF hne hanc wF1 wF2 hRF hgF hT
     rcases (by omega : sF = 0 ∨ sF = 1 ∨ sF = 2 ∨ sF = 3 ∨ sF = 4 ∨ sF = 5 ∨ sF = 6 ∨ sF = 7 ∨ sF = 8 ∨ sF = 9 ∨ sF = 10 ∨ sF = 11 ∨ sF = 12 ∨ sF = 13 ∨ sF = 14) with rfl | rfl | rfl | rfl | rfl | rfl | rfl | rfl | rfl | rfl | rfl | rfl | rfl | rfl | rfl
     ·
      exact trivial
     ·
      exact trivial
     ·
      exact trivial
     ·
      exact trivial
     ·
      exact trivial
     ·
      exact trivial
     ·
      exact trivial
     ·
      exact trivial
     ·
      exact trivial
     ·
      exact trivial
     ·
      exact trivial
     ·
      exact trivial
     ·
      exact trivial
     ·
      have hg : (Tv w (wr.heap.size + 1) S R (.slice x1 y1 z1) (.slice x2 y2 z2) wF1) := hgF
      show (Tv w (wr.heap.size + 1) S R (.slice x1 y1 z1) (.slice x2 y2 z2) wF2)
      have hT : (fun i w w' => if i = 13 then (fun (w w' : World) => ∃ x y z, w' = ((w.setCell ⟨wr.heap.size + 1, 0, none⟩ x).setCell ⟨wr.heap.size + 1, 1, none⟩ y).setCell ⟨wr.heap.size + 1, 2, none⟩ z ∧ ∃ a1 n1 c1 zz a2 n2 c2, w.heap[wr.heap.size + 1]? = some (.cells #[.slice a1 n1 c1, .int .i64 zz, .slice a2 n2 c2] 28 (0, 0))) w w' else (fun (w w' : World) => RowKit.Below w.heap.size w w') w w') iF wF1 wF2 := hT
      simp only at hT
      by_cases hi13 : iF = 13
      ·
       exact absurd hi13.symm hne
      rw [if_neg hi13] at hT
      exact hg.step hT
     ·
      exact trivial
    ·
     intro kF hkF iF hiF hne hdd hanc hdan vF wF1 wF2 h hT
     rcases (by omega : kF = 0 ∨ kF = 1 ∨ kF = 2 ∨ kF = 3 ∨ kF = 4 ∨ kF = 5 ∨ kF = 6 ∨ kF = 7 ∨ kF = 8 ∨ kF = 9 ∨ kF = 10 ∨ kF = 11 ∨ kF = 12 ∨ kF = 13 ∨ kF = 14) with rfl | rfl | rfl | rfl | rfl | rfl | rfl | rfl | rfl | rfl | rfl | rfl | rfl | rfl | rfl
     ·
      exact h
     ·
      have h : (∃ b, vF = .slice (some ⟨b, 0, none⟩) 7 7 ∧ Strs wF1 wF1.heap.size (.slice (some ⟨b, 0, none⟩) 7 7) NM) := h
      show (∃ b, vF = .slice (some ⟨b, 0, none⟩) 7 7 ∧ Strs wF2 wF2.heap.size (.slice (some ⟨b, 0, none⟩) 7 7) NM)
      have hT : (fun i w w' => if i = 13 then (fun (w w' : World) => ∃ x y z, w' = ((w.setCell ⟨wr.heap.size + 1, 0, none⟩ x).setCell ⟨wr.heap.size + 1, 1, none⟩ y).setCell ⟨wr.heap.size + 1, 2, none⟩ z ∧ ∃ a1 n1 c1 zz a2 n2 c2, w.heap[wr.heap.size + 1]? = some (.cells #[.slice a1 n1 c1, .int .i64 zz, .slice a2 n2 c2] 28 (0, 0))) w w' else (fun (w w' : World) => RowKit.Below w.heap.size w w') w w') iF wF1 wF2 := hT
      simp only at hT
      by_cases hi13 : iF = 13
      ·
       subst hi13; exact (anc_no hdan (by kernel_rfl)).elim
      rw [if_neg hi13] at hT
      obtain ⟨b, e, h1⟩ := h
      exact ⟨b, e, Cells.next h1 hT⟩
     ·
      exact h
     ·
      exact h
     ·
      exact h
     ·
      exact h
     ·
      have h : (∃ b, vF = .pointer (some ⟨b, JJ, none⟩) ∧ wF1.cell? ⟨b, JJ, none⟩ = some (.string (nam (JJ))) ∧ b < wF1.heap.size) := h
      show (∃ b, vF = .pointer (some ⟨b, JJ, none⟩) ∧ wF2.cell? ⟨b, JJ, none⟩ = some (.string (nam (JJ))) ∧ b < wF2.heap.size)
      have hT : (fun i w w' => if i = 13 then (fun (w w' : World) => ∃ x y z, w' = ((w.setCell ⟨wr.heap.size + 1, 0, none⟩ x).setCell ⟨wr.heap.size + 1, 1, none⟩ y).setCell ⟨wr.heap.size + 1, 2, none⟩ z ∧ ∃ a1 n1 c1 zz a2 n2 c2, w.heap[wr.heap.size + 1]? = some (.cells #[.slice a1 n1 c1, .int .i64 zz, .slice a2 n2 c2] 28 (0, 0))) w w' else (fun (w w' : World) => RowKit.Below w.heap.size w w') w w') iF wF1 wF2 := hT
      simp only at hT
      by_cases hi13 : iF = 13
      ·
       subst hi13; exact (anc_no hdan (by kernel_rfl)).elim
      rw [if_neg hi13] at hT
      obtain ⟨b, e, h1, h2⟩ := h
      exact ⟨b, e, (hT.cell (p := ⟨b, JJ, none⟩) h2).trans h1, Nat.lt_of_lt_of_le h2 hT.size⟩
     ·
      exact h
     ·
      have h : (∃ vs' vr', vF = .tuple #[tval vs' vr', .int .i64 num, .int .i64 code] ∧ SerAt wF1 wF1.heap.size vs' vr' S2 R2 ∧ RB wF1 vr') := h
      show (∃ vs' vr', vF = .tuple #[tval vs' vr', .int .i64 num, .int .i64 code] ∧ SerAt wF2 wF2.heap.size vs' vr' S2 R2 ∧ RB wF2 vr')
      have hT : (fun i w w' => if i = 13 then (fun (w w' : World) => ∃ x y z, w' = ((w.setCell ⟨wr.heap.size + 1, 0, none⟩ x).setCell ⟨wr.heap.size + 1, 1, none⟩ y).setCell ⟨wr.heap.size + 1, 2, none⟩ z ∧ ∃ a1 n1 c1 zz a2 n2 c2, w.heap[wr.heap.size + 1]? = some (.cells #[.slice a1 n1 c1, .int .i64 zz, .slice a2 n2 c2] 28 (0, 0))) w w' else (fun (w w' : World) => RowKit.Below w.heap.size w w') w w') iF wF1 wF2 := hT
      simp only at hT
      by_cases hi13 : iF = 13
      ·
       subst hi13; exact (anc_no hdan (by kernel_rfl)).elim
      rw [if_neg hi13] at hT
      obtain ⟨vs', vr', e, h1, h2⟩ := h
      exact ⟨vs', vr', e, h1.next hT, h2.next hT⟩
     ·
      have h : (∃ vs' vr', vF = .tuple #[tval vs' vr', .int .i64 num, .int .i64 code] ∧ SerAt wF1 wF1.heap.size vs' vr' S2 R2 ∧ RB wF1 vr') := h
      show (∃ vs' vr', vF = .tuple #[tval vs' vr', .int .i64 num, .int .i64 code] ∧ SerAt wF2 wF2.heap.size vs' vr' S2 R2 ∧ RB wF2 vr')
      have hT : (fun i w w' => if i = 13 then (fun (w w' : World) => ∃ x y z, w' = ((w.setCell ⟨wr.heap.size + 1, 0, none⟩ x).setCell ⟨wr.heap.size + 1, 1, none⟩ y).setCell ⟨wr.heap.size + 1, 2, none⟩ z ∧ ∃ a1 n1 c1 zz a2 n2 c2, w.heap[wr.heap.size + 1]? = some (.cells #[.slice a1 n1 c1, .int .i64 zz, .slice a2 n2 c2] 28 (0, 0))) w w' else (fun (w w' : World) => RowKit.Below w.heap.size w w') w w') iF wF1 wF2 := hT
      simp only at hT
      by_cases hi13 : iF = 13
      ·
       rw [if_pos hi13] at hT
       obtain ⟨vs', vr', e, h1, h2⟩ := h
       obtain ⟨xx, yy, zz, rfl, _, _, _, _, _, _, _, hrow⟩ := hT
       exact ⟨vs', vr', e, ser_off h1 h2 hrow (by rw [set3_size]; exact Nat.le_refl _) (fun b _ hb => set3_far hb.symm), rb_off h2 hrow (fun b _ hb => set3_far hb.symm)⟩
      rw [if_neg hi13] at hT
      obtain ⟨vs', vr', e, h1, h2⟩ := h
      exact ⟨vs', vr', e, h1.next hT, h2.next hT⟩
     ·
      have h : (∃ vs' vr', vF = tval vs' vr' ∧ SerAt wF1 wF1.heap.size vs' vr' S2 R2 ∧ RB wF1 vr') := h
      show (∃ vs' vr', vF = tval vs' vr' ∧ SerAt wF2 wF2.heap.size vs' vr' S2 R2 ∧ RB wF2 vr')
      have hT : (fun i w w' => if i = 13 then (fun (w w' : World) => ∃ x y z, w' = ((w.setCell ⟨wr.heap.size + 1, 0, none⟩ x).setCell ⟨wr.heap.size + 1, 1, none⟩ y).setCell ⟨wr.heap.size + 1, 2, none⟩ z ∧ ∃ a1 n1 c1 zz a2 n2 c2, w.heap[wr.heap.size + 1]? = some (.cells #[.slice a1 n1 c1, .int .i64 zz, .slice a2 n2 c2] 28 (0, 0))) w w' else (fun (w w' : World) => RowKit.Below w.heap.size w w') w w') iF wF1 wF2 := hT
      simp only at hT
      by_cases hi13 : iF = 13
      ·
       exact absurd hi13.symm hdd
      rw [if_neg hi13] at hT
      obtain ⟨vs', vr', e, h1, h2⟩ := h
      exact ⟨vs', vr', e, h1.next hT, h2.next hT⟩
     ·
      exact h
     ·
      exact h
     ·
      have h : (∃ vs' vr', Tv w (wr.heap.size + 1) S2 R2 vs' vr' wF1) := h
      show (∃ vs' vr', Tv w (wr.heap.size + 1) S2 R2 vs' vr' wF2)
      have hT : (fun i w w' => if i = 13 then (fun (w w' : World) => ∃ x y z, w' = ((w.setCell ⟨wr.heap.size + 1, 0, none⟩ x).setCell ⟨wr.heap.size + 1, 1, none⟩ y).setCell ⟨wr.heap.size + 1, 2, none⟩ z ∧ ∃ a1 n1 c1 zz a2 n2 c2, w.heap[wr.heap.size + 1]? = some (.cells #[.slice a1 n1 c1, .int .i64 zz, .slice a2 n2 c2] 28 (0, 0))) w w' else (fun (w w' : World) => RowKit.Below w.heap.size w w') w w') iF wF1 wF2 := hT
      simp only at hT
      by_cases hi13 : iF = 13
      ·
       exact absurd hi13.symm hne
      rw [if_neg hi13] at hT
      obtain ⟨vs', vr', h1⟩ := h
      exact ⟨vs', vr', h1.step hT⟩
     ·
      exact h
    ·
     generalize hAF : fillOf _ _ _ = AF
     replace hAF := fun x => congrFun hAF x
     simp only [List.take_succ_cons, List.take_zero, fillOf, Act.put, List.setIfInBounds_toArray, List.set_cons_zero, List.set_cons_succ, Nat.reduceAdd, Nat.zero_add] at hAF
     refine FlowAllG.cons ?_ ?_
     ·
      intro xF w5 hR hg hd K hK
      clear hg
      clear hd
      simp only [← hAF, Act.put, List.setIfInBounds_toArray, List.set_cons_zero, List.set_cons_succ] at hK ⊢
      clear hAF
      try simp only [Nat.zero_add] at hK ⊢
      try simp only [Nat.reduceAdd] at hK ⊢
      obtain hbR := id hR
      obtain ⟨⟨k0, k1, k2⟩, _⟩ := hbR.1.cell
      rw [if_pos (by rfl)]
      go_simp
      exact hK.out _ _ (Below.refl _ _) (rfl) (fun _ _ _ => ⟨trivial, trivial⟩)
     refine FlowAllG.cons ?_ ?_
     ·
      intro xF w5 hR hg hd K hK
      clear hg
      clear hd
      simp only [← hAF, Act.put, List.setIfInBounds_toArray, List.set_cons_zero, List.set_cons_succ] at hK ⊢
      clear hAF
      try simp only [Nat.zero_add] at hK ⊢
      try simp only [Nat.reduceAdd] at hK ⊢
      obtain hbR := id hR
      rw [if_pos (by rfl)]
      go_simp
      (go_at_call 9; (with_reducible refine (HNM.out _).mono ?_); rintro e wK ⟨b, rfl, hs, hbK⟩)
      try go_wp2_with fail
      exact hK.out _ _ (hbK) (⟨_, rfl, hs⟩) (fun _ _ _ => ⟨trivial, trivial⟩)
     refine FlowAllG.cons ?_ ?_
     ·
      intro xF w5 hR hg hd K hK
      clear hg
      clear hd
      simp only [← hAF, Act.put, List.setIfInBounds_toArray, List.set_cons_zero, List.set_cons_succ] at hK ⊢
      clear hAF
      try simp only [Nat.zero_add] at hK ⊢
      try simp only [Nat.reduceAdd] at hK ⊢
      obtain hbR := id hR
      rw [if_pos (by rfl)]
      go_simp
      exact hK.out _ _ (Below.refl _ _) (rfl) (fun _ _ _ => ⟨trivial, trivial⟩)
     refine FlowAllG.cons ?_ ?_
     ·
      intro xF w5 hR hg hd K hK
      clear hg
      have dd2 : ((xF 2) = .pointer (some ⟨wr.heap.size, 1, none⟩)) := hd 2 (by kernel_rfl)
      clear hd
      simp only [← hAF, Act.put, List.setIfInBounds_toArray, List.set_cons_zero, List.set_cons_succ] at hK ⊢
      clear hAF
      try simp only [Nat.zero_add] at hK ⊢
      try simp only [Nat.reduceAdd] at hK ⊢
      try generalize xF 2 = yy2 at *
      obtain rfl := dd2
      obtain hbR := id hR
      have k1 := row_cell hbR.2 (j := 1) rfl
      rw [if_pos (by rfl)]
      go_simp
      exact hK.out _ _ (Below.refl _ _) (rfl) (fun _ _ _ => ⟨trivial, trivial⟩)
     refine FlowAllG.cons ?_ ?_
     ·
      intro xF w5 hR hg hd K hK
      clear hg
      have dd3 : ((xF 3) = .int .i64 oA) := hd 3 (by kernel_rfl)
      clear hd
      simp only [← hAF, Act.put, List.setIfInBounds_toArray, List.set_cons_zero, List.set_cons_succ] at hK ⊢
      clear hAF
      try simp only [Nat.zero_add] at hK ⊢
      try simp only [Nat.reduceAdd] at hK ⊢
      try generalize xF 3 = yy3 at *
      obtain rfl := dd3
      obtain hbR := id hR
      rw [if_pos (by rfl)]
      go_simp
      exact hK.out _ _ (Below.refl _ _) (rfl) (fun _ _ _ => ⟨trivial, trivial⟩)
     refine FlowAllG.cons ?_ ?_
     ·
      intro xF w5 hR hg hd K hK
      clear hg
      have dd4 : ((xF 4) = .int .u64 (IntKind.u64.wrap oA)) := hd 4 (by kernel_rfl)
      clear hd
      simp only [← hAF, Act.put, List.setIfInBounds_toArray, List.set_cons_zero, List.set_cons_succ] at hK ⊢
      clear hAF
      try simp only [Nat.zero_add] at hK ⊢
      try simp only [Nat.reduceAdd] at hK ⊢
      try generalize xF 4 = yy4 at *
      obtain rfl := dd4
      obtain hbR := id hR
      have hJe := HJE.out
      rw [if_pos (by rfl)]
      go_simp
      exact hK.out _ _ (Below.refl _ _) (rfl) (fun _ _ _ => ⟨trivial, trivial⟩)
     refine FlowAllG.cons ?_ ?_
     ·
      intro xF w5 hR hg hd K hK
      clear hg
      have dd1 : (∃ b, (xF 1) = .slice (some ⟨b, 0, none⟩) 7 7 ∧ Strs w5 w5.heap.size (.slice (some ⟨b, 0, none⟩) 7 7) NM) := hd 1 (by kernel_rfl)
      have dd5 : ((xF 5) = .int .u64 (JJ : Int)) := hd 5 (by kernel_rfl)
      clear hd
      simp only [← hAF, Act.put, List.setIfInBounds_toArray, List.set_cons_zero, List.set_cons_succ] at hK ⊢
      clear hAF
      try simp only [Nat.zero_add] at hK ⊢
      try simp only [Nat.reduceAdd] at hK ⊢
      try generalize xF 1 = yy1 at *
      try generalize xF 5 = yy5 at *
      obtain ⟨nb1, rfl, hn1⟩ := dd1
      obtain rfl := dd5
      obtain hbR := id hR
      have hJ7 := HJ7.out
      have hJi : (JJ : Int) < 7 := by omega
      have hJ0 : (0 : Int) ≤ (JJ : Int) := by omega
      have hJn : (JJ : Int).toNat = JJ := Int.toNat_natCast _
      rw [if_pos (by rfl)]
      go_simp
      exact hK.out _ _ (Below.refl _ _) (⟨_, rfl, names_cell hn1 _ HJ7.out, names_lt hn1⟩) (fun _ _ _ => ⟨trivial, trivial⟩)
     refine FlowAllG.cons ?_ ?_
     ·
      intro xF w5 hR hg hd K hK
      clear hg
      have dd6 : (∃ b, (xF 6) = .pointer (some ⟨b, JJ, none⟩) ∧ w5.cell? ⟨b, JJ, none⟩ = some (.string (nam (JJ))) ∧ b < w5.heap.size) := hd 6 (by kernel_rfl)
      clear hd
      simp only [← hAF, Act.put, List.setIfInBounds_toArray, List.set_cons_zero, List.set_cons_succ] at hK ⊢
      clear hAF
      try simp only [Nat.zero_add] at hK ⊢
      try simp only [Nat.reduceAdd] at hK ⊢
      try generalize xF 6 = yy6 at *
      obtain ⟨nc6, rfl, hc6, hl6⟩ := dd6
      obtain hbR := id hR
      rw [if_pos (by rfl)]
      go_simp
      exact hK.out _ _ (Below.refl _ _) (rfl) (fun _ _ _ => ⟨trivial, trivial⟩)
     refine FlowAllG.cons ?_ ?_
     ·
      intro xF w5 hR hg hd K hK
      clear hg
      have dd0 : ((xF 0) = tval (.slice x1 y1 z1) (.slice x2 y2 z2)) := hd 0 (by kernel_rfl)
      have dd7 : ((xF 7) = .string (nam JJ)) := hd 7 (by kernel_rfl)
      clear hd
      simp only [← hAF, Act.put, List.setIfInBounds_toArray, List.set_cons_zero, List.set_cons_succ] at hK ⊢
      clear hAF
      try simp only [Nat.zero_add] at hK ⊢
      try simp only [Nat.reduceAdd] at hK ⊢
      try generalize xF 0 = yy0 at *
      try generalize xF 7 = yy7 at *
      obtain rfl := dd0
      obtain rfl := dd7
      obtain hbR := id hR
      rw [if_pos (by rfl)]
      go_simp
      (have HTX := Lib.hid hbR.1; go_at_call 14; (with_reducible refine (HPC.out _ HTX.out).mono ?_); rintro e wK ⟨vs', vr', rfl, hs', hbK, hr'⟩)
      try go_wp2_with fail
      exact hK.out _ _ (hbK) (⟨_, _, rfl, hs', hr' HTX.out.rb⟩) (fun _ _ _ => ⟨trivial, trivial⟩)
     refine FlowAllG.cons ?_ ?_
     ·
      intro xF w5 hR hg hd K hK
      clear hg
      have dd8 : (∃ vs' vr', (xF 8) = .tuple #[tval vs' vr', .int .i64 num, .int .i64 code] ∧ SerAt w5 w5.heap.size vs' vr' S2 R2 ∧ RB w5 vr') := hd 8 (by kernel_rfl)
      clear hd
      simp only [← hAF, Act.put, List.setIfInBounds_toArray, List.set_cons_zero, List.set_cons_succ] at hK ⊢
      clear hAF
      try simp only [Nat.zero_add] at hK ⊢
      try simp only [Nat.reduceAdd] at hK ⊢
      try generalize xF 8 = yy8 at *
      obtain ⟨vs8, vr8, rfl, hs8, hr8⟩ := dd8
      obtain hbR := id hR
      rw [if_pos (by rfl)]
      go_simp
      exact hK.out _ _ (Below.refl _ _) (⟨_, _, rfl, hs8, hr8⟩) (fun _ _ _ => ⟨trivial, trivial⟩)
     refine FlowAllG.cons ?_ ?_
     ·
      intro xF w5 hR hg hd K hK
      clear hg
      have dd9 : (∃ vs' vr', (xF 9) = .tuple #[tval vs' vr', .int .i64 num, .int .i64 code] ∧ SerAt w5 w5.heap.size vs' vr' S2 R2 ∧ RB w5 vr') := hd 9 (by kernel_rfl)
      clear hd
      simp only [← hAF, Act.put, List.setIfInBounds_toArray, List.set_cons_zero, List.set_cons_succ] at hK ⊢
      clear hAF
      try simp only [Nat.zero_add] at hK ⊢
      try simp only [Nat.reduceAdd] at hK ⊢
      try generalize xF 9 = yy9 at *
      obtain ⟨vs9, vr9, rfl, hs9, hr9⟩ := dd9
      obtain hbR := id hR
      rw [if_pos (by rfl)]
      go_simp
      exact hK.out _ _ (Below.refl _ _) (⟨_, _, rfl, hs9, hr9⟩) (fun _ _ _ => ⟨trivial, trivial⟩)
     refine FlowAllG.cons ?_ ?_
     ·
      intro xF w5 hR hg hd K hK
      clear hg
      have dd9 : (∃ vs' vr', (xF 9) = .tuple #[tval vs' vr', .int .i64 num, .int .i64 code] ∧ SerAt w5 w5.heap.size vs' vr' S2 R2 ∧ RB w5 vr') := hd 9 (by kernel_rfl)
      clear hd
      simp only [← hAF, Act.put, List.setIfInBounds_toArray, List.set_cons_zero, List.set_cons_succ] at hK ⊢
      clear hAF
      try simp only [Nat.zero_add] at hK ⊢
      try simp only [Nat.reduceAdd] at hK ⊢
      try generalize xF 9 = yy9 at *
      obtain ⟨vs9, vr9, rfl, hs9, hr9⟩ := dd9
      obtain hbR := id hR
      rw [if_pos (by rfl)]
      go_simp
      exact hK.out _ _ (Below.refl _ _) (rfl) (fun _ _ _ => ⟨trivial, trivial⟩)
     refine FlowAllG.cons ?_ ?_
     ·
      intro xF w5 hR hg hd K hK
      clear hg
      have dd9 : (∃ vs' vr', (xF 9) = .tuple #[tval vs' vr', .int .i64 num, .int .i64 code] ∧ SerAt w5 w5.heap.size vs' vr' S2 R2 ∧ RB w5 vr') := hd 9 (by kernel_rfl)
      clear hd
      simp only [← hAF, Act.put, List.setIfInBounds_toArray, List.set_cons_zero, List.set_cons_succ] at hK ⊢
      clear hAF
      try simp only [Nat.zero_add] at hK ⊢
      try simp only [Nat.reduceAdd] at hK ⊢
      try generalize xF 9 = yy9 at *
      obtain ⟨vs9, vr9, rfl, hs9, hr9⟩ := dd9
      obtain hbR := id hR
      rw [if_pos (by rfl)]
      go_simp
      exact hK.out _ _ (Below.refl _ _) (rfl) (fun _ _ _ => ⟨trivial, trivial⟩)
     refine FlowAllG.cons ?_ ?_
     ·
      intro xF w5 hR hg hd K hK
      have gg13 : (Tv w (wr.heap.size + 1) S R (.slice x1 y1 z1) (.slice x2 y2 z2) w5) := hg 13 (by omega) (by decide)
      clear hg
      have dd10 : (∃ vs' vr', (xF 10) = tval vs' vr' ∧ SerAt w5 w5.heap.size vs' vr' S2 R2 ∧ RB w5 vr') := hd 10 (by kernel_rfl)
      clear hd
      simp only [← hAF, Act.put] at hK ⊢
      clear hAF
      try simp only [Nat.zero_add] at hK ⊢
      try simp only [Nat.reduceAdd] at hK ⊢
      try generalize xF 10 = yy10 at *
      obtain ⟨vs10, vr10, rfl, hs10, hr10⟩ := dd10
      obtain hbR := id hR
      obtain ⟨⟨k0, k1, k2⟩, ⟨g0, g1, g2⟩⟩ := gg13.cell
      have HG13 := Lib.hid gg13
      obtain ⟨p1, p2, p3, p4, p5, p6, rfl, rfl⟩ := hs10.vals
      rw [if_pos (by rfl)]
      go_simp
      exact hK.out undef _ (⟨_, _, _, rfl, _, _, _, _, _, _, _, HG13.out.row⟩) (⟨_, _, Tv.store HG13.out HOK2.out hs10 hr10⟩) (fun _ _ _ => ⟨trivial, trivial⟩)
     refine FlowAllG.cons ?_ ?_
     ·
      intro xF w5 hR hg hd K hK
      clear hg
      have dd12 : ((xF 12) = .int .i64 code) := hd 12 (by kernel_rfl)
      clear hd
      simp only [← hAF, Act.put, List.setIfInBounds_toArray, List.set_cons_zero, List.set_cons_succ] at hK ⊢
      clear hAF
      try simp only [Nat.zero_add] at hK ⊢
      try simp only [Nat.reduceAdd] at hK ⊢
      try generalize xF 12 = yy12 at *
      obtain rfl := dd12
      obtain hbR := id hR
      rw [if_pos (by rfl)]
      go_simp
      exact hK.out _ _ (Below.refl _ _) (rfl) (fun _ _ _ => ⟨trivial, trivial⟩)
     exact FlowAllG.nil
    intro xF w5 hR hF hP
    clear hP
    have dd0 : ((xF 0) = tval (.slice x1 y1 z1) (.slice x2 y2 z2)) := hF 0 (by omega) (by decide)
    have dd2 : ((xF 2) = .pointer (some ⟨wr.heap.size, 1, none⟩)) := hF 2 (by omega) (by decide)
    have dd3 : ((xF 3) = .int .i64 oA) := hF 3 (by omega) (by decide)
    have dd4 : ((xF 4) = .int .u64 (IntKind.u64.wrap oA)) := hF 4 (by omega) (by decide)
    have dd5 : ((xF 5) = .int .u64 (JJ : Int)) := hF 5 (by omega) (by decide)
    have dd7 : ((xF 7) = .string (nam JJ)) := hF 7 (by omega) (by decide)
    have dd9 : (∃ vs' vr', (xF 9) = .tuple #[tval vs' vr', .int .i64 num, .int .i64 code] ∧ SerAt w5 w5.heap.size vs' vr' S2 R2 ∧ RB w5 vr') := hF 9 (by omega) (by decide)
    have dd11 : ((xF 11) = .int .i64 num) := hF 11 (by omega) (by decide)
    have dd12 : ((xF 12) = .int .i64 code) := hF 12 (by omega) (by decide)
    have dd13 : (∃ vs' vr', Tv w (wr.heap.size + 1) S2 R2 vs' vr' w5) := hF 13 (by omega) (by decide)
    have dd14 : ((xF 14) = .int .i64 code) := hF 14 (by omega) (by decide)
    clear hF
    simp only [List.take_succ_cons, List.take_zero, List.drop_succ_cons, List.drop_zero, fillOf, Act.put, List.setIfInBounds_toArray, List.set_cons_zero, List.set_cons_succ, Nat.reduceAdd, Nat.zero_add]
    try generalize xF 0 = yy0 at *
    try generalize xF 1 = yy1 at *
    try generalize xF 2 = yy2 at *
    try generalize xF 3 = yy3 at *
    try generalize xF 4 = yy4 at *
    try generalize xF 5 = yy5 at *
    try generalize xF 6 = yy6 at *
    try generalize xF 7 = yy7 at *
    try generalize xF 8 = yy8 at *
    try generalize xF 9 = yy9 at *
    try generalize xF 10 = yy10 at *
    try generalize xF 11 = yy11 at *
    try generalize xF 12 = yy12 at *
    try generalize xF 13 = yy13 at *
    try generalize xF 14 = yy14 at *
    clear xF
    obtain rfl := dd0
    obtain rfl := dd2
    obtain rfl := dd3
    obtain rfl := dd4
    obtain rfl := dd5
    obtain rfl := dd7
    obtain ⟨vs9, vr9, rfl, hs9, hr9⟩ := dd9
    obtain rfl := dd11
    obtain rfl := dd12
    obtain ⟨vs13, vr13, hT13⟩ := dd13
    obtain rfl := dd14
    have hRE := Lib.hid hR
    clear hR
    obtain ⟨p1, p2, p3, p4, p5, p6, rfl, rfl⟩ := hT13.ser.vals
    have HXT := Lib.hid hT13
    have HTT := Lib.hid hRE.out.1
    clear hRE hT13 hs9 hr9 e0 e1 e2 s0 s1 s2 t0 t1 t2
    obtain ⟨⟨k0, k1, k2⟩, ⟨g0, g1, g2⟩⟩ := HXT.out.cell
    obtain ⟨⟨t0, t1, t2⟩, ⟨u0, u1, u2⟩⟩ := HTT.out.cell
    have hn1 : ¬ wr.heap.size + 1 = B1 := HNE.out
    have hn2 : ¬ B1 = wr.heap.size + 1 := fun e => hn1 e.symm
    by_cases hc : code = 0
    ·
     subst hc
     have HT6 : Hid (Tv w B1 S2 R2 (.slice p1 p2 p3) (.slice p4 p5 p6) (((w5.setCell ⟨B1, 0, none⟩ (.slice p1 p2 p3)).setCell ⟨B1, 1, none⟩ (.int .i64 24000)).setCell ⟨B1, 2, none⟩ (.slice p4 p5 p6))) := HTT.out.store HXT.out.ok HXT.out.ser HXT.out.rb
     have HFC := Lib.hid (HFA.out _ _ _ _ _ HT6.out.below HT6.out.ok HI2.out HT6.out.ser)
     skip
     go_wp2_with fail
     (with_reducible refine HFC.out.mono ?_)
     rintro e w7 ⟨rfl, hb7⟩
     have HT7 := Lib.hid (HT6.out.step hb7)
     go_wp2
     go_roundw
     case rel => exact ⟨k + 1, _, _, _, _, _, _, _, _, by go_num, by omega, HT7.out, HI2.out⟩
     case measure => simp [intOf]; omega
    ·
     have hcn : (code != 0) = true := by simpa using hc
     obtain ⟨hS2, hR2⟩ : S2 = S ∧ R2 = R := by
      rcases HCODE.out with h1 | h1
      ·
       exact absurd h1 hc
      ·
       exact h1.2
     subst hS2
     subst hR2
     have HSM := Lib.hid (ssame_eq S2 R2 _ _ _ _ w5 HXT.out.ser HTT.out.ser)
     go_wp2_with fail
     (with_reducible refine HSM.out.mono ?_)
     rintro e w6 ⟨rfl, hb6⟩
     replace HXT := Lib.hid (HXT.out.step hb6)
     replace HTT := Lib.hid (HTT.out.step hb6)
     clear k0 k1 k2 g0 g1 g2 t0 t1 t2 u0 u1 u2
     obtain ⟨⟨k0, k1, k2⟩, _⟩ := HXT.out.cell
     obtain ⟨⟨t0, t1, t2⟩, ⟨u0, u1, u2⟩⟩ := HTT.out.cell
     have HT6 : Hid (Tv w B1 S2 R2 (.slice p1 p2 p3) (.slice p4 p5 p6) (((w6.setCell ⟨B1, 0, none⟩ (.slice p1 p2 p3)).setCell ⟨B1, 1, none⟩ (.int .i64 24000)).setCell ⟨B1, 2, none⟩ (.slice p4 p5 p6))) := HTT.out.store HXT.out.ok HXT.out.ser HXT.out.rb
     have HFC := Lib.hid (HFA.out _ _ _ _ _ HT6.out.below HT6.out.ok HI2.out HT6.out.ser)
     skip
     go_wp2_with fail
     (with_reducible refine HFC.out.mono ?_)
     rintro e w7 ⟨rfl, hb7⟩
     have HT7 := Lib.hid (HT6.out.step hb7)
     go_wp2
     go_roundw
     case rel => exact ⟨k + 1, _, _, _, _, _, _, _, _, by go_num, by omega, HT7.out, HI2.out⟩
     case measure => simp [intOf]; omega
  ·
   go_wp2_with fail
   (with_reducible refine (HAW.out _ HT.out.below).mono ?_)
   rintro e w3 ⟨rfl, hb3⟩
   have hfin := HT.out.below.trans (hb3.mono HT.out.below.size)
   go_wp2
   go_ret
   exact ⟨rfl, hfin⟩
end Go.Proofs.Ytegjpiggjcfoaaa
namespace Go.Proofs.Ytegjpiggjcfoaaa.close
open Go.RowKit Go.WideShapes Go.ChangeShapes
section
variable {H : Type} {enc : TypeId × Value → H} {P : Program}
theorem trodAll_stays (hl : laidOutB P = true) {W W' : World} (hb : Below W.heap.size W W') :
  ∀ (ts : List TypeId) (vs : List Value) (ds : List (DataW H)) (ps : List MemPlace), (∀ t ∈ ts, P.readableRec t = true ∧ t < P.types.size) → (∀ x ∈ ps, x.block < W.heap.size) →
   DataW.TrodAll enc P W 0 (fun _ => true) true ts vs ds ps → DataW.TrodAll enc P W' 0 (fun b => decide (b < W.heap.size)) true ts vs ds ps := by
 intro ts
 induction ts with
 | nil =>
  intro vs ds ps _ _ h
  obtain ⟨rfl, rfl, rfl⟩ := trodAll_nil h
  exact rfl
 | cons t ts ih =>
  intro vs ds ps ht hlt h
  obtain ⟨v, vs', d, ds', p, q, rfl, rfl, rfl, h0, r0⟩ := trodAll_cons h
  have h1 := ht t (List.mem_cons_self ..)
  exact ⟨p, q, Below.trod hl h1.1 h1.2 h0 hb (fun x hx => hlt x (List.mem_append_left _ hx)),
   ih _ _ _ (fun u hu => ht u (List.mem_cons_of_mem _ hu)) (fun x hx => hlt x (List.mem_append_right _ hx)) r0, rfl⟩
theorem law_post (hl : laidOutB P = true) {f : Func} {s : ChangeSpec} {apart fresh handsOn : Bool} {W W' : World} {args : Array Value} {ds gs : List (DataW H)} {before : List MemPlace} {tb : TypeId}
  (hts : ∀ t ∈ f.params.toList, P.readableRec t = true ∧ t < P.types.size) (hvars : s.vars = []) (hrt : f.resultTypes = #[tb]) (hb4 : P.underlying tb = some .bool)
  (hW : DataW.Whole enc P f.params.toList s.vars apart W args.toList ds gs before) (hs : s.fn H (ds ++ gs) = { results := [.lit (.bool true)], args := ds, vars := [] })
  (hb : Below W.heap.size W W') : s.post enc P f apart fresh handsOn false W args (.bool true) W' := by
 have hlt : ∀ p ∈ before, p.block < W.heap.size := fun p hp => hW.lt p hp
 have hW' := hW
 obtain ⟨p, q, hA, hV, rfl, _, _⟩ := hW'
 rw [hvars] at hV
 obtain ⟨rfl, rfl⟩ := trodVars_none hV
 refine ⟨ds, [], p ++ [], [], p, [], hW, ?_, ?_, ?_, World.keptBut_mono (fun x hx => ⟨hx, Or.inr (Or.inl (by simpa using hx))⟩) (hb.frame (· ∈ p ++ [])), fun h => by cases h⟩
 ·
  rw [hs, hrt]
  exact trodAll_cons_mk (shut_bool hb4 true) trodAll_mk0
 ·
  rw [hs]
  exact trodAll_stays hl hb _ _ _ _ hts (fun x hx => hlt x (List.mem_append_left _ hx)) hA
 ·
  rw [hs, hvars]
  exact rfl
end
end Go.Proofs.Ytegjpiggjcfoaaa.close
