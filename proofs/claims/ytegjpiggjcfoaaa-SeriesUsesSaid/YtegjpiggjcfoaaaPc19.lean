/- texts put together: SerUses, Close. -/
import Derived.Test.YtegjpiggjcfoaaaPc18
import Derived.BigQuiet
import Derived.Carry
import Derived.Deep.DeepHandedRow
import Derived.JoinedCond
import Derived.Lib.LaidTab
import Derived.Lib.SliceRun
import Derived.OpenShut
import Derived.ProofKit
import Derived.Test.YtegjpiggjcfoaaaRows
import Derived.WalkKit
namespace Go.Proofs.Ytegjpiggjcfoaaa
open Go Go.RowKit Go.ChangeShapes cl Go.Sort
set_option maxHeartbeats 6400000 in
set_option maxRecDepth 100000 in
theorem uses_any (l : List (List Int)) (v : Value) (w : World) (hm : MX w) (h : KInts 3 w w.heap.size v l) :
  Calls Try.prog 3 #[v] w (Said true w) := by
 have HAW : Hid (∀ W, Below w.heap.size w W → Calls Try.prog 7 #[] W (Said true W)) := fun W hW => awake_any W (hm.next hW)
 have HPY := Lib.hid (played_any l v w hm h)
 have HNR : Hid (∀ W, Calls Try.prog 9 #[] W fun e w' => ∃ b, e = .returned (.slice (some ⟨b, 0, none⟩) 7 7) ∧ w'.heap[b]? = some (.cells (cl.strs NM).toArray 9 (0, 0)) ∧ Below W.heap.size W w') := names_row
 have HFA : Hid (∀ (j : Nat) S R vs vr W, j < 7 → Below w.heap.size w W → se.Ok S R → SerAt W W.heap.size vs vr S R → Calls Try.prog 10 #[tval vs vr, .string (nam j)] W (SFindP R (nres j) W)) := fun j S R vs vr W hj hW hok h0 =>
  sfind_any (nam j) (nres j) S R vs vr W (nam_is j hj) (nam_max j) (hm.next hW) hok h0
 have HPR : Hid (∀ (j : Nat) W, j < 6 → Below w.heap.size w W → Calls Try.prog 11 #[.string (nam j)] W (CanonP (0, nlab j) W)) := fun j W hj hW => by
  refine (parse_any (nam j) W (nam_max j) (hm.next hW)).mono ?_
  rintro e w' ⟨r', h1, h2⟩
  have hi := nam_is j (by omega)
  rw [show nres j = (0, nlab j) from if_pos hj] at hi
  rw [lm.is_one h2 hi] at h1; exact h1
 have HLB : Hid (∀ (id : Int) S R vs vr W, se.Ok S R → SerAt W W.heap.size vs vr S R → Calls Try.prog 12 #[tval vs vr, .int .i64 id] W (LabsP R id W)) := fun id S R vs vr W hok h0 => slabels_any id S R vs vr W hok h0
 have HRT : Hid (∀ S R vs vr W, se.Ok S R → SerAt W W.heap.size vs vr S R → Calls Try.prog 8 #[tval vs vr] W (Said true W)) := fun S R vs vr W hok h0 => sright_any S R vs vr W hok h0
 obtain ⟨q, hq⟩ : ∃ q, q = l.length := ⟨_, rfl⟩
 obtain ⟨so, sc, rfl⟩ : ∃ ao cap, v = .slice ao q cap := by
  obtain ⟨ao, cap, e, _, _⟩ := h.form
  exact ⟨ao, cap, by rw [hq]; exact e⟩
 rw [← hq] at HPY
 clear h hq hm
 unfold PlayedP at HPY
 go_enter Try.func3, Try.ntmps3
 go_wp2_with fail
 (with_reducible refine HPY.out.mono ?_)
 rintro e w1 ⟨vs, vr, G, S, R, rfl, hpl, hser, hrb, hrx, hct, hb1⟩
 obtain ⟨x1, y1, z1, x2, y2, z2, rfl, rfl⟩ := hser.vals
 obtain ⟨WT, hWT⟩ : ∃ W, W = w1.alloc (.cells #[.slice x1 y1 z1, .int .i64 24000, .slice x2 y2 z2] 28) := ⟨_, rfl⟩
 have hbT : Below w1.heap.size w1 WT := by rw [hWT]; exact (Below.refl _ _).alloc (Nat.le_refl _) _
 obtain ⟨B1, hB1⟩ : ∃ B, B = w1.heap.size := ⟨_, rfl⟩
 have HXT : Hid (Xt G S R (.slice x1 y1 z1) (.slice x2 y2 z2) B1 WT) := ⟨hser.next hbT, hrb.next hbT, hrx.next hbT, by rw [hWT, hB1]; exact heap_new _ _ _⟩
 have HCT := Lib.hid (hct.step hbT)
 have HDT := Lib.hid (hb1.trans (hbT.mono hb1.size))
 have HPL := Lib.hid hpl
 have HWT := Lib.hid hWT
 have HB1 := Lib.hid hB1
 by_cases hq1 : 60 < q
 ·
  have hqd : decide (q ≤ 60) = false := decide_eq_false (by omega)
  rw [hqd]
  clear hpl hser hrb hrx hct hb1 hWT hbT hB1
  go_wp2_with fail
  rw [← HWT.out]
  (with_reducible refine (HAW.out _ HDT.out).mono ?_)
  rintro e w2 ⟨rfl, hb2⟩
  have hfin := HDT.out.trans (hb2.mono HDT.out.size)
  go_wp2
  go_ret
  exact ⟨rfl, hfin⟩
 have hqd : decide (q ≤ 60) = true := decide_eq_true (by omega)
 rw [hqd]
 have HR1 := Lib.hid (HRT.out _ _ _ _ _ HPL.out.ok HXT.out.ser)
 have hnil : ∀ (W : World), (binOp .eql 29 (.slice (some ⟨G, 0, none⟩) 7 7) (.slice none 0 0)).run Try.prog W = .ok (.bool false) W := fun W => Lib.run_eql_slice_nil W _ _ _ _ _ _ _ Try.underlying29
 clear hpl hser hrb hrx hct hb1 hWT hbT hB1 hq1 hqd
 go_wp2_with fail
 rw [← HWT.out]
 (with_reducible refine HR1.out.mono ?_)
 rintro e w2 ⟨rfl, hb2⟩
 go_wp2_with fail
 (with_reducible refine (HNR.out _).mono ?_)
 rintro e w3 ⟨nb, rfl, hn3, hb3⟩
 have hb13 := hb2.trans (hb3.mono hb2.size)
 have HXN := Lib.hid (HXT.out.step hb13)
 have HCN := Lib.hid (HCT.out.step hb13)
 have HDN := Lib.hid (HDT.out.trans (hb13.mono HDT.out.size))
 have HNN := Lib.hid hn3
 clear hnil hn3 hb2 hb3 hb13 HXT HCT HDT HR1 HPY HWT
 go_wp2
 rw [← HB1.out]
 go_loopw [33] (fun i wr => ∃ k : Nat, i = .int .i64 k ∧ k ≤ 7 ∧ Hid (Below w3.heap.size w3 wr)) (fun i _ => 7 - (intOf i).toNat)
 case atStart => exact ⟨0, rfl, by omega, Below.refl _ _⟩
 case round =>
  obtain ⟨k, rfl, hk, HD⟩ := hrel
  by_cases hk7 : k < 7
  ·
   have hkI : (k : Int) < 7 := by omega
   have hk0 : (0 : Int) ≤ (k : Int) := by omega
   have HX := Lib.hid (HXN.out.step HD.out)
   have HC := Lib.hid (HCN.out.step HD.out)
   have HW := Lib.hid (HDN.out.trans (HD.out.mono HDN.out.size))
   have hn := heap_keep HD.out HNN.out
   have n0 := row_cell hn (nm_get hk7)
   obtain ⟨⟨t0, t1, t2⟩, _⟩ := HX.out.cell
   have HFI := Lib.hid (HFA.out k _ _ _ _ _ hk7 HW.out HPL.out.ok HX.out.ser)
   unfold SFindP at HFI
   have hcp := cn_pos (R := R) (j := k)
   have HCC := Lib.hid (HCN.out.cell (cnl_get (cn R) hk7))
   have HCK : Hid (∀ W, Below w3.heap.size w3 W → W.cell? ⟨G, k, none⟩ = some (.int .i64 (cn R k))) := fun W hW => (hW.cell (p := ⟨G, k, none⟩) HCN.out.lt.2).trans HCC.out
   have HFD : Hid (k < 6 → 0 < cn R k → (fnd R (nres k)).1 = (se.find R (nlab k) : Int) ∧ se.find R (nlab k) < R.length ∧ (se.at_ R (se.find R (nlab k))).2 = cn R k) := fun h6 hp => by
    have hf : se.find R (nlab k) < R.length := by
     refine se.cntR_pos.2 ?_
     unfold cn at hp
     rwa [if_pos h6] at hp
    refine ⟨?_, hf, ?_⟩
    ·
     unfold fnd
     rw [show nres k = (0, nlab k) from if_pos h6, if_pos ⟨rfl, hf⟩]
    ·
     unfold cn se.cntR
     rw [if_pos h6, if_pos hf]
   have HC6 : Hid (0 < cn R k → k < 6) := fun hp => by
    unfold cn at hp
    by_cases h6 : k < 6
    ·
     exact h6
    ·
     rw [if_neg h6] at hp; omega
   obtain ⟨c, hcc⟩ : ∃ x, x = cn R k := ⟨_, rfl⟩
   obtain ⟨⟨fi, fb⟩, hfb⟩ : ∃ x, x = fnd R (nres k) := ⟨_, rfl⟩
   rw [← hcc] at hcp HCK HFD HC6
   rw [← hfb] at hcp HFI HFD
   simp only at hcp HFI HFD
   have HCCE := Lib.hid hcc
   clear hcc hfb HCC hn
   by_cases hp : 0 < c
   ·
    obtain rfl : fb = true := by rw [hcp, decide_eq_true hp]
    have h6 := HC6.out hp
    obtain ⟨rfl, hfR, hfc⟩ := HFD.out h6 hp
    obtain ⟨id, hid⟩ : ∃ x, x = se.find R (nlab k) := ⟨_, rfl⟩
    have HYL := Lib.hid (se.find_yes hfR)
    rw [← hid] at HFI hfR hfc HYL
    clear hid hcp HFD HC6
    go_wp2_with fail
    (with_reducible refine HFI.out.mono ?_)
    rintro e w4 ⟨rfl, hb4⟩
    have hd4 := HD.out.trans (hb4.mono HD.out.size)
    have c4 := HCK.out w4 hd4
    have hw4 := HW.out.trans (hb4.mono HW.out.size)
    have HPK := Lib.hid (HPR.out k w4 h6 hw4)
    unfold CanonP at HPK
    have HX4 := Lib.hid (HX.out.step hb4)
    clear t0 t1 t2
    go_wp2_with fail
    (with_reducible refine HPK.out.mono ?_)
    rintro e w5 ⟨vp, rfl, hvp, hb5⟩
    have HX5 := Lib.hid (HX4.out.step hb5)
    have HLK := Lib.hid (HLB.out (id : Int) _ _ _ _ _ HPL.out.ok HX5.out.ser)
    unfold LabsP at HLK
    have hus : se.used R (id : Int) = true := decide_eq_true ⟨by omega, by omega, by rw [Int.toNat_natCast, hfc]; omega⟩
    rw [hus, if_pos rfl, Int.toNat_natCast, HYL.out.2] at HLK
    have hd5 := hd4.trans (hb5.mono hd4.size)
    obtain ⟨⟨t0, t1, t2⟩, _⟩ := HX5.out.cell
    clear hus
    go_wp2_with fail
    (with_reducible refine HLK.out.mono ?_)
    rintro e w6 ⟨vm, rfl, hvm, hb6⟩
    have hd6 := hd5.trans (hb6.mono hd5.size)
    have c6 := HCK.out w6 hd6
    have HX6 := Lib.hid (HX5.out.step hb6)
    have hvp6 := Cells.next hvp hb6
    obtain ⟨m, hmL⟩ : ∃ m, m = (nlab k).length := ⟨_, rfl⟩
    obtain ⟨pa, pc, rfl⟩ : ∃ a c, vp = .slice a m c := by
     obtain ⟨a, c, e, _⟩ := Cells.form hvp6
     exact ⟨a, c, by rw [hmL]; exact e⟩
    obtain ⟨ma, mc, rfl⟩ : ∃ a c, vm = .slice a m c := by
     obtain ⟨a, c, e, _⟩ := Cells.form hvm
     exact ⟨a, c, by rw [hmL]; exact e⟩
    have hm6 : m ≤ 6 := by rw [hmL]; exact (canon_len (se.nlab_canon h6)).2.1
    have HML := Lib.hid hmL
    have HVP := Lib.hid hvp6
    have HVM := Lib.hid hvm
    obtain ⟨_, hz⟩ : ∃ z, z = R.length := ⟨_, rfl⟩
    have hyR : y2 = R.length := by
     obtain ⟨_, _, e, _⟩ := HX6.out.ser.2.form
     simp only [Value.slice.injEq] at e
     exact e.2.1
    obtain ⟨rb, ro, ai, mm, ci, rfl, hrB, _, _, _, _, p1⟩ := row_at HX6.out.ser.2 hyR (show id < y2 by omega)
    rw [hfc] at p1
    have hidI : (id : Int) < (y2 : Int) := by omega
    have hid0 : (0 : Int) ≤ (id : Int) := by omega
    have HY2 := Lib.hid hyR
    clear t0 t1 t2
    obtain ⟨⟨t0, t1, t2⟩, _⟩ := HX6.out.cell
    have HD6 := Lib.hid hd6
    clear hd4 hd5 hd6 hw4 hb4 hb5 hb6 hvp hvm hvp6 hmL hyR hfR hfc hz HX HX4 HX5 HFI HPK HLK c4
    go_wp2
    go_quiet (fail)
    go_wp2
    clear t0 t1 t2 c6 p1 n0
    go_loopw [92] (fun i wx => ∃ j : Nat, i = .int .i64 j ∧ j ≤ m ∧ Hid (Below w6.heap.size w6 wx)) (fun i _ => m - (intOf i).toNat)
    case atStart => exact ⟨0, rfl, by omega, below_drewN (Below.refl _ _) _⟩
    case round =>
     rename World => wx
     obtain ⟨j, rfl, hj, HE⟩ := hrel
     by_cases hjm : j < m
     ·
      have hjI : (j : Int) < (m : Int) := by omega
      obtain ⟨pb, po, rfl, hpB, q0, q1⟩ := Labs.get HVP.out HML.out hjm
      obtain ⟨mb, mo, rfl, hmB, s0, s1⟩ := Labs.get HVM.out HML.out hjm
      have a0 := (HE.out.cell (p := ⟨pb, po + j * 2, none⟩) hpB).trans q0
      have a1 := (HE.out.cell (p := ⟨pb, po + j * 2 + 1, none⟩) hpB).trans q1
      have d0 := (HE.out.cell (p := ⟨mb, mo + j * 2, none⟩) hmB).trans s0
      have d1 := (HE.out.cell (p := ⟨mb, mo + j * 2 + 1, none⟩) hmB).trans s1
      obtain ⟨⟨nx, vx⟩, hnv⟩ : ∃ x, x = (nlab k).getD j (.empty, .empty) := ⟨_, rfl⟩
      rw [← hnv] at a0 a1 d0 d1
      simp only at a0 a1 d0 d1
      clear q0 q1 s0 s1 hnv
      go_wp2
      go_quiet (fail)
      go_wp2
      go_roundw
      case rel => exact ⟨j + 1, by go_num, by omega, below_drewN HE.out _⟩
      case measure => simp [intOf]; omega
     ·
      have hfin := HD6.out.trans (HE.out.mono HD6.out.size)
      go_wp2
      go_roundw
      case rel => exact ⟨k + 1, by go_num, by omega, hfin⟩
      case measure => simp [intOf]; omega
   ·
    obtain rfl : fb = false := by rw [hcp, decide_eq_false hp]
    clear hcp HFD HC6
    go_wp2_with fail
    (with_reducible refine HFI.out.mono ?_)
    rintro e w4 ⟨rfl, hb4⟩
    have hd4 := HD.out.trans (hb4.mono HD.out.size)
    have c4 := HCK.out w4 hd4
    go_wp2
    go_roundw
    case rel => exact ⟨k + 1, by go_num, by omega, hd4⟩
    case measure => simp [intOf]; omega
  ·
   obtain rfl : k = 7 := by omega
   have HW := Lib.hid (HDN.out.trans (HD.out.mono HDN.out.size))
   go_wp2_with fail
   (with_reducible refine (HAW.out _ HW.out).mono ?_)
   rintro e w4 ⟨rfl, hb4⟩
   have hfin := HW.out.trans (hb4.mono HW.out.size)
   go_wp2
   go_ret
   exact ⟨rfl, hfin⟩
end Go.Proofs.Ytegjpiggjcfoaaa
namespace Go.Proofs.Ytegjpiggjcfoaaa.close
open Go.RowKit Go.WideShapes Go.ChangeShapes
section
variable {H : Type} {enc : TypeId × Value → H} {P : Program}
theorem trodAll_stays (hl : laidOutB P = true) {W W' : World} (hb : Below W.heap.size W W') :
  ∀ (ts : List TypeId) (vs : List Value) (ds : List (DataW H)) (ps : List MemPlace), (∀ t ∈ ts, P.readableRec t = true ∧ t < P.types.size) → (∀ x ∈ ps, x.block < W.heap.size) →
   DataW.TrodAll enc P W 0 (fun _ => true) true ts vs ds ps → DataW.TrodAll enc P W' 0 (fun b => decide (b < W.heap.size)) true ts vs ds ps := by
 intro ts
 induction ts with
 | nil =>
  intro vs ds ps _ _ h
  obtain ⟨rfl, rfl, rfl⟩ := trodAll_nil h
  exact rfl
 | cons t ts ih =>
  intro vs ds ps ht hlt h
  obtain ⟨v, vs', d, ds', p, q, rfl, rfl, rfl, h0, r0⟩ := trodAll_cons h
  have h1 := ht t (List.mem_cons_self ..)
  exact ⟨p, q, Below.trod hl h1.1 h1.2 h0 hb (fun x hx => hlt x (List.mem_append_left _ hx)),
   ih _ _ _ (fun u hu => ht u (List.mem_cons_of_mem _ hu)) (fun x hx => hlt x (List.mem_append_right _ hx)) r0, rfl⟩
theorem law_post (hl : laidOutB P = true) {f : Func} {s : ChangeSpec} {apart fresh handsOn : Bool} {W W' : World} {args : Array Value} {ds gs : List (DataW H)} {before : List MemPlace} {tb : TypeId}
  (hts : ∀ t ∈ f.params.toList, P.readableRec t = true ∧ t < P.types.size) (hvars : s.vars = []) (hrt : f.resultTypes = #[tb]) (hb4 : P.underlying tb = some .bool)
  (hW : DataW.Whole enc P f.params.toList s.vars apart W args.toList ds gs before) (hs : s.fn H (ds ++ gs) = { results := [.lit (.bool true)], args := ds, vars := [] })
  (hb : Below W.heap.size W W') : s.post enc P f apart fresh handsOn false W args (.bool true) W' := by
 have hlt : ∀ p ∈ before, p.block < W.heap.size := fun p hp => hW.lt p hp
 have hW' := hW
 obtain ⟨p, q, hA, hV, rfl, _, _⟩ := hW'
 rw [hvars] at hV
 obtain ⟨rfl, rfl⟩ := trodVars_none hV
 refine ⟨ds, [], p ++ [], [], p, [], hW, ?_, ?_, ?_, World.keptBut_mono (fun x hx => ⟨hx, Or.inr (Or.inl (by simpa using hx))⟩) (hb.frame (· ∈ p ++ [])), fun h => by cases h⟩
 ·
  rw [hs, hrt]
  exact trodAll_cons_mk (shut_bool hb4 true) trodAll_mk0
 ·
  rw [hs]
  exact trodAll_stays hl hb _ _ _ _ hts (fun x hx => hlt x (List.mem_append_left _ hx)) hA
 ·
  rw [hs, hvars]
  exact rfl
end
end Go.Proofs.Ytegjpiggjcfoaaa.close
