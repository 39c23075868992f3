/- texts put together: MdOrd, ArgsF, Close, Args. -/
import Derived.Carry
import Derived.ChangeArms
import Derived.Deep.DeepHandedRow
import Derived.Deep.SlicePairs
import Derived.JoinedCond
import Derived.Lib.LaidTab
import Derived.Lib.SmallJoins
import Derived.OpenShut
import Derived.ProofKit
import Derived.Test.YtnbdcnbhejfdhaaGreatRows
import Derived.WalkKit
import Derived.WideShapes
import Derived.Test.YtnbdcnbhejfdhaaGreatLv00
import Derived.Test.YtnbdcnbhejfdhaaGreatLv01
import Derived.Test.YtnbdcnbhejfdhaaGreatLv02
import Derived.Test.YtnbdcnbhejfdhaaGreatLv03
import Derived.Test.YtnbdcnbhejfdhaaGreatLv04
import Derived.Test.YtnbdcnbhejfdhaaGreatLv05
import Derived.Test.YtnbdcnbhejfdhaaGreatLv06
import Derived.Test.YtnbdcnbhejfdhaaGreatLv07
import Derived.Test.YtnbdcnbhejfdhaaGreatLv08
import Derived.Test.YtnbdcnbhejfdhaaGreatLv09
import Derived.Test.YtnbdcnbhejfdhaaGreatLv10
import Derived.Test.YtnbdcnbhejfdhaaGreatLv11
import Derived.Test.YtnbdcnbhejfdhaaGreatMo00
import Derived.Test.YtnbdcnbhejfdhaaGreatMo06
import Derived.Test.YtnbdcnbhejfdhaaGreatMo09
import Derived.Test.YtnbdcnbhejfdhaaGreatMo10
open List (setIfInBounds_toArray set_cons_zero set_cons_succ take_succ_cons take_zero drop_succ_cons drop_zero)
namespace Go.Proofs.YtnbdcnbhejfdhaaGreat
open Go Go.RowKit Go.ChangeShapes cl Go.Sort
theorem infoFact : (Tryz.prog.info? 40).map (fun i => (i.zero, i.size, i.bytes)) = some (some (.agg #[.int .i64 0, .string ⟨#[]⟩, .int .i64 0, .int .i64 0, .int .i64 0, .slice none 0 0, .slice none 0 0, .int .i64 0, .bool false]), 9, 112) := by kernel_rfl
theorem infoFact9 : (Tryz.prog.info? 40).map (·.size) = some 9 := by kernel_rfl
structure SwR (w2 : World) (g n mc : Nat) (ps : List (Fct × FPt)) (ww : World) : Prop where
 own : ww.ownsRow w2.heap.size 40 9 (.slice (some ⟨g, 0, none⟩) n mc) n (fcs ps).flatten
 below : Below w2.heap.size w2 ww
theorem SwR.step {w2 : World} {g n mc : Nat} {ps : List (Fct × FPt)} {w w' : World} (h : SwR w2 g n mc ps w) (hT : Below w.heap.size w w') : SwR w2 g n mc ps w' := ⟨own_stay h.own hT, h.below.trans (hT.mono h.below.size)⟩
theorem SwR.start {w2 : World} {g n mc : Nat} {ps : List (Fct × FPt)} {w : World} (h : SwR w2 g n mc ps w) : SwR w2 g n mc ps w.drew := h.step (below_drewN (Below.refl _ _) 1)
theorem SwR.row {w2 : World} {g n mc i : Nat} {ps : List (Fct × FPt)} {w : World} (h : SwR w2 g n mc ps w) (hn : n = ps.length) (hi : i < n) {x : Fct} {p1 : Option Addr} {p2 p3 : Nat} {p4 : Option Addr} {p5 p6 : Nat} {p7 : Int} {p8 : Bool} (hx : ps.getD i default = (x, p1, p2, p3, p4, p5, p6, p7, p8)) :
  w.cell? ⟨g, i * 9, none⟩ = some (.int .i64 x.kd) ∧ w.cell? ⟨g, i * 9 + 1, none⟩ = some (.string x.s) ∧ w.cell? ⟨g, i * 9 + 2, none⟩ = some (.int .i64 x.d.1) ∧ w.cell? ⟨g, i * 9 + 3, none⟩ = some (.int .i64 x.d.2) ∧ w.cell? ⟨g, i * 9 + 4, none⟩ = some (.int .i64 x.t) ∧ w.cell? ⟨g, i * 9 + 5, none⟩ = some (.slice p1 p2 p3) ∧ w.cell? ⟨g, i * 9 + 6, none⟩ = some (.slice p4 p5 p6) ∧ w.cell? ⟨g, i * 9 + 7, none⟩ = some (.int .i64 p7) ∧ w.cell? ⟨g, i * 9 + 8, none⟩ = some (.bool p8) := by
 have k := own_row h.own hn hi
 rw [hx] at k
 exact ⟨(k 0 (by omega)).1, (k 1 (by omega)).1, (k 2 (by omega)).1, (k 3 (by omega)).1, (k 4 (by omega)).1, (k 5 (by omega)).1, (k 6 (by omega)).1, (k 7 (by omega)).1, (k 8 (by omega)).1⟩
theorem there_row {W : World} {B g n mc i : Nat} {ps : List (Fct × FPt)} (h : W.ownsRow B 40 9 (.slice (some ⟨g, 0, none⟩) n mc) n (fcs ps).flatten) (hn : n = ps.length) (hi : i < n) : W.there g (i * 9) 9 := fun j hj => by
 obtain ⟨h1, h2⟩ := own_row h hn hi j hj
 refine ⟨?_, h2⟩
 rw [h1]
 rcases (by omega : j = 0 ∨ j = 1 ∨ j = 2 ∨ j = 3 ∨ j = 4 ∨ j = 5 ∨ j = 6 ∨ j = 7 ∨ j = 8) with rfl | rfl | rfl | rfl | rfl | rfl | rfl | rfl | rfl <;> rfl
theorem at_cell {w : World} {B n c j : Nat} {ao : Option Addr} {l : List Int} (h : at_.At w B (.slice ao n c) l) (hj : j < n) : ∃ b o, ao = some ⟨b, o, none⟩ ∧ b < B ∧ w.cell? ⟨b, o + j, none⟩ = some (.int .i64 (l.getD j 0)) := by
 obtain ⟨ao', c', e, _, _, h4⟩ := h
 simp only [Value.slice.injEq] at e
 obtain ⟨rfl, rfl, rfl⟩ := e
 obtain ⟨b, o, rfl, hB, hc⟩ := h4 (by omega)
 exact ⟨b, o, rfl, hB, hc j hj⟩
set_option maxHeartbeats 12800000 in
set_option maxRecDepth 100000 in
theorem order_any (l : List Fct) (os : List Int) (v vo : Value) (w : World) (hl : Fcts w w.heap.size v l) (hwf : ∀ f ∈ l, FWf f) (ho : at_.At w w.heap.size vo os) (hm : MX w) : Calls Tryz.prog 5 #[v, vo] w (Said true w) := by
 have HMX : Hid (∀ W, Below w.heap.size w W → MX W) := fun W hW => hm.next hW
 have HAW : Hid (∀ W, Below w.heap.size w W → Calls Tryz.prog 9 #[] W (Said true W)) := fun W hW => awake_any W (HMX.out W hW)
 have HFR := Lib.hid (far_any l v w hl)
 obtain ⟨n, hn⟩ : ∃ n, n = l.length := ⟨_, rfl⟩
 have HN := Lib.hid hn
 obtain ⟨ao, cap, rfl, _, hn6⟩ : ∃ ao cap, v = .slice ao n cap ∧ n ≤ cap ∧ n ≤ maxLen := RowsAt.form' hl hn
 obtain ⟨on, hon⟩ : ∃ on, on = os.length := ⟨_, rfl⟩
 obtain ⟨oo, oc, rfl⟩ : ∃ oo oc, vo = .slice oo on oc := by
  obtain ⟨oo, oc, e, _⟩ := ho
  exact ⟨oo, oc, by rw [e, hon]⟩
 have HL := Lib.hid hl
 have HWF := Lib.hid hwf
 have HOS := Lib.hid ho
 clear hl hwf hm hn hn6 ho hon
 go_enter Tryz.func5, Tryz.ntmps5
 go_wp2_with fail
 (with_reducible refine HFR.out.mono ?_)
 rintro e w1 ⟨far, rfl, hfar, hb1⟩
 have HB1 := Lib.hid hb1
 cases far
 ·
  have hn60 : n ≤ 60 := by rw [HN.out]; exact hfar rfl
  have HL1 := Lib.hid (RowsAt.next fct_steady HL.out hb1)
  clear hfar hb1 HFR
  by_cases h60 : 60 < on
  ·
   have hI : (60 : Int) < (on : Int) := by omega
   go_wp2_with fail
   (with_reducible refine (HAW.out _ HB1.out).mono ?_)
   rintro e w2 ⟨rfl, hb2⟩
   have HB2 := Lib.hid (HB1.out.trans (hb2.mono HB1.out.size))
   clear hb2
   go_wp2
   go_ret
   exact ⟨rfl, HB2.out⟩
  ·
   have hI : ¬ (60 : Int) < (on : Int) := by omega
   have hI2 : (on : Int) ≤ 60 := by omega
   have HDT := Lib.hid (dots_any l _ w1 HL1.out HWF.out (by have := HN.out; omega))
   cases hd : (dotsF [] l).isSome
   ·
    rw [hd] at HDT
    go_wp2_with fail
    (with_reducible refine HDT.out.mono ?_)
    rintro e w2 ⟨rfl, hb2⟩
    have HB2 := Lib.hid (HB1.out.trans (hb2.mono HB1.out.size))
    clear hb2
    go_wp2_with fail
    (with_reducible refine (HAW.out _ HB2.out).mono ?_)
    rintro e w3 ⟨rfl, hb3⟩
    have HB3 := Lib.hid (HB2.out.trans (hb3.mono HB2.out.size))
    clear hb3
    go_wp2
    go_ret
    exact ⟨rfl, HB3.out⟩
   ·
    rw [hd] at HDT
    have HD := Lib.hid hd
    clear hd
    go_wp2_with fail
    (with_reducible refine HDT.out.mono ?_)
    rintro e w2 ⟨rfl, hb2⟩
    have HB2 := Lib.hid (HB1.out.trans (hb2.mono HB1.out.size))
    have HL2 := Lib.hid (RowsAt.next fct_steady HL1.out hb2)
    obtain ⟨ps0, hps0, hcl0⟩ := fcts_cells HL2.out
    have HPS0 := Lib.hid hps0
    rw [← HN.out] at hcl0
    have HCL0 : Hid (Cells (w2.alloc (.cells #[] 40)) (w2.alloc (.cells #[] 40)).heap.size (.slice ao n cap) n 9 (fcs ps0).flatten) := hcl0.next below1
    have HO0 : Hid ((w2.alloc (.cells #[] 40)).ownsRow w2.heap.size 40 9 (.slice (some ⟨w2.heap.size, 0, none⟩) 0 0) 0 []) := own_none _ (Nat.le_refl _) 9
    clear hb2 hps0 hcl0 HDT
    go_wp2_with (at_builtin; refine appN (.tmp 23) (.tmp 24) 22 rfl rfl w2.heap.size Tryz.underlying22 infoFact rfl (by decide) (by decide) HO0.out rfl rfl HCL0.out (fcs_one ps0) (by omega) (by rw [World.size_alloc]; omega) ?_)
    intro vm w3 hown hba
    have HO3 : Hid (w3.ownsRow w2.heap.size 40 9 vm n (fcs ps0).flatten) := by
     show World.ownsRow _ _ _ _ _ _ _
     simpa using hown
    have hb3 : Below w2.heap.size w2 w3 := ((Below.refl _ _).alloc (Nat.le_refl _) _).grown hba (by simp) (fun j hj => by cases hj; exact Nat.le_refl _)
    obtain ⟨mo, mc, rfl⟩ : ∃ mo mc, vm = .slice mo n mc := by
     rcases HO3.out.2 with ⟨e, h0⟩ | ⟨g, c, cur, e, _⟩
     ·
      exact ⟨none, 0, by rw [e, h0]⟩
     ·
      exact ⟨_, c, e⟩
    have HB3 := Lib.hid hb3
    clear hown hba HO0 HCL0 hb3
    go_wp2
    go_loopw [6, 7, 8, 9, 28] (fun _ _ _ _ i wr => ∃ (k : Nat) (ps : List (Fct × FPt)), i = .int .i64 k ∧ k ≤ on ∧ Hid ((ps.map (·.1)).Perm l) ∧ Hid (wr.ownsRow w2.heap.size 40 9 (.slice mo n mc) n (fcs ps).flatten) ∧ Hid (Below w2.heap.size w2 wr)) (fun _ _ _ _ i _ => on - (intOf i).toNat)
    case atStart => exact ⟨0, ps0, rfl, by omega, by show List.Perm _ _; rw [HPS0.out], HO3.out, HB3.out⟩
    case round =>
     obtain ⟨k, ps, rfl, hk, HP, HO, HB⟩ := hrel
     have HPN : Hid (n = ps.length) := by
      show _ = _
      have := HP.out.length_eq
      rw [List.length_map] at this
      rw [HN.out, this]
     by_cases hlt : k < on
     ·
      have hkI : (k : Int) < (on : Int) := by omega
      obtain ⟨ob, off, rfl, _, x0⟩ := at_cell (HOS.out.below (HB2.out.trans (HB.out.mono HB2.out.size))) hlt
      obtain ⟨x, hx⟩ : ∃ x, x = os.getD k 0 := ⟨_, rfl⟩
      rw [← hx] at x0
      clear hx
      by_cases hn1 : 1 < n
      ·
       obtain ⟨g, rfl⟩ : ∃ g, mo = some ⟨g, 0, none⟩ := by
        rcases HO.out.2 with ⟨e, h0⟩ | ⟨g, c, cur, e, _⟩
        ·
         omega
        ·
         simp only [Value.slice.injEq] at e
         exact ⟨g, e.1⟩
       have HGB : Hid (w2.heap.size ≤ g) := (HO.out.lt g rfl).1
       obtain ⟨ia, hia⟩ : ∃ ia, ia = k % n := ⟨_, rfl⟩
       have hian : ia < n := by rw [hia]; exact Nat.mod_lt _ (by omega)
       obtain ⟨jb, hjb, hjx⟩ := kit.umod x (m := n) (by omega)
       have e1 : (k : Int).tmod (n : Int) = (ia : Int) := by rw [hia]; rfl
       have e2 : (k : Int) % (n : Int) = (ia : Int) := by rw [hia]; rfl
       have u1 : IntKind.u64.wrap (n : Int) = (n : Int) := IntWalk.u64_in _ (by omega)
       have i1 : IntKind.i64.wrap (jb : Int) = (jb : Int) := IntWalk.i64_in _ (by omega)
       have hiaI : (ia : Int) < (n : Int) := by omega
       have hjbI : (jb : Int) < (n : Int) := by omega
       have hia0 : (0 : Int) ≤ (ia : Int) := by omega
       have hjb0 : (0 : Int) ≤ (jb : Int) := by omega
       have hn1I : (1 : Int) < (n : Int) := by omega
       clear hia
       have HQ : Hid (∀ q, SwR w2 g n mc ps (wr.drewN q)) := fun q => ⟨own_stay HO.out (below_drewN (Below.refl _ _) q), below_drewN HB.out q⟩
       go_wp2
       go_quiet (fail)
       generalize hwq : wr.drewN _ = wq
       have HR0 : Hid (SwR w2 g n mc ps wq) := by show SwR _ _ _ _ _ _; rw [← hwq]; exact HQ.out _
       obtain ⟨⟨y, q1, q2, q3, q4, q5, q6, q7, q8⟩, hyv⟩ : ∃ y, ps.getD jb default = y := ⟨_, rfl⟩
       obtain ⟨⟨z, p1, p2, p3, p4, p5, p6, p7, p8⟩, hzv⟩ : ∃ z, ps.getD ia default = z := ⟨_, rfl⟩
       have HRB : Hid (∀ ww, SwR w2 g n mc ps ww → _) := fun ww h => h.row HPN.out hjb hyv
       have HRA : Hid (∀ ww, SwR w2 g n mc ps ww → _) := fun ww h => h.row HPN.out hian hzv
       have HYV := Lib.hid hyv
       have HZV := Lib.hid hzv
       clear hwq hyv hzv HQ e1 e2 u1 i1 x0
       go_wp2_with fail
       refine wp_flowG 15 (fun _ => 1000) (fun ww => RowKit.Below w2.heap.size w2 ww) (fun i w w' => if i = 13 then (fun (w w' : World) => w' = w.setCells g (ia * 9) (fcell y (q1, q2, q3, q4, q5, q6, q7, q8))) w w' else (fun (w w' : World) => RowKit.Below w.heap.size w w') w w') (fun sF wF => match sF with | 13 => (SwR w2 g n mc ps wF) | _ => True) (fun kF vF wF => match kF with | 0 => (vF = .slice (some ⟨g, 0, none⟩) n mc) | 1 => (vF = .int .i64 ia) | 2 => (vF = .slice (some ⟨g, 0, none⟩) n mc) | 3 => (vF = .int .i64 jb) | 4 => (vF = .slice (some ⟨g, 0, none⟩) n mc) | 5 => (vF = .int .i64 jb) | 6 => (vF = .pointer (some ⟨g, jb * 9, none⟩)) | 7 => (vF = .agg #[.int .i64 y.kd, .string y.s, .int .i64 y.d.1, .int .i64 y.d.2, .int .i64 y.t, .slice q1 q2 q3, .slice q4 q5 q6, .int .i64 q7, .bool q8]) | 8 => (vF = .slice (some ⟨g, 0, none⟩) n mc) | 9 => (vF = .int .i64 ia) | 10 => (vF = .pointer (some ⟨g, ia * 9, none⟩)) | 11 => (vF = .agg #[.int .i64 z.kd, .string z.s, .int .i64 z.d.1, .int .i64 z.d.2, .int .i64 z.t, .slice p1 p2 p3, .slice p4 p5 p6, .int .i64 p7, .bool p8]) | 12 => (vF = .pointer (some ⟨g, ia * 9, none⟩)) | 13 => (SwR w2 g n mc (ps.set ia (y, q1, q2, q3, q4, q5, q6, q7, q8)) wF) | 14 => (vF = .pointer (some ⟨g, jb * 9, none⟩)) | _ => True) (fun _ _ _ _ => True) (by kernel_rfl) (by kernel_rfl) ?_ ?_ ?_ ?_ ?_ ?_ ?_
       ·
        exact HR0.out.below.drew
       ·
        intro sF hsF
        rcases (by omega : sF = 0 ∨ sF = 1 ∨ sF = 2 ∨ sF = 3 ∨ sF = 4 ∨ sF = 5 ∨ sF = 6 ∨ sF = 7 ∨ sF = 8 ∨ sF = 9 ∨ sF = 10 ∨ sF = 11 ∨ sF = 12 ∨ sF = 13 ∨ sF = 14) with rfl | rfl | rfl | rfl | rfl | rfl | rfl | rfl | rfl | rfl | rfl | rfl | rfl | rfl | rfl
        iterate 13 exact trivial
        ·
         exact SwR.start HR0.out
        ·
         exact trivial
       ·
        intro iF wF1 wF2 hR hT
        have hT : (fun i w w' => if i = 13 then (fun (w w' : World) => w' = w.setCells g (ia * 9) (fcell y (q1, q2, q3, q4, q5, q6, q7, q8))) w w' else (fun (w w' : World) => RowKit.Below w.heap.size w w') w w') iF wF1 wF2 := hT
        simp only at hT
        by_cases hi13 : iF = 13
        ·
         rw [if_pos hi13] at hT; rw [hT]; exact below_sets HGB.out _ _ _ _ hR
        rw [if_neg hi13] at hT
        exact hR.trans (hT.mono hR.size)
       ·
        intro sF hsF iF hiF hne hanc wF1 wF2 hRF hgF hT
        rcases (by omega : sF = 0 ∨ sF = 1 ∨ sF = 2 ∨ sF = 3 ∨ sF = 4 ∨ sF = 5 ∨ sF = 6 ∨ sF = 7 ∨ sF = 8 ∨ sF = 9 ∨ sF = 10 ∨ sF = 11 ∨ sF = 12 ∨ sF = 13 ∨ sF = 14) with rfl | rfl | rfl | rfl | rfl | rfl | rfl | rfl | rfl | rfl | rfl | rfl | rfl | rfl | rfl
        iterate 13 exact trivial
        ·
         have hg : (SwR w2 g n mc ps wF1) := hgF
         show (SwR w2 g n mc ps wF2)
         have hT : (fun i w w' => if i = 13 then (fun (w w' : World) => w' = w.setCells g (ia * 9) (fcell y (q1, q2, q3, q4, q5, q6, q7, q8))) w w' else (fun (w w' : World) => RowKit.Below w.heap.size w w') w w') iF wF1 wF2 := hT
         simp only at hT
         by_cases hi13 : iF = 13
         ·
          exact absurd hi13.symm hne
         rw [if_neg hi13] at hT
         exact hg.step hT
        ·
         exact trivial
       ·
        intro kF hkF iF hiF hne hdd hanc hdan vF wF1 wF2 h hT
        rcases (by omega : kF = 0 ∨ kF = 1 ∨ kF = 2 ∨ kF = 3 ∨ kF = 4 ∨ kF = 5 ∨ kF = 6 ∨ kF = 7 ∨ kF = 8 ∨ kF = 9 ∨ kF = 10 ∨ kF = 11 ∨ kF = 12 ∨ kF = 13 ∨ kF = 14) with rfl | rfl | rfl | rfl | rfl | rfl | rfl | rfl | rfl | rfl | rfl | rfl | rfl | rfl | rfl
        iterate 13 exact h
        ·
         have h : (SwR w2 g n mc (ps.set ia (y, q1, q2, q3, q4, q5, q6, q7, q8)) wF1) := h
         show (SwR w2 g n mc (ps.set ia (y, q1, q2, q3, q4, q5, q6, q7, q8)) wF2)
         have hT : (fun i w w' => if i = 13 then (fun (w w' : World) => w' = w.setCells g (ia * 9) (fcell y (q1, q2, q3, q4, q5, q6, q7, q8))) w w' else (fun (w w' : World) => RowKit.Below w.heap.size w w') w w') iF wF1 wF2 := hT
         simp only at hT
         by_cases hi13 : iF = 13
         ·
          exact absurd hi13.symm hne
         rw [if_neg hi13] at hT
         exact h.step hT
        ·
         exact h
       ·
        generalize hAF : fillOf _ _ _ = AF
        replace hAF := fun x => congrFun hAF x
        simp only [take_succ_cons, take_zero, fillOf, Act.put, setIfInBounds_toArray, set_cons_zero, set_cons_succ, Nat.reduceAdd, Nat.zero_add] at hAF
        refine .cons ?_ (.cons ?_ (.cons ?_ (.cons ?_ (.cons ?_ (.cons ?_ (.cons ?_ (.cons ?_ (.cons ?_ (.cons ?_ (.cons ?_ (.cons ?_ (.cons ?_ (.cons ?_ (.cons ?_ (.nil)))))))))))))))
        all_goals
         intro xF ww hR hg hd K hK
         first | simp only [← hAF, Act.put, setIfInBounds_toArray, set_cons_zero, set_cons_succ] at hK ⊢ | simp only [← hAF, Act.put] at hK ⊢
         clear hAF
         try simp only [Nat.zero_add, Nat.reduceAdd] at hK ⊢
        ·
         clear hg hd
         obtain hR2 := id hR
         rw [if_pos (by rfl)]
         go_simp
         exact hK.out _ _ (Below.refl _ _) (rfl) (fun _ _ _ => ⟨trivial, trivial⟩)
        ·
         clear hg hd
         obtain hR2 := id hR
         rw [if_pos (by rfl)]
         go_simp
         exact hK.out _ _ (Below.refl _ _) (rfl) (fun _ _ _ => ⟨trivial, trivial⟩)
        ·
         clear hg hd
         obtain hR2 := id hR
         rw [if_pos (by rfl)]
         go_simp
         exact hK.out _ _ (Below.refl _ _) (rfl) (fun _ _ _ => ⟨trivial, trivial⟩)
        ·
         clear hg hd
         obtain hR2 := id hR
         rw [if_pos (by rfl)]
         go_simp
         exact hK.out _ _ (Below.refl _ _) (rfl) (fun _ _ _ => ⟨trivial, trivial⟩)
        ·
         clear hg hd
         obtain hR2 := id hR
         rw [if_pos (by rfl)]
         go_simp
         exact hK.out _ _ (Below.refl _ _) (rfl) (fun _ _ _ => ⟨trivial, trivial⟩)
        ·
         clear hg hd
         obtain hR2 := id hR
         rw [if_pos (by rfl)]
         go_simp
         exact hK.out _ _ (Below.refl _ _) (rfl) (fun _ _ _ => ⟨trivial, trivial⟩)
        ·
         clear hg
         have dd4 := hd 4 (by kernel_rfl)
         have dd5 := hd 5 (by kernel_rfl)
         clear hd
         try generalize xF 4 = yy4 at *
         try generalize xF 5 = yy5 at *
         obtain rfl := dd4
         obtain rfl := dd5
         obtain hR2 := id hR
         rw [if_pos (by rfl)]
         go_simp
         exact hK.out _ _ (Below.refl _ _) (rfl) (fun _ _ _ => ⟨trivial, trivial⟩)
        ·
         have gg13 : (SwR w2 g n mc ps ww) := hg 13 (by omega) (by decide)
         clear hg
         have dd6 := hd 6 (by kernel_rfl)
         clear hd
         try generalize xF 6 = yy6 at *
         obtain rfl := dd6
         obtain hR2 := id hR
         obtain ⟨r0, r1, r2, r3, r4, r5, r6, r7, r8⟩ := HRB.out _ gg13
         rw [if_pos (by rfl)]
         go_simp
         exact hK.out _ _ (Below.refl _ _) (rfl) (fun _ _ _ => ⟨trivial, trivial⟩)
        ·
         clear hg hd
         obtain hR2 := id hR
         rw [if_pos (by rfl)]
         go_simp
         exact hK.out _ _ (Below.refl _ _) (rfl) (fun _ _ _ => ⟨trivial, trivial⟩)
        ·
         clear hg hd
         obtain hR2 := id hR
         rw [if_pos (by rfl)]
         go_simp
         exact hK.out _ _ (Below.refl _ _) (rfl) (fun _ _ _ => ⟨trivial, trivial⟩)
        ·
         clear hg
         have dd8 := hd 8 (by kernel_rfl)
         have dd9 := hd 9 (by kernel_rfl)
         clear hd
         try generalize xF 8 = yy8 at *
         try generalize xF 9 = yy9 at *
         obtain rfl := dd8
         obtain rfl := dd9
         obtain hR2 := id hR
         rw [if_pos (by rfl)]
         go_simp
         exact hK.out _ _ (Below.refl _ _) (rfl) (fun _ _ _ => ⟨trivial, trivial⟩)
        ·
         have gg13 : (SwR w2 g n mc ps ww) := hg 13 (by omega) (by decide)
         clear hg
         have dd10 := hd 10 (by kernel_rfl)
         clear hd
         try generalize xF 10 = yy10 at *
         obtain rfl := dd10
         obtain hR2 := id hR
         obtain ⟨r0, r1, r2, r3, r4, r5, r6, r7, r8⟩ := HRA.out _ gg13
         rw [if_pos (by rfl)]
         go_simp
         exact hK.out _ _ (Below.refl _ _) (rfl) (fun _ _ _ => ⟨trivial, trivial⟩)
        ·
         clear hg
         have dd0 := hd 0 (by kernel_rfl)
         have dd1 := hd 1 (by kernel_rfl)
         clear hd
         try generalize xF 0 = yy0 at *
         try generalize xF 1 = yy1 at *
         obtain rfl := dd0
         obtain rfl := dd1
         obtain hR2 := id hR
         rw [if_pos (by rfl)]
         go_simp
         exact hK.out _ _ (Below.refl _ _) (rfl) (fun _ _ _ => ⟨trivial, trivial⟩)
        ·
         have gg13 : (SwR w2 g n mc ps ww) := hg 13 (by omega) (by decide)
         clear hg
         have dd7 := hd 7 (by kernel_rfl)
         have dd12 := hd 12 (by kernel_rfl)
         clear hd
         try generalize xF 7 = yy7 at *
         try generalize xF 12 = yy12 at *
         obtain rfl := dd7
         obtain rfl := dd12
         obtain hR2 := id hR
         rw [if_pos (by rfl)]
         refine wp_store_mid _ (.tmp 59) (.tmp 54) rfl g (ia * 9) _ rfl rfl (there_row gg13.own HPN.out hian) infoFact9 (by simp [Value.oneCell']) ?_
         exact hK.out undef _ (rfl) (⟨own_put (x := (y, q1, q2, q3, q4, q5, q6, q7, q8)) gg13.own (by have := HPN.out; omega), below_sets HGB.out _ _ _ _ gg13.below⟩) (fun _ _ _ => ⟨trivial, trivial⟩)
        ·
         clear hg
         have dd2 := hd 2 (by kernel_rfl)
         have dd3 := hd 3 (by kernel_rfl)
         clear hd
         try generalize xF 2 = yy2 at *
         try generalize xF 3 = yy3 at *
         obtain rfl := dd2
         obtain rfl := dd3
         obtain hR2 := id hR
         rw [if_pos (by rfl)]
         go_simp
         exact hK.out _ _ (Below.refl _ _) (rfl) (fun _ _ _ => ⟨trivial, trivial⟩)
       intro xF ww hR hF hP
       clear hP
       have dd0 := hF 0 (by omega) (by decide)
       have dd1 := hF 1 (by omega) (by decide)
       have dd2 := hF 2 (by omega) (by decide)
       have dd3 := hF 3 (by omega) (by decide)
       have dd4 := hF 4 (by omega) (by decide)
       have dd5 := hF 5 (by omega) (by decide)
       have dd6 := hF 6 (by omega) (by decide)
       have dd7 := hF 7 (by omega) (by decide)
       have dd8 := hF 8 (by omega) (by decide)
       have dd9 := hF 9 (by omega) (by decide)
       have dd10 := hF 10 (by omega) (by decide)
       have dd11 := hF 11 (by omega) (by decide)
       have dd12 := hF 12 (by omega) (by decide)
       have dd13 : (SwR w2 g n mc (ps.set ia (y, q1, q2, q3, q4, q5, q6, q7, q8)) ww) := hF 13 (by omega) (by decide)
       have dd14 := hF 14 (by omega) (by decide)
       clear hF
       simp only [take_succ_cons, take_zero, drop_succ_cons, drop_zero, fillOf, Act.put, setIfInBounds_toArray, set_cons_zero, set_cons_succ, Nat.reduceAdd, Nat.zero_add]
       try generalize xF 0 = yy0 at *
       try generalize xF 1 = yy1 at *
       try generalize xF 2 = yy2 at *
       try generalize xF 3 = yy3 at *
       try generalize xF 4 = yy4 at *
       try generalize xF 5 = yy5 at *
       try generalize xF 6 = yy6 at *
       try generalize xF 7 = yy7 at *
       try generalize xF 8 = yy8 at *
       try generalize xF 9 = yy9 at *
       try generalize xF 10 = yy10 at *
       try generalize xF 11 = yy11 at *
       try generalize xF 12 = yy12 at *
       try generalize xF 13 = yy13 at *
       try generalize xF 14 = yy14 at *
       clear xF
       obtain rfl := dd0
       obtain rfl := dd1
       obtain rfl := dd2
       obtain rfl := dd3
       obtain rfl := dd4
       obtain rfl := dd5
       obtain rfl := dd6
       obtain rfl := dd7
       obtain rfl := dd8
       obtain rfl := dd9
       obtain rfl := dd10
       obtain rfl := dd11
       obtain rfl := dd12
       have hp13 := dd13
       obtain rfl := dd14
       have hRE := Lib.hid hR
       clear hR
       have HTB := Lib.hid (there_row hp13.own (by rw [List.length_set]; exact HPN.out) hjb)
       have HE : Hid ((ps.set ia (y, q1, q2, q3, q4, q5, q6, q7, q8)).set jb (z, p1, p2, p3, p4, p5, p6, p7, p8) = exchF ps ia jb) := by
        show _ = _
        unfold exchF
        rw [HYV.out, HZV.out]
       have HO9 : Hid ((ww.setCells g (jb * 9) (fcell z (p1, p2, p3, p4, p5, p6, p7, p8))).ownsRow w2.heap.size 40 9 (.slice (some ⟨g, 0, none⟩) n mc) n (fcs (exchF ps ia jb)).flatten) := by
        show World.ownsRow _ _ _ _ _ _ _
        rw [← HE.out]
        exact own_put (x := (z, p1, p2, p3, p4, p5, p6, p7, p8)) hp13.own (by rw [List.length_set, ← HPN.out]; exact hjb)
       have HB9 : Hid (Below w2.heap.size w2 (ww.setCells g (jb * 9) (fcell z (p1, p2, p3, p4, p5, p6, p7, p8)))) := below_sets HGB.out _ _ _ _ hp13.below
       have HP9 : Hid (((exchF ps ia jb).map (·.1)).Perm l) := ((exchF_perm (by rw [← HPN.out]; exact hian) (by rw [← HPN.out]; exact hjb)).map _).trans HP.out
       clear hp13
       refine wpList_store_mid rfl _ (.tmp 60) (.tmp 58) rfl g (jb * 9) _ rfl rfl HTB.out infoFact9 (by simp [Value.oneCell']) ?_
       generalize hw9 : ww.setCells g (jb * 9) _ = w9
       have HO10 : Hid (w9.ownsRow w2.heap.size 40 9 (.slice (some ⟨g, 0, none⟩) n mc) n (fcs (exchF ps ia jb)).flatten) := by show World.ownsRow _ _ _ _ _ _ _; rw [← hw9]; exact HO9.out
       have HB10 : Hid (Below w2.heap.size w2 w9) := by show Below _ _ _; rw [← hw9]; exact HB9.out
       clear hw9
       go_wp2
       go_roundw
       case rel => exact ⟨k + 1, exchF ps ia jb, by go_num, by omega, HP9, HO10, HB10⟩
       case measure => simp [intOf]; omega
      ·
       have hnI : ¬ (1 : Int) < (n : Int) := by omega
       have hnJ : (n : Int) ≤ 1 := by omega
       go_wp2
       go_roundw
       case rel => exact ⟨k + 1, ps, by go_num, by omega, HP, HO, HB⟩
       case measure => simp [intOf]; omega
     ·
      have hkn : on = k := by omega
      have HLw := Lib.hid (RowsAt.next fct_steady HL2.out HB.out)
      have HLV := Lib.hid (live_any l _ wr HLw.out HWF.out (by have := HN.out; omega))
      have HM : Hid (∀ W, Below wr.heap.size wr W → Fcts W W.heap.size (.slice mo n mc) (ps.map (·.1))) := fun W hW => by
       have := Cells.own (own_stay HO.out hW)
       rw [HPN.out] at this ⊢
       exact cells_fcts this
      have HWP : Hid (∀ f ∈ ps.map (·.1), FWf f) := fun f hf => HWF.out f (HP.out.mem_iff.1 hf)
      have HBr := Lib.hid (HB2.out.trans (HB.out.mono HB2.out.size))
      clear hkn
      go_wp2_with fail
      (with_reducible refine HLV.out.mono ?_)
      rintro e w5 ⟨u1, A, rfl, hpA, huA, hoA, hb5⟩
      have HA := Lib.hid (And.intro hpA huA)
      have HCA := Lib.hid (Cells.own hoA)
      have HB5 := Lib.hid (HBr.out.trans (hb5.mono HBr.out.size))
      have HLM := Lib.hid (live_any _ _ w5 (HM.out w5 hb5) HWP.out (by rw [List.length_map, ← HPN.out]; omega))
      clear hpA huA hoA hb5
      go_wp2_with fail
      (with_reducible refine HLM.out.mono ?_)
      rintro e w6 ⟨u2, B, rfl, hpB, huB, hoB, hb6⟩
      have hBA : B = A := order_same HD.out HP.out HA.out.1 hpB HA.out.2 huB
      subst hBA
      have HB6 := Lib.hid (HB5.out.trans (hb6.mono HB5.out.size))
      have HSM := Lib.hid (same_self B u1 u2 w6 (HCA.out.next hb6) (Cells.own hoB))
      clear hpB huB hoB hb6
      go_wp2_with fail
      (with_reducible refine HSM.out.mono ?_)
      rintro e w7 ⟨rfl, hb7⟩
      have HB7 := Lib.hid (HB6.out.trans (hb7.mono HB6.out.size))
      clear hb7
      go_wp2_with fail
      (with_reducible refine (HAW.out _ HB7.out).mono ?_)
      rintro e w8 ⟨rfl, hb8⟩
      have HB8 := Lib.hid (HB7.out.trans (hb8.mono HB7.out.size))
      clear hb8
      go_wp2
      go_ret
      exact ⟨rfl, HB8.out⟩
 ·
  clear hfar hb1 HFR
  go_wp2_with fail
  (with_reducible refine (HAW.out _ HB1.out).mono ?_)
  rintro e w2 ⟨rfl, hb2⟩
  have HB2 := Lib.hid (HB1.out.trans (hb2.mono HB1.out.size))
  clear hb2
  go_wp2
  go_ret
  exact ⟨rfl, HB2.out⟩
end Go.Proofs.YtnbdcnbhejfdhaaGreat
namespace Go.Proofs.YtnbdcnbhejfdhaaGreat
open Go Go.RowKit Go.WideShapes Go.ChangeShapes cl
section
variable {H : Type} {enc : TypeId × Value → H} {W : World}
end
end Go.Proofs.YtnbdcnbhejfdhaaGreat
namespace Go.Proofs.YtnbdcnbhejfdhaaGreat.close
open Go.RowKit Go.WideShapes Go.ChangeShapes
section
variable {H : Type} {enc : TypeId × Value → H} {P : Program}
end
end Go.Proofs.YtnbdcnbhejfdhaaGreat.close
namespace Go.Proofs.YtnbdcnbhejfdhaaGreat.at_
open Go.RowKit Go.WideShapes Go.ChangeShapes
theorem cell_lt {w : World} {a : Addr} {v : Value} (h : w.cell? a = some v) : a.block < w.heap.size := by
 unfold World.cell? at h
 by_cases hb : a.block < w.heap.size
 ·
  exact hb
 ·
  rw [Array.getElem?_eq_none (by omega)] at h
  cases h
theorem open_at {H : Type} {enc : TypeId × Value → H} {P : Program} {W : World} {r : Reach} {b0 : Nat} {t e : TypeId} {v : Value} {d : DataW H} {ps : List MemPlace} (ht : P.underlying t = some (.slice e)) (he : P.underlying e = some (.int .i64)) (hc : P.cellsOf e = 1)
  (hval : Value.okWide P W r b0 t v) (hd : DataW.Trod enc P W 0 (fun _ => true) true t v d ps) : ∃ zs : List Int, At W W.heap.size v zs ∧ ∀ n ∈ zs, (Lit.int .i64 n).wf = true := by
 obtain ⟨a0, len, cap, rfl⟩ := okWide_slice ht hval
 obtain ⟨fuel, hf⟩ := hd
 rcases open_ints ht he hc hf with ⟨hcs, _⟩ | ⟨a, len', cap', zs, hcs, _, hle, hmax, hall, _, hcell, hwf⟩
 ·
  simp [Value.cells] at hcs
  obtain ⟨rfl, rfl, rfl⟩ := hcs
  exact ⟨[], nil _ _, by simp⟩
 ·
  simp [Value.cells] at hcs
  obtain ⟨rfl, rfl, rfl⟩ := hcs
  simp only [if_true] at hall
  have hlen : (zs.take len).length = len := by rw [List.length_take]; omega
  refine ⟨zs.take len, ⟨some a, cap, by rw [hlen], ⟨(fun e => by cases e), by omega⟩, by omega, fun hp => ?_⟩, fun n hn => hwf n (List.mem_of_mem_take hn)⟩
  obtain ⟨b, off, rfl, hat⟩ := Go.ints_at hcell (by omega)
  refine ⟨b, off, rfl, by simpa using cell_lt (hat 0 (by omega)), fun j hj => ?_⟩
  have := hat j (by omega)
  rw [this]
  simp [List.getD, show j < len by omega]
end Go.Proofs.YtnbdcnbhejfdhaaGreat.at_

