/- texts put together: MdLive, MdDots, LabName2. -/
import Derived.Test.YtnbdcnbhejfdhaaGreatLv01
import Derived.Test.YtnbdcnbhejfdhaaGreatLv02
import Derived.Test.YtnbdcnbhejfdhaaGreatLv03
import Derived.BigQuiet
import Derived.Deep.QuietTactic
namespace Go.Proofs.YtnbdcnbhejfdhaaGreat
open Go Go.RowKit Go.ChangeShapes cl Go.Sort Go.Shelf Go.WideMaps Go.Maps
theorem own_map_keep {w w' : World} {b n : Nat} {D : DataW Unit} (h : w.ownsMap Tryz.prog 37 (plainElem Tryz.prog 3) b n D) (hb : Below w.heap.size w w') : w'.ownsMap Tryz.prog 37 (plainElem Tryz.prog 3) b n D :=
 h.kept (row := none) (grown_below' hb) (by simp)
theorem run_makeMap_no {P : Program} {t : TypeId} (w : World) : (Instr.makeMap t none).run P w = .ok (.map (some w.heap.size)) (w.alloc (.map #[] 0)) := by
 simp [Instr.makeMap]
theorem infoLive : (Tryz.prog.info? 43).map (fun i => (i.zero, i.size, i.bytes)) = some (some (.agg #[.string ⟨#[]⟩, .int .i64 0, .int .i64 0, .int .i64 0]), 4, 40) := by kernel_rfl
theorem Fcts.get {w : World} {B n c : Nat} {ao : Option Addr} {l : List Fct} (h : Fcts w B (.slice ao n c) l) (hn : n = l.length) {j : Nat} (hj : j < n) : ∃ b off ma mn mc la ln lc er st, ao = some ⟨b, off, none⟩ ∧ b < B ∧
  w.cell? ⟨b, off + j * 9, none⟩ = some (.int .i64 (l.getD j default).kd) ∧ w.cell? ⟨b, off + j * 9 + 1, none⟩ = some (.string (l.getD j default).s) ∧ w.cell? ⟨b, off + j * 9 + 2, none⟩ = some (.int .i64 (l.getD j default).d.1) ∧ w.cell? ⟨b, off + j * 9 + 3, none⟩ = some (.int .i64 (l.getD j default).d.2) ∧ w.cell? ⟨b, off + j * 9 + 4, none⟩ = some (.int .i64 (l.getD j default).t) ∧
  w.cell? ⟨b, off + j * 9 + 5, none⟩ = some (.slice ma mn mc) ∧ w.cell? ⟨b, off + j * 9 + 6, none⟩ = some (.slice la ln lc) ∧ w.cell? ⟨b, off + j * 9 + 7, none⟩ = some (.int .i64 er) ∧ w.cell? ⟨b, off + j * 9 + 8, none⟩ = some (.bool st) := by
 obtain ⟨b, off, cs, rfl, hb, _, ⟨ma, mn, mc, la, ln, lc, er, st, rfl⟩, hc⟩ := RowsAt.get h hn hj default
 exact ⟨b, off, ma, mn, mc, la, ln, lc, er, st, rfl, hb, hc 0 _ rfl, hc 1 _ rfl, hc 2 _ rfl, hc 3 _ rfl, hc 4 _ rfl, hc 5 _ rfl, hc 6 _ rfl, hc 7 _ rfl, hc 8 _ rfl⟩
theorem lvcells_snoc (l : List Lv) (x : Lv) : lvcells (l ++ [x]) = lvcells l ++ lcell x := by rw [lvcells_app]; simp [lvcells]
theorem hasD_no {D : DataW Unit} {l : List Dot} {d : Dot} (h : HasD D l) (hd : DWf d) (hn : d ∉ l) : Maps.has D (dkey d) = false := by
 cases e : Maps.has D (dkey d)
 ·
  rfl
 ·
  exact absurd ((h d hd).1 e) hn
theorem keepF_len (G : List Dot) (l : List Fct) : (keepF G l).length ≤ l.length := (kept_all G l).len
def LiveP (l : List Fct) (w : World) (e : Ending) (w' : World) : Prop := ∃ u L, e = .returned u ∧ L.Perm (keepF (goneF l) l) ∧ UpL L ∧ w'.ownsRow w.heap.size 43 4 u L.length (lvcells L) ∧ Below w.heap.size w w'
set_option maxHeartbeats 6400000 in
set_option maxRecDepth 100000 in
theorem live_any (l : List Fct) (v : Value) (w : World) (hl : Fcts w w.heap.size v l) (hwf : ∀ f ∈ l, FWf f) (hlen : l.length ≤ 100000) :
  Calls Tryz.prog 10 #[v] w (LiveP l w) := by
 have hmm := fun (w : World) => run_makeMap_no (P := Tryz.prog) (t := 68) w
 obtain ⟨n, hn⟩ : ∃ n, n = l.length := ⟨_, rfl⟩
 have HN := Lib.hid hn
 obtain ⟨ao, cap, rfl⟩ : ∃ ao cap, v = .slice ao n cap := by
  obtain ⟨ao, cap, e, _⟩ := RowsAt.form' hl hn
  exact ⟨ao, cap, e⟩
 have hn6 : n ≤ 100000 := by omega
 obtain ⟨w2, hw2⟩ : ∃ W, W = (w.alloc (.map #[] 0)).alloc (.map #[] 0) := ⟨_, rfl⟩
 have E2 : Below w.heap.size w w2 := by rw [hw2]; exact below1.alloc (by simp) _
 have hs2 : w2.heap.size = w.heap.size + 2 := by rw [hw2]; simp
 have HM1 : Hid (w2.ownsMap Tryz.prog 37 (plainElem Tryz.prog 3) w.heap.size 0 (.map [] : DataW Unit)) := by
  show World.ownsMap _ _ _ _ _ _ _
  rw [hw2]
  exact (World.ownsMap_made (H := Unit) w Tryz.prog 37 (plainElem Tryz.prog 3)).alloc _
 have HM2 : Hid (w2.ownsMap Tryz.prog 37 (plainElem Tryz.prog 3) (w.heap.size + 1) 0 (.map [] : DataW Unit)) := by
  show World.ownsMap _ _ _ _ _ _ _
  have := World.ownsMap_made (H := Unit) (w.alloc (.map #[] 0)) Tryz.prog 37 (plainElem Tryz.prog 3)
  rw [World.size_alloc] at this
  rw [hw2]; exact this
 have HL := Lib.hid hl
 have HWF : Hid (∀ k, k < n → DWf (l.getD k default).d) := fun k hk => hwf _ (by
  rw [List.getD_eq_getElem?_getD, List.getElem?_eq_getElem (by omega)]
  exact List.getElem_mem _)
 have HE := Lib.hid E2
 have HS := Lib.hid hs2
 have HW := Lib.hid hw2
 clear hl hwf hlen hn E2 hs2 hw2
 go_enter Tryz.func10, Tryz.ntmps10
 go_wp2
 go_step3
 go_wp2
 rw [← HW.out]
 go_loopw [18] (fun i wr => ∃ (k : Nat) (D : DataW Unit), i = .int .i64 k ∧ k ≤ n ∧ Hid (HasD D (goneF (l.take k))) ∧ Hid (wr.ownsMap Tryz.prog 37 (plainElem Tryz.prog 3) w.heap.size k D) ∧ Hid (wr.ownsMap Tryz.prog 37 (plainElem Tryz.prog 3) (w.heap.size + 1) 0 (.map [] : DataW Unit)) ∧ Hid (Below w.heap.size w wr) ∧ w.heap.size + 2 ≤ wr.heap.size) (fun i _ => n - (intOf i).toNat)
 case atStart => exact ⟨0, .map [], rfl, by omega, hasD_nil, HM1.out, HM2.out, HE.out, by have := HS.out; omega⟩
 case round =>
  obtain ⟨k, D, rfl, hk, HH, HO, HO2, HB, hbz⟩ := hrel
  clear HM1 HM2
  by_cases hlt : k < n
  ·
   have hkI : (k : Int) < (n : Int) := by omega
   obtain ⟨bb, off, ma, mn, mc, la, ln, lc, er, st, rfl, hbB, p0, p1, p2, p3, p4, p5, p6, p7, p8⟩ := Fcts.get (RowsAt.next fct_steady HL.out HB.out) HN.out hlt
   have HDK := Lib.hid (HWF.out k hlt)
   obtain ⟨x, hx⟩ : ∃ x, x = l.getD k default := ⟨_, rfl⟩
   rw [← hx] at p0 p1 p2 p3 p4 HDK
   have HX : Hid (l.take (k + 1) = l.take k ++ [x]) := by
    show _ = _
    rw [hx]; exact take_one l k default (by rw [← HN.out]; exact hlt)
   have HKEY : Hid (keyOf Tryz.prog 37 (.agg #[.int .i64 x.d.1, .int .i64 x.d.2]) = some (dkey x.d)) := dkey_of HDK.out
   clear hx
   by_cases h2 : x.kd = 2
   ·
    have h2b : (x.kd == 2) = true := by rw [h2]; rfl
    have HP : Hid (HasD (D.put (dkey x.d) (.lit (.int .i64 k))) (goneF (l.take (k + 1)))) := by
     show HasD _ _
     rw [HX.out, goneF_snoc, if_pos h2]
     exact hasD_put HH.out HO.out.isMap HDK.out _
    have HBA := Lib.hid (HB.out.alloc (by omega) (.cells #[.int .i64 x.kd, .string x.s, .int .i64 x.d.1, .int .i64 x.d.2, .int .i64 x.t, .slice ma mn mc, .slice la ln lc, .int .i64 er, .bool st] 40))
    rw [h2] at p0 HBA
    clear h2 h2b
    go_wp2_with (at_mapUpdate; refine wpList_mapUpdate_own _ rfl _ _ _ 68 rfl 37 3 dkeyed Tryz.underlying68 _ w.heap.size k _ rfl (HO.out.alloc _) (by unfold maxLen; omega) _ _ _ rfl rfl HKEY.out _ [] (plainElem_int Tryz.underlying3 (WalkArith.wf_i64 (by omega))) ?_)
    intro w1 hown1 hgrow1
    have HO1 := Lib.hid hown1
    have HO21 := Lib.hid ((HO2.out.alloc (.cells #[.int .i64 2, .string x.s, .int .i64 x.d.1, .int .i64 x.d.2, .int .i64 x.t, .slice ma mn mc, .slice la ln lc, .int .i64 er, .bool st] 40)).kept hgrow1 (fun e => by have := Option.some.inj e; omega))
    have HB1 := Lib.hid (HBA.out.grown hgrow1 (by simp; omega) (fun j hj => by cases hj; exact Nat.le_refl _))
    have hbz1 : w.heap.size + 2 ≤ w1.heap.size := by have := hgrow1.size; simp at this; omega
    clear hown1 hgrow1 HBA
    go_wp2
    go_roundw
    case rel => exact ⟨k + 1, _, by go_num, by omega, HP, HO1, HO21, HB1, hbz1⟩
    case measure => simp [intOf]; omega
   ·
    have h2b : (x.kd == 2) = false := by simpa using h2
    have HP : Hid (HasD D (goneF (l.take (k + 1)))) := by
     show HasD _ _
     rw [HX.out, goneF_snoc, if_neg h2]
     exact HH.out
    have HO1 := Lib.hid ((HO.out.alloc (.cells #[.int .i64 x.kd, .string x.s, .int .i64 x.d.1, .int .i64 x.d.2, .int .i64 x.t, .slice ma mn mc, .slice la ln lc, .int .i64 er, .bool st] 40)).mono (Nat.le_succ k))
    have HO21 := Lib.hid (HO2.out.alloc (.cells #[.int .i64 x.kd, .string x.s, .int .i64 x.d.1, .int .i64 x.d.2, .int .i64 x.t, .slice ma mn mc, .slice la ln lc, .int .i64 er, .bool st] 40))
    have HB1 := Lib.hid (HB.out.alloc (by omega) (.cells #[.int .i64 x.kd, .string x.s, .int .i64 x.d.1, .int .i64 x.d.2, .int .i64 x.t, .slice ma mn mc, .slice la ln lc, .int .i64 er, .bool st] 40))
    go_wp2
    go_roundw
    case rel => exact ⟨k + 1, _, by go_num, by omega, HP, HO1, HO21, HB1, by simp; omega⟩
    case measure => simp [intOf]; omega
  ·
   have hkn : k = n := by omega
   subst hkn
   have HG : Hid (HasD D (goneF l)) := by
    have := HH.out
    rw [List.take_of_length_le (by rw [← HN.out]; exact Nat.le_refl _)] at this
    exact this
   obtain ⟨G, hG⟩ : ∃ G, G = goneF l := ⟨_, rfl⟩
   have HGE := Lib.hid hG
   rw [← hG] at HG
   clear HH hlt hG HW HE HS
   go_wp2
   go_step3
   go_wp2
   go_loopw [7, 33] (fun s i wx => ∃ (j q : Nat) (oa : Option Addr) (oc : Nat) (D2 : DataW Unit), s = .slice oa q oc ∧ i = .int .i64 j ∧ j ≤ k ∧ q ≤ j ∧ Hid (q = (keepF G (l.take j)).length) ∧ Hid (HasD D2 ((keepF G (l.take j)).map Lv.d)) ∧ Hid (wx.ownsMap Tryz.prog 37 (plainElem Tryz.prog 3) w.heap.size k D) ∧ Hid (wx.ownsMap Tryz.prog 37 (plainElem Tryz.prog 3) (w.heap.size + 1) j D2) ∧ Hid (wx.ownsRow (w.heap.size + 2) 43 4 (.slice oa q oc) q (lvcells (keepF G (l.take j)))) ∧ Hid (Below w.heap.size w wx) ∧ w.heap.size + 2 ≤ wx.heap.size) (fun _ i _ => k - (intOf i).toNat)
   case atStart => exact ⟨0, 0, none, 0, .map [], rfl, rfl, by omega, by omega, rfl, hasD_nil, HO.out, HO2.out, World.ownsRow_nil _ _ _ _, HB.out, hbz⟩
   case round =>
    rename World => wx
    obtain ⟨j, q, oa, oc, D2, rfl, rfl, hj, hqj, HQ, HH2, HO1, HO2, HR, HB, hbz⟩ := hrel
    by_cases hlt : j < k
    ·
     have hjI : (j : Int) < (k : Int) := by omega
     obtain ⟨bb, off, ma, mn, mc, la, ln, lc, er, st, rfl, hbB, p0, p1, p2, p3, p4, p5, p6, p7, p8⟩ := Fcts.get (RowsAt.next fct_steady HL.out HB.out) HN.out hlt
     have HDK := Lib.hid (HWF.out j hlt)
     obtain ⟨x, hx⟩ : ∃ x, x = l.getD j default := ⟨_, rfl⟩
     rw [← hx] at p0 p1 p2 p3 p4 HDK
     have HX : Hid (l.take (j + 1) = l.take j ++ [x]) := by
      show _ = _
      rw [hx]; exact take_one l j default (by rw [← HN.out]; exact hlt)
     have HKEY : Hid (keyOf Tryz.prog 37 (.agg #[.int .i64 x.d.1, .int .i64 x.d.2]) = some (dkey x.d)) := dkey_of HDK.out
     obtain ⟨kd, hkd⟩ : ∃ z, z = x.kd := ⟨_, rfl⟩
     have HKD := Lib.hid hkd
     rw [← hkd] at p0
     obtain ⟨W1, hW1⟩ : ∃ W1, W1 = wx.alloc (.cells #[.int .i64 kd, .string x.s, .int .i64 x.d.1, .int .i64 x.d.2, .int .i64 x.t, .slice ma mn mc, .slice la ln lc, .int .i64 er, .bool st] 40) := ⟨_, rfl⟩
     have hb1 : Below wx.heap.size wx W1 := by rw [hW1]; exact below1
     have y1 : W1.heap[wx.heap.size]? = some (.cells #[.int .i64 kd, .string x.s, .int .i64 x.d.1, .int .i64 x.d.2, .int .i64 x.t, .slice ma mn mc, .slice la ln lc, .int .i64 er, .bool st] 40) := by rw [hW1]; exact heap_alloc_new wx _
     have Y1 := Lib.hid y1
     have HB1 := Lib.hid (HB.out.trans (hb1.mono HB.out.size))
     have HO11 := Lib.hid (own_map_keep HO1.out hb1)
     have HO21 := Lib.hid (own_map_keep HO2.out hb1)
     have HR1 := Lib.hid (own_stay HR.out hb1)
     have hbz1 : w.heap.size + 2 ≤ W1.heap.size := by have := hb1.size; omega
     have HSKIP : Hid (keepB G (keepF G (l.take j)) x = false → keepF G (l.take (j + 1)) = keepF G (l.take j)) := fun h => by
      rw [HX.out, keepF_snoc]; unfold keepS; rw [if_neg (by rw [h]; decide)]
     have HREL : Hid (∀ W, Below W1.heap.size W1 W → keepB G (keepF G (l.take j)) x = false → ∃ (j' q' : Nat) (oa' : Option Addr) (oc' : Nat) (D2' : DataW Unit), (Value.slice oa q oc) = .slice oa' q' oc' ∧ (Value.int .i64 ((j : Int) + 1)) = .int .i64 j' ∧ j' ≤ k ∧ q' ≤ j' ∧ Hid (q' = (keepF G (l.take j')).length) ∧ Hid (HasD D2' ((keepF G (l.take j')).map Lv.d)) ∧ Hid (W.ownsMap Tryz.prog 37 (plainElem Tryz.prog 3) w.heap.size k D) ∧ Hid (W.ownsMap Tryz.prog 37 (plainElem Tryz.prog 3) (w.heap.size + 1) j' D2') ∧ Hid (W.ownsRow (w.heap.size + 2) 43 4 (.slice oa' q' oc') q' (lvcells (keepF G (l.take j')))) ∧ Hid (Below w.heap.size w W) ∧ w.heap.size + 2 ≤ W.heap.size) := fun W hW h => by
      have hs := HSKIP.out h
      refine ⟨j + 1, q, oa, oc, D2, rfl, by go_num, by omega, by omega, ?_, ?_, own_map_keep HO11.out hW, (own_map_keep HO21.out hW).mono (Nat.le_succ j), ?_, HB1.out.trans (hW.mono HB1.out.size), by have := hW.size; omega⟩
      ·
       show _ = _; rw [hs]; exact HQ.out
      ·
       show HasD _ _; rw [hs]; exact HH2.out
      ·
       show World.ownsRow _ _ _ _ _ _ _; rw [hs]; exact own_stay HR1.out hW
     have HW1 := Lib.hid hW1
     clear hx hkd y1 hb1 hW1
     by_cases h1 : kd = 1
     ·
      subst h1
      cases hval : valid x.d
      ·
       have HKB : Hid (keepB G (keepF G (l.take j)) x = false) := by show _ = _; unfold keepB; rw [hval]; simp
       have HV : Hid (Calls Tryz.prog 22 #[.agg #[.int .i64 x.d.1, .int .i64 x.d.2]] W1 (Said false W1)) := by
        have := valid_any x.d W1
        rwa [hval] at this
       clear hval
       go_wp2_with fail
       rw [← HW1.out]
       (with_reducible refine HV.out.mono ?_)
       rintro e w3 ⟨rfl, hb3⟩
       have HF := Lib.hid (HREL.out w3 hb3 HKB.out)
       go_wp2
       go_roundw
       case rel => exact HF.out
       case measure => simp [intOf]; omega
      ·
       have HV : Hid (Calls Tryz.prog 22 #[.agg #[.int .i64 x.d.1, .int .i64 x.d.2]] W1 (Said true W1)) := by
        have := valid_any x.d W1
        rwa [hval] at this
       have HVL := Lib.hid hval
       clear hval
       by_cases hg : x.d ∈ G
       ·
        have HKB : Hid (keepB G (keepF G (l.take j)) x = false) := by show _ = _; unfold keepB; simp [hg]
        have HHG : Hid (Maps.has D (dkey x.d) = true) := (HG.out x.d HDK.out).2 hg
        obtain ⟨b2, hb2⟩ : ∃ b, Maps.has D2 (dkey x.d) = b := ⟨_, rfl⟩
        have HHC := Lib.hid hb2
        clear hg hb2
        go_wp2_with fail
        rw [← HW1.out]
        (with_reducible refine HV.out.mono ?_)
        rintro e w3 ⟨rfl, hb3⟩
        have HF := Lib.hid (HREL.out w3 hb3 HKB.out)
        have y3 := (hb3.block _ (lt_of_block Y1.out)).trans Y1.out
        have z2 := boxc y3 2 _ rfl
        have z3 := boxc y3 3 _ rfl
        have HO13 := Lib.hid (own_map_keep HO11.out hb3)
        have HO23 := Lib.hid (own_map_keep HO21.out hb3)
        clear y3 hb3
        go_wp2_with (at_lookup; first | refine look_ok rfl _ _ 68 rfl 37 3 .i64 dkeyed Tryz.underlying68 Tryz.underlying3 (zeroI _) w.heap.size k D rfl HO13.out _ _ rfl HKEY.out true HHG.out ?_; intro cv | refine look_ok rfl _ _ 68 rfl 37 3 .i64 dkeyed Tryz.underlying68 Tryz.underlying3 (zeroI _) (w.heap.size + 1) j D2 rfl HO23.out _ _ rfl HKEY.out b2 HHC.out ?_; intro cv2)
        go_roundw
        case rel => exact HF.out
        case measure => simp [intOf]; omega
       ·
        have HHG : Hid (Maps.has D (dkey x.d) = false) := hasD_no HG.out HDK.out hg
        by_cases hc : x.d ∈ (keepF G (l.take j)).map Lv.d
        ·
         have HKB : Hid (keepB G (keepF G (l.take j)) x = false) := by show _ = _; unfold keepB; rw [decide_eq_true hc]; simp
         have HHC : Hid (Maps.has D2 (dkey x.d) = true) := (HH2.out x.d HDK.out).2 hc
         clear hg hc
         go_wp2_with fail
         rw [← HW1.out]
         (with_reducible refine HV.out.mono ?_)
         rintro e w3 ⟨rfl, hb3⟩
         have HF := Lib.hid (HREL.out w3 hb3 HKB.out)
         have y3 := (hb3.block _ (lt_of_block Y1.out)).trans Y1.out
         have z2 := boxc y3 2 _ rfl
         have z3 := boxc y3 3 _ rfl
         have HO13 := Lib.hid (own_map_keep HO11.out hb3)
         have HO23 := Lib.hid (own_map_keep HO21.out hb3)
         clear y3 hb3
         go_wp2_with (at_lookup; first | refine look_ok rfl _ _ 68 rfl 37 3 .i64 dkeyed Tryz.underlying68 Tryz.underlying3 (zeroI _) w.heap.size k D rfl HO13.out _ _ rfl HKEY.out false HHG.out ?_; intro cv | refine look_ok rfl _ _ 68 rfl 37 3 .i64 dkeyed Tryz.underlying68 Tryz.underlying3 (zeroI _) (w.heap.size + 1) j D2 rfl HO23.out _ _ rfl HKEY.out true HHC.out ?_; intro cv2)
         go_roundw
         case rel => exact HF.out
         case measure => simp [intOf]; omega
        ·
         have HHC : Hid (Maps.has D2 (dkey x.d) = false) := hasD_no HH2.out HDK.out hc
         have HKP : Hid (keepF G (l.take (j + 1)) = keepF G (l.take j) ++ [⟨x.s, x.d, x.t⟩]) := by
          show _ = _
          rw [HX.out, keepF_snoc]; unfold keepS
          rw [if_pos]
          unfold keepB
          rw [HVL.out, decide_eq_true HKD.out.symm, decide_eq_false hg, decide_eq_false hc]; rfl
         have HPUT : Hid (HasD (D2.put (dkey x.d) (.lit (.int .i64 j))) ((keepF G (l.take (j + 1))).map Lv.d)) := by
          show HasD _ _
          rw [HKP.out, List.map_append]
          exact hasD_put HH2.out HO2.out.isMap HDK.out _
         have HQ2 : Hid (q + 1 = (keepF G (l.take (j + 1))).length) := by show _ = _; rw [HKP.out, List.length_append, ← HQ.out]; rfl
         have HC2 : Hid (lvcells (keepF G (l.take (j + 1))) = lvcells (keepF G (l.take j)) ++ [.string x.s, .int .i64 x.d.1, .int .i64 x.d.2, .int .i64 x.t]) := by show _ = _; rw [HKP.out, lvcells_snoc]; rfl
         clear hg hc HREL HSKIP HVL
         go_wp2_with fail
         rw [← HW1.out]
         (with_reducible refine HV.out.mono ?_)
         rintro e w3 ⟨rfl, hb3⟩
         have y3 := (hb3.block _ (lt_of_block Y1.out)).trans Y1.out
         have Y3 := Lib.hid y3
         have z2 := boxc y3 2 _ rfl
         have z3 := boxc y3 3 _ rfl
         have HO13 := Lib.hid (own_map_keep HO11.out hb3)
         have HO23 := Lib.hid (own_map_keep HO21.out hb3)
         have HR3 := Lib.hid (own_stay HR1.out hb3)
         have HB3 := Lib.hid (HB1.out.trans (hb3.mono HB1.out.size))
         have hbz3 : w.heap.size + 2 ≤ w3.heap.size := by have := hb3.size; omega
         clear y3 hb3
         go_wp2_with (first | (at_lookup; first | refine look_ok rfl _ _ 68 rfl 37 3 .i64 dkeyed Tryz.underlying68 Tryz.underlying3 (zeroI _) w.heap.size k D rfl HO13.out _ _ rfl HKEY.out false HHG.out ?_; intro cv | refine look_ok rfl _ _ 68 rfl 37 3 .i64 dkeyed Tryz.underlying68 Tryz.underlying3 (zeroI _) (w.heap.size + 1) j D2 rfl HO23.out _ _ rfl HKEY.out false HHC.out ?_; intro cv2) | (at_mapUpdate; refine wpList_mapUpdate_own _ rfl _ _ _ 68 rfl 37 3 dkeyed Tryz.underlying68 _ (w.heap.size + 1) j _ rfl HO23.out (by unfold maxLen; omega) _ _ _ rfl rfl HKEY.out _ [] (plainElem_int Tryz.underlying3 (WalkArith.wf_i64 (by omega))) ?_))
         intro w4 hown4 hgrow4
         have h4s := hgrow4.size
         have y4 := (hgrow4.block _ (lt_of_block Y3.out) (fun e => by have := Option.some.inj e; omega)).trans Y3.out
         have v1 := boxc y4 1 _ rfl
         have v2 := boxc y4 2 _ rfl
         have v3 := boxc y4 3 _ rfl
         have v4 := boxc y4 4 _ rfl
         have HO14 := Lib.hid (HO13.out.kept hgrow4 (fun e => by have := Option.some.inj e; omega))
         have HO24 := Lib.hid hown4
         have HR4 := Lib.hid (HR3.out.kept hgrow4 (Or.inr (fun e => row_ne_low HR3.out (by omega) e.symm)))
         have HB4 := Lib.hid (HB3.out.grown hgrow4 (by omega) (fun i hi => by cases hi; omega))
         have hbz4 : w.heap.size + 2 ≤ w4.heap.size := by omega
         clear y4 hown4 hgrow4 h4s
         go_wp2_with (at_builtin; refine app1g (.tmp 69) (.tmp 77) 27 rfl rfl (w.heap.size + 2) Tryz.underlying27 infoLive rfl (by decide) (by decide) HR4.out rfl rfl rfl (by intro u hu; simp at hu; rcases hu with rfl | rfl | rfl | rfl <;> rfl) (by omega) hbz4 ?_)
         intro v' w5 hown5 hgrow5
         have hrA := HR4.out.alloc (.cells #[.string x.s, .int .i64 x.d.1, .int .i64 x.d.2, .int .i64 x.t] 43)
         have HO15 := Lib.hid ((HO14.out.alloc (.cells #[.string x.s, .int .i64 x.d.1, .int .i64 x.d.2, .int .i64 x.t] 43)).kept hgrow5 (row_ne_low HR4.out (by omega)))
         have HO25 := Lib.hid ((HO24.out.alloc (.cells #[.string x.s, .int .i64 x.d.1, .int .i64 x.d.2, .int .i64 x.t] 43)).kept hgrow5 (row_ne_low HR4.out (by omega)))
         have HB5 := Lib.hid ((HB4.out.alloc (by omega) (.cells #[.string x.s, .int .i64 x.d.1, .int .i64 x.d.2, .int .i64 x.t] 43)).trans ((grown_below hrA (by rw [World.size_alloc]; omega) hgrow5).mono (by omega)))
         have hbz5 : w.heap.size + 2 ≤ w5.heap.size := by have := hgrow5.size; simp at this; omega
         obtain ⟨a5, c5, rfl⟩ := own_slice hown5
         have HR5 : Hid (w5.ownsRow (w.heap.size + 2) 43 4 (.slice a5 (q + 1) c5) (q + 1) (lvcells (keepF G (l.take (j + 1))))) := by
          show World.ownsRow _ _ _ _ _ _ _
          rw [HC2.out]; exact hown5
         clear hrA hown5 hgrow5
         go_wp2
         go_roundw
         case rel => exact ⟨j + 1, q + 1, a5, c5, _, rfl, by go_num, by omega, by omega, HQ2, HPUT, HO15, HO25, HR5, HB5, hbz5⟩
         case measure => simp [intOf]; omega
     ·
      have h1b : (kd == 1) = false := by simpa using h1
      have HKB : Hid (keepB G (keepF G (l.take j)) x = false) := by
       show _ = _
       unfold keepB
       rw [decide_eq_false (by rw [← HKD.out]; exact h1)]; rfl
      have HF := Lib.hid (HREL.out W1 (Below.refl _ _) HKB.out)
      rw [HW1.out] at HF
      go_wp2
      go_roundw
      case rel => exact HF.out
      case measure => simp [intOf]; omega
    ·
     have hjk : j = k := by omega
     subst hjk
     have HT : Hid (l.take j = l) := List.take_of_length_le (by rw [← HN.out]; exact Nat.le_refl _)
     have HRT : Hid (wx.ownsRow (w.heap.size + 2) 43 4 (.slice oa q oc) q (lvcells (keepF G l))) := by
      show World.ownsRow _ _ _ _ _ _ _
      have := HR.out
      rw [HT.out] at this; exact this
     have HQT : Hid (q = (keepF G l).length) := by
      show _ = _
      have := HQ.out
      rw [HT.out] at this; exact this
     have HSRT : Hid (Calls Tryz.prog 29 #[.slice oa q oc, .func (.func 30) #[] #[]] wx (ESortA (w.heap.size + 2) q (.slice oa q oc) (keepF G l) wx)) :=
      esort_all _ _ _ _ _ HRT.out HQT.out hbz (by omega)
     clear HR HQ HT hlt
     go_wp2_with fail
     (with_reducible refine HSRT.out.mono ?_)
     rintro e w6 ⟨rfl, L', hp, hsd, hown6, hgrow6⟩
     have HFIN : Hid (LiveP l w (.returned (.slice oa q oc)) w6) := by
      have hnd := (kept_all G l).nodup
      refine ⟨_, L', rfl, by rw [← HGE.out]; exact hp, sorted_up hp hsd hnd, ?_, HB.out.trans ((grown_below HRT.out hbz hgrow6).mono (by omega))⟩
      rw [hp.length_eq, ← HQT.out]
      exact own_base hown6 (by omega)
     clear hp hsd hown6 hgrow6 HSRT
     go_wp2
     go_ret
     exact HFIN.out
end Go.Proofs.YtnbdcnbhejfdhaaGreat
namespace Go.Proofs.YtnbdcnbhejfdhaaGreat
open Go Go.RowKit Go.ChangeShapes cl Go.Sort Go.Shelf Go.WideMaps Go.Maps
def addedF (C : List Fct) (d : Dot) : Option Fct := C.find? fun g => decide (g.d = d)
def dotS (C : List Fct) (f : Fct) : Option (List Fct) :=
 if f.kd = 1 ∨ f.kd = 2 then
  if valid f.d then
   match addedF C f.d with
   | none => if f.kd = 1 then some (C ++ [f]) else none
   | some g => if f.kd = 1 then none else if g.s = f.s ∧ g.t = f.t then some C else none
  else none
 else some C
def dotsF : List Fct → List Fct → Option (List Fct)
 | C, [] => some C
 | C, f :: l => (dotS C f).bind fun C' => dotsF C' l
theorem addedF_snoc_same {C : List Fct} {x : Fct} (h : addedF C x.d = none) : addedF (C ++ [x]) x.d = some x := by
 unfold addedF at *
 rw [List.find?_append, h]; simp
theorem addedF_snoc_other {C : List Fct} {x : Fct} {d : Dot} (h : d ≠ x.d) : addedF (C ++ [x]) d = addedF C d := by
 unfold addedF
 rw [List.find?_append]
 cases C.find? fun g => decide (g.d = d) with
 | some g => rfl
 | none => simp; exact fun e => h e.symm
def CameC (l : List Fct) (D : DataW Unit) (C : List Fct) : Prop := ∀ d, DWf d → match addedF C d with
 | none => Maps.has D (dkey d) = false
 | some g => Maps.has D (dkey d) = true ∧ ∃ j : Nat, j < l.length ∧ l.getD j default = g ∧ D.atKey (dkey d) (.lit (.int .i64 0)) = .lit (.int .i64 j)
theorem came_nil (l : List Fct) : CameC l (.map []) [] := fun d _ => by
 show Maps.has _ _ = false
 simp [Maps.has]
set_option maxRecDepth 100000 in
theorem came_put {l : List Fct} {D : DataW Unit} {C : List Fct} {x : Fct} {k : Nat} (h : CameC l D C) (hD : IsMap D) (hx : DWf x.d) (hk : k < l.length) (hx2 : l.getD k default = x) (hn : addedF C x.d = none) : CameC l (D.put (dkey x.d) (.lit (.int .i64 k))) (C ++ [x]) := by
 intro d hd
 by_cases e : d = x.d
 ·
  subst e
  have hkk := dkey_lit hx
  rw [addedF_snoc_same hn]
  refine ⟨?_, k, hk, hx2, ?_⟩
  ·
   generalize dkey x.d = q at hkk ⊢
   exact has_put_same hD hkk _
  ·
   generalize dkey x.d = q at hkk ⊢
   exact atKey_put_same hD hkk _ _
 ·
  rw [addedF_snoc_other e]
  have h1 := h d hd
  have hne := dkey_ne hd hx e
  cases hc : addedF C d with
  | none =>
   rw [hc] at h1
   show Maps.has _ _ = false
   rw [has_put_other hne]; exact h1
  | some g =>
   rw [hc] at h1
   obtain ⟨a, j, b, c, e2⟩ := h1
   exact ⟨by rw [has_put_other hne]; exact a, j, b, c, by rw [atKey_put_other hne]; exact e2⟩
theorem look_okV {H : Type} {P : Program} {w : World} {ops : Array Oper} {rest : List Oper} {o : Oper} {a : Act} {Q : Exit → Act → World → Prop} (hg : o.guard = none) (m x : Operand) (t : TypeId) (hop : o.op = Op.lookup t m x true)
  (k e : TypeId) (q : IntKind) (K : Keyed P k) (ht : P.underlying t = some (.map k e)) (he : P.underlying e = some (.int q)) (hz : (zeroValue e).run P w = .ok (.int q 0) w) (b n : Nat) (D : DataW H)
  (hm : a.eval m = .map (some b)) (hown : w.ownsMap P k (plainElem P e) b n D) (key : Value) (kl : Lit) (hx : a.eval x = key) (hkey : keyOf P k key = some kl) (r : Bool) (hr : Maps.has D kl = r) (c : Int) (hc : D.atKey kl (.lit (.int q 0)) = .lit (.int q c))
  (hK : wpList P ops Q rest (a.put o.dst (.tuple #[.int q c, .bool r])) w) : wpList P ops Q (o :: rest) a w :=
 wpList_lookup_own_ok_int w hg m x t hop k e q K ht he hz b n D hm hown key kl hx hkey fun c' h _ => by
  rw [hc] at h
  simp only [DataW.lit.injEq, Lit.int.injEq, true_and] at h
  rw [← h, hr]; exact hK
theorem drop_cons {l : List Fct} {k : Nat} (h : k < l.length) : l.drop k = l.getD k default :: l.drop (k + 1) := by
 rw [List.drop_eq_getElem_cons h, List.getD_eq_getElem?_getD, List.getElem?_eq_getElem h]; rfl
set_option maxHeartbeats 6400000 in
set_option maxRecDepth 100000 in
theorem dots_any (l : List Fct) (v : Value) (w : World) (hl : Fcts w w.heap.size v l) (hwf : ∀ f ∈ l, FWf f) (hlen : l.length ≤ 100000) :
  Calls Tryz.prog 20 #[v] w (Said (dotsF [] l).isSome w) := by
 have hmm := fun (w : World) => run_makeMap_no (P := Tryz.prog) (t := 68) w
 obtain ⟨R, hR⟩ : ∃ R, R = (dotsF [] l).isSome := ⟨_, rfl⟩
 rw [← hR]
 obtain ⟨n, hn⟩ : ∃ n, n = l.length := ⟨_, rfl⟩
 have HN := Lib.hid hn
 obtain ⟨ao, cap, rfl⟩ : ∃ ao cap, v = .slice ao n cap := by
  obtain ⟨ao, cap, e, _⟩ := RowsAt.form' hl hn
  exact ⟨ao, cap, e⟩
 have hn6 : n ≤ 100000 := by omega
 obtain ⟨w2, hw2⟩ : ∃ W, W = w.alloc (.map #[] 0) := ⟨_, rfl⟩
 have E2 : Below w.heap.size w w2 := by rw [hw2]; exact below1
 have hs2 : w2.heap.size = w.heap.size + 1 := by rw [hw2]; simp
 have HM1 : Hid (w2.ownsMap Tryz.prog 37 (plainElem Tryz.prog 3) w.heap.size 0 (.map [] : DataW Unit)) := by
  show World.ownsMap _ _ _ _ _ _ _
  rw [hw2]
  exact World.ownsMap_made (H := Unit) w Tryz.prog 37 (plainElem Tryz.prog 3)
 have HL := Lib.hid hl
 have HWF : Hid (∀ k, k < n → DWf (l.getD k default).d) := fun k hk => hwf _ (by
  rw [List.getD_eq_getElem?_getD, List.getElem?_eq_getElem (by omega)]
  exact List.getElem_mem _)
 have HE := Lib.hid E2
 have HS := Lib.hid hs2
 have HW := Lib.hid hw2
 have HRR := Lib.hid hR
 clear hl hwf hlen hn E2 hs2 hw2 hR
 go_enter Tryz.func20, Tryz.ntmps20
 go_wp2
 go_step3
 go_wp2
 rw [← HW.out]
 try (go_step3; go_wp2)
 go_loopw [11] (fun i wr => ∃ (k : Nat) (D : DataW Unit) (C : List Fct), i = .int .i64 k ∧ k ≤ n ∧ Hid (R = (dotsF C (l.drop k)).isSome) ∧ Hid (CameC l D C) ∧ Hid (wr.ownsMap Tryz.prog 37 (plainElem Tryz.prog 3) w.heap.size k D) ∧ Hid (Below w.heap.size w wr) ∧ w.heap.size + 1 ≤ wr.heap.size) (fun i _ => n - (intOf i).toNat)
 case atStart => exact ⟨0, .map [], [], rfl, by omega, HRR.out, came_nil l, HM1.out, HE.out, by have := HS.out; omega⟩
 case round =>
  obtain ⟨k, D, C, rfl, hk, HF, HC, HO, HB, hbz⟩ := hrel
  clear HM1 HRR HW HS HE
  by_cases hlt : k < n
  ·
   have hkI : (k : Int) < (n : Int) := by omega
   obtain ⟨bb, off, ma, mn, mc, la, ln, lc, er, st, rfl, hbB, p0, p1, p2, p3, p4, p5, p6, p7, p8⟩ := Fcts.get (RowsAt.next fct_steady HL.out HB.out) HN.out hlt
   have HDK := Lib.hid (HWF.out k hlt)
   obtain ⟨x, hx⟩ : ∃ x, x = l.getD k default := ⟨_, rfl⟩
   rw [← hx] at p0 p1 p2 p3 p4 HDK
   have HXX := Lib.hid hx
   have HKEY : Hid (keyOf Tryz.prog 37 (.agg #[.int .i64 x.d.1, .int .i64 x.d.2]) = some (dkey x.d)) := dkey_of HDK.out
   have HF2 : Hid (R = ((dotS C x).bind fun C' => dotsF C' (l.drop (k + 1))).isSome) := by
    show _ = _
    rw [HF.out, drop_cons (by rw [← HN.out]; exact hlt), hx]; rfl
   obtain ⟨kd, hkd⟩ : ∃ z, z = x.kd := ⟨_, rfl⟩
   have HKD := Lib.hid hkd
   rw [← hkd] at p0
   obtain ⟨W1, hW1⟩ : ∃ W1, W1 = wr.alloc (.cells #[.int .i64 kd, .string x.s, .int .i64 x.d.1, .int .i64 x.d.2, .int .i64 x.t, .slice ma mn mc, .slice la ln lc, .int .i64 er, .bool st] 40) := ⟨_, rfl⟩
   have hb1 : Below wr.heap.size wr W1 := by rw [hW1]; exact below1
   have y1 : W1.heap[wr.heap.size]? = some (.cells #[.int .i64 kd, .string x.s, .int .i64 x.d.1, .int .i64 x.d.2, .int .i64 x.t, .slice ma mn mc, .slice la ln lc, .int .i64 er, .bool st] 40) := by rw [hW1]; exact heap_alloc_new wr _
   have Y1 := Lib.hid y1
   have HB1 := Lib.hid (HB.out.trans (hb1.mono HB.out.size))
   have HO1 := Lib.hid (own_map_keep HO.out hb1)
   have hbz1 : w.heap.size + 1 ≤ W1.heap.size := by have := hb1.size; omega
   have HW1 := Lib.hid hW1
   clear hx hkd y1 hb1 hW1
   by_cases h12 : kd = 1 ∨ kd = 2
   ·
    have HK12 : Hid (x.kd = 1 ∨ x.kd = 2) := by
     show _ ∨ _
     rw [← HKD.out]; exact h12
    cases hval : valid x.d
    ·
     have HRF : Hid (R = false) := by
      show _ = _
      rw [HF2.out]; unfold dotS; rw [if_pos HK12.out, hval]; rfl
     have HV : Hid (∀ W, Calls Tryz.prog 22 #[.agg #[.int .i64 x.d.1, .int .i64 x.d.2]] W (Said false W)) := fun W => by
      have := valid_any x.d W
      rwa [hval] at this
     obtain ⟨b2, hb2⟩ : ∃ b, Maps.has D (dkey x.d) = b := ⟨_, rfl⟩
     have HHC := Lib.hid hb2
     clear hval hb2
     have y1 := Y1.out
     rcases h12 with h1 | h1
     all_goals
      subst h1
      go_wp2_with (at_lookup; refine look_ok rfl _ _ 68 rfl 37 3 .i64 dkeyed Tryz.underlying68 Tryz.underlying3 (zeroI _) w.heap.size k D rfl (HO.out.alloc _) _ _ rfl HKEY.out b2 HHC.out ?_; intro cv)
      rw [← HW1.out]
      (with_reducible refine (HV.out _).mono ?_)
      rintro e w3 ⟨rfl, hb3⟩
      have HRET : Hid (Said R w (.returned (.bool false)) w3) := ⟨by rw [HRF.out], HB1.out.trans (hb3.mono HB1.out.size)⟩
      clear hb3
      go_wp2
      rw [Exit.noGoto_ret]
      exact bodyPost_ret (v := .bool false) (by simp [results, Tryz.results20, go_sem]) rfl HRET.out
    ·
     have HV : Hid (∀ W, Calls Tryz.prog 22 #[.agg #[.int .i64 x.d.1, .int .i64 x.d.2]] W (Said true W)) := fun W => by
      have := valid_any x.d W
      rwa [hval] at this
     have HF4 : Hid (R = ((match addedF C x.d with
       | none => if x.kd = 1 then some (C ++ [x]) else none
       | some g => if x.kd = 1 then none else if g.s = x.s ∧ g.t = x.t then some C else none).bind fun C' => dotsF C' (l.drop (k + 1))).isSome) := by
      show _ = _
      rw [HF2.out]; unfold dotS; rw [if_pos HK12.out, hval]; rfl
     clear hval HF2
     have hcm := HC.out x.d HDK.out
     cases hfd : addedF C x.d with
     | none =>
      rw [hfd] at hcm HF4
      have HHC : Hid (Maps.has D (dkey x.d) = false) := hcm
      have HFD := Lib.hid hfd
      clear hfd hcm
      rcases h12 with h1 | h1
      ·
       have HF5 : Hid (R = (dotsF (C ++ [x]) (l.drop (k + 1))).isSome) := by
        show _ = _
        rw [HF4.out]; simp only [← HKD.out, h1, if_true]; rfl
       subst h1
       have HP : Hid (CameC l (D.put (dkey x.d) (.lit (.int .i64 k))) (C ++ [x])) := came_put HC.out HO.out.isMap HDK.out (by rw [← HN.out]; exact hlt) HXX.out.symm HFD.out
       go_wp2_with (at_lookup; refine look_ok rfl _ _ 68 rfl 37 3 .i64 dkeyed Tryz.underlying68 Tryz.underlying3 (zeroI _) w.heap.size k D rfl (HO.out.alloc _) _ _ rfl HKEY.out false HHC.out ?_; intro cv)
       rw [← HW1.out]
       (with_reducible refine (HV.out _).mono ?_)
       rintro e w3 ⟨rfl, hb3⟩
       have y3 := (hb3.block _ (lt_of_block Y1.out)).trans Y1.out
       have z0 := boxc y3 0 _ rfl
       have z2 := boxc y3 2 _ rfl
       have z3 := boxc y3 3 _ rfl
       have HO3 := Lib.hid (own_map_keep HO1.out hb3)
       have HB3 := Lib.hid (HB1.out.trans (hb3.mono HB1.out.size))
       have hbz3 : w.heap.size + 1 ≤ w3.heap.size := by have := hb3.size; omega
       clear y3 hb3
       go_wp2_with (at_mapUpdate; refine wpList_mapUpdate_own _ rfl _ _ _ 68 rfl 37 3 dkeyed Tryz.underlying68 _ w.heap.size k _ rfl HO3.out (by unfold maxLen; omega) _ _ _ rfl rfl HKEY.out _ [] (plainElem_int Tryz.underlying3 (WalkArith.wf_i64 (by omega))) ?_)
       intro w4 hown4 hgrow4
       have HO4 := Lib.hid hown4
       have HB4 := Lib.hid (HB3.out.grown hgrow4 (by omega) (fun i hi => by cases hi; omega))
       have hbz4 : w.heap.size + 1 ≤ w4.heap.size := by have := hgrow4.size; omega
       clear hown4 hgrow4
       go_wp2
       go_roundw
       case rel => exact ⟨k + 1, _, _, by go_num, by omega, HF5, HP, HO4, HB4, hbz4⟩
       case measure => simp [intOf]; omega
      ·
       have HRF : Hid (R = false) := by
        show _ = _
        rw [HF4.out]; simp only [← HKD.out, h1]; rfl
       subst h1
       go_wp2_with (at_lookup; refine look_ok rfl _ _ 68 rfl 37 3 .i64 dkeyed Tryz.underlying68 Tryz.underlying3 (zeroI _) w.heap.size k D rfl (HO.out.alloc _) _ _ rfl HKEY.out false HHC.out ?_; intro cv)
       rw [← HW1.out]
       (with_reducible refine (HV.out _).mono ?_)
       rintro e w3 ⟨rfl, hb3⟩
       have y3 := (hb3.block _ (lt_of_block Y1.out)).trans Y1.out
       have z0 := boxc y3 0 _ rfl
       have HRET : Hid (Said R w (.returned (.bool false)) w3) := ⟨by rw [HRF.out], HB1.out.trans (hb3.mono HB1.out.size)⟩
       clear hb3 y3
       go_wp2
       rw [Exit.noGoto_ret]
       exact bodyPost_ret (v := .bool false) (by simp [results, Tryz.results20, go_sem]) rfl HRET.out
     | some g =>
      rw [hfd] at hcm HF4
      obtain ⟨hh, j, hj, hgj, hat⟩ := hcm
      have HHC : Hid (Maps.has D (dkey x.d) = true) := hh
      have HFD := Lib.hid hfd
      have HAT := Lib.hid hat
      have HGJ := Lib.hid hgj
      have hjn : j < n := by rw [HN.out]; exact hj
      clear hfd hh hat hgj hj
      rcases h12 with h1 | h1
      ·
       have HRF : Hid (R = false) := by
        show _ = _
        rw [HF4.out]; simp only [← HKD.out, h1, if_true]; rfl
       subst h1
       go_wp2_with (at_lookup; refine look_ok rfl _ _ 68 rfl 37 3 .i64 dkeyed Tryz.underlying68 Tryz.underlying3 (zeroI _) w.heap.size k D rfl (HO.out.alloc _) _ _ rfl HKEY.out true HHC.out ?_; intro cv)
       rw [← HW1.out]
       (with_reducible refine (HV.out _).mono ?_)
       rintro e w3 ⟨rfl, hb3⟩
       have y3 := (hb3.block _ (lt_of_block Y1.out)).trans Y1.out
       have z0 := boxc y3 0 _ rfl
       have HRET : Hid (Said R w (.returned (.bool false)) w3) := ⟨by rw [HRF.out], HB1.out.trans (hb3.mono HB1.out.size)⟩
       clear hb3 y3
       go_wp2
       rw [Exit.noGoto_ret]
       exact bodyPost_ret (v := .bool false) (by simp [results, Tryz.results20, go_sem]) rfl HRET.out
      ·
       have HF5 : Hid (R = ((if g.s = x.s ∧ g.t = x.t then some C else none).bind fun C' => dotsF C' (l.drop (k + 1))).isSome) := by
        show _ = _
        rw [HF4.out]; simp only [← HKD.out, h1]; rfl
       subst h1
       go_wp2_with (at_lookup; refine look_okV rfl _ _ 68 rfl 37 3 .i64 dkeyed Tryz.underlying68 Tryz.underlying3 (zeroI _) w.heap.size k D rfl (HO.out.alloc _) _ _ rfl HKEY.out true HHC.out j HAT.out ?_)
       rw [← HW1.out]
       (with_reducible refine (HV.out _).mono ?_)
       rintro e w3 ⟨rfl, hb3⟩
       have y3 := (hb3.block _ (lt_of_block Y1.out)).trans Y1.out
       have z0 := boxc y3 0 _ rfl
       have z1 := boxc y3 1 _ rfl
       have z4 := boxc y3 4 _ rfl
       have HO3 := Lib.hid (own_map_keep HO1.out hb3)
       have HB3 := Lib.hid (HB1.out.trans (hb3.mono HB1.out.size))
       have hbz3 : w.heap.size + 1 ≤ w3.heap.size := by have := hb3.size; omega
       obtain ⟨b', off', _, _, _, _, _, _, _, _, he, _, _, r1, _, _, r4, _⟩ := Fcts.get (RowsAt.next fct_steady HL.out HB3.out) HN.out hjn
       cases he
       rw [HGJ.out] at r1 r4
       have hjI : (j : Int) < (n : Int) := by omega
       have hj0 : (0 : Int) ≤ (j : Int) := by omega
       clear y3 hb3
       go_wp2_with fail
       by_cases hs : g.s = x.s
       ·
        by_cases ht : g.t = x.t
        ·
         have HF6 : Hid (R = (dotsF C (l.drop (k + 1))).isSome) := by
          show _ = _
          rw [HF5.out, if_pos ⟨hs, ht⟩]; rfl
         rw [hs] at r1
         rw [ht] at r4
         have HQ3 : Hid (∀ q, Below w3.heap.size w3 (w3.drewN q)) := fun q => below_drewN (Below.refl _ _) q
         have HO5 : Hid (∀ q, (w3.drewN q).ownsMap Tryz.prog 37 (plainElem Tryz.prog 3) w.heap.size (k + 1) D) := fun q => (own_map_keep HO3.out (HQ3.out q)).mono (Nat.le_succ k)
         have HB5 : Hid (∀ q, Below w.heap.size w (w3.drewN q)) := fun q => below_drewN HB3.out q
         have HZ5 : Hid (∀ q, w.heap.size + 1 ≤ (w3.drewN q).heap.size) := fun q => by have := (HQ3.out q).size; omega
         go_quiet (fail)
         go_wp2
         go_roundw
         case rel => exact ⟨k + 1, _, _, by go_num, by omega, HF6, HC, HO5.out _, HB5.out _, HZ5.out _⟩
         case measure => simp [intOf]; omega
        ·
         have HRF : Hid (R = false) := by
          show _ = _
          rw [HF5.out, if_neg (fun e => ht e.2)]; rfl
         have ht2 : (g.t == x.t) = false := by simpa using ht
         have HRET : Hid (∀ q, Said R w (.returned (.bool false)) (w3.drewN q)) := fun q => ⟨by rw [HRF.out], below_drewN HB3.out q⟩
         rw [hs] at r1
         go_quiet (fail)
         go_wp2
         rw [Exit.noGoto_ret]
         exact bodyPost_ret (v := .bool false) (by simp [results, Tryz.results20, go_sem]) rfl (HRET.out _)
       ·
        have HRF : Hid (R = false) := by
         show _ = _
         rw [HF5.out, if_neg (fun e => hs e.1)]; rfl
        have hs2 : (g.s.toList == x.s.toList) = false := by rw [toList_beq]; exact decide_eq_false hs
        have hs3 : ¬ g.s.toList = x.s.toList := fun e => hs (toList_inj e)
        have HRET : Hid (∀ q, Said R w (.returned (.bool false)) (w3.drewN q)) := fun q => ⟨by rw [HRF.out], below_drewN HB3.out q⟩
        go_quiet (fail)
        go_wp2
        rw [Exit.noGoto_ret]
        exact bodyPost_ret (v := .bool false) (by simp [results, Tryz.results20, go_sem]) rfl (HRET.out _)
   ·
    have h1 : ¬ kd = 1 := fun e => h12 (Or.inl e)
    have h2 : ¬ kd = 2 := fun e => h12 (Or.inr e)
    have h1b : (kd != 1) = true := by simpa using h1
    have h2b : (kd != 2) = true := by simpa using h2
    have HF3 : Hid (R = (dotsF C (l.drop (k + 1))).isSome) := by
     show _ = _
     rw [HF2.out]; unfold dotS; rw [if_neg (by rw [← HKD.out]; exact h12)]; rfl
    rw [HW1.out] at HB1 HO1 hbz1
    have HO2 := Lib.hid (HO1.out.mono (Nat.le_succ k))
    go_wp2
    go_roundw
    case rel => exact ⟨k + 1, _, _, by go_num, by omega, HF3, HC, HO2, HB1, hbz1⟩
    case measure => simp [intOf]; omega
  ·
   have hkn : k = n := by omega
   subst hkn
   have HRT : Hid (Said R w (.returned (.bool true)) wr) := by
    refine ⟨?_, HB.out⟩
    rw [HF.out, List.drop_eq_nil_of_le (by rw [← HN.out]; exact Nat.le_refl _)]; rfl
   go_wp2
   go_ret
   exact HRT.out
end Go.Proofs.YtnbdcnbhejfdhaaGreat
namespace Go.Proofs.YtnbdcnbhejfdhaaGreat
open Go.RowKit Go.ChangeShapes
set_option maxHeartbeats 1600000 in
set_option maxRecDepth 100000 in
theorem isval_any (s : ByteArray) (w : World) (hs : s.size ≤ maxLen) :
  Calls Tryz.prog 105 #[.string s] w (Said (lb.isVal s) w) := by
 unfold maxLen at hs
 have HE : Hid (lb.isVal s = decide (s.size ≤ 32 ∧ lb.VlOk s s.size)) := rfl
 obtain ⟨R, hR⟩ : ∃ R, R = lb.isVal s := ⟨_, rfl⟩
 rw [← hR] at HE ⊢
 clear hR
 by_cases h2 : 32 < s.size
 ·
  have HR : Hid (R = false) := by show _ = _; rw [HE.out]; exact decide_eq_false (fun h => by omega)
  have h2I : (32 : Int) < (s.size : Int) := by omega
  go_enter Tryz.func105, Tryz.ntmps105
  go_wp2
  go_ret
  rw [HR.out]; exact ⟨rfl, Below.refl _ _⟩
 have h2I : ¬ (32 : Int) < (s.size : Int) := by omega
 go_enter Tryz.func105, Tryz.ntmps105
 go_wp2
 go_loop [3, 9] (fun _ i => ∃ k : Nat, k ≤ s.size ∧ i = .int .i64 k ∧ Hid (lb.VlOk s k)) (fun _ i => s.size - (intOf i).toNat)
 case atStart => exact ⟨0, Nat.zero_le _, rfl, fun i hi => absurd hi (Nat.not_lt_zero _)⟩
 case round =>
  obtain ⟨k, hk, rfl, HV⟩ := hrel
  by_cases hlt : k < s.size
  ·
   have HBT := Lib.hid (lb.byte_at s k hlt)
   have hkI : (k : Int) < (s.size : Int) := by omega
   by_cases hv : 32 ≤ (s[k]'hlt).toNat ∧ (s[k]'hlt).toNat ≤ 126
   ·
    obtain ⟨hv1, hv2⟩ := hv
    have HG : Hid (lb.VlOk s (k + 1)) := lb.vl_succ HV.out (by rw [HBT.out]; exact ⟨hv1, hv2⟩)
    have g1 : ¬ ((s[k]'hlt).toNat : Int) < 32 := by omega
    have g2 : ¬ (126 : Int) < ((s[k]'hlt).toNat : Int) := by omega
    have g3 : ¬ (s[k]'hlt).toNat < 32 := by omega
    have g4 : ¬ 126 < (s[k]'hlt).toNat := by omega
    go_wp2
    go_round
    case rel => exact ⟨k + 1, by omega, by go_num, HG⟩
    case measure => simp [intOf]; omega
   ·
    have HR : Hid (R = false) := by
     show _ = _
     rw [HE.out]
     refine decide_eq_false (fun h => hv ?_)
     have := h.2 k hlt
     rw [HBT.out] at this; exact this
    by_cases h3 : (s[k]'hlt).toNat < 32
    ·
     have g1 : ((s[k]'hlt).toNat : Int) < 32 := by omega
     clear hv
     go_wp2
     go_ret
     rw [HR.out]; exact ⟨rfl, Below.refl _ _⟩
    ·
     have g1 : ¬ ((s[k]'hlt).toNat : Int) < 32 := by omega
     have g2 : (126 : Int) < ((s[k]'hlt).toNat : Int) := by omega
     have g4 : 126 < (s[k]'hlt).toNat := by omega
     clear hv
     go_wp2
     go_ret
     rw [HR.out]; exact ⟨rfl, Below.refl _ _⟩
  ·
   obtain rfl : k = s.size := by omega
   have HR : Hid (R = true) := by show _ = _; rw [HE.out]; exact decide_eq_true ⟨by omega, HV.out⟩
   go_wp2
   go_ret
   rw [HR.out]; exact ⟨rfl, Below.refl _ _⟩
end Go.Proofs.YtnbdcnbhejfdhaaGreat
