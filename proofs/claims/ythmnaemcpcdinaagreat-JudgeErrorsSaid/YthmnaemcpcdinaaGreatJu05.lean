/- texts put together: MdDots, MdSer, MdChs, LabName2. -/
import Derived.Test.YthmnaemcpcdinaaGreatJu02
import Derived.Test.YthmnaemcpcdinaaGreatJu04
import Derived.BigQuiet
import Derived.Deep.QuietTactic
namespace Go.Proofs.YthmnaemcpcdinaaGreat
open Go Go.RowKit Go.ChangeShapes cl Go.Sort Go.Shelf Go.WideMaps Go.Maps
def addedF (C : List Fct) (d : Dot) : Option Fct := C.find? fun g => decide (g.d = d)
def dotS (C : List Fct) (f : Fct) : Option (List Fct) :=
 if f.kd = 1 ∨ f.kd = 2 then
  if valid f.d then
   match addedF C f.d with
   | none => if f.kd = 1 then some (C ++ [f]) else none
   | some g => if f.kd = 1 then none else if g.s = f.s ∧ g.t = f.t then some C else none
  else none
 else some C
def dotsF : List Fct → List Fct → Option (List Fct)
 | C, [] => some C
 | C, f :: l => (dotS C f).bind fun C' => dotsF C' l
theorem addedF_snoc_same {C : List Fct} {x : Fct} (h : addedF C x.d = none) : addedF (C ++ [x]) x.d = some x := by
 unfold addedF at *
 rw [List.find?_append, h]; simp
theorem addedF_snoc_other {C : List Fct} {x : Fct} {d : Dot} (h : d ≠ x.d) : addedF (C ++ [x]) d = addedF C d := by
 unfold addedF
 rw [List.find?_append]
 cases C.find? fun g => decide (g.d = d) with
 | some g => rfl
 | none => simp; exact fun e => h e.symm
def CameC (l : List Fct) (D : DataW Unit) (C : List Fct) : Prop := ∀ d, DWf d → match addedF C d with
 | none => Maps.has D (dkey d) = false
 | some g => Maps.has D (dkey d) = true ∧ ∃ j : Nat, j < l.length ∧ l.getD j default = g ∧ D.atKey (dkey d) (.lit (.int .i64 0)) = .lit (.int .i64 j)
theorem came_nil (l : List Fct) : CameC l (.map []) [] := fun d _ => by
 show Maps.has _ _ = false
 simp [Maps.has]
set_option maxRecDepth 100000 in
theorem came_put {l : List Fct} {D : DataW Unit} {C : List Fct} {x : Fct} {k : Nat} (h : CameC l D C) (hD : IsMap D) (hx : DWf x.d) (hk : k < l.length) (hx2 : l.getD k default = x) (hn : addedF C x.d = none) : CameC l (D.put (dkey x.d) (.lit (.int .i64 k))) (C ++ [x]) := by
 intro d hd
 by_cases e : d = x.d
 ·
  subst e
  have hkk := dkey_lit hx
  rw [addedF_snoc_same hn]
  refine ⟨?_, k, hk, hx2, ?_⟩
  ·
   generalize dkey x.d = q at hkk ⊢
   exact has_put_same hD hkk _
  ·
   generalize dkey x.d = q at hkk ⊢
   exact atKey_put_same hD hkk _ _
 ·
  rw [addedF_snoc_other e]
  have h1 := h d hd
  have hne := dkey_ne hd hx e
  cases hc : addedF C d with
  | none =>
   rw [hc] at h1
   show Maps.has _ _ = false
   rw [has_put_other hne]; exact h1
  | some g =>
   rw [hc] at h1
   obtain ⟨a, j, b, c, e2⟩ := h1
   exact ⟨by rw [has_put_other hne]; exact a, j, b, c, by rw [atKey_put_other hne]; exact e2⟩
theorem look_okV {H : Type} {P : Program} {w : World} {ops : Array Oper} {rest : List Oper} {o : Oper} {a : Act} {Q : Exit → Act → World → Prop} (hg : o.guard = none) (m x : Operand) (t : TypeId) (hop : o.op = Op.lookup t m x true)
  (k e : TypeId) (q : IntKind) (K : Keyed P k) (ht : P.underlying t = some (.map k e)) (he : P.underlying e = some (.int q)) (hz : (zeroValue e).run P w = .ok (.int q 0) w) (b n : Nat) (D : DataW H)
  (hm : a.eval m = .map (some b)) (hown : w.ownsMap P k (plainElem P e) b n D) (key : Value) (kl : Lit) (hx : a.eval x = key) (hkey : keyOf P k key = some kl) (r : Bool) (hr : Maps.has D kl = r) (c : Int) (hc : D.atKey kl (.lit (.int q 0)) = .lit (.int q c))
  (hK : wpList P ops Q rest (a.put o.dst (.tuple #[.int q c, .bool r])) w) : wpList P ops Q (o :: rest) a w :=
 wpList_lookup_own_ok_int w hg m x t hop k e q K ht he hz b n D hm hown key kl hx hkey fun c' h _ => by
  rw [hc] at h
  simp only [DataW.lit.injEq, Lit.int.injEq, true_and] at h
  rw [← h, hr]; exact hK
theorem drop_cons {l : List Fct} {k : Nat} (h : k < l.length) : l.drop k = l.getD k default :: l.drop (k + 1) := by
 rw [List.drop_eq_getElem_cons h, List.getD_eq_getElem?_getD, List.getElem?_eq_getElem h]; rfl
set_option maxHeartbeats 6400000 in
set_option maxRecDepth 100000 in
theorem dots_any (l : List Fct) (v : Value) (w : World) (hl : Fcts w w.heap.size v l) (hwf : ∀ f ∈ l, FWf f) (hlen : l.length ≤ 100000) :
  Calls Tryz.prog 21 #[v] w (Said (dotsF [] l).isSome w) := by
 have hmm := fun (w : World) => run_makeMap_no (P := Tryz.prog) (t := 70) w
 obtain ⟨R, hR⟩ : ∃ R, R = (dotsF [] l).isSome := ⟨_, rfl⟩
 rw [← hR]
 obtain ⟨n, hn⟩ : ∃ n, n = l.length := ⟨_, rfl⟩
 have HN := Lib.hid hn
 obtain ⟨ao, cap, rfl⟩ : ∃ ao cap, v = .slice ao n cap := by
  obtain ⟨ao, cap, e, _⟩ := RowsAt.form' hl hn
  exact ⟨ao, cap, e⟩
 have hn6 : n ≤ 100000 := by omega
 obtain ⟨w2, hw2⟩ : ∃ W, W = w.alloc (.map #[] 0) := ⟨_, rfl⟩
 have E2 : Below w.heap.size w w2 := by rw [hw2]; exact below1
 have hs2 : w2.heap.size = w.heap.size + 1 := by rw [hw2]; simp
 have HM1 : Hid (w2.ownsMap Tryz.prog 24 (plainElem Tryz.prog 3) w.heap.size 0 (.map [] : DataW Unit)) := by
  show World.ownsMap _ _ _ _ _ _ _
  rw [hw2]
  exact World.ownsMap_made (H := Unit) w Tryz.prog 24 (plainElem Tryz.prog 3)
 have HL := Lib.hid hl
 have HWF : Hid (∀ k, k < n → DWf (l.getD k default).d) := fun k hk => hwf _ (by
  rw [List.getD_eq_getElem?_getD, List.getElem?_eq_getElem (by omega)]
  exact List.getElem_mem _)
 have HE := Lib.hid E2
 have HS := Lib.hid hs2
 have HW := Lib.hid hw2
 have HRR := Lib.hid hR
 clear hl hwf hlen hn E2 hs2 hw2 hR
 go_enter Tryz.func21, Tryz.ntmps21
 go_wp2
 go_step3
 go_wp2
 rw [← HW.out]
 try (go_step3; go_wp2)
 go_loopw [11] (fun i wr => ∃ (k : Nat) (D : DataW Unit) (C : List Fct), i = .int .i64 k ∧ k ≤ n ∧ Hid (R = (dotsF C (l.drop k)).isSome) ∧ Hid (CameC l D C) ∧ Hid (wr.ownsMap Tryz.prog 24 (plainElem Tryz.prog 3) w.heap.size k D) ∧ Hid (Below w.heap.size w wr) ∧ w.heap.size + 1 ≤ wr.heap.size) (fun i _ => n - (intOf i).toNat)
 case atStart => exact ⟨0, .map [], [], rfl, by omega, HRR.out, came_nil l, HM1.out, HE.out, by have := HS.out; omega⟩
 case round =>
  obtain ⟨k, D, C, rfl, hk, HF, HC, HO, HB, hbz⟩ := hrel
  clear HM1 HRR HW HS HE
  by_cases hlt : k < n
  ·
   have hkI : (k : Int) < (n : Int) := by omega
   obtain ⟨bb, off, ma, mn, mc, la, ln, lc, er, st, rfl, hbB, p0, p1, p2, p3, p4, p5, p6, p7, p8⟩ := Fcts.get (RowsAt.next fct_steady HL.out HB.out) HN.out hlt
   have HDK := Lib.hid (HWF.out k hlt)
   obtain ⟨x, hx⟩ : ∃ x, x = l.getD k default := ⟨_, rfl⟩
   rw [← hx] at p0 p1 p2 p3 p4 HDK
   have HXX := Lib.hid hx
   have HKEY : Hid (keyOf Tryz.prog 24 (.agg #[.int .i64 x.d.1, .int .i64 x.d.2]) = some (dkey x.d)) := dkey_of HDK.out
   have HF2 : Hid (R = ((dotS C x).bind fun C' => dotsF C' (l.drop (k + 1))).isSome) := by
    show _ = _
    rw [HF.out, drop_cons (by rw [← HN.out]; exact hlt), hx]; rfl
   obtain ⟨kd, hkd⟩ : ∃ z, z = x.kd := ⟨_, rfl⟩
   have HKD := Lib.hid hkd
   rw [← hkd] at p0
   obtain ⟨W1, hW1⟩ : ∃ W1, W1 = wr.alloc (.cells #[.int .i64 kd, .string x.s, .int .i64 x.d.1, .int .i64 x.d.2, .int .i64 x.t, .slice ma mn mc, .slice la ln lc, .int .i64 er, .bool st] 29) := ⟨_, rfl⟩
   have hb1 : Below wr.heap.size wr W1 := by rw [hW1]; exact below1
   have y1 : W1.heap[wr.heap.size]? = some (.cells #[.int .i64 kd, .string x.s, .int .i64 x.d.1, .int .i64 x.d.2, .int .i64 x.t, .slice ma mn mc, .slice la ln lc, .int .i64 er, .bool st] 29) := by rw [hW1]; exact heap_alloc_new wr _
   have Y1 := Lib.hid y1
   have HB1 := Lib.hid (HB.out.trans (hb1.mono HB.out.size))
   have HO1 := Lib.hid (own_map_keep HO.out hb1)
   have hbz1 : w.heap.size + 1 ≤ W1.heap.size := by have := hb1.size; omega
   have HW1 := Lib.hid hW1
   clear hx hkd y1 hb1 hW1
   by_cases h12 : kd = 1 ∨ kd = 2
   ·
    have HK12 : Hid (x.kd = 1 ∨ x.kd = 2) := by
     show _ ∨ _
     rw [← HKD.out]; exact h12
    cases hval : valid x.d
    ·
     have HRF : Hid (R = false) := by
      show _ = _
      rw [HF2.out]; unfold dotS; rw [if_pos HK12.out, hval]; rfl
     have HV : Hid (∀ W, Calls Tryz.prog 35 #[.agg #[.int .i64 x.d.1, .int .i64 x.d.2]] W (Said false W)) := fun W => by
      have := valid_any x.d W
      rwa [hval] at this
     obtain ⟨b2, hb2⟩ : ∃ b, Maps.has D (dkey x.d) = b := ⟨_, rfl⟩
     have HHC := Lib.hid hb2
     clear hval hb2
     have y1 := Y1.out
     rcases h12 with h1 | h1
     all_goals
      subst h1
      go_wp2_with (at_lookup; refine look_ok rfl _ _ 70 rfl 24 3 .i64 dkeyed Tryz.underlying70 Tryz.underlying3 (zeroI _) w.heap.size k D rfl (HO.out.alloc _) _ _ rfl HKEY.out b2 HHC.out ?_; intro cv)
      rw [← HW1.out]
      (with_reducible refine (HV.out _).mono ?_)
      rintro e w3 ⟨rfl, hb3⟩
      have HRET : Hid (Said R w (.returned (.bool false)) w3) := ⟨by rw [HRF.out], HB1.out.trans (hb3.mono HB1.out.size)⟩
      clear hb3
      go_wp2
      rw [Exit.noGoto_ret]
      exact bodyPost_ret (v := .bool false) (by simp [results, Tryz.results21, go_sem]) rfl HRET.out
    ·
     have HV : Hid (∀ W, Calls Tryz.prog 35 #[.agg #[.int .i64 x.d.1, .int .i64 x.d.2]] W (Said true W)) := fun W => by
      have := valid_any x.d W
      rwa [hval] at this
     have HF4 : Hid (R = ((match addedF C x.d with
       | none => if x.kd = 1 then some (C ++ [x]) else none
       | some g => if x.kd = 1 then none else if g.s = x.s ∧ g.t = x.t then some C else none).bind fun C' => dotsF C' (l.drop (k + 1))).isSome) := by
      show _ = _
      rw [HF2.out]; unfold dotS; rw [if_pos HK12.out, hval]; rfl
     clear hval HF2
     have hcm := HC.out x.d HDK.out
     cases hfd : addedF C x.d with
     | none =>
      rw [hfd] at hcm HF4
      have HHC : Hid (Maps.has D (dkey x.d) = false) := hcm
      have HFD := Lib.hid hfd
      clear hfd hcm
      rcases h12 with h1 | h1
      ·
       have HF5 : Hid (R = (dotsF (C ++ [x]) (l.drop (k + 1))).isSome) := by
        show _ = _
        rw [HF4.out]; simp only [← HKD.out, h1, if_true]; rfl
       subst h1
       have HP : Hid (CameC l (D.put (dkey x.d) (.lit (.int .i64 k))) (C ++ [x])) := came_put HC.out HO.out.isMap HDK.out (by rw [← HN.out]; exact hlt) HXX.out.symm HFD.out
       go_wp2_with (at_lookup; refine look_ok rfl _ _ 70 rfl 24 3 .i64 dkeyed Tryz.underlying70 Tryz.underlying3 (zeroI _) w.heap.size k D rfl (HO.out.alloc _) _ _ rfl HKEY.out false HHC.out ?_; intro cv)
       rw [← HW1.out]
       (with_reducible refine (HV.out _).mono ?_)
       rintro e w3 ⟨rfl, hb3⟩
       have y3 := (hb3.block _ (lt_of_block Y1.out)).trans Y1.out
       have z0 := boxc y3 0 _ rfl
       have z2 := boxc y3 2 _ rfl
       have z3 := boxc y3 3 _ rfl
       have HO3 := Lib.hid (own_map_keep HO1.out hb3)
       have HB3 := Lib.hid (HB1.out.trans (hb3.mono HB1.out.size))
       have hbz3 : w.heap.size + 1 ≤ w3.heap.size := by have := hb3.size; omega
       clear y3 hb3
       go_wp2_with (at_mapUpdate; refine wpList_mapUpdate_own _ rfl _ _ _ 70 rfl 24 3 dkeyed Tryz.underlying70 _ w.heap.size k _ rfl HO3.out (by unfold maxLen; omega) _ _ _ rfl rfl HKEY.out _ [] (plainElem_int Tryz.underlying3 (WalkArith.wf_i64 (by omega))) ?_)
       intro w4 hown4 hgrow4
       have HO4 := Lib.hid hown4
       have HB4 := Lib.hid (HB3.out.grown hgrow4 (by omega) (fun i hi => by cases hi; omega))
       have hbz4 : w.heap.size + 1 ≤ w4.heap.size := by have := hgrow4.size; omega
       clear hown4 hgrow4
       go_wp2
       go_roundw
       case rel => exact ⟨k + 1, _, _, by go_num, by omega, HF5, HP, HO4, HB4, hbz4⟩
       case measure => simp [intOf]; omega
      ·
       have HRF : Hid (R = false) := by
        show _ = _
        rw [HF4.out]; simp only [← HKD.out, h1]; rfl
       subst h1
       go_wp2_with (at_lookup; refine look_ok rfl _ _ 70 rfl 24 3 .i64 dkeyed Tryz.underlying70 Tryz.underlying3 (zeroI _) w.heap.size k D rfl (HO.out.alloc _) _ _ rfl HKEY.out false HHC.out ?_; intro cv)
       rw [← HW1.out]
       (with_reducible refine (HV.out _).mono ?_)
       rintro e w3 ⟨rfl, hb3⟩
       have y3 := (hb3.block _ (lt_of_block Y1.out)).trans Y1.out
       have z0 := boxc y3 0 _ rfl
       have HRET : Hid (Said R w (.returned (.bool false)) w3) := ⟨by rw [HRF.out], HB1.out.trans (hb3.mono HB1.out.size)⟩
       clear hb3 y3
       go_wp2
       rw [Exit.noGoto_ret]
       exact bodyPost_ret (v := .bool false) (by simp [results, Tryz.results21, go_sem]) rfl HRET.out
     | some g =>
      rw [hfd] at hcm HF4
      obtain ⟨hh, j, hj, hgj, hat⟩ := hcm
      have HHC : Hid (Maps.has D (dkey x.d) = true) := hh
      have HFD := Lib.hid hfd
      have HAT := Lib.hid hat
      have HGJ := Lib.hid hgj
      have hjn : j < n := by rw [HN.out]; exact hj
      clear hfd hh hat hgj hj
      rcases h12 with h1 | h1
      ·
       have HRF : Hid (R = false) := by
        show _ = _
        rw [HF4.out]; simp only [← HKD.out, h1, if_true]; rfl
       subst h1
       go_wp2_with (at_lookup; refine look_ok rfl _ _ 70 rfl 24 3 .i64 dkeyed Tryz.underlying70 Tryz.underlying3 (zeroI _) w.heap.size k D rfl (HO.out.alloc _) _ _ rfl HKEY.out true HHC.out ?_; intro cv)
       rw [← HW1.out]
       (with_reducible refine (HV.out _).mono ?_)
       rintro e w3 ⟨rfl, hb3⟩
       have y3 := (hb3.block _ (lt_of_block Y1.out)).trans Y1.out
       have z0 := boxc y3 0 _ rfl
       have HRET : Hid (Said R w (.returned (.bool false)) w3) := ⟨by rw [HRF.out], HB1.out.trans (hb3.mono HB1.out.size)⟩
       clear hb3 y3
       go_wp2
       rw [Exit.noGoto_ret]
       exact bodyPost_ret (v := .bool false) (by simp [results, Tryz.results21, go_sem]) rfl HRET.out
      ·
       have HF5 : Hid (R = ((if g.s = x.s ∧ g.t = x.t then some C else none).bind fun C' => dotsF C' (l.drop (k + 1))).isSome) := by
        show _ = _
        rw [HF4.out]; simp only [← HKD.out, h1]; rfl
       subst h1
       go_wp2_with (at_lookup; refine look_okV rfl _ _ 70 rfl 24 3 .i64 dkeyed Tryz.underlying70 Tryz.underlying3 (zeroI _) w.heap.size k D rfl (HO.out.alloc _) _ _ rfl HKEY.out true HHC.out j HAT.out ?_)
       rw [← HW1.out]
       (with_reducible refine (HV.out _).mono ?_)
       rintro e w3 ⟨rfl, hb3⟩
       have y3 := (hb3.block _ (lt_of_block Y1.out)).trans Y1.out
       have z0 := boxc y3 0 _ rfl
       have z1 := boxc y3 1 _ rfl
       have z4 := boxc y3 4 _ rfl
       have HO3 := Lib.hid (own_map_keep HO1.out hb3)
       have HB3 := Lib.hid (HB1.out.trans (hb3.mono HB1.out.size))
       have hbz3 : w.heap.size + 1 ≤ w3.heap.size := by have := hb3.size; omega
       obtain ⟨b', off', _, _, _, _, _, _, _, _, he, _, _, r1, _, _, r4, _⟩ := Fcts.get (RowsAt.next fct_steady HL.out HB3.out) HN.out hjn
       cases he
       rw [HGJ.out] at r1 r4
       have hjI : (j : Int) < (n : Int) := by omega
       have hj0 : (0 : Int) ≤ (j : Int) := by omega
       clear y3 hb3
       go_wp2_with fail
       by_cases hs : g.s = x.s
       ·
        by_cases ht : g.t = x.t
        ·
         have HF6 : Hid (R = (dotsF C (l.drop (k + 1))).isSome) := by
          show _ = _
          rw [HF5.out, if_pos ⟨hs, ht⟩]; rfl
         rw [hs] at r1
         rw [ht] at r4
         have HQ3 : Hid (∀ q, Below w3.heap.size w3 (w3.drewN q)) := fun q => below_drewN (Below.refl _ _) q
         have HO5 : Hid (∀ q, (w3.drewN q).ownsMap Tryz.prog 24 (plainElem Tryz.prog 3) w.heap.size (k + 1) D) := fun q => (own_map_keep HO3.out (HQ3.out q)).mono (Nat.le_succ k)
         have HB5 : Hid (∀ q, Below w.heap.size w (w3.drewN q)) := fun q => below_drewN HB3.out q
         have HZ5 : Hid (∀ q, w.heap.size + 1 ≤ (w3.drewN q).heap.size) := fun q => by have := (HQ3.out q).size; omega
         go_quiet (fail)
         go_wp2
         go_roundw
         case rel => exact ⟨k + 1, _, _, by go_num, by omega, HF6, HC, HO5.out _, HB5.out _, HZ5.out _⟩
         case measure => simp [intOf]; omega
        ·
         have HRF : Hid (R = false) := by
          show _ = _
          rw [HF5.out, if_neg (fun e => ht e.2)]; rfl
         have ht2 : (g.t == x.t) = false := by simpa using ht
         have HRET : Hid (∀ q, Said R w (.returned (.bool false)) (w3.drewN q)) := fun q => ⟨by rw [HRF.out], below_drewN HB3.out q⟩
         rw [hs] at r1
         go_quiet (fail)
         go_wp2
         rw [Exit.noGoto_ret]
         exact bodyPost_ret (v := .bool false) (by simp [results, Tryz.results21, go_sem]) rfl (HRET.out _)
       ·
        have HRF : Hid (R = false) := by
         show _ = _
         rw [HF5.out, if_neg (fun e => hs e.1)]; rfl
        have hs2 : (g.s.toList == x.s.toList) = false := by rw [toList_beq]; exact decide_eq_false hs
        have hs3 : ¬ g.s.toList = x.s.toList := fun e => hs (toList_inj e)
        have HRET : Hid (∀ q, Said R w (.returned (.bool false)) (w3.drewN q)) := fun q => ⟨by rw [HRF.out], below_drewN HB3.out q⟩
        go_quiet (fail)
        go_wp2
        rw [Exit.noGoto_ret]
        exact bodyPost_ret (v := .bool false) (by simp [results, Tryz.results21, go_sem]) rfl (HRET.out _)
   ·
    have h1 : ¬ kd = 1 := fun e => h12 (Or.inl e)
    have h2 : ¬ kd = 2 := fun e => h12 (Or.inr e)
    have h1b : (kd != 1) = true := by simpa using h1
    have h2b : (kd != 2) = true := by simpa using h2
    have HF3 : Hid (R = (dotsF C (l.drop (k + 1))).isSome) := by
     show _ = _
     rw [HF2.out]; unfold dotS; rw [if_neg (by rw [← HKD.out]; exact h12)]; rfl
    rw [HW1.out] at HB1 HO1 hbz1
    have HO2 := Lib.hid (HO1.out.mono (Nat.le_succ k))
    go_wp2
    go_roundw
    case rel => exact ⟨k + 1, _, _, by go_num, by omega, HF3, HC, HO2, HB1, hbz1⟩
    case measure => simp [intOf]; omega
  ·
   have hkn : k = n := by omega
   subst hkn
   have HRT : Hid (Said R w (.returned (.bool true)) wr) := by
    refine ⟨?_, HB.out⟩
    rw [HF.out, List.drop_eq_nil_of_le (by rw [← HN.out]; exact Nat.le_refl _)]; rfl
   go_wp2
   go_ret
   exact HRT.out
end Go.Proofs.YthmnaemcpcdinaaGreat
namespace Go.Proofs.YthmnaemcpcdinaaGreat
open Go Go.RowKit Go.ChangeShapes cl Go.Sort
set_option maxHeartbeats 800000 in
set_option maxRecDepth 100000 in
theorem ins_one (b : Nat) (cap : Nat) (f : Value) (w : World) : Calls Tryz.prog 114 #[.slice (some ⟨b, 0, none⟩) 1 cap, .int .i64 0, .int .i64 1, f] w fun e w' => e = .returned (.tuple #[]) ∧ w' = w := by
 go_enter Tryz.func114, Tryz.ntmps114
 go_wp2
 refine wp_loop_rounds 1 ?_
 rw [rounds_succ]
 go_wp2
 go_end0
 exact ⟨rfl, rfl⟩
set_option maxHeartbeats 800000 in
set_option maxRecDepth 100000 in
theorem pdq_one (b : Nat) (cap : Nat) (k : Int) (f : Value) (w : World) : Calls Tryz.prog 82 #[.slice (some ⟨b, 0, none⟩) 1 cap, .int .i64 0, .int .i64 1, .int .i64 k, f] w fun e w' => e = .returned (.tuple #[]) ∧ w' = w := by
 have HI := Lib.hid (ins_one b cap f w)
 go_enter Tryz.func82, Tryz.ntmps82
 go_wp2
 refine wp_loop_rounds 1 ?_
 rw [rounds_succ]
 go_wp2_with fail
 (with_reducible refine HI.out.mono ?_)
 rintro e w1 ⟨rfl, rfl⟩
 go_wp2
 exact bodyPost_ret (v := .tuple #[]) (by simp [results, Tryz.results82, go_sem]) rfl ⟨rfl, rfl⟩
set_option maxHeartbeats 800000 in
set_option maxRecDepth 100000 in
theorem sort_one (b : Nat) (cap : Nat) (f : Value) (w : World) : Calls Tryz.prog 56 #[.slice (some ⟨b, 0, none⟩) 1 cap, f] w fun e w' => e = .returned (.tuple #[]) ∧ w' = w := by
 have HB := Lib.hid (Tryz.bits_Len 1 w (by omega) (by omega))
 have HP : Hid (∀ k : Int, Calls Tryz.prog 82 #[.slice (some ⟨b, 0, none⟩) 1 cap, .int .i64 0, .int .i64 1, .int .i64 k, f] w fun e w' => e = .returned (.tuple #[]) ∧ w' = w) := fun k => pdq_one b cap k f w
 go_enter Tryz.func56, Tryz.ntmps56
 go_wp2_with fail
 (with_reducible refine HB.out.mono ?_)
 rintro e w1 ⟨rfl, rfl⟩
 go_wp2_with fail
 (with_reducible refine (HP.out _).mono ?_)
 rintro e w2 ⟨rfl, rfl⟩
 go_wp2
 go_end0
 exact ⟨rfl, rfl⟩
theorem infoStrO : (Tryz.prog.info? 9).map (fun i => (i.zero, i.size, i.bytes)) = some (some (.string ⟨#[]⟩), 1, 16) := by kernel_rfl
theorem lcell_get {w : World} {B c : Nat} {ao : Option Addr} {x : Lv} (h : Cells w B (.slice ao 1 c) 1 4 (lcell x)) : ∃ b off, ao = some ⟨b, off, none⟩ ∧ b < B ∧ w.cell? ⟨b, off, none⟩ = some (.string x.s) ∧ w.cell? ⟨b, off + 1, none⟩ = some (.int .i64 x.d.1) ∧ w.cell? ⟨b, off + 2, none⟩ = some (.int .i64 x.d.2) ∧ w.cell? ⟨b, off + 3, none⟩ = some (.int .i64 x.t) := by
 obtain ⟨_, ao', c', e, _, _, h4⟩ := h
 simp only [Value.slice.injEq] at e
 obtain ⟨rfl, _, rfl⟩ := e
 obtain ⟨b, off, rfl, hB, hc⟩ := h4 (by omega)
 exact ⟨b, off, rfl, hB, hc 0 _ rfl, hc 1 _ rfl, hc 2 _ rfl, hc 3 _ rfl⟩
def SerP (x : Lv) (w : World) (e : Ending) (w' : World) : Prop := ∃ g cap, e = .returned (.slice (some ⟨g, 0, none⟩) 1 cap) ∧ w'.ownsRow w.heap.size 9 1 (.slice (some ⟨g, 0, none⟩) 1 cap) 1 [.string x.s] ∧ Below w.heap.size w w'
set_option maxHeartbeats 1600000 in
set_option maxRecDepth 100000 in
theorem series_one (x : Lv) (v : Value) (w : World) (h : Cells w w.heap.size v 1 4 (lcell x)) : Calls Tryz.prog 34 #[v] w (SerP x w) := by
 obtain ⟨ao, cap, e0, _, _⟩ := h.form
 subst e0
 obtain ⟨bb, off, rfl, hbB, p0, p1, p2, p3⟩ := lcell_get h
 clear h
 have HO0 : Hid ((w.alloc (.cells #[.string x.s, .int .i64 x.d.1, .int .i64 x.d.2, .int .i64 x.t] 73)).ownsRow w.heap.size 9 1 (.slice none 0 0) 0 []) := World.ownsRow_nil _ _ _ _
 have HZ0 : Hid (w.heap.size ≤ (w.alloc (.cells #[.string x.s, .int .i64 x.d.1, .int .i64 x.d.2, .int .i64 x.t] 73)).heap.size) := by show _ ≤ _; simp
 go_enter Tryz.func34, Tryz.ntmps34
 go_wp2
 refine wp_loop_rounds 2 ?_
 rw [rounds_succ]
 go_wp2_with (at_builtin; refine app1g (.tmp 12) (.tmp 15) 26 rfl rfl w.heap.size Tryz.underlying26 infoStrO rfl (by decide) (by decide) HO0.out rfl (by show Value.slice (some ⟨w.heap.size + 1, 0, none⟩) 1 1 = Value.slice (some ⟨World.heap _ |>.size, 0, none⟩) 1 1; simp) rfl (by intro u hu; simp at hu; rcases hu with rfl; rfl) (by omega) HZ0.out ?_)
 intro v' w5 hown hg5
 have hb5 : Below w.heap.size w w5 := (below1.alloc (by simp) _).grown hg5 (by simp; omega) (fun j hj => by cases hj)
 have HOWN := Lib.hid hown
 rcases hown.2 with ⟨rfl, h0⟩ | ⟨g, gc, cur, rfl, hbg, hg, hnc, hcm, hcs, htk⟩
 ·
  cases h0
 have hH : Holds encStr w5 g 0 (([x.s.data.toList] : List (List UInt8)).toArray) := fun j hj => by
  have hj0 : j = 0 := by simpa using hj
  subst hj0
  refine ⟨?_, by simp [World.frozen?, hg]⟩
  have := hown.cells (g := g) rfl 0 (.string x.s) rfl
  rw [Addr.add_lit] at this
  simpa using this
 have HS := Lib.hid (sort_one g gc (.func (.func 57) #[] #[]) w5)
 have HC : Hid (Calls Tryz.prog 58 #[.slice (some ⟨g, 0, none⟩) 1 gc] w5 fun e w' => e = .returned (.slice (some ⟨g, 0, none⟩) 1 gc) ∧ Below w5.heap.size w5 w') :=
  (Tryz.slices_Compact_string g 0 gc [x.s.data.toList] w5 hH (by simp) (by simpa using hnc)).mono (by
   rintro e w' ⟨rfl, q, rfl⟩
   refine ⟨rfl, ?_⟩
   have hh := putRow_self encStr (Sort.ahead w5 q) g 0 (([x.s.data.toList] : List (List UInt8)).toArray) (holds_ahead encStr w5 q g 0 _ hH)
   show Below _ _ (putRow encStr (Sort.ahead w5 q) g 0 (([x.s.data.toList] : List (List UInt8)).toArray))
   rw [hh]
   exact ⟨rfl, rfl, rfl, Nat.le_refl _, fun _ _ => rfl⟩)
 have HB5 := Lib.hid hb5
 clear hown hg5 hb5 hbg hg hnc hcm hcs htk hH
 go_wp2
 rw [rounds_succ]
 go_wp2_with fail
 (with_reducible refine HS.out.mono ?_)
 rintro e w6 ⟨rfl, rfl⟩
 go_wp2_with fail
 (with_reducible refine HC.out.mono ?_)
 rintro e w7 ⟨rfl, hb7⟩
 have HR : Hid (SerP x w (.returned (.slice (some ⟨g, 0, none⟩) 1 gc)) w7) := ⟨g, gc, rfl, own_stay HOWN.out hb7, HB5.out.trans (hb7.mono HB5.out.size)⟩
 clear hb7
 go_wp2
 go_ret
 exact HR.out
end Go.Proofs.YthmnaemcpcdinaaGreat
namespace Go.Proofs.YthmnaemcpcdinaaGreat
open Go Go.RowKit Go.ChangeShapes cl Go.Sort
set_option maxHeartbeats 800000 in
set_option maxRecDepth 100000 in
theorem match_none (lv : Value) (w : World) : Calls Tryz.prog 46 #[.slice none 0 0, lv] w (Said true w) := by
 go_enter Tryz.func46, Tryz.ntmps46
 go_wp2
 refine wp_loop_rounds 1 ?_
 rw [rounds_succ]
 go_wp2
 go_ret
 exact ⟨rfl, Below.refl _ _⟩
set_option maxHeartbeats 800000 in
set_option maxRecDepth 100000 in
theorem rising_one (s : ByteArray) (B g cap : Nat) (w : World) (h : w.ownsRow B 9 1 (.slice (some ⟨g, 0, none⟩) 1 cap) 1 [.string s]) : Calls Tryz.prog 54 #[.slice (some ⟨g, 0, none⟩) 1 cap] w fun e w' => e = .returned (.slice (some ⟨g, 0, none⟩) 1 cap) ∧ Below w.heap.size w w' := by
 have hown := h
 rcases h.2 with ⟨_, h0⟩ | ⟨g', gc, cur, e, hbg, hg, hnc, hcm, hcs, htk⟩
 ·
  cases h0
 simp only [Value.slice.injEq, Option.some.injEq, Addr.mk.injEq, and_true, true_and] at e
 obtain ⟨rfl, rfl⟩ := e
 have hH : Holds encStr w g 0 (([s.data.toList] : List (List UInt8)).toArray) := fun j hj => by
  have hj0 : j = 0 := by simpa using hj
  subst hj0
  refine ⟨?_, by simp [World.frozen?, hg]⟩
  have := hown.cells (g := g) rfl 0 (.string s) rfl
  rw [Addr.add_lit] at this
  simpa using this
 have HS := Lib.hid (sort_one g cap (.func (.func 57) #[] #[]) w)
 have HC : Hid (Calls Tryz.prog 58 #[.slice (some ⟨g, 0, none⟩) 1 cap] w fun e w' => e = .returned (.slice (some ⟨g, 0, none⟩) 1 cap) ∧ Below w.heap.size w w') :=
  (Tryz.slices_Compact_string g 0 cap [s.data.toList] w hH (by simp) (by simpa using hnc)).mono (by
   rintro e w' ⟨rfl, q, rfl⟩
   refine ⟨rfl, ?_⟩
   have hh := putRow_self encStr (Sort.ahead w q) g 0 (([s.data.toList] : List (List UInt8)).toArray) (holds_ahead encStr w q g 0 _ hH)
   show Below _ _ (putRow encStr (Sort.ahead w q) g 0 (([s.data.toList] : List (List UInt8)).toArray))
   rw [hh]
   exact ⟨rfl, rfl, rfl, Nat.le_refl _, fun _ _ => rfl⟩)
 clear h hown hbg hg hnc hcm hcs htk hH
 go_enter Tryz.func54, Tryz.ntmps54
 go_wp2_with fail
 (with_reducible refine HS.out.mono ?_)
 rintro e w6 ⟨rfl, rfl⟩
 go_wp2_with fail
 (with_reducible refine HC.out.mono ?_)
 rintro e w7 ⟨rfl, hb7⟩
 have HR := Lib.hid hb7
 clear hb7
 go_wp2
 go_ret
 exact ⟨rfl, HR.out⟩
def ChsP (s : ByteArray) (w : World) (e : Ending) (w' : World) : Prop := ∃ g cap, e = .returned (.slice (some ⟨g, 0, none⟩) 1 cap) ∧ w'.ownsRow w.heap.size 9 1 (.slice (some ⟨g, 0, none⟩) 1 cap) 1 [.string s] ∧ Below w.heap.size w w'
set_option maxHeartbeats 1600000 in
set_option maxRecDepth 100000 in
theorem choose_one (s : ByteArray) (b cap : Nat) (w : World) (hc : w.cell? ⟨b, 0, none⟩ = some (.string s))
  (hp : ∀ W, Below w.heap.size w W → Calls Tryz.prog 45 #[.string s] W fun e w' => ∃ lv, e = .returned (.tuple #[lv, .int .i64 0]) ∧ Below W.heap.size W w') :
  Calls Tryz.prog 33 #[.slice (some ⟨b, 0, none⟩) 1 cap, .slice none 0 0] w (ChsP s w) := by
 have HCL := Lib.hid (Tryz.slices_Clone_string b 0 1 cap [s] w (by simp) (by omega) (fun j hj => by
  have hj0 : j = 0 := by simpa using hj
  subst hj0
  simpa using hc))
 have HP := Lib.hid hp
 clear hp hc
 go_enter Tryz.func33, Tryz.ntmps33
 go_wp2_with fail
 (with_reducible refine HCL.out.mono ?_)
 rintro e w1 ⟨v1, rfl, ho1, _, hb1⟩
 have ho1 : w1.ownsRow w.heap.size 9 1 v1 1 [.string s] := ho1
 obtain ⟨g1, c1, rfl⟩ : ∃ g c, v1 = .slice (some ⟨g, 0, none⟩) 1 c := by
  rcases own_form ho1 with ⟨_, h0⟩ | ⟨g, c, e, _⟩
  ·
   cases h0
  ·
   exact ⟨g, c, e⟩
 have HRS := Lib.hid (rising_one s w.heap.size g1 c1 w1 ho1)
 have HO1 := Lib.hid ho1
 have HB1 := Lib.hid hb1
 clear ho1 hb1
 go_wp2_with fail
 (with_reducible refine HRS.out.mono ?_)
 rintro e w2 ⟨rfl, hb2⟩
 have HO2 := Lib.hid (own_stay HO1.out hb2)
 have HB2 := Lib.hid (HB1.out.trans (hb2.mono HB1.out.size))
 have k0 : w2.cell? ⟨g1, 0, none⟩ = some (.string s) := by
  have := HO2.out.cells (g := g1) rfl 0 (.string s) rfl
  rw [Addr.add_lit] at this
  simpa using this
 clear hb2
 go_wp2
 refine wp_loop_rounds 2 ?_
 rw [rounds_succ]
 go_wp2_with fail
 (with_reducible refine (HP.out _ HB2.out).mono ?_)
 rintro e w3 ⟨lv, rfl, hb3⟩
 have HB3 := Lib.hid (HB2.out.trans (hb3.mono HB2.out.size))
 have HM := Lib.hid (match_none lv w3)
 clear hb3 k0
 go_wp2_with fail
 (with_reducible refine HM.out.mono ?_)
 rintro e w4 ⟨rfl, hb4⟩
 have HB4 := Lib.hid (HB3.out.trans (hb4.mono HB3.out.size))
 have HZ4 : Hid (w.heap.size ≤ w4.heap.size) := HB4.out.size
 have HO4 : Hid (w4.ownsRow w.heap.size 9 1 (.slice none 0 0) 0 []) := World.ownsRow_nil _ _ _ _
 clear hb4
 go_wp2_with (at_builtin; refine app1g (.tmp 30) (.tmp 32) 26 rfl rfl w.heap.size Tryz.underlying26 infoStrO rfl (by decide) (by decide) HO4.out rfl rfl rfl (by intro u hu; simp at hu; rcases hu with rfl; rfl) (by omega) HZ4.out ?_)
 intro v' w5 hown hg5
 have hb5 : Below w.heap.size w w5 := (HB4.out.alloc HZ4.out _).grown hg5 (by simp; have := HZ4.out; omega) (fun j hj => by cases hj)
 have hown : w5.ownsRow w.heap.size 9 1 v' 1 [.string s] := hown
 obtain ⟨g5, c5, rfl⟩ : ∃ g c, v' = .slice (some ⟨g, 0, none⟩) 1 c := by
  rcases own_form hown with ⟨_, h0⟩ | ⟨g, c, e, _⟩
  ·
   cases h0
  ·
   exact ⟨g, c, e⟩
 have HR : Hid (ChsP s w (.returned (.slice (some ⟨g5, 0, none⟩) 1 c5)) w5) := ⟨g5, c5, rfl, hown, hb5⟩
 clear hown hg5 hb5
 go_wp2
 rw [rounds_succ]
 go_wp2
 go_ret
 exact HR.out
end Go.Proofs.YthmnaemcpcdinaaGreat
namespace Go.Proofs.YthmnaemcpcdinaaGreat
open Go.RowKit Go.ChangeShapes
set_option maxHeartbeats 1600000 in
set_option maxRecDepth 100000 in
theorem isval_any (s : ByteArray) (w : World) (hs : s.size ≤ maxLen) :
  Calls Tryz.prog 135 #[.string s] w (Said (lb.isVal s) w) := by
 unfold maxLen at hs
 have HE : Hid (lb.isVal s = decide (s.size ≤ 32 ∧ lb.VlOk s s.size)) := rfl
 obtain ⟨R, hR⟩ : ∃ R, R = lb.isVal s := ⟨_, rfl⟩
 rw [← hR] at HE ⊢
 clear hR
 by_cases h2 : 32 < s.size
 ·
  have HR : Hid (R = false) := by show _ = _; rw [HE.out]; exact decide_eq_false (fun h => by omega)
  have h2I : (32 : Int) < (s.size : Int) := by omega
  go_enter Tryz.func135, Tryz.ntmps135
  go_wp2
  go_ret
  rw [HR.out]; exact ⟨rfl, Below.refl _ _⟩
 have h2I : ¬ (32 : Int) < (s.size : Int) := by omega
 go_enter Tryz.func135, Tryz.ntmps135
 go_wp2
 go_loop [3, 9] (fun _ i => ∃ k : Nat, k ≤ s.size ∧ i = .int .i64 k ∧ Hid (lb.VlOk s k)) (fun _ i => s.size - (intOf i).toNat)
 case atStart => exact ⟨0, Nat.zero_le _, rfl, fun i hi => absurd hi (Nat.not_lt_zero _)⟩
 case round =>
  obtain ⟨k, hk, rfl, HV⟩ := hrel
  by_cases hlt : k < s.size
  ·
   have HBT := Lib.hid (lb.byte_at s k hlt)
   have hkI : (k : Int) < (s.size : Int) := by omega
   by_cases hv : 32 ≤ (s[k]'hlt).toNat ∧ (s[k]'hlt).toNat ≤ 126
   ·
    obtain ⟨hv1, hv2⟩ := hv
    have HG : Hid (lb.VlOk s (k + 1)) := lb.vl_succ HV.out (by rw [HBT.out]; exact ⟨hv1, hv2⟩)
    have g1 : ¬ ((s[k]'hlt).toNat : Int) < 32 := by omega
    have g2 : ¬ (126 : Int) < ((s[k]'hlt).toNat : Int) := by omega
    have g3 : ¬ (s[k]'hlt).toNat < 32 := by omega
    have g4 : ¬ 126 < (s[k]'hlt).toNat := by omega
    go_wp2
    go_round
    case rel => exact ⟨k + 1, by omega, by go_num, HG⟩
    case measure => simp [intOf]; omega
   ·
    have HR : Hid (R = false) := by
     show _ = _
     rw [HE.out]
     refine decide_eq_false (fun h => hv ?_)
     have := h.2 k hlt
     rw [HBT.out] at this; exact this
    by_cases h3 : (s[k]'hlt).toNat < 32
    ·
     have g1 : ((s[k]'hlt).toNat : Int) < 32 := by omega
     clear hv
     go_wp2
     go_ret
     rw [HR.out]; exact ⟨rfl, Below.refl _ _⟩
    ·
     have g1 : ¬ ((s[k]'hlt).toNat : Int) < 32 := by omega
     have g2 : (126 : Int) < ((s[k]'hlt).toNat : Int) := by omega
     have g4 : 126 < (s[k]'hlt).toNat := by omega
     clear hv
     go_wp2
     go_ret
     rw [HR.out]; exact ⟨rfl, Below.refl _ _⟩
  ·
   obtain rfl : k = s.size := by omega
   have HR : Hid (R = true) := by show _ = _; rw [HE.out]; exact decide_eq_true ⟨by omega, HV.out⟩
   go_wp2
   go_ret
   rw [HR.out]; exact ⟨rfl, Below.refl _ _⟩
end Go.Proofs.YthmnaemcpcdinaaGreat
