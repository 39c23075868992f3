/- texts put together: LabCanon, LabText. -/
import Derived.Test.YthmnaemcpcdinaaGreatJu02
import Derived.Test.YthmnaemcpcdinaaGreatJu03
import Derived.Test.YthmnaemcpcdinaaGreatJu04
import Derived.Test.YthmnaemcpcdinaaGreatJu05
namespace Go.Proofs.YthmnaemcpcdinaaGreat.lm
theorem canon_fault {l : List Lab} {f : Int} (h : faults [] l = f) (hf : f ≠ 0) : canonF l = (f, []) := by
 unfold canonF
 rw [h, if_neg hf]
theorem take_snoc {l : List Lab} {k : Nat} {x : Lab} (hk : k < l.length) (hx : x = l.getD k (.empty, .empty)) : l.take (k + 1) = l.take k ++ [x] := by
 rw [List.take_succ_eq_append_getElem hk, hx]
 simp [List.getD, hk]
theorem faults_step {l : List Lab} {k : Nat} {x : Lab} (hk : k < l.length) (hx : x = l.getD k (.empty, .empty)) : faults (l.take k) (l.drop k) = if fault (l.take k) x = 0 then faults (l.take (k + 1)) (l.drop (k + 1)) else fault (l.take k) x := by
 have e : l[k] = x := by rw [hx]; simp [List.getD, hk]
 rw [List.drop_eq_getElem_cons hk, take_snoc hk hx, e]
 rfl
theorem good_step {l : List Lab} {k : Nat} {x : Lab} (hk : k < l.length) (hx : x = l.getD k (.empty, .empty)) (hg : Good (l.take k)) (hf : fault (l.take k) x = 0) : Good (l.take (k + 1)) := by
 rw [take_snoc hk hx]
 refine (faults_zero [x] (l.take k) hg).1 ?_
 unfold faults
 rw [if_pos hf]; rfl
theorem kept_step {l : List Lab} {k : Nat} {x : Lab} (hk : k < l.length) (hx : x = l.getD k (.empty, .empty)) : kept (l.take (k + 1)) = if x.2 = .empty then kept (l.take k) else kept (l.take k) ++ [x] := by
 rw [take_snoc hk hx, kept_app, kept_one]
 split <;> simp
theorem names_step {l : List Lab} {k : Nat} {x : Lab} (hk : k < l.length) (hx : x = l.getD k (.empty, .empty)) : names (l.take (k + 1)) = names (l.take k) ++ [x.1] := by
 rw [take_snoc hk hx, names_app]; rfl
end Go.Proofs.YthmnaemcpcdinaaGreat.lm
namespace Go.Proofs.YthmnaemcpcdinaaGreat
open Go.RowKit Go.ChangeShapes Go.Maps Go.WideMaps cl Go.Sort
theorem grown_of {W W' : World} (hb : Below W.heap.size W W') : W.grownBy W' none := ⟨hb.os, hb.tape, hb.output, hb.size, fun i hi _ => hb.block i hi⟩
theorem grown_cell {w w' : World} {row : Option Nat} (hg : w.grownBy w' row) {p : Addr} (hp : p.block < w.heap.size) (hne : some p.block ≠ row) : w'.cell? p = w.cell? p :=
 World.cell?_of_block (hg.block p.block hp hne)
def SortP (g cap q B : Nat) (L : List Lab) (w : World) (e : Ending) (w' : World) : Prop := e = .returned (.tuple #[]) ∧ w'.ownsRow B 91 2 (.slice (some ⟨g, 0, none⟩) q cap) q (lcells L) ∧ Below B w w'
theorem sort_any (g cap q B : Nat) (L : List Lab) (w : World) (hown : w.ownsRow B 91 2 (.slice (some ⟨g, 0, none⟩) q cap) q (lcells L)) (hq : q = L.length) (h6 : q ≤ 12) (hn : (lm.names L).Nodup) (hB : B ≤ w.heap.size) :
  Calls Tryz.prog 136 #[.slice (some ⟨g, 0, none⟩) q cap, .func (.func 137) #[] #[]] w (SortP g cap q B (lm.sortN L) w) := by
 subst hq
 have hown' : w.ownsRow B 91 2 (.slice (some ⟨g, 0, none⟩) L.length cap) L.length (L.flatMap lb.enc) := hown
 obtain ⟨hH, hg, _, hafter⟩ := kit.sort_own (enc := lb.enc) (fun _ => rfl) (by decide) hown' rfl hB
 have hcon := lb.sortFunc g 0 cap L.toArray w hH hg (by simpa using h6)
 rw [List.size_toArray] at hcon
 refine hcon.mono ?_
 rintro e w' ⟨rfl, n, os, rfl⟩
 have hins := insertionSort_holds (lt := ltOf lb.cf) lm.swo L.toArray 0 L.length (Nat.zero_le _) (by simp)
 have hsz : (Sort.insertionSort (ltOf lb.cf) L.toArray 0 L.length).size = L.length := by rw [hins.1.1]; simp
 obtain ⟨h1, h2⟩ := hafter _ n os hsz
 rw [lm.sorted_is hn (by rw [List.size_toArray]; exact hins.1) (by rw [List.size_toArray]; exact hins.2)] at h1
 exact ⟨rfl, h1, h2⟩
theorem lcells_two {xa xb : ByteArray} : ∀ u ∈ (#[.string xa, .string xb] : Array Value).toList, u.oneCell' = true := by
 intro u hu
 simp only [List.mem_cons, List.not_mem_nil, or_false] at hu
 rcases hu with rfl | rfl <;> rfl
theorem ret8 {R : Int × List Lab} {f : Int} {w W : World} (h : R = (f, [])) (hb : Below w.heap.size w W) : CanonP R w (.returned (.tuple #[.slice none 0 0, .int .i64 f])) W := by
 rw [h]
 exact ⟨_, rfl, Cells.nil _ _ _, hb⟩
set_option maxHeartbeats 6400000 in
set_option maxRecDepth 100000 in
theorem canon_any (l : List Lab) (v : Value) (w : World) (h : Labs w w.heap.size v l) (hs : ∀ x ∈ l, x.1.size ≤ maxLen ∧ x.2.size ≤ maxLen) (hl6 : l.length ≤ 100000) :
  Calls Tryz.prog 102 #[v] w (CanonP (lm.canonF l) w) := by
 have hmm := @run_makeMap Tryz.prog
 obtain ⟨R, hR⟩ : ∃ R, R = lm.canonF l := ⟨_, rfl⟩
 rw [← hR]
 have HR := Lib.hid hR
 obtain ⟨n, hn⟩ : ∃ n, n = l.length := ⟨_, rfl⟩
 obtain ⟨ao, cap, rfl⟩ : ∃ ao cap, v = .slice ao n cap := by
  obtain ⟨ao, cap, e, _⟩ := h.form
  exact ⟨ao, cap, by rw [hn]; exact e⟩
 have HC := Lib.hid h
 have HN := Lib.hid hn
 have HS := Lib.hid hs
 have hn63 : n ≤ 100000 := by omega
 have HNM : Hid (∀ (s : ByteArray) (W : World), s.size ≤ maxLen → Calls Tryz.prog 134 #[.string s] W (Said (lb.isName s) W)) := fun s W h => isname_any s W h
 have HVL : Hid (∀ (s : ByteArray) (W : World), s.size ≤ maxLen → Calls Tryz.prog 135 #[.string s] W (Said (lb.isVal s) W)) := fun s W h => isval_any s W h
 have hA : Below w.heap.size w (w.alloc (.map #[] 0)) := (Below.refl _ _).alloc (Nat.le_refl _) _
 obtain ⟨i0, hi, hz0, hz1, hz2⟩ := info_parts infoLab
 clear h hn hs hR hl6
 go_enter Tryz.func102, Tryz.ntmps102
 go_wp2
 go_step3
 go_wp2
 go_step3
 go_wp2
 go_loopw [5, 6, 7, 8, 9, 13] (fun o _ _ _ _ i wr => ∃ (k : Nat) (D : DataW Unit) (q : Nat) (oa : Option Addr) (oc : Nat), o = .slice oa q oc ∧ i = .int .i64 k ∧ k ≤ n ∧ q ≤ 6 ∧ Hid (lm.faults [] l = lm.faults (l.take k) (l.drop k)) ∧ Hid (lm.Good (l.take k)) ∧ Hid (lm.MapN D (lm.names (l.take k))) ∧ Hid (wr.ownsMap Tryz.prog 9 (plainElem Tryz.prog 3) w.heap.size k D) ∧ Hid (q = (lm.kept (l.take k)).length) ∧ Hid (wr.ownsRow (w.heap.size + 1) 91 2 (.slice oa q oc) q (lcells (lm.kept (l.take k)))) ∧ Below w.heap.size w wr ∧ w.heap.size + 1 ≤ wr.heap.size) (fun _ _ _ _ _ i _ => n - (intOf i).toNat)
 case atStart =>
  refine ⟨0, .map [], 0, none, 0, rfl, rfl, by omega, by omega, rfl, lm.good_nil, lm.mapN_nil, ?_, rfl, ?_, hA, by rw [World.size_alloc]; exact Nat.le_refl _⟩
  ·
   exact World.ownsMap_made (H := Unit) w (P := Tryz.prog) (k := 9) (plainElem Tryz.prog 3)
  ·
   exact ⟨rfl, Or.inl ⟨rfl, rfl⟩⟩
 case round =>
  obtain ⟨k, D, q, oa, oc, rfl, rfl, hk, hq6, HF, HG, HM, HO, HQ, HW, hb0, hz⟩ := hrel
  by_cases hlt : k < n
  ·
   obtain ⟨b, off, rfl, hB, p0, p1⟩ := HC.out.get HN.out hlt
   have HKL : Hid (k < l.length) := by show k < l.length; rw [← HN.out]; exact hlt
   have hsz := HS.out (l.getD k (.empty, .empty)) (by have := HKL.out; simp [List.getD, this])
   obtain ⟨⟨xa, xb⟩, hx⟩ : ∃ x, x = l.getD k (.empty, .empty) := ⟨_, rfl⟩
   rw [← hx] at p0 p1 hsz
   simp only at p0 p1 hsz
   have HX := Lib.hid hx
   have e0 := (hb0.cell (p := ⟨b, off + k * 2, none⟩) hB).trans p0
   have e1 := (hb0.cell (p := ⟨b, off + k * 2 + 1, none⟩) hB).trans p1
   have HSA := Lib.hid hsz.1
   have HSB := Lib.hid hsz.2
   have hkI : (k : Int) < (n : Int) := by omega
   have HST : Hid (lm.faults (l.take k) (l.drop k) = if lm.fault (l.take k) (xa, xb) = 0 then lm.faults (l.take (k + 1)) (l.drop (k + 1)) else lm.fault (l.take k) (xa, xb)) := lm.faults_step HKL.out HX.out
   have HBAD : Hid (∀ f : Int, f ≠ 0 → lm.fault (l.take k) (xa, xb) = f → R = (f, [])) := fun f hf he => by
    rw [HR.out]
    refine lm.canon_fault ?_ hf
    rw [HF.out, HST.out, he, if_neg hf]
   have hbx : Below w.heap.size w (wr.alloc (.cells #[.string xa, .string xb] 91)) := hb0.alloc (by omega) _
   have HOX := Lib.hid (HO.out.alloc (.cells #[.string xa, .string xb] 91))
   have HWX := Lib.hid (HW.out.alloc (.cells #[.string xa, .string xb] 91))
   have HN1 := Lib.hid (HNM.out xa (wr.alloc (.cells #[.string xa, .string xb] 91)) HSA.out)
   clear p0 p1 hx hsz
   by_cases hnm : lb.isName xa = true
   rotate_left
   ·
    have hnmf : lb.isName xa = false := by simpa using hnm
    have HB8 : Hid (R = (8, [])) := HBAD.out 8 (by decide) (by unfold lm.fault lm.good; rw [hnmf]; rfl)
    rw [hnmf] at HN1
    clear hnm hnmf
    go_wp2_with fail
    (with_reducible refine HN1.out.mono ?_)
    rintro e w1 ⟨rfl, hb1⟩
    have HRET := Lib.hid (ret8 HB8.out (hbx.trans (hb1.mono (by simp; omega))))
    go_wp2
    exact bodyPost_ret (v := .tuple #[.slice none 0 0, .int .i64 8]) (by simp [results, Tryz.results102, go_sem]) rfl HRET.out
   rw [hnm] at HN1
   go_wp2_with fail
   (with_reducible refine HN1.out.mono ?_)
   rintro e w1 ⟨rfl, hb1⟩
   obtain ⟨c0, c1, _, _, hz1'⟩ := two hb1
   have hbx2 := hbx.trans (hb1.mono (by simp; omega))
   have hz2' : w.heap.size + 1 ≤ w1.heap.size := by omega
   have HV1 := Lib.hid (HVL.out xb w1 HSB.out)
   have HO1 := Lib.hid (HOX.out.kept (row := none) (grown_of hb1) (fun e => by cases e))
   have HW1 := Lib.hid (own_stay HWX.out hb1)
   clear HN1
   by_cases hvl : lb.isVal xb = true
   rotate_left
   ·
    have hvlf : lb.isVal xb = false := by simpa using hvl
    have HB8 : Hid (R = (8, [])) := HBAD.out 8 (by decide) (by unfold lm.fault lm.good; rw [hvlf, Bool.and_false]; rfl)
    rw [hvlf] at HV1
    clear hvl hvlf
    go_wp2_with fail
    (with_reducible refine HV1.out.mono ?_)
    rintro e w2 ⟨rfl, hb2⟩
    have HRET := Lib.hid (ret8 HB8.out (hbx2.trans (hb2.mono (by omega))))
    go_wp2
    exact bodyPost_ret (v := .tuple #[.slice none 0 0, .int .i64 8]) (by simp [results, Tryz.results102, go_sem]) rfl HRET.out
   rw [hvl] at HV1
   have HGD : Hid (lm.good (xa, xb) = true) := by show (_ && _) = true; rw [hnm, hvl]; rfl
   go_wp2_with fail
   (with_reducible refine HV1.out.mono ?_)
   rintro e w2 ⟨rfl, hb2⟩
   have d0 := (hb2.cell (p := ⟨wr.heap.size, 0, none⟩) hz1').trans c0
   have d1 := (hb2.cell (p := ⟨wr.heap.size, 1, none⟩) hz1').trans c1
   have hz3 : wr.heap.size < w2.heap.size := by have := hb2.size; omega
   have hbx3 := hbx2.trans (hb2.mono (by omega))
   have HO2 := Lib.hid (HO1.out.kept (row := none) (grown_of hb2) (fun e => by cases e))
   have HW2 := Lib.hid (own_stay HW1.out hb2)
   have HKEY := Lib.hid (keyOf_string_mk (s := xa) Tryz.underlying9 HSA.out)
   have HHAS := Lib.hid (HM.out xa)
   clear HV1 c0 c1 hvl hnm
   by_cases hin : xa ∈ lm.names (l.take k)
   ·
    have HB8 : Hid (R = (8, [])) := HBAD.out 8 (by decide) (by unfold lm.fault; rw [if_neg (by rw [HGD.out]; decide), if_pos hin])
    have HRET := Lib.hid (ret8 HB8.out hbx3)
    have HH : Hid (Maps.has D (.string xa.data.toList) = true) := by show _ = _; rw [HHAS.out]; exact decide_eq_true hin
    clear hin
    go_wp2_with (at_lookup; refine look_ok rfl _ _ 87 rfl 9 3 .i64 mlaw Tryz.underlying87 Tryz.underlying3 (zeroI _) w.heap.size k D rfl HO2.out _ _ rfl HKEY.out true HH.out ?_; intro cv)
    exact bodyPost_ret (v := .tuple #[.slice none 0 0, .int .i64 8]) (by simp [results, Tryz.results102, go_sem]) rfl HRET.out
   have HH : Hid (Maps.has D (.string xa.data.toList) = false) := by show _ = _; rw [HHAS.out]; exact decide_eq_false hin
   have HNI := Lib.hid hin
   have HMP : Hid (lm.MapN (D.put (.string xa.data.toList) (.lit (.int .i64 k))) (lm.names (l.take (k + 1)))) := by
    show lm.MapN _ _
    rw [lm.names_step HKL.out HX.out]
    exact lm.mapN_put HM.out (HO2.out.isMap) _
   clear hin
   have HFZ : Hid ((xb = .empty ∨ (lm.kept (l.take k)).length ≠ 6) → lm.fault (l.take k) (xa, xb) = 0) := fun h => lm.fault_zero.2 ⟨HGD.out, HNI.out, h⟩
   by_cases he : xb = .empty
   ·
    subst he
    have hF0 := HFZ.out (Or.inl rfl)
    have HF2 : Hid (lm.faults [] l = lm.faults (l.take (k + 1)) (l.drop (k + 1))) := by show _ = _; rw [HF.out, HST.out, if_pos hF0]
    have HG2 : Hid (lm.Good (l.take (k + 1))) := lm.good_step HKL.out HX.out HG.out hF0
    have HK2 : Hid (lm.kept (l.take (k + 1)) = lm.kept (l.take k)) := by show _ = _; rw [lm.kept_step HKL.out HX.out, if_pos rfl]
    clear hF0
    go_wp2_with (first | (at_lookup; refine look_ok rfl _ _ 87 rfl 9 3 .i64 mlaw Tryz.underlying87 Tryz.underlying3 (zeroI _) w.heap.size k D rfl HO2.out _ _ rfl HKEY.out false HH.out ?_; intro cv) | (at_mapUpdate; refine wpList_mapUpdate_own _ rfl _ _ _ 87 rfl 9 3 mlaw Tryz.underlying87 _ w.heap.size k _ rfl HO2.out (by unfold maxLen; omega) _ _ _ rfl rfl HKEY.out _ [] (plainElem_int Tryz.underlying3 (WalkArith.wf_i64 (by omega))) ?_; intro w3 hown3 hgrow3; have d0' := (grown_cell hgrow3 (p := ⟨wr.heap.size, 0, none⟩) hz3 (fun e => by have := Option.some.inj e; simp at this; omega)).trans d0; have d1' := (grown_cell hgrow3 (p := ⟨wr.heap.size, 1, none⟩) hz3 (fun e => by have := Option.some.inj e; simp at this; omega)).trans d1; have hz4 : wr.heap.size < w3.heap.size := Nat.lt_of_lt_of_le hz3 hgrow3.size; have hbx4 := hbx3.grown hgrow3 (by omega) (fun j hj => by cases hj; exact Nat.le_refl _); have HM3 := Lib.hid (And.intro hown3 hgrow3); clear hown3 hgrow3))
    have HM4 := Lib.hid HM3.out.1
    have HW4 : Hid (w3.ownsRow (w.heap.size + 1) 91 2 (.slice oa q oc) q (lcells (lm.kept (l.take k)))) := HW2.out.kept HM3.out.2 (Or.inr (fun e => row_ne_low HW2.out (Nat.lt_succ_self _) e.symm))
    go_roundw
    case rel => exact ⟨k + 1, _, q, oa, oc, rfl, by go_num, by omega, hq6, HF2.out, HG2.out, HMP.out, HM4.out, by show q = _; rw [HK2.out]; exact HQ.out, by show World.ownsRow _ _ _ _ _ _ _; rw [HK2.out]; exact HW4.out, hbx4, by omega⟩
    case measure => simp [intOf]; omega
   obtain ⟨hs1, hs2, hs3⟩ : xb.toList.isEmpty = false ∧ ¬ xb.toList = [] ∧ ¬ xb = ByteArray.empty := kit.ne_empty (Nat.pos_of_ne_zero fun e => he (ByteArray.ext (Array.eq_empty_of_size_eq_zero e)))
   by_cases h6 : q = 6
   ·
    have HB4 : Hid (R = (4, [])) := HBAD.out 4 (by decide) (by unfold lm.fault; rw [if_neg (by rw [HGD.out]; decide), if_neg HNI.out, if_neg he, if_pos (by rw [← HQ.out]; exact h6)])
    have HRB := Lib.hid (fun (W : World) (hb : Below w.heap.size w W) => ret8 HB4.out hb)
    subst h6
    go_wp2_with (first | (at_lookup; refine look_ok rfl _ _ 87 rfl 9 3 .i64 mlaw Tryz.underlying87 Tryz.underlying3 (zeroI _) w.heap.size k D rfl HO2.out _ _ rfl HKEY.out false HH.out ?_; intro cv) | (at_mapUpdate; refine wpList_mapUpdate_own _ rfl _ _ _ 87 rfl 9 3 mlaw Tryz.underlying87 _ w.heap.size k _ rfl HO2.out (by unfold maxLen; omega) _ _ _ rfl rfl HKEY.out _ [] (plainElem_int Tryz.underlying3 (WalkArith.wf_i64 (by omega))) ?_; intro w3 hown3 hgrow3; have d0' := (grown_cell hgrow3 (p := ⟨wr.heap.size, 0, none⟩) hz3 (fun e => by have := Option.some.inj e; simp at this; omega)).trans d0; have d1' := (grown_cell hgrow3 (p := ⟨wr.heap.size, 1, none⟩) hz3 (fun e => by have := Option.some.inj e; simp at this; omega)).trans d1; have hz4 : wr.heap.size < w3.heap.size := Nat.lt_of_lt_of_le hz3 hgrow3.size; have hbx4 := hbx3.grown hgrow3 (by omega) (fun j hj => by cases hj; exact Nat.le_refl _); have HM3 := Lib.hid (And.intro hown3 hgrow3); clear hown3 hgrow3))
    exact bodyPost_ret (v := .tuple #[.slice none 0 0, .int .i64 4]) (by simp [results, Tryz.results102, go_sem]) rfl (HRB.out _ hbx4)
   have hF0 := HFZ.out (Or.inr (by rw [← HQ.out]; exact h6))
   have HF2 : Hid (lm.faults [] l = lm.faults (l.take (k + 1)) (l.drop (k + 1))) := by show _ = _; rw [HF.out, HST.out, if_pos hF0]
   have HG2 : Hid (lm.Good (l.take (k + 1))) := lm.good_step HKL.out HX.out HG.out hF0
   have HK2 : Hid (lm.kept (l.take (k + 1)) = lm.kept (l.take k) ++ [(xa, xb)]) := by show _ = _; rw [lm.kept_step HKL.out HX.out, if_neg he]
   have HQ2 : Hid (q + 1 = (lm.kept (l.take (k + 1))).length) := by show _ = _; rw [HK2.out, List.length_append, ← HQ.out]; rfl
   have HL2 : Hid (lcells (lm.kept (l.take (k + 1))) = lcells (lm.kept (l.take k)) ++ [.string xa, .string xb]) := by show _ = _; rw [HK2.out, lcells_app]; rfl
   have h6b : ((q : Int) == 6) = false := by simp; omega
   have h6c : ¬ (q : Int) = 6 := by omega
   have hq5 : q ≤ 5 := by omega
   have HWA : Hid (∀ (W : World), Hid (W.ownsMap Tryz.prog 9 (plainElem Tryz.prog 3) w.heap.size (k + 1) (D.put (.string xa.data.toList) (.lit (.int .i64 k))) ∧ w2.grownBy W (some w.heap.size)) → W.ownsRow (w.heap.size + 1) 91 2 (.slice oa q oc) q (lcells (lm.kept (l.take k)))) := fun W hW => HW2.out.kept hW.out.2 (Or.inr (fun e => row_ne_low HW2.out (Nat.lt_succ_self _) e.symm))
   clear hF0 he h6
   go_wp2_with (first | (at_lookup; refine look_ok rfl _ _ 87 rfl 9 3 .i64 mlaw Tryz.underlying87 Tryz.underlying3 (zeroI _) w.heap.size k D rfl HO2.out _ _ rfl HKEY.out false HH.out ?_; intro cv) | (at_mapUpdate; refine wpList_mapUpdate_own _ rfl _ _ _ 87 rfl 9 3 mlaw Tryz.underlying87 _ w.heap.size k _ rfl HO2.out (by unfold maxLen; omega) _ _ _ rfl rfl HKEY.out _ [] (plainElem_int Tryz.underlying3 (WalkArith.wf_i64 (by omega))) ?_; intro w3 hown3 hgrow3; have d0' := (grown_cell hgrow3 (p := ⟨wr.heap.size, 0, none⟩) hz3 (fun e => by have := Option.some.inj e; simp at this; omega)).trans d0; have d1' := (grown_cell hgrow3 (p := ⟨wr.heap.size, 1, none⟩) hz3 (fun e => by have := Option.some.inj e; simp at this; omega)).trans d1; have hz4 : wr.heap.size < w3.heap.size := Nat.lt_of_lt_of_le hz3 hgrow3.size; have hbx4 := hbx3.grown hgrow3 (by omega) (fun j hj => by cases hj; exact Nat.le_refl _); have HM3 := Lib.hid (And.intro hown3 hgrow3); clear hown3 hgrow3) | (at_builtin; refine app1g (.tmp 46) (.tmp 48) 63 rfl rfl (w.heap.size + 1) Tryz.underlying63 infoLab rfl (by decide) (by decide) (HWA.out _ HM3) rfl rfl rfl lcells_two (by omega) (by omega) ?_; intro v4 w4 hown4 hgrow4))
   have hbel4 := grown_below ((HWA.out _ HM3).alloc _) (by rw [World.size_alloc]; omega) hgrow4
   have HM4 := Lib.hid ((HM3.out.1.alloc (.cells #[.string xa, .string xb] 91)).kept hgrow4 (row_ne_low (HWA.out _ HM3) (Nat.lt_succ_self _)))
   have hbx5 := (hbx4.alloc (by omega) (.cells #[.string xa, .string xb] 91)).trans (hbel4.mono (by omega))
   have hz5 : w.heap.size + 1 ≤ w4.heap.size := by have := hbel4.size; rw [World.size_alloc] at this; omega
   have HW5 := Lib.hid hown4
   clear hown4 hgrow4 hbel4
   rcases own_form HW5.out with ⟨_, h0⟩ | ⟨g4, cap4, rfl, hg4⟩
   ·
    omega
   go_wp2
   go_roundw
   case rel => exact ⟨k + 1, _, q + 1, some ⟨g4, 0, none⟩, cap4, ⟨rfl, rfl, rfl⟩, by go_num, by omega, by omega, HF2.out, HG2.out, HMP.out, HM4.out, HQ2.out, by show World.ownsRow _ _ _ _ _ _ _; rw [HL2.out]; exact HW5.out⟩
   case measure => simp [intOf]; omega
  ·
   obtain rfl : k = n := by omega
   have HT : Hid (l.take k = l ∧ l.drop k = []) := ⟨List.take_of_length_le (by rw [HN.out]; exact Nat.le_refl _), List.drop_eq_nil_of_le (by rw [HN.out]; exact Nat.le_refl _)⟩
   have HF0 : Hid (lm.faults [] l = 0) := by show _ = _; rw [HF.out, HT.out.2]; rfl
   have HQ1 : Hid (q = (lm.kept l).length) := by show _ = _; have := HQ.out; rw [HT.out.1] at this; exact this
   by_cases h0 : q = 0
   ·
    have HB8 : Hid (R = (8, [])) := by
     show _ = _
     rw [HR.out, lm.canonF, if_pos HF0.out, if_pos (List.eq_nil_of_length_eq_zero (by rw [← HQ1.out]; exact h0))]
    have HRET := Lib.hid (ret8 HB8.out hb0)
    subst h0
    go_wp2
    exact bodyPost_ret (v := .tuple #[.slice none 0 0, .int .i64 8]) (by simp [results, Tryz.results102, go_sem]) rfl HRET.out
   ·
    have h0b : ((q : Int) == 0) = false := by simp; omega
    have h0c : ¬ (q : Int) = 0 := by omega
    rcases own_form HW.out with ⟨_, h⟩ | ⟨g, cap2, hv, hg⟩
    ·
     exact absurd h h0
    simp only [Value.slice.injEq] at hv
    obtain ⟨rfl, _, rfl⟩ := hv
    have HWL : Hid (wr.ownsRow (w.heap.size + 1) 91 2 (.slice (some ⟨g, 0, none⟩) q oc) q (lcells (lm.kept l))) := by
     show World.ownsRow _ _ _ _ _ _ _
     have := HW.out
     rw [HT.out.1] at this; exact this
    have HGL := (lm.faults_iff l).1 HF0.out
    have HSO := Lib.hid (sort_any g oc q (w.heap.size + 1) (lm.kept l) wr HWL.out HQ1.out (by omega) (HGL.2.1.sublist ((lm.kept_sub l).map _)) hz)
    have HRS : Hid (R = (0, lm.sortN (lm.kept l))) := by
     show _ = _
     rw [HR.out, lm.canon_ok HGL (fun e => by have := HQ1.out; rw [e] at this; exact h0 this)]
    have HLS : Hid (q = (lm.sortN (lm.kept l)).length) := by show _ = _; rw [(lm.sortN_perm _).length_eq]; exact HQ1.out
    have HRET : Hid (∀ W, W.ownsRow (w.heap.size + 1) 91 2 (.slice (some ⟨g, 0, none⟩) q oc) q (lcells (lm.sortN (lm.kept l))) → Below (w.heap.size + 1) wr W → CanonP R w (.returned (.tuple #[.slice (some ⟨g, 0, none⟩) q oc, .int .i64 0])) W) := fun W hW hb => by
     rw [HRS.out]
     refine ⟨_, rfl, ?_, hb0.trans (hb.mono (by omega))⟩
     show Cells _ _ _ _ _ _
     rw [← HLS.out]
     exact Cells.own hW
    clear h0 HGL
    go_wp2_with fail
    (with_reducible refine HSO.out.mono ?_)
    rintro e w5 ⟨rfl, hown5, hb5⟩
    have HR5 := Lib.hid (HRET.out _ hown5 hb5)
    clear hown5 hb5
    go_wp2
    exact bodyPost_ret (v := .tuple #[.slice (some ⟨g, 0, none⟩) q oc, .int .i64 0]) (by simp [results, Tryz.results102, go_sem]) rfl HR5.out
end Go.Proofs.YthmnaemcpcdinaaGreat
namespace Go.Proofs.YthmnaemcpcdinaaGreat.kit
open Go.RowKit Go.ChangeShapes
theorem appA {P : Program} {w : World} {ops : Array Oper} {rest : List Oper} {o : Oper} {a : Act} {Q : Exit → Act → World → Prop} {cs : Array Value} {e' : TypeId}
  (s x : Operand) (t : TypeId) (hgd : o.guard = none)
  (ho : o.op = .call { callee := .builtin .append, args := #[s, x], argTypes := #[t, t] })
  (base : Nat) {e : TypeId} {z : Value} {size bytes : Nat} (ht : P.underlying t = some (.slice e)) (hi : (P.info? e).map (fun i => (i.zero, i.size, i.bytes)) = some (some z, size, bytes))
  (hzs : z.cells.size = size) (hsz : 0 < size) (hb1 : 0 < bytes) (m : Nat)
  {v : Value} {n : Nat} {xs : List Value} {c : Nat} (hown : w.ownsRow base e size v n xs) (hs : a.eval s = v) (hx : a.eval x = .slice (some ⟨w.heap.size, 0, none⟩) m c)
  (hcs : cs.size = m * size) (h1 : ∀ u ∈ cs.toList, u.oneCell' = true) (hbytes : (n + m) * bytes ≤ 140737488355328) (hbase : base ≤ w.heap.size)
  (h : ∀ v' w', w'.ownsRow base e size v' (n + m) (xs ++ cs.toList) → (w.alloc (.cells cs e')).grownBy w' v.ownBlock → wpList P ops Q rest (a.put o.dst v') w') :
  wpList P ops Q (o :: rest) a (w.alloc (.cells cs e')) := by
 obtain ⟨i, hi, hz, hsize, hby⟩ := info_parts hi
 have hle : n + m ≤ (n + m) * bytes := Nat.le_mul_of_pos_right _ hb1
 refine wpList_append_own _ hgd s x t ho base e i z size bytes ht hi hz hsize hby hzs hsz v n xs hs (hown.alloc _) ⟨w.heap.size, 0, none⟩ m c cs.toList hx (by simp [hcs]) ?_ h1
  (by unfold maxLen; omega) hbytes (by simp; omega) fun v' w' r1 r2 _ => h v' w' r1 r2
 intro j u hj
 rw [Array.getElem?_toList] at hj
 rw [Addr.add_lit, Nat.zero_add, World.cell?_alloc_at _ _ _ _ rfl]
 exact hj
theorem appB {P : Program} {w : World} {ops : Array Oper} {rest : List Oper} {o : Oper} {a : Act} {Q : Exit → Act → World → Prop} {cs : Array Value} {e' : TypeId}
  (s x : Operand) (t : TypeId) (hgd : o.guard = none)
  (ho : o.op = .call { callee := .builtin .append, args := #[s, x], argTypes := #[t, t] })
  (base : Nat) {e : TypeId} {z : Value} {size bytes : Nat} (ht : P.underlying t = some (.slice e)) (hi : (P.info? e).map (fun i => (i.zero, i.size, i.bytes)) = some (some z, size, bytes))
  (hzs : z.cells.size = size) (hsz : 0 < size) (hb1 : 0 < bytes) (m : Nat) {N : Nat} (hN : w.heap.size = N)
  {v : Value} {n : Nat} {xs : List Value} {c : Nat} (hown : w.ownsRow base e size v n xs) (hs : a.eval s = v) (hx : a.eval x = .slice (some ⟨N, 0, none⟩) m c)
  (hcs : cs.size = m * size) (h1 : ∀ u ∈ cs.toList, u.oneCell' = true) (hbytes : (n + m) * bytes ≤ 140737488355328) (hbase : base ≤ w.heap.size)
  (h : ∀ v' w', w'.ownsRow base e size v' (n + m) (xs ++ cs.toList) → (w.alloc (.cells cs e')).grownBy w' v.ownBlock → wpList P ops Q rest (a.put o.dst v') w') :
  wpList P ops Q (o :: rest) a (w.alloc (.cells cs e')) := by
 subst hN
 exact appA s x t hgd ho base ht hi hzs hsz hb1 m hown hs hx hcs h1 hbytes hbase h
theorem box_keep {w w' : World} {B k n g0 : Nat} {e t : TypeId} {v : Value} {xs : List Value} {cs : Array Value} {fr : Nat × Nat} (hb : w.heap[g0]? = some (.cells cs t fr)) (hown : w.ownsRow B e k v n xs) (hne : t ≠ e) (hg : w.grownBy w' v.ownBlock) : w'.heap[g0]? = some (.cells cs t fr) := by
 have hlt : g0 < w.heap.size := (Array.getElem?_eq_some_iff.1 hb).1
 rw [hg.block g0 hlt (fun e1 => ?_)]
 ·
  exact hb
 ·
  rcases hown.2 with ⟨rfl, _⟩ | ⟨g, cap, cur, rfl, _, hg', _⟩
  ·
   cases e1
  ·
   obtain rfl : g0 = g := Option.some.inj e1
   rw [hb] at hg'
   cases hg'
   exact hne rfl
theorem box_alloc {w : World} {g0 : Nat} {o o' : Obj} (hb : w.heap[g0]? = some o) : (w.alloc o').heap[g0]? = some o := by
 rw [Below.heap_alloc w o' g0 (Array.getElem?_eq_some_iff.1 hb).1]; exact hb
theorem box_new (w : World) (o : Obj) : (w.alloc o).heap[w.heap.size]? = some o := by
 show (w.heap.push o)[w.heap.size]? = _
 simp
theorem box_cell {w : World} {g0 k : Nat} {cs : Array Value} {t : TypeId} {fr : Nat × Nat} {u : Value} (hb : w.heap[g0]? = some (.cells cs t fr)) (hk : cs[k]? = some u) : w.cell? ⟨g0, k, none⟩ = some u := by
 simp [World.cell?, hb, hk]
end Go.Proofs.YthmnaemcpcdinaaGreat.kit
namespace Go.Proofs.YthmnaemcpcdinaaGreat
open Go.RowKit Go.ChangeShapes cl
def TextP (r : Int × ByteArray) (w : World) (e : Ending) (w' : World) : Prop := e = .returned (.tuple #[.string r.2, .int .i64 r.1]) ∧ Below w.heap.size w w'
theorem textP_bad {r : Int × ByteArray} {f : Int} {w W : World} (h : r = (f, .empty)) (hb : Below w.heap.size w W) : TextP r w (.returned (.tuple #[.string ⟨#[]⟩, .int .i64 f])) W := by
 rw [h]; exact ⟨rfl, hb⟩
namespace lm
theorem text_step {l : List Lab} {k : Nat} {x : Lab} (hk : k < l.length) (hx : x = l.getD k (.empty, .empty)) : (behind (l.take (k + 1))).drop 1 = (if 0 < k then (behind (l.take k)).drop 1 ++ [44] else []) ++ oneT x := by
 rw [take_snoc hk hx, behind_app, behind_one]
 cases k with
 | zero => simp [behind]
 | succ k =>
  rw [if_pos (Nat.succ_pos _), List.drop_append_of_le_length]
  ·
   simp
  ·
   cases l with
   | nil => simp at hk
   | cons y r => simp [behind]
end lm
set_option maxHeartbeats 3200000 in
set_option maxRecDepth 100000 in
theorem text_any (l : List Lab) (v : Value) (w : World) (h : Labs w w.heap.size v l) (hs : ∀ x ∈ l, x.1.size ≤ maxLen ∧ x.2.size ≤ maxLen) (hl6 : l.length ≤ 100000) :
  Calls Tryz.prog 72 #[v] w (TextP (lm.textF l) w) := by
 have HCA := Lib.hid (canon_any l v w h hs hl6)
 obtain ⟨R, hR⟩ : ∃ R, R = lm.textF l := ⟨_, rfl⟩
 have HR := Lib.hid hR
 obtain ⟨⟨f, c⟩, hfc⟩ : ∃ r, r = lm.canonF l := ⟨_, rfl⟩
 have HFC := Lib.hid hfc
 rw [← hR]
 rw [← hfc] at HCA
 have HC := Lib.hid h
 clear hR h hs hl6
 by_cases hf : f = 0
 rotate_left
 ·
  have HRB : Hid (R = (f, .empty)) := by
   show _ = _
   rw [HR.out, lm.textF, ← HFC.out, if_neg hf]
  have hfb : (f != 0) = true := by simpa using hf
  have hfc2 : (f == 0) = false := by simpa using hf
  clear hfc
  go_enter Tryz.func72, Tryz.ntmps72
  go_wp2_with fail
  (with_reducible refine HCA.out.mono ?_)
  rintro e w1 ⟨vc, rfl, _, hb1⟩
  have HRET := Lib.hid (textP_bad HRB.out hb1)
  go_wp2
  exact bodyPost_ret (v := .tuple #[.string ⟨#[]⟩, .int .i64 f]) (by simp [results, Tryz.results72, go_sem]) rfl HRET.out
 subst hf
 by_cases hcl : c = l
 rotate_left
 ·
  have HRB : Hid (R = (3, .empty)) := by
   show _ = _
   rw [HR.out, lm.textF, ← HFC.out, if_pos rfl, if_neg hcl]
  have HD : Hid (decide (c = l) = false) := decide_eq_false hcl
  clear hfc hcl
  go_enter Tryz.func72, Tryz.ntmps72
  go_wp2_with fail
  (with_reducible refine HCA.out.mono ?_)
  rintro e w1 ⟨vc, rfl, hlc, hb1⟩
  have HEQ := Lib.hid (equal_any c l vc v w1 hlc (Cells.next HC.out hb1))
  rw [HD.out] at HEQ
  have HB1 := Lib.hid hb1
  clear hlc hb1
  go_wp2_with fail
  (with_reducible refine HEQ.out.mono ?_)
  rintro e w2 ⟨rfl, hb2⟩
  have HRET := Lib.hid (textP_bad HRB.out (HB1.out.trans (hb2.mono HB1.out.size)))
  go_wp2
  exact bodyPost_ret (v := .tuple #[.string ⟨#[]⟩, .int .i64 3]) (by simp [results, Tryz.results72, go_sem]) rfl HRET.out
 have HGO : Hid (lm.Good l ∧ l.length ≤ 6) := by
  have h1 := lm.canon_form (l := l) (c := c) HFC.out.symm
  rw [hcl] at h1
  exact ⟨h1.2.2.2.1, by have := h1.2.2.2.1.2.2; rw [h1.2.2.1] at this; exact this⟩
 have HRT : Hid (R = (0, kit.str (lm.textB l))) := by show _ = _; rw [HR.out]; exact lm.text_iff.2 ⟨by rw [← HFC.out, hcl], rfl⟩
 rw [hcl] at HCA
 obtain ⟨n, hn⟩ : ∃ n, n = l.length := ⟨_, rfl⟩
 have HN := Lib.hid hn
 have hn6 : n ≤ 6 := by rw [hn]; exact HGO.out.2
 have HU := Lib.hid infoU8
 clear hfc hcl hn
 go_enter Tryz.func72, Tryz.ntmps72
 go_wp2_with fail
 (with_reducible refine HCA.out.mono ?_)
 rintro e w1 ⟨vc, rfl, hlc, hb1⟩
 have heq := equal_any l l vc v w1 hlc (Cells.next HC.out hb1)
 rw [decide_eq_true (rfl : l = l)] at heq
 have HEQ := Lib.hid heq
 clear heq
 have HB1 := Lib.hid hb1
 obtain ⟨ao, cap, rfl⟩ : ∃ ao cap, vc = .slice ao n cap := by
  obtain ⟨ao, cap, e, _⟩ := hlc.form
  exact ⟨ao, cap, by rw [HN.out]; exact e⟩
 have HLC := Lib.hid hlc
 clear hlc hb1
 go_wp2_with fail
 (with_reducible refine HEQ.out.mono ?_)
 rintro e w2 ⟨rfl, hb2⟩
 have HL2 := Lib.hid (Cells.next HLC.out hb2)
 have HB2 := Lib.hid (HB1.out.trans (hb2.mono HB1.out.size))
 clear hb2 HLC
 go_wp2
 go_loopw [6, 7, 8, 23] (fun o _ _ i wr => ∃ (k : Nat) (pre : List Nat), i = .int .i64 k ∧ k ≤ n ∧ pre.length ≤ 84 * k ∧ Hid (pre = (lm.behind (l.take k)).drop 1) ∧ Hid (wr.ownsRow w2.heap.size 5 1 o pre.length (kit.u8s pre)) ∧ Below w2.heap.size w2 wr) (fun _ _ _ i _ => n - (intOf i).toNat)
 case atStart => exact ⟨0, [], rfl, by omega, by simp, (by simp [lm.behind] : _ = _), ⟨rfl, Or.inl ⟨rfl, rfl⟩⟩, Below.refl _ _⟩
 case round =>
  obtain ⟨k, pre, rfl, hk, hpl, HPRE, HOW, hbl⟩ := hrel
  have hz := hbl.size
  by_cases hlt : k < n
  ·
   obtain ⟨b, off, rfl, hB, p0, p1⟩ := Labs.get (l := l) HL2.out HN.out hlt
   have HKL : Hid (k < l.length) := by show k < l.length; rw [← HN.out]; exact hlt
   have hgd := HGO.out.1.1 (l.getD k (.empty, .empty)) (by have := HKL.out; simp [List.getD, this])
   obtain ⟨⟨xa, xb⟩, hx⟩ : ∃ x, x = l.getD k (.empty, .empty) := ⟨_, rfl⟩
   rw [← hx] at p0 p1 hgd
   obtain ⟨ha16, _, hb32⟩ := lm.good_len hgd
   have HX : Hid ((xa, xb) = l.getD k (.empty, .empty)) := hx
   have HST := Lib.hid (lm.text_step HKL.out HX.out)
   simp only at p0 p1 ha16 hb32
   obtain ⟨na, hna⟩ : ∃ na, na = kit.bytes xa := ⟨_, rfl⟩
   obtain ⟨nb, hnb⟩ : ∃ nb, nb = kit.bytes xb := ⟨_, rfl⟩
   have hxa : xa = kit.str na := by rw [hna, kit.str_bytes]
   have hxb : xb = kit.str nb := by rw [hnb, kit.str_bytes]
   have hla : na.length ≤ 16 := by rw [hna, kit.bytes_len]; exact ha16
   have hlb : nb.length ≤ 32 := by rw [hnb, kit.bytes_len]; exact hb32
   have HLA : Hid (∀ y ∈ na, y < 256) := by show ∀ y ∈ na, _; rw [hna]; exact kit.bytes_lt xa
   have HBB : Hid (kit.bytes (kit.str nb) = nb) := by show _ = _; rw [← hxb, hnb]
   have HSZ : Hid ((kit.str nb).size ≤ 32) := by show _ ≤ _; rw [kit.str_size]; exact hlb
   have HONE : Hid (lm.oneT (xa, xb) = na ++ [61] ++ ([34] ++ escN nb ++ [34])) := by show lm.oneT _ = _; unfold lm.oneT; rw [← hna, ← hnb]
   have hel : (escN nb).length ≤ 2 * nb.length := esc_len nb
   rw [hxa] at p0
   rw [hxb] at p1
   have e0 := (hbl.cell (p := ⟨b, off + k * 2, none⟩) hB).trans p0
   have e1 := (hbl.cell (p := ⟨b, off + k * 2 + 1, none⟩) hB).trans p1
   have hkI : (k : Int) < (n : Int) := by omega
   have HB0 : Hid ((wr.alloc (.cells #[.string (kit.str na), .string (kit.str nb)] 91)).heap[wr.heap.size]? = some (.cells #[.string (kit.str na), .string (kit.str nb)] 91 (0, 0))) := kit.box_new wr _
   have HO0 := Lib.hid (HOW.out.alloc (.cells #[.string (kit.str na), .string (kit.str nb)] 91))
   have hbl0 := hbl.alloc hz (.cells #[.string (kit.str na), .string (kit.str nb)] 91)
   obtain ⟨wo, hwo⟩ : ∃ x, x = wr := ⟨wr, rfl⟩
   subst hwo
   rw [HONE.out] at HST
   clear p0 p1 hx hna hnb hxa hxb ha16 hb32 hgd HONE HX
   by_cases h0 : k = 0
   ·
    have HPZ : Hid (pre = []) := by show pre = []; exact List.eq_nil_of_length_eq_zero (by omega)
    have h0I : ¬ (0 : Int) < (k : Int) := by omega
    have h0n : ¬ 0 < k := by omega
    clear h0
    go_wp2_with (at_builtin; refine appS (.tmp 33) (.tmp 35) 144 9 rfl rfl w2.heap.size Tryz.underlying144 Tryz.underlying9 infoU8 HO0.out rfl rfl HLA.out (by omega) hbl0.size ?_)
    intro v2 w4 hown4 hgrow4
    have HB4 := Lib.hid (kit.box_keep HB0.out HO0.out (by decide) hgrow4)
    have hbl4 := hbl0.trans (grown_below HO0.out hbl0.size hgrow4)
    have HO4 := Lib.hid hown4
    have hl4 : (pre ++ na).length ≤ (84 * k) + 16 := by simp; omega
    clear hown4 hgrow4
    obtain ⟨pre4, hpre4⟩ : ∃ x, x = pre ++ na := ⟨_, rfl⟩
    have HP4 := Lib.hid hpre4
    have HL4 : Hid (pre4.length = (pre ++ na).length) := by show _ = _; rw [hpre4]
    rw [← hpre4] at HO4 hl4
    clear hpre4
    go_wp2_with (at_builtin; refine kit.appA (.tmp 37) (.tmp 38) 144 rfl rfl w2.heap.size Tryz.underlying144 infoU8 rfl (by decide) (by decide) 2 HO4.out rfl rfl rfl (by intro u hu; simp at hu; rcases hu with rfl | rfl <;> rfl) (by omega) hbl4.size ?_)
    intro v3 w5 hown5 hgrow5
    have HB5 := Lib.hid (kit.box_keep (kit.box_alloc HB4.out) (HO4.out.alloc _) (by decide) hgrow5)
    have hbl5 := hbl4.trans (((Below.refl _ _).alloc hbl4.size _).trans (grown_below (HO4.out.alloc _) (by rw [World.size_alloc]; have := hbl4.size; omega) hgrow5))
    have HO5 : Hid (w5.ownsRow w2.heap.size 5 1 v3 (pre4 ++ [61, 34]).length (kit.u8s (pre4 ++ [61, 34]))) := by
     show World.ownsRow _ _ _ _ _ _ _
     rw [List.length_append, kit.u8s_app]
     have hl9 := HL4.out
     rw [List.length_append] at hl9
     rw [hl9]
     exact hown5
    have hl5 : (pre4 ++ [61, 34]).length ≤ (84 * k) + 18 := by simp; omega
    have c5 := kit.box_cell (k := 1) (u := .string (kit.str nb)) HB5.out rfl
    clear hown5 hgrow5
    obtain ⟨pre5, hpre5⟩ : ∃ x, x = pre4 ++ [61, 34] := ⟨_, rfl⟩
    have HP5 := Lib.hid hpre5
    rw [← hpre5] at HO5 hl5
    clear hpre5
    have HES := Lib.hid (esc_any w2.heap.size pre5 v3 (kit.str nb) w5 HO5.out hbl5.size (by have := HSZ.out; omega))
    rw [HBB.out] at HES
    go_wp2_with fail
    (with_reducible refine HES.out.mono ?_)
    rintro e w6 ⟨v6, rfl, hown6, hb6⟩
    have HO6 := Lib.hid hown6
    have hbl6 := hbl5.trans hb6
    have hl6 : (pre5 ++ escN nb).length ≤ (84 * k) + 82 := by simp; omega
    clear hown6 hb6
    obtain ⟨pre6, hpre6⟩ : ∃ x, x = pre5 ++ escN nb := ⟨_, rfl⟩
    have HP6 := Lib.hid hpre6
    rw [← hpre6] at HO6 hl6
    clear hpre6
    go_wp2_with (at_builtin; refine kit.app1 (.tmp 44) (.tmp 45) 144 rfl rfl w2.heap.size Tryz.underlying144 infoU8 rfl (by decide) (by decide) HO6.out rfl rfl rfl (by intro u hu; simp at hu; subst hu; rfl) (by omega) hbl6.size ?_)
    intro v7 w7 hown7 hb7
    have HO7 : Hid (w7.ownsRow w2.heap.size 5 1 v7 (pre6 ++ [34]).length (kit.u8s (pre6 ++ [34]))) := by
     show World.ownsRow _ _ _ _ _ _ _
     simpa [kit.u8s] using hown7
    have hl7 : (pre6 ++ [34]).length ≤ (84 * k) + 83 := by simp; omega
    have hbl7 := hbl6.trans hb7
    clear hown7 hb7
    go_wp2
    go_roundw
    case rel => exact ⟨k + 1, pre6 ++ [34], by go_num, by omega, by omega, by show _ = _; rw [HST.out, if_neg (by omega), HP6.out, HP5.out, HP4.out, HPZ.out]; simp [List.append_assoc], HO7.out, hbl7⟩
    case measure => simp [intOf]; omega
   ·
    have h0I : (0 : Int) < (k : Int) := by omega
    have h0n : 0 < k := by omega
    go_wp2_with (at_builtin; refine kit.appB (.tmp 30) (.tmp 31) 144 rfl rfl w2.heap.size Tryz.underlying144 infoU8 rfl (by decide) (by decide) 1 (World.size_alloc _ _) HO0.out rfl rfl rfl (by intro u hu; simp at hu; subst hu; rfl) (by omega) hbl0.size ?_)
    intro v1 w3 hown3 hgrow3
    have HB3 := Lib.hid (kit.box_keep (kit.box_alloc HB0.out) (HO0.out.alloc _) (by decide) hgrow3)
    have hbl3 := hbl0.trans (((Below.refl _ _).alloc hbl0.size _).trans (grown_below (HO0.out.alloc _) (by rw [World.size_alloc]; have := hbl0.size; omega) hgrow3))
    have HO3 : Hid (w3.ownsRow w2.heap.size 5 1 v1 (pre ++ [44]).length (kit.u8s (pre ++ [44]))) := by
     show World.ownsRow _ _ _ _ _ _ _
     simpa [kit.u8s] using hown3
    have hl3 : (pre ++ [44]).length ≤ 84 * k + 1 := by simp; omega
    have c3 := kit.box_cell (k := 0) (u := .string (kit.str na)) HB3.out rfl
    clear hown3 hgrow3
    obtain ⟨pre3, hpre3⟩ : ∃ x, x = pre ++ [44] := ⟨_, rfl⟩
    have HP3 := Lib.hid hpre3
    rw [← hpre3] at HO3 hl3
    clear hpre3
    go_wp2_with (at_builtin; refine appS (.tmp 33) (.tmp 35) 144 9 rfl rfl w2.heap.size Tryz.underlying144 Tryz.underlying9 infoU8 HO3.out rfl rfl HLA.out (by omega) hbl3.size ?_)
    intro v2 w4 hown4 hgrow4
    have HB4 := Lib.hid (kit.box_keep HB3.out HO3.out (by decide) hgrow4)
    have hbl4 := hbl3.trans (grown_below HO3.out hbl3.size hgrow4)
    have HO4 := Lib.hid hown4
    have hl4 : (pre3 ++ na).length ≤ (84 * k + 1) + 16 := by simp; omega
    clear hown4 hgrow4
    obtain ⟨pre4, hpre4⟩ : ∃ x, x = pre3 ++ na := ⟨_, rfl⟩
    have HP4 := Lib.hid hpre4
    have HL4 : Hid (pre4.length = (pre3 ++ na).length) := by show _ = _; rw [hpre4]
    rw [← hpre4] at HO4 hl4
    clear hpre4
    go_wp2_with (at_builtin; refine kit.appA (.tmp 37) (.tmp 38) 144 rfl rfl w2.heap.size Tryz.underlying144 infoU8 rfl (by decide) (by decide) 2 HO4.out rfl rfl rfl (by intro u hu; simp at hu; rcases hu with rfl | rfl <;> rfl) (by omega) hbl4.size ?_)
    intro v3 w5 hown5 hgrow5
    have HB5 := Lib.hid (kit.box_keep (kit.box_alloc HB4.out) (HO4.out.alloc _) (by decide) hgrow5)
    have hbl5 := hbl4.trans (((Below.refl _ _).alloc hbl4.size _).trans (grown_below (HO4.out.alloc _) (by rw [World.size_alloc]; have := hbl4.size; omega) hgrow5))
    have HO5 : Hid (w5.ownsRow w2.heap.size 5 1 v3 (pre4 ++ [61, 34]).length (kit.u8s (pre4 ++ [61, 34]))) := by
     show World.ownsRow _ _ _ _ _ _ _
     rw [List.length_append, kit.u8s_app]
     have hl9 := HL4.out
     rw [List.length_append] at hl9
     rw [hl9]
     exact hown5
    have hl5 : (pre4 ++ [61, 34]).length ≤ (84 * k + 1) + 18 := by simp; omega
    have c5 := kit.box_cell (k := 1) (u := .string (kit.str nb)) HB5.out rfl
    clear hown5 hgrow5
    obtain ⟨pre5, hpre5⟩ : ∃ x, x = pre4 ++ [61, 34] := ⟨_, rfl⟩
    have HP5 := Lib.hid hpre5
    rw [← hpre5] at HO5 hl5
    clear hpre5
    have HES := Lib.hid (esc_any w2.heap.size pre5 v3 (kit.str nb) w5 HO5.out hbl5.size (by have := HSZ.out; omega))
    rw [HBB.out] at HES
    go_wp2_with fail
    (with_reducible refine HES.out.mono ?_)
    rintro e w6 ⟨v6, rfl, hown6, hb6⟩
    have HO6 := Lib.hid hown6
    have hbl6 := hbl5.trans hb6
    have hl6 : (pre5 ++ escN nb).length ≤ (84 * k + 1) + 82 := by simp; omega
    clear hown6 hb6
    obtain ⟨pre6, hpre6⟩ : ∃ x, x = pre5 ++ escN nb := ⟨_, rfl⟩
    have HP6 := Lib.hid hpre6
    rw [← hpre6] at HO6 hl6
    clear hpre6
    go_wp2_with (at_builtin; refine kit.app1 (.tmp 44) (.tmp 45) 144 rfl rfl w2.heap.size Tryz.underlying144 infoU8 rfl (by decide) (by decide) HO6.out rfl rfl rfl (by intro u hu; simp at hu; subst hu; rfl) (by omega) hbl6.size ?_)
    intro v7 w7 hown7 hb7
    have HO7 : Hid (w7.ownsRow w2.heap.size 5 1 v7 (pre6 ++ [34]).length (kit.u8s (pre6 ++ [34]))) := by
     show World.ownsRow _ _ _ _ _ _ _
     simpa [kit.u8s] using hown7
    have hl7 : (pre6 ++ [34]).length ≤ (84 * k + 1) + 83 := by simp; omega
    have hbl7 := hbl6.trans hb7
    clear hown7 hb7
    go_wp2
    go_roundw
    case rel => exact ⟨k + 1, pre6 ++ [34], by go_num, by omega, by omega, by show _ = _; rw [HST.out, if_pos (by omega), HP6.out, HP5.out, HP4.out, HP3.out, HPRE.out]; simp [List.append_assoc], HO7.out, hbl7⟩
    case measure => simp [intOf]; omega
  ·
   obtain rfl : k = n := by omega
   have HPE : Hid (pre = (lm.behind l).drop 1) := by
    show _ = _
    rw [HPRE.out, List.take_of_length_le (by rw [HN.out]; exact Nat.le_refl _)]
   obtain ⟨T, hT⟩ : ∃ T, T = kit.str pre := ⟨_, rfl⟩
   have hTS : T.size ≤ 504 := by rw [hT, kit.str_size]; omega
   have hrun := kit.run_string (P := Tryz.prog) (src := 144) (dst := 9) Tryz.underlying144 Tryz.underlying5 Tryz.underlying9 HOW.out
   rw [← hT] at hrun
   have HTB : Hid (R = (0, ⟨#[123]⟩ ++ T ++ ⟨#[125]⟩)) := by
    show _ = _
    rw [HRT.out, lm.textB, kit.str_app, kit.str_app, ← HPE.out, ← hT]; rfl
   have z1 : ¬ 9223372036854775807 < 1 + T.size := by omega
   have z2 : ¬ 9223372036854775807 < 1 + T.size + 1 := by omega
   have HRET : Hid (TextP R w (.returned (.tuple #[.string (⟨#[123]⟩ ++ T ++ ⟨#[125]⟩), .int .i64 0])) wr) := by
    show TextP _ _ _ _
    rw [HTB.out]
    exact ⟨rfl, HB2.out.trans (hbl.mono HB2.out.size)⟩
   clear hT
   go_wp2
   exact bodyPost_ret (v := .tuple #[.string (⟨#[123]⟩ ++ T ++ ⟨#[125]⟩), .int .i64 0]) (by simp [results, Tryz.results72, go_sem]) rfl HRET.out
end Go.Proofs.YthmnaemcpcdinaaGreat
