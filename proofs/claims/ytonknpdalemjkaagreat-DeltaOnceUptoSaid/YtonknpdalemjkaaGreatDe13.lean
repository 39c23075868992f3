/- texts put together: OrsPlaces, OrsOk, OrsTold. -/
import Derived.Test.YtonknpdalemjkaaGreatDe12
namespace Go.Proofs.YtonknpdalemjkaaGreat
open Go Go.RowKit Go.ChangeShapes cl Go.WideMaps Go.Maps
theorem run_makeMap_hintD {P : Program} {t k e : TypeId} (ht : P.underlying t = some (.map k e)) (n : Int) (w : World) : (Instr.makeMap t (some (.int .i64 n))).run P w = .ok (.map (some w.heap.size)) (w.alloc (.map #[] 0)) := by
 simp [Instr.makeMap, run_underlying ht, asInt]
 rfl
def MapD (w0 w : World) (b n : Nat) (l : List Dot) : Prop := ∃ D, HasD D l ∧ w.ownsMap Tryz.prog 51 (plainElem Tryz.prog 3) b n D ∧ w0.heap.size ≤ b
def PlacesP (l : List Dot) (w : World) (e : Ending) (w' : World) : Prop := ∃ b, e = .returned (.map (some b)) ∧ MapD w w' b l.length l ∧ Below w.heap.size w w'
set_option maxHeartbeats 1600000 in
set_option maxRecDepth 100000 in
theorem places_any (l : List Dot) (v : Value) (w : World) (h : Dots w w.heap.size v l) (hl : l.length ≤ 100000) (hv : ∀ d ∈ l, valid d = true) :
  Calls Tryz.prog 55 #[v] w (PlacesP l w) := by
 have hmm := fun (n : Int) (w : World) => run_makeMap_hintD (P := Tryz.prog) Tryz.underlying81 n w
 obtain ⟨n, hn⟩ : ∃ n, n = l.length := ⟨_, rfl⟩
 have HN := Lib.hid hn
 obtain ⟨ao, cap, rfl⟩ : ∃ ao cap, v = .slice ao n cap := by
  obtain ⟨ao, cap, e, _⟩ := h.form
  exact ⟨ao, cap, by rw [hn]; exact e⟩
 have hn6 : n ≤ 100000 := by omega
 have HC := Lib.hid h
 have HV := Lib.hid hv
 have hM0 : (w.alloc (.map #[] 0)).ownsMap Tryz.prog 51 (plainElem Tryz.prog 3) w.heap.size 0 (.map []) := World.ownsMap_made (H := Unit) w (P := Tryz.prog) (k := 51) (plainElem Tryz.prog 3)
 have HM0 := Lib.hid hM0
 clear h hn hl hv hM0
 go_enter Tryz.func55, Tryz.ntmps55
 go_wp2
 go_loopw [11] (fun i wr => ∃ (k : Nat) (D : DataW Unit), i = .int .i64 k ∧ k ≤ n ∧ Hid (HasD D (l.take k)) ∧ Hid (wr.ownsMap Tryz.prog 51 (plainElem Tryz.prog 3) w.heap.size k D) ∧ Hid (Below w.heap.size w wr) ∧ w.heap.size < wr.heap.size) (fun i _ => n - (intOf i).toNat)
 case atStart => exact ⟨0, .map [], rfl, by omega, hasD_nil, HM0.out, below1, by simp⟩
 case round =>
  obtain ⟨k, D, rfl, hk, HH, HO, HB, hbz⟩ := hrel
  by_cases hlt : k < n
  ·
   have hkI : (k : Int) < (n : Int) := by omega
   obtain ⟨bb, off, rfl, hbB, p0, p1⟩ := Dots.get (Cells.next HC.out HB.out) HN.out hlt
   obtain ⟨x, hx⟩ : ∃ x, x = l.getD k (0, 0) := ⟨_, rfl⟩
   rw [← hx] at p0 p1
   have HX : Hid (l.take (k + 1) = l.take k ++ [x]) := by
    show _ = _
    rw [hx]; exact take_one l k (0, 0) (by rw [← HN.out]; exact hlt)
   have hxv : valid x = true := HV.out x (by
    rw [hx, List.getD_eq_getElem?_getD, List.getElem?_eq_getElem (by rw [← HN.out]; exact hlt)]
    exact List.getElem_mem _)
   have HKEY : Hid (keyOf Tryz.prog 51 (.agg #[.int .i64 x.1, .int .i64 x.2]) = some (dkey x)) := dkey_of (dwf_valid hxv)
   have HP : Hid (HasD (D.put (dkey x) (.lit (.int .i64 k))) (l.take (k + 1))) := by
    show HasD _ _
    rw [HX.out]
    exact hasD_put HH.out HO.out.isMap (dwf_valid hxv) _
   clear hx hxv
   go_wp2_with (at_mapUpdate; refine wpList_mapUpdate_own _ rfl _ _ _ 81 rfl 51 3 dkeyed Tryz.underlying81 _ w.heap.size k _ rfl (HO.out.alloc _) (by unfold maxLen; omega) _ _ _ rfl rfl HKEY.out _ [] (plainElem_int Tryz.underlying3 (WalkArith.wf_i64 (by omega))) ?_)
   intro w1 hown1 hgrow1
   have HO1 := Lib.hid hown1
   have hbl1 : Below w.heap.size w w1 := (HB.out.alloc (by omega) _).grown hgrow1 (by simp; omega) (fun j hj => by cases hj; exact Nat.le_refl _)
   have HB1 := Lib.hid hbl1
   have hbz1 : w.heap.size < w1.heap.size := by have := hgrow1.size; simp at this; omega
   clear hown1 hgrow1 hbl1
   go_wp2
   go_roundw
   case rel => exact ⟨k + 1, _, by go_num, by omega, HP, HO1, HB1, hbz1⟩
   case measure => simp [intOf]; omega
  ·
   have hkn : k = n := by omega
   subst hkn
   have HR : Hid (PlacesP l w (.returned (.map (some w.heap.size))) wr) := by
    refine ⟨_, rfl, ⟨D, ?_, ?_, Nat.le_refl _⟩, HB.out⟩
    ·
     have := HH.out; rwa [List.take_of_length_le (by rw [← HN.out]; exact Nat.le_refl _)] at this
    ·
     rw [← HN.out]; exact HO.out
   go_wp2
   go_ret
   exact HR.out
end Go.Proofs.YtonknpdalemjkaaGreat
namespace Go.Proofs.YtonknpdalemjkaaGreat
open Go Go.RowKit Go.ChangeShapes cl Go.Sort Go.WideMaps Go.Maps
theorem right_yes {c : dm.Ctx} (hr : dm.Right c) (vc : Value) (w : World) (h : CtxAt w w.heap.size vc c) : Calls Tryz.prog 31 #[vc] w (SaidD true w) := by
 have := right_any c vc w h
 rwa [dm.rightB_true hr] at this
set_option maxHeartbeats 1600000 in
set_option maxRecDepth 100000 in
theorem oright_yes (l : List Ent) (c : dm.Ctx) (ve v1 v2 : Value) (w : World) (h : Ents w w.heap.size ve l) (hc : CtxAt w w.heap.size (.agg #[v1, v2]) c) (hr : RSet l c) (hm : MX w) :
  Calls Tryz.prog 30 #[.agg #[ve, v1, v2]] w (Said true w) := by
 obtain ⟨w1, hw1⟩ : ∃ W, W = w.alloc (.cells #[ve, v1, v2] 27) := ⟨_, rfl⟩
 have hb : Below w.heap.size w w1 := by rw [hw1]; exact below1
 have x0 : w1.heap[w.heap.size]? = some (.cells #[ve, v1, v2] 27) := by rw [hw1]; exact heap_alloc_new w _
 have HR := Lib.hid (right_yes hr.right _ w1 (hc.next hb))
 have HE : Hid (∀ W, Below w1.heap.size w1 W → Calls Tryz.prog 65 #[ve, .agg #[v1, v2]] W (Said true W)) := fun W hW =>
  rents_yes l c _ _ W (Cells.next h (hb.trans (hW.mono hb.size))) (hc.next (hb.trans (hW.mono hb.size))) hr (MX.next hm (hb.trans (hW.mono hb.size)))
 have HW := Lib.hid hw1
 have HB := Lib.hid hb
 have X0 := Lib.hid x0
 clear hw1 h hc hr hm hb x0
 go_enter Tryz.func30, Tryz.ntmps30
 go_wp2_with fail
 rw [← HW.out]
 (with_reducible refine HR.out.mono ?_)
 rintro e w2 ⟨rfl, hb2⟩
 have y := (hb2.block _ (lt_of_block X0.out)).trans X0.out
 have y0 := boxc y 0 _ rfl
 have y1 := boxc y 1 _ rfl
 have y2 := boxc y 2 _ rfl
 have HE2 := Lib.hid (HE.out w2 hb2)
 have HB2 := Lib.hid (HB.out.trans (hb2.mono HB.out.size))
 clear y hb2
 go_wp2_with fail
 (with_reducible refine HE2.out.mono ?_)
 rintro e w3 ⟨rfl, hb3⟩
 have HB3 := Lib.hid (HB2.out.trans (hb3.mono HB2.out.size))
 go_wp2
 go_ret
 exact ⟨rfl, HB3.out⟩
theorem own_map_keep {w w' : World} {b n : Nat} {D : DataW Unit} (h : w.ownsMap Tryz.prog 51 (plainElem Tryz.prog 3) b n D) (hb : Below w.heap.size w w') : w'.ownsMap Tryz.prog 51 (plainElem Tryz.prog 3) b n D :=
 h.kept (row := none) (grown_below' hb) (by simp)
def deadF (A : List Dot) (c : dm.Ctx) (x : Ent) : Bool := !decide (x.d ∈ A) && dm.hasF c x.d
set_option maxHeartbeats 1600000 in
set_option maxRecDepth 100000 in
theorem asks_dead (A : List Dot) (c : dm.Ctx) (b5 b3 mb nn : Nat) (D : DataW Unit) (v1 v2 : Value) (w : World) (h5 : w.cell? ⟨b5, 0, none⟩ = some (.map (some mb))) (h1 : w.cell? ⟨b3, 2, none⟩ = some v1) (h2 : w.cell? ⟨b3, 3, none⟩ = some v2)
  (hc : CtxAt w w.heap.size (.agg #[v1, v2]) c) (hD : HasD D A) (hm : w.ownsMap Tryz.prog 51 (plainElem Tryz.prog 3) mb nn D) :
  Asks 57 #[.pointer (some ⟨b5, 0, none⟩), .pointer (some ⟨b3, 0, none⟩)] (deadF A c) w := by
 refine ⟨fun _ _ => rfl, fun x W hv hW => ?_⟩
 have l5 := World.block_lt_of_cell? _ _ h5
 have l1 := World.block_lt_of_cell? _ _ h1
 have h5 := (hW.cell (p := ⟨b5, 0, none⟩) l5).trans h5
 have h1 := (hW.cell (p := ⟨b3, 2, none⟩) l1).trans h1
 have h2 := (hW.cell (p := ⟨b3, 3, none⟩) l1).trans h2
 have hc := hc.next hW
 have hm := own_map_keep hm hW
 have l5 : b5 < W.heap.size := Nat.lt_of_lt_of_le l5 hW.size
 have l3 : b3 < W.heap.size := Nat.lt_of_lt_of_le l1 hW.size
 clear hW l1
 obtain ⟨w1, hw1⟩ : ∃ w1, w1 = W.alloc (.cells #[.string x.s, .int .i64 x.d.1, .int .i64 x.d.2, .int .i64 x.t, .slice none 0 0] 54) := ⟨_, rfl⟩
 have hb : Below W.heap.size W w1 := by rw [hw1]; exact below1
 have x0 : w1.heap[W.heap.size]? = some (.cells #[.string x.s, .int .i64 x.d.1, .int .i64 x.d.2, .int .i64 x.t, .slice none 0 0] 54) := by rw [hw1]; exact heap_alloc_new W _
 have c5 := (hb.cell (p := ⟨b5, 0, none⟩) l5).trans h5
 have c1 := (hb.cell (p := ⟨b3, 2, none⟩) l3).trans h1
 have c2 := (hb.cell (p := ⟨b3, 3, none⟩) l3).trans h2
 have HM := Lib.hid (own_map_keep hm hb)
 have HH : Hid (Calls Tryz.prog 27 #[.agg #[v1, v2], .agg #[.int .i64 x.d.1, .int .i64 x.d.2]] w1 (SaidD (dm.hasF c x.d) w1)) := has_any c x.d _ w1 (hc.next hb)
 have HK : Hid (keyOf Tryz.prog 51 (.agg #[.int .i64 x.d.1, .int .i64 x.d.2]) = some (dkey x.d)) := dkey_of (dwf_valid hv)
 have HDD : Hid (Maps.has D (dkey x.d) = decide (x.d ∈ A)) := by
  show _ = _
  by_cases hx : x.d ∈ A
  ·
   rw [decide_eq_true hx]; exact (hD _ (dwf_valid hv)).2 hx
  ·
   rw [decide_eq_false hx]
   cases e : Maps.has D (dkey x.d)
   ·
    rfl
   ·
    exact absurd ((hD _ (dwf_valid hv)).1 e) hx
 have y0 := boxc x0 0 _ rfl
 have y1 := boxc x0 1 _ rfl
 have y2 := boxc x0 2 _ rfl
 have HB := Lib.hid hb
 subst hw1
 have n5 : ¬ b5 = W.heap.size := by omega
 have n3 : ¬ b3 = W.heap.size := by omega
 clear h5 h1 h2 hc hm hb x0 hv
 show Calls Tryz.prog 57 #[.agg #[.string x.s, .int .i64 x.d.1, .int .i64 x.d.2, .int .i64 x.t, .slice none 0 0], .pointer (some ⟨b5, 0, none⟩), .pointer (some ⟨b3, 0, none⟩)] W (Said (deadF A c x) W)
 unfold deadF
 by_cases hx : x.d ∈ A
 ·
  rw [decide_eq_true hx] at HDD ⊢
  go_enter Tryz.func57, Tryz.ntmps57
  go_wp2_with (at_lookup; refine wpList_lookup_own_ok_int _ rfl _ _ 81 rfl 51 3 .i64 dkeyed Tryz.underlying81 Tryz.underlying3 (zeroI _) mb nn D rfl HM.out _ _ rfl HK.out ?_)
  intro cc _ _
  rw [HDD.out]
  go_wp2
  go_ret
  exact ⟨rfl, HB.out⟩
 ·
  rw [decide_eq_false hx] at HDD ⊢
  go_enter Tryz.func57, Tryz.ntmps57
  go_wp2_with (at_lookup; refine wpList_lookup_own_ok_int _ rfl _ _ 81 rfl 51 3 .i64 dkeyed Tryz.underlying81 Tryz.underlying3 (zeroI _) mb nn D rfl HM.out _ _ rfl HK.out ?_)
  intro cc _ _
  rw [HDD.out]
  go_wp2_with fail
  (with_reducible refine HH.out.mono ?_)
  rintro e w2 ⟨rfl, hb2⟩
  have HB2 := Lib.hid (HB.out.trans (hb2.mono HB.out.size))
  go_wp2
  go_ret
  exact ⟨by simp, HB2.out⟩
end Go.Proofs.YtonknpdalemjkaaGreat
namespace Go.Proofs.YtonknpdalemjkaaGreat
open Go Go.RowKit Go.ChangeShapes cl Go.Sort Go.WideMaps Go.Maps
theorem run_makeMap_no {P : Program} {t : TypeId} (w : World) : (Instr.makeMap t none).run P w = .ok (.map (some w.heap.size)) (w.alloc (.map #[] 0)) := by
 simp [Instr.makeMap]
set_option maxHeartbeats 3200000 in
set_option maxRecDepth 100000 in
theorem told_yes (L : List Ent) (A : List Dot) (c : dm.Ctx) (ve v1 v2 ue ua u1 u2 : Value) (w : World) (hc : CtxAt w w.heap.size (.agg #[v1, v2]) c) (hu : Ents w w.heap.size ue L) (ha : Dots w w.heap.size ua A) (hL : L.length ≤ 100000) (hA : A.length ≤ 100000)
  (hv : ∀ x ∈ L, valid x.d = true) (hva : ∀ d ∈ A, valid d = true) (ht : ∀ d ∈ A, d ∈ L.map Ent.d ∨ dm.Knows c d) :
  Calls Tryz.prog 54 #[.agg #[ve, v1, v2], .agg #[ue, ua, u1, u2]] w (Said true w) := by
 have hmm := fun (w : World) => run_makeMap_no (P := Tryz.prog) (t := 81) w
 obtain ⟨n, hn⟩ : ∃ n, n = L.length := ⟨_, rfl⟩
 have HN := Lib.hid hn
 obtain ⟨ao, cap, rfl⟩ : ∃ ao cap, ue = .slice ao n cap := by
  obtain ⟨ao, cap, e, _⟩ := hu.form
  exact ⟨ao, cap, by rw [hn]; exact e⟩
 obtain ⟨m, hm⟩ : ∃ m, m = A.length := ⟨_, rfl⟩
 have HM := Lib.hid hm
 obtain ⟨ad, dcap, rfl⟩ : ∃ ao cap, ua = .slice ao m cap := by
  obtain ⟨ao, cap, e, _⟩ := ha.form
  exact ⟨ao, cap, by rw [hm]; exact e⟩
 have hn6 : n ≤ 100000 := by omega
 have hm6 : m ≤ 100000 := by omega
 obtain ⟨w2, hw2⟩ : ∃ W, W = (w.alloc (.cells #[ve, v1, v2] 27)).alloc (.cells #[.slice ao n cap, .slice ad m dcap, u1, u2] 29) := ⟨_, rfl⟩
 have b1 : Below w.heap.size w (w.alloc (.cells #[ve, v1, v2] 27)) := below1
 have b2 : Below (w.alloc (.cells #[ve, v1, v2] 27)).heap.size (w.alloc (.cells #[ve, v1, v2] 27)) w2 := by rw [hw2]; exact below1
 have E2 := b1.trans (b2.mono b1.size)
 have x1 : w2.heap[w.heap.size]? = some (.cells #[ve, v1, v2] 27) := (b2.block _ (by simp)).trans (heap_alloc_new w _)
 have x2 : w2.heap[w.heap.size + 1]? = some (.cells #[.slice ao n cap, .slice ad m dcap, u1, u2] 29) := by
  have := heap_alloc_new (w.alloc (.cells #[ve, v1, v2] 27)) (.cells #[.slice ao n cap, .slice ad m dcap, u1, u2] 29)
  rw [World.size_alloc] at this
  rw [hw2]; exact this
 have hs2 : w2.heap.size = w.heap.size + 2 := by rw [hw2]; simp
 have HC := Lib.hid (hc.next E2)
 have HU := Lib.hid (Cells.next hu E2)
 have HA := Lib.hid (Cells.next ha E2)
 have HV := Lib.hid hv
 have HVA := Lib.hid hva
 have HT := Lib.hid ht
 have X1 := Lib.hid x1
 have X2 := Lib.hid x2
 have HW := Lib.hid hw2
 have HE := Lib.hid E2
 have HS := Lib.hid hs2
 clear hc hu ha hL hA hv hva ht hn hm b1 b2 E2 x1 x2 hw2
 have HM0 : Hid ((w2.alloc (.map #[] 0)).ownsMap Tryz.prog 51 (plainElem Tryz.prog 3) (w.heap.size + 2) 0 (.map [] : DataW Unit)) := by
  have := World.ownsMap_made (H := Unit) w2 (P := Tryz.prog) (k := 51) (plainElem Tryz.prog 3)
  rw [hs2] at this
  exact this
 have HBM : Hid (Below (w.heap.size + 2) w2 (w2.alloc (.map #[] 0))) := (Below.refl _ _).alloc (by omega) _
 clear hs2
 go_enter Tryz.func54, Tryz.ntmps54
 go_wp2
 rw [← HW.out]
 go_loopw [16] (fun i wr => ∃ (k : Nat) (D : DataW Unit), i = .int .i64 k ∧ k ≤ n ∧ Hid (HasD D ((L.take k).map Ent.d)) ∧ Hid (wr.ownsMap Tryz.prog 51 (plainElem Tryz.prog 3) (w.heap.size + 2) k D) ∧ Hid (Below (w.heap.size + 2) w2 wr) ∧ w.heap.size + 2 < wr.heap.size) (fun i _ => n - (intOf i).toNat)
 case atStart => exact ⟨0, .map [], rfl, by omega, hasD_nil, HM0.out, HBM.out, by have := HS.out; simp; omega⟩
 case round =>
  obtain ⟨k, D, rfl, hk, HH, HO, HB, hbz⟩ := hrel
  have hB2 : Below w2.heap.size w2 wr := HB.out.mono (by have := HS.out; omega)
  by_cases hlt : k < n
  ·
   have hkI : (k : Int) < (n : Int) := by omega
   obtain ⟨bb, off, rfl, hbB, p0, p1, p2, p3, p4⟩ := Ents.get (Cells.next HU.out hB2) HN.out hlt
   obtain ⟨x, hx⟩ : ∃ x, x = L.getD k default := ⟨_, rfl⟩
   rw [← hx] at p0 p1 p2 p3
   have HX : Hid (L.take (k + 1) = L.take k ++ [x]) := by
    show _ = _
    rw [hx]; exact take_one L k default (by rw [← HN.out]; exact hlt)
   have hxv : valid x.d = true := HV.out x (by rw [hx]; exact getD_memE (by rw [← HN.out]; exact hlt))
   have HKEY : Hid (keyOf Tryz.prog 51 (.agg #[.int .i64 x.d.1, .int .i64 x.d.2]) = some (dkey x.d)) := dkey_of (dwf_valid hxv)
   have HP : Hid (HasD (D.put (dkey x.d) (.lit (.int .i64 k))) ((L.take (k + 1)).map Ent.d)) := by
    show HasD _ _
    rw [HX.out, List.map_append]
    exact hasD_put HH.out HO.out.isMap (dwf_valid hxv) _
   clear hx hxv hB2
   go_wp2_with (at_mapUpdate; refine wpList_mapUpdate_own _ rfl _ _ _ 81 rfl 51 3 dkeyed Tryz.underlying81 _ (w.heap.size + 2) k _ rfl (HO.out.alloc _) (by unfold maxLen; omega) _ _ _ rfl rfl HKEY.out _ [] (plainElem_int Tryz.underlying3 (WalkArith.wf_i64 (by omega))) ?_)
   intro w1 hown1 hgrow1
   have HO1 := Lib.hid hown1
   have hbl1 : Below (w.heap.size + 2) w2 w1 := (HB.out.alloc (by omega) _).grown hgrow1 (by simp; omega) (fun j hj => by cases hj; exact Nat.le_refl _)
   have HB1 := Lib.hid hbl1
   have hbz1 : w.heap.size + 2 < w1.heap.size := by have := hgrow1.size; simp at this; omega
   clear hown1 hgrow1 hbl1
   go_wp2
   go_roundw
   case rel => exact ⟨k + 1, _, by go_num, by omega, HP, HO1, HB1, hbz1⟩
   case measure => simp [intOf]; omega
  ·
   have hkn : k = n := by omega
   subst hkn
   have HHL : Hid (HasD D (L.map Ent.d)) := by
    have := HH.out
    rw [List.take_of_length_le (by rw [← HN.out]; exact Nat.le_refl _)] at this
    exact this
   have y2 := (hB2.block _ (lt_of_block X2.out)).trans X2.out
   have x21 := boxc y2 1 _ rfl
   have HBW := Lib.hid hB2
   clear y2 HH hlt hB2
   go_wp2
   go_loopw [29] (fun i wx => ∃ (j : Nat), i = .int .i64 j ∧ j ≤ m ∧ Hid (Below wr.heap.size wr wx)) (fun i _ => m - (intOf i).toNat)
   case atStart => exact ⟨0, rfl, by omega, Below.refl _ _⟩
   case round =>
    rename World => wx
    obtain ⟨j, rfl, hj, HBX⟩ := hrel
    by_cases hlt : j < m
    ·
     have hjI : (j : Int) < (m : Int) := by omega
     have hB3 : Below w2.heap.size w2 wx := HBW.out.trans (HBX.out.mono HBW.out.size)
     obtain ⟨bb, off, rfl, hbB, p0, p1⟩ := Dots.get (Cells.next HA.out hB3) HM.out hlt
     obtain ⟨x, hx⟩ : ∃ x, x = A.getD j (0, 0) := ⟨_, rfl⟩
     rw [← hx] at p0 p1
     have hxm : x ∈ A := by
      rw [hx, List.getD_eq_getElem?_getD, List.getElem?_eq_getElem (by rw [← HM.out]; exact hlt)]
      exact List.getElem_mem _
     have hxv := HVA.out x hxm
     have HKEY : Hid (keyOf Tryz.prog 51 (.agg #[.int .i64 x.1, .int .i64 x.2]) = some (dkey x)) := dkey_of (dwf_valid hxv)
     obtain ⟨q0, hq0⟩ : ∃ q, q = wx.heap.size := ⟨_, rfl⟩
     obtain ⟨W1, hW1⟩ : ∃ W1, W1 = wx.alloc (.cells #[.int .i64 x.1, .int .i64 x.2] 51) := ⟨_, rfl⟩
     have hb1 : Below wx.heap.size wx W1 := by rw [hW1]; exact below1
     have HOW := Lib.hid (own_map_keep HO.out (HBX.out.trans (hb1.mono HBX.out.size)))
     have HB4 := Lib.hid (HBX.out.trans (hb1.mono HBX.out.size))
     by_cases hin : x ∈ L.map Ent.d
     ·
      have HHS : Hid (Maps.has D (dkey x) = true) := (HHL.out x (dwf_valid hxv)).2 hin
      subst hW1
      clear hx hxm hxv hb1 hB3 hin
      go_wp2_with (at_lookup; refine look_ok rfl _ _ 81 rfl 51 3 .i64 dkeyed Tryz.underlying81 Tryz.underlying3 (zeroI _) (w.heap.size + 2) k D rfl HOW.out _ _ rfl HKEY.out true HHS.out ?_; intro cv)
      go_roundw
      case rel => exact ⟨j + 1, by go_num, by omega, HB4⟩
      case measure => simp [intOf]; omega
     ·
      have HHS : Hid (Maps.has D (dkey x) = false) := by
       show _ = _
       cases e : Maps.has D (dkey x)
       ·
        rfl
       ·
        exact absurd ((HHL.out x (dwf_valid hxv)).1 e) hin
      have hkx : dm.Knows c x := (HT.out x hxm).resolve_left hin
      have hB5 := hB3.trans (hb1.mono hB3.size)
      have HHC : Hid (Calls Tryz.prog 27 #[.agg #[v1, v2], .agg #[.int .i64 x.1, .int .i64 x.2]] W1 (SaidD true W1)) := by
       have := has_any c x _ W1 (HC.out.next hB5)
       rwa [(dm.hasF_iff).2 hkx] at this
      have y1 := (hB5.block _ (lt_of_block X1.out)).trans X1.out
      have y10 := boxc y1 0 _ rfl
      have y11 := boxc y1 1 _ rfl
      have y12 := boxc y1 2 _ rfl
      subst hW1
      clear hx hxm hxv hb1 hB3 hin hkx hB5 y1
      go_wp2_with (at_lookup; refine look_ok rfl _ _ 81 rfl 51 3 .i64 dkeyed Tryz.underlying81 Tryz.underlying3 (zeroI _) (w.heap.size + 2) k D rfl HOW.out _ _ rfl HKEY.out false HHS.out ?_; intro cv)
      (with_reducible refine HHC.out.mono ?_)
      rintro e w6 ⟨rfl, hb6⟩
      have HB6 := Lib.hid (HB4.out.trans (hb6.mono HB4.out.size))
      go_wp2
      go_roundw
      case rel => exact ⟨j + 1, by go_num, by omega, HB6⟩
      case measure => simp [intOf]; omega
    ·
     have HR : Hid (Said true w (.returned (.bool true)) wx) := ⟨rfl, HE.out.trans ((HBW.out.trans (HBX.out.mono HBW.out.size)).mono HE.out.size)⟩
     go_wp2
     go_ret
     exact HR.out
end Go.Proofs.YtonknpdalemjkaaGreat
