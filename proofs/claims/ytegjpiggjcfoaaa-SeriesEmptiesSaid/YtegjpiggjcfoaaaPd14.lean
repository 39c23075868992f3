/- texts put together: SerStv, SerRgt, SerNam, FlowG. -/
import Derived.Test.YtegjpiggjcfoaaaPd07
import Derived.Test.YtegjpiggjcfoaaaPd11
import Derived.Test.YtegjpiggjcfoaaaPd13
import Derived.BigQuiet
import Derived.Maps.OwnOps
namespace Go.Proofs.Ytegjpiggjcfoaaa
open Go Go.RowKit Go.ChangeShapes cl Go.Sort Go.Maps Go.WideMaps
namespace se
def cti (S : List tb.Sym) (ts : List ByteArray) (i : Nat) : Nat := ts.countP fun t => decide (tb.find S t = i)
theorem cti_snoc (S : List tb.Sym) (ts : List ByteArray) (t : ByteArray) (i : Nat) : cti S (ts ++ [t]) i = cti S ts i + if tb.find S t = i then 1 else 0 := by
 unfold cti
 rw [List.countP_append]
 by_cases h : tb.find S t = i
 ·
  simp [h]
 ·
  simp [h]
theorem cti_le (S : List tb.Sym) (ts : List ByteArray) (i : Nat) : cti S ts i ≤ ts.length := List.countP_le_length
theorem cti_end {S : List tb.Sym} {R : List Row} (hok : Ok S R) {i : Nat} (hi : i < S.length) : (cti S (all R) i : Int) = (tb.at_ S i).2 := by
 have hb := hok.right.2.2.2.1 i hi
 have hsym : ∀ t ∈ all R, tb.find S t < S.length := fun t ht => tb.cnt_find (by
  rw [hok.cnt]
  have := ct_pos ht
  omega)
 by_cases h0 : 0 < (tb.at_ S i).2
 ·
  have e := tb.find_right hok.right hi ⟨h0, rfl⟩
  have e2 := tb.cnt_is hok.right hi ⟨h0, rfl⟩
  have e3 := hok.cnt (tb.at_ S i).1
  rw [← e2, e3]
  have : cti S (all R) i = ct (all R) (tb.at_ S i).1 := by
   unfold cti ct
   refine List.countP_congr fun t ht => ?_
   simp only [decide_eq_true_eq]
   constructor
   ·
    intro h
    have h2 := (tb.find_yes (hsym t ht)).2
    rw [h] at h2; exact h2.symm
   ·
    intro h
    rw [h]; exact e
  rw [this]
 ·
  have hz : (tb.at_ S i).2 = 0 := by omega
  rw [hz]
  have : cti S (all R) i = 0 := by
   unfold cti
   rw [List.countP_eq_zero]
   intro t ht h
   have h1 := of_decide_eq_true h
   have h2 := (tb.find_yes (hsym t ht)).1
   rw [h1] at h2
   exact h0 h2
  rw [this]; rfl
theorem all_take (R : List Row) {k : Nat} (h : k < R.length) : all (R.take (k + 1)) = all (R.take k) ++ texts (at_ R k).1 := by
 unfold all
 rw [List.take_succ_eq_append_getElem h, List.flatMap_append, at_get h]
 simp
def utx (R : List Row) : Nat → List ByteArray
 | 0 => []
 | k + 1 => if 0 < (at_ R k).2 then utx R k ++ [kit.str (lm.textB (at_ R k).1)] else utx R k
theorem utx_len (R : List Row) : ∀ k, (utx R k).length ≤ k := by
 intro k
 induction k with
 | zero => exact Nat.le_refl _
 | succ k ih =>
  unfold utx
  split
  ·
   rw [List.length_append]; show _ + 1 ≤ _; omega
  ·
   omega
theorem utx_mem {R : List Row} {s : ByteArray} : ∀ {k : Nat}, s ∈ utx R k → ∃ j, j < k ∧ 0 < (at_ R j).2 ∧ kit.str (lm.textB (at_ R j).1) = s := by
 intro k
 induction k with
 | zero => intro h; cases h
 | succ k ih =>
  intro h
  unfold utx at h
  split at h
  ·
   rename_i hp
   rcases List.mem_append.1 h with h | h
   ·
    obtain ⟨j, a, b⟩ := ih h; exact ⟨j, by omega, b⟩
   ·
    simp only [List.mem_cons, List.not_mem_nil, or_false] at h
    exact ⟨k, by omega, hp, h.symm⟩
  ·
   obtain ⟨j, a, b⟩ := ih h; exact ⟨j, by omega, b⟩
theorem utx_new {S : List tb.Sym} {R : List Row} (hok : Ok S R) {k : Nat} (hk : k < R.length) (h0 : 0 < (at_ R k).2) : kit.str (lm.textB (at_ R k).1) ∉ utx R k := fun hm => by
 obtain ⟨j, hj, h1, h2⟩ := utx_mem hm
 have c1 := canon_text ((hok.row j (by omega)).2.2.2 h1)
 have c2 := canon_text ((hok.row k hk).2.2.2 h0)
 rw [h2] at c1
 exact hok.one j k hj hk h1 h0 (lm.text_inj c1 c2)
end se
def stv (S : List tb.Sym) (ts : List ByteArray) : List Value := (List.range S.length).map fun i => .int .i64 (se.cti S ts i : Int)
theorem stv_get {S : List tb.Sym} {i : Nat} (ts : List ByteArray) (h : i < S.length) : (stv S ts)[i]? = some (.int .i64 (se.cti S ts i : Int)) := by simp [stv, h]
theorem stv_nil (S : List tb.Sym) : stv S [] = List.replicate S.length (.int .i64 0) := by
 refine List.ext_getElem (by simp [stv]) fun i h1 h2 => ?_
 simp [stv, se.cti]
theorem stv_snoc (S : List tb.Sym) (ts : List ByteArray) (t : ByteArray) : stv S (ts ++ [t]) = (stv S ts).set (tb.find S t) (.int .i64 ((se.cti S ts (tb.find S t) : Int) + 1)) := by
 refine List.ext_getElem (by simp [stv]) fun i h1 h2 => ?_
 rw [List.getElem_set]
 simp only [stv, List.getElem_map, List.getElem_range, se.cti_snoc]
 by_cases h : tb.find S t = i
 ·
  rw [if_pos h, if_pos h, h]; rfl
 ·
  rw [if_neg h, if_neg h]; rfl
theorem omap_step {W W' : World} {k b n : Nat} {R : Value → Option (DataW Unit × List MemPlace)} {D : DataW Unit} {P : Program} (h : W.ownsMap P k R b n D) (hb : Below W.heap.size W W') : W'.ownsMap P k R b n D := h.kept (grown_of hb) (fun e => by cases e)
theorem omap_set {W : World} {k b n B o : Nat} {u : Value} {R : Value → Option (DataW Unit × List MemPlace)} {D : DataW Unit} {P : Program} (h : W.ownsMap P k R b n D) (hne : ¬ b = B) : (W.setCell ⟨B, o, none⟩ u).ownsMap P k R b n D := h.kept (grown_set W B o u) (fun e => hne (Option.some.inj e))
theorem made_one (n : Nat) (x : Value) : (madeCells #[x] (n * 1)).toList = List.replicate n x := by
 refine List.ext_getElem (by simp [size_madeCells]) fun i h1 h2 => ?_
 simp [madeCells, Nat.mod_one]
end Go.Proofs.Ytegjpiggjcfoaaa
namespace Go.Proofs.Ytegjpiggjcfoaaa
open Go Go.RowKit Go.ChangeShapes cl Go.Sort Go.Maps Go.WideMaps
theorem all_len : ∀ R : List se.Row, (∀ r ∈ R, (se.texts r.1).length ≤ 12) → (se.all R).length ≤ R.length * 12 := by
 intro R
 induction R with
 | nil => intro _; exact Nat.le_refl _
 | cons a R ih =>
  intro h
  have h1 := ih (fun r hr => h r (List.mem_cons_of_mem _ hr))
  have h2 := h a List.mem_cons_self
  show (se.texts a.1 ++ se.all R).length ≤ _
  rw [List.length_append, List.length_cons]; omega
theorem se.Ok.few {S : List tb.Sym} {R : List se.Row} (hok : se.Ok S R) : ∀ r ∈ R, (se.texts r.1).length ≤ 12 := fun x hx => by
 obtain ⟨j, hj, rfl⟩ := List.mem_iff_getElem.1 hx
 rw [se.at_get hj]
 have hb := hok.row j hj
 rw [se.texts_len]
 by_cases h0 : 0 < (se.at_ R j).2
 ·
  have := (canon_len (hb.2.2.2 h0)).2.1; omega
 ·
  rw [hb.2.2.1 (by omega)]; decide
theorem own_free {w : World} {base g n cap k i : Nat} {e : TypeId} {xs : List Value} (h : w.ownsRow base e k (.slice (some ⟨g, 0, none⟩) n cap) n xs) : w.frozen? ⟨g, i, none⟩ = false := by
 obtain ⟨cur, hc⟩ := own_ob h
 exact row_free hc
set_option maxHeartbeats 3200000 in
set_option maxRecDepth 100000 in
theorem sright_any (S : List tb.Sym) (R : List se.Row) (vs vr : Value) (w : World) (hok : se.Ok S R) (h : SerAt w w.heap.size vs vr S R) :
  Calls Try.prog 8 #[tval vs vr] w (Said true w) := by
 obtain ⟨n, hn⟩ : ∃ n, n = S.length := ⟨_, rfl⟩
 obtain ⟨sa, sc, rfl⟩ : ∃ a c, vs = .slice a n c := by
  obtain ⟨a, c, e, _⟩ := Cells.form h.1
  exact ⟨a, c, by rw [hn]; exact e⟩
 obtain ⟨q0, hq0⟩ : ∃ q, q = R.length := ⟨_, rfl⟩
 obtain ⟨ra, rc, rfl, _, hqm⟩ := h.2.form' hq0
 unfold maxLen at hqm
 have HQ := Lib.hid hq0
 have HN := Lib.hid hn
 have HC := Lib.hid h
 have HOK := Lib.hid hok
 have hq4 : q0 ≤ 4000 := by have := hok.len; omega
 have hn4 : n ≤ 24000 := by have := hok.right.2.2.1; have := hok.right.2.1; omega
 have hqf : ¬ (4000 : Int) < (q0 : Int) := by omega
 obtain ⟨W0, hW0⟩ : ∃ W, W = (w.alloc (.cells #[.slice sa n sc, .int .i64 24000, .slice ra q0 rc] 28)) := ⟨_, rfl⟩
 have hb0 : Below w.heap.size w W0 := by rw [hW0]; exact (Below.refl _ _).alloc (Nat.le_refl _) _
 have hs0 : W0.heap.size = w.heap.size + 1 := by rw [hW0, World.size_alloc]
 have HBX : Hid (∀ W, Below (w.heap.size + 1) W0 W → W.cell? ⟨w.heap.size, 0, none⟩ = some (.slice sa n sc) ∧ W.cell? ⟨w.heap.size, 1, none⟩ = some (.int .i64 24000) ∧ W.cell? ⟨w.heap.size, 2, none⟩ = some (.slice ra q0 rc) ∧ Below w.heap.size w W) := fun W hW => by
  have hW2 : Below (w.alloc (.cells #[.slice sa n sc, .int .i64 24000, .slice ra q0 rc] 28)).heap.size (w.alloc (.cells #[.slice sa n sc, .int .i64 24000, .slice ra q0 rc] 28)) W := by
   rw [World.size_alloc, ← hW0]; exact hW
  obtain ⟨d0, d1, d2, _⟩ := three hW2
  exact ⟨d0, d1, d2, hb0.trans (hW.mono (by omega))⟩
 have HSR : Hid (Calls Try.prog 18 #[.agg #[.slice sa n sc, .int .i64 24000]] W0 (SaidT true W0)) := symright_true 24000 S _ W0 HOK.out.right ((HC.out.below hb0).mono hb0.size).1
 have HTX : Hid (∀ (k : Nat) W, Below w.heap.size w W → Calls Try.prog 17 #[tval (.slice sa n sc) (.slice ra q0 rc), .int .i64 (k : Int)] W (STextP R (k : Int) W)) := fun k W hW => stext_any k S R _ _ W HOK.out ((HC.out.below hW).mono hW.size)
 obtain ⟨i0, gi, gz0, gz1, gz2⟩ := info_parts infoInt
 have HI := Lib.hid (And.intro gi (And.intro gz0 (And.intro gz1 gz2)))
 clear gi gz0 gz1 gz2
 obtain ⟨a0, a1, a2, _⟩ := HBX.out W0 (Below.refl _ _)
 have HW0 := Lib.hid hW0
 rw [hW0] at a0 a1 a2
 clear h hok hq0 hn hb0 hW0
 go_enter Try.func8, Try.ntmps8
 go_wp2_with fail
 rw [← HW0.out]
 (with_reducible refine HSR.out.mono ?_)
 rintro e w1 ⟨rfl, hb1⟩
 clear a0 a1 a2
 have hb1' : Below (w.heap.size + 1) W0 w1 := by rw [← hs0]; exact hb1
 obtain ⟨a0, a1, a2, hbw1⟩ := HBX.out w1 hb1'
 have hz1 : w.heap.size + 1 ≤ w1.heap.size := by have := hb1.size; omega
 go_wp2_with (at_make; refine wpList_make_full _ rfl _ _ 29 rfl (w.heap.size + 1) 3 i0 (.int .i64 0) 1 Try.underlying29 HI.out.1 HI.out.2.1 HI.out.2.2.1 .i64 .i64 _ _ n rfl rfl rfl rfl (by rw [HI.out.2.2.2]; omega) (by unfold maxLen; omega) (by omega) ?_)
 intro w2 hown2 hgrow2
 obtain ⟨G, hG⟩ : ∃ G, G = w1.heap.size := ⟨_, rfl⟩
 have HO0 : Hid (w2.ownsRow (w.heap.size + 1) 3 1 (.slice (some ⟨G, 0, none⟩) n n) n (stv S [])) := by
  show World.ownsRow _ _ _ _ _ _ _
  rw [stv_nil, ← HN.out, ← made_one, Nat.mul_one, hG]; exact hown2
 have hb2 : Below (w.heap.size + 1) w1 w2 := (Below.refl _ _).grown hgrow2 (by omega) (fun j hj => by cases hj)
 have hb02 := hb1'.trans hb2
 have hz2 : w1.heap.size < w2.heap.size := by have := (hown2.lt _ rfl).2; omega
 have hGz : w.heap.size + 1 ≤ G := by omega
 rw [← hG]
 clear a0 a1 a2
 obtain ⟨a0, a1, a2, hbw2⟩ := HBX.out w2 hb02
 have HM0 : Hid (((w2.alloc (.map #[] 0))).ownsMap Try.prog 9 (plainElem Try.prog 3) w2.heap.size 0 (.map [])) := World.ownsMap_made (H := Unit) w2 (P := Try.prog) (k := 9) (plainElem Try.prog 3)
 have HO1 : Hid ((w2.alloc (.map #[] 0)).ownsRow (w.heap.size + 1) 3 1 (.slice (some ⟨G, 0, none⟩) n n) n (stv S [])) := HO0.out.alloc _
 have hb03 : Below (w.heap.size + 1) W0 (w2.alloc (.map #[] 0)) := hb02.alloc (by omega) _
 obtain ⟨y0, y1, y2, _⟩ := HBX.out _ hb03
 obtain ⟨MB, hMB⟩ : ∃ M, M = w2.heap.size := ⟨_, rfl⟩
 have hGM : ¬ G = MB := by omega
 have hMz : w.heap.size + 1 ≤ MB := by omega
 rw [← hMB] at HM0
 have HMB := Lib.hid hMB
 clear hown2 hgrow2 hG hb2 hz2 hMB
 have hmm := @run_makeMap Try.prog
 go_wp2
 clear hmm
 rw [← HMB.out]
 clear a0 a1 a2 y0 y1 y2
 go_loopw [5, 33] (fun u5 i wr => ∃ (k : Nat) (D : DataW Unit), i = .int .i64 k ∧ k ≤ q0 ∧ u5 = .int .i64 (se.utx R k).length ∧ Hid (MapIs D (se.utx R k)) ∧ Hid (wr.ownsMap Try.prog 9 (plainElem Try.prog 3) MB k D) ∧ Hid (wr.ownsRow (w.heap.size + 1) 3 1 (.slice (some ⟨G, 0, none⟩) n n) n (stv S (se.all (R.take k)))) ∧ Hid (Below (w.heap.size + 1) W0 wr) ∧ MB < wr.heap.size) (fun _ i _ => q0 - (intOf i).toNat)
 case atStart => exact ⟨0, .map [], rfl, by omega, rfl, mapIs_nil, HM0.out, HO1.out, hb03, by rw [World.size_alloc, ← HMB.out]; omega⟩
 case round =>
  obtain ⟨k, D, rfl, hk, rfl, HM, HO, HS, HD, hMw⟩ := hrel
  have hul := se.utx_len R k
  by_cases hlt : k < q0
  ·
   have hkI : (k : Int) < (q0 : Int) := by omega
   obtain ⟨d0, d1, d2, hbl⟩ := HBX.out wr HD.out
   have hkR : k < R.length := by rw [← HQ.out]; exact hlt
   obtain ⟨b, off, ai, m, ci, rfl, hB, hm, hmm, hids, p0, p1⟩ := row_at HC.out.2 HQ.out hlt
   have e0 := (hbl.cell (p := ⟨b, off + k * 2, none⟩) hB).trans p0
   have e1 := (hbl.cell (p := ⟨b, off + k * 2 + 1, none⟩) hB).trans p1
   have hri := HOK.out.row k hkR
   have HAT : Hid (se.all (R.take (k + 1)) = se.all (R.take k) ++ se.texts (se.at_ R k).1) := se.all_take R hkR
   have HUT : Hid (se.utx R (k + 1) = if 0 < (se.at_ R k).2 then se.utx R k ++ [kit.str (lm.textB (se.at_ R k).1)] else se.utx R k) := rfl
   have HNM : Hid (0 < (se.at_ R k).2 → kit.str (lm.textB (se.at_ R k).1) ∉ se.utx R k) := fun h0 => se.utx_new HOK.out hkR h0
   have HTXK := Lib.hid (HTX.out k)
   have HRT : Hid (rtext R (k : Int) = if se.used R (k : Int) = true then kit.str (lm.textB (se.at_ R k).1) else .empty) := rfl
   have HUS : Hid (0 < (se.at_ R k).2 → se.used R (k : Int) = true) := fun h0 => decide_eq_true ⟨by omega, by omega, by rw [Int.toNat_natCast]; omega⟩
   have HTL : Hid (0 < (se.at_ R k).2 → (kit.str (lm.textB (se.at_ R k).1)).size ≤ 600) := fun h0 => by
    rw [kit.str_size]; exact lm.textB_len (hri.2.2.2 h0)
   have HSYM : Hid (∀ t ∈ se.texts (se.at_ R k).1, tb.find S t < S.length) := fun t ht => HOK.out.sym hkR ht
   have HTE : Hid ((se.texts (se.at_ R k).1).length = (se.at_ R k).1.length * 2) := se.texts_len _
   have HL6 : Hid ((se.at_ R k).1.length ≤ 6) := by
    show _ ≤ _
    by_cases h0 : 0 < (se.at_ R k).2
    ·
     exact (canon_len (hri.2.2.2 h0)).2.1
    ·
     rw [hri.2.2.1 (by omega)]; decide
   unfold STextP at HTXK
   obtain ⟨⟨l, r⟩, hx⟩ : ∃ x, x = se.at_ R k := ⟨_, rfl⟩
   rw [← hx] at e1 hri HAT HUT HNM HRT HUS HTL HSYM HTE HL6 hm hids
   simp only at e1 hri HAT HUT HNM HRT HUS HTL HSYM HTE HL6 hm hids
   obtain ⟨hr0, hr1, hre, _⟩ := hri
   have HIDS := Lib.hid hids
   have HM' := Lib.hid hm
   have hmL := HL6.out
   have hm12 : m ≤ 12 := by rw [hm, HTE.out]; omega
   have hmod : (m : Int) % 2 = 0 := by rw [hm, HTE.out]; omega
   clear p0 p1 hx hm hmm hids
   by_cases hp : 0 < r
   ·
    have hre0 : (r == 0) = false := by simp; omega
    have hrn1 : ¬ 1099511627776 < r := by omega
    have hmn : ¬ (0 : Int) < (m : Int) % 2 := by omega
    obtain ⟨s, hs⟩ : ∃ s, s = kit.str (lm.textB l) := ⟨_, rfl⟩
    rw [← hs] at HUT HNM HRT HTL
    have HUT2 : Hid (se.utx R (k + 1) = se.utx R k ++ [s]) := by show _ = _; rw [HUT.out, if_pos hp]
    have HUL : Hid ((se.utx R (k + 1)).length = (se.utx R k).length + 1) := by show _ = _; rw [HUT2.out, List.length_append]; rfl
    have HU1 := Lib.hid (HUS.out hp)
    have HR1 : Hid (rtext R (k : Int) = s) := by show _ = _; rw [HRT.out, if_pos HU1.out]
    rw [HU1.out, HR1.out] at HTXK
    have hs6 := HTL.out hp
    have hkey : keyOf Try.prog 9 (.string s) = some (.string s.data.toList) := keyOf_string_mk Try.underlying9 (by unfold maxLen; omega)
    have HKEY := Lib.hid hkey
    have HMP : Hid (MapIs (D.put (.string s.data.toList) (.lit (.int .i64 k))) (se.utx R (k + 1))) := by
     show MapIs _ _
     rw [HUT2.out]; exact mapIs_put HM.out (HO.out.tidy mlawT) (HNM.out hp) _
    obtain ⟨u, hu⟩ : ∃ u, u = (se.utx R k).length := ⟨_, rfl⟩
    rw [← hu] at HUL hul ⊢
    have hAl : Below wr.heap.size wr (wr.alloc (.cells #[.slice ai m ci, .int .i64 r] 45)) := (Below.refl _ _).alloc (Nat.le_refl _) _
    have HDA := Lib.hid (HD.out.trans (hAl.mono (by omega)))
    have HTXA := Lib.hid (HTXK.out _ (hbl.trans (hAl.mono hbl.size)))
    obtain ⟨x0, x1, x2, hblA⟩ := HBX.out _ HDA.out
    clear hkey hre hu hs HUT HNM HRT HTL HUS HTXK
    go_wp2_with fail
    (with_reducible refine HTXA.out.mono ?_)
    rintro e w3 ⟨rfl, hb3⟩
    have hb3r : Below wr.heap.size wr w3 := hAl.trans (hb3.mono hAl.size)
    have HO3 := Lib.hid (omap_step HO.out hb3r)
    have HS3 := Lib.hid (own_stay HS.out hb3r)
    have HB3 := Lib.hid (heap_keep hb3 (heap_new wr #[.slice ai m ci, .int .i64 r] 45))
    have HD3 := Lib.hid (HD.out.trans (hb3r.mono (by omega)))
    have hzr3 : wr.heap.size < w3.heap.size := by have := hb3.size; rw [World.size_alloc] at this; omega
    have c0 : w3.cell? ⟨wr.heap.size, 0, none⟩ = some (.slice ai m ci) := row_cell HB3.out rfl
    have c1 : w3.cell? ⟨wr.heap.size, 1, none⟩ = some (.int .i64 r) := row_cell HB3.out rfl
    clear x0 x1 x2 d0 d1 d2 hAl hb3 hb3r e0 e1
    go_wp2_with (at_mapUpdate; refine wpList_mapUpdate_own _ rfl _ _ _ 64 rfl 9 3 mlawT Try.underlying64 _ MB k _ rfl HO3.out (by unfold maxLen; omega) _ _ _ rfl rfl HKEY.out _ [] (plainElem_int Try.underlying3 (WalkArith.wf_i64 (by omega))) ?_)
    intro w4 hown4 hgrow4
    have HO4 := Lib.hid hown4
    have HS4 : Hid (w4.ownsRow (w.heap.size + 1) 3 1 (.slice (some ⟨G, 0, none⟩) n n) n (stv S (se.all (R.take k)))) := HS3.out.kept hgrow4 (Or.inr (fun e => hGM (Option.some.inj e)))
    have hB4 : w4.heap[wr.heap.size]? = some (.cells #[.slice ai m ci, .int .i64 r] 45 (0, 0)) := (hgrow4.block _ hzr3 (fun e => by have := Option.some.inj e; omega)).trans HB3.out
    have HD4 : Hid (Below (w.heap.size + 1) W0 w4) := HD3.out.grown hgrow4 (by have := HD3.out.size; omega) (fun j hj => by cases hj; exact hMz)
    have hz4 : MB < w4.heap.size := by have := hgrow4.size; omega
    clear c0 c1
    have c0 : w4.cell? ⟨wr.heap.size, 0, none⟩ = some (.slice ai m ci) := row_cell hB4 rfl
    clear hown4 hgrow4 hB4 HB3
    have HS40 : Hid (w4.ownsRow (w.heap.size + 1) 3 1 (.slice (some ⟨G, 0, none⟩) n n) n (stv S (se.all (R.take k) ++ (se.texts l).take 0))) := by
     show World.ownsRow _ _ _ _ _ _ _
     rw [List.take_zero, List.append_nil]; exact HS4.out
    have HLEN : Hid ((se.all (R.take k)).length ≤ 48000) := by
     show _ ≤ _
     have := all_len (R.take k) (fun x hx => HOK.out.few x (List.mem_of_mem_take hx))
     rw [List.length_take] at this
     omega
    clear hzr3 HS4 HS3 HO3
    go_wp2
    go_loopw [75] (fun i wx => ∃ j : Nat, i = .int .i64 j ∧ j ≤ m ∧ Hid (wx.ownsMap Try.prog 9 (plainElem Try.prog 3) MB (k + 1) (D.put (.string s.data.toList) (.lit (.int .i64 k)))) ∧ Hid (wx.ownsRow (w.heap.size + 1) 3 1 (.slice (some ⟨G, 0, none⟩) n n) n (stv S (se.all (R.take k) ++ (se.texts l).take j))) ∧ Hid (Below (w.heap.size + 1) W0 wx) ∧ MB < wx.heap.size) (fun i _ => m - (intOf i).toNat)
    case atStart => exact ⟨0, rfl, by omega, HO4.out, HS40.out, HD4.out, hz4⟩
    case round =>
     rename World => wx
     clear c0 HO4 HS40 HD4 hz4
     obtain ⟨j, rfl, hj, HO, HS, HD, hMx⟩ := hrel
     by_cases hjm : j < m
     ·
      have hjI : (j : Int) < (m : Int) := by omega
      obtain ⟨_, _, _, hbx⟩ := HBX.out wx HD.out
      obtain ⟨t, ht⟩ : ∃ t, (se.texts l)[j]? = some t := ⟨_, List.getElem?_eq_getElem (by rw [← HM'.out]; exact hjm)⟩
      obtain ⟨_, xo, yc, ex, _, _, h4⟩ := HIDS.out
      simp only [Value.slice.injEq] at ex
      obtain ⟨rfl, _, rfl⟩ := ex
      obtain ⟨bi, oi, rfl, hbi, hcell⟩ := h4 (by omega)
      have z0 := (hbx.cell (p := ⟨bi, oi + j, none⟩) hbi).trans (hcell j _ (nums_get ht))
      have hfs := HSYM.out t (List.mem_of_getElem? ht)
      have z1 := HS.out.cells (g := G) rfl _ _ (stv_get _ hfs)
      rw [Addr.add_lit, Nat.zero_add] at z1
      have z2 := own_free (i := tb.find S t) HS.out
      have hle := se.cti_le S (se.all (R.take k) ++ (se.texts l).take j) (tb.find S t)
      rw [List.length_append, List.length_take] at hle
      have hLN := HLEN.out
      have HSET : Hid (stv S (se.all (R.take k) ++ (se.texts l).take (j + 1)) = (stv S (se.all (R.take k) ++ (se.texts l).take j)).set (tb.find S t) (.int .i64 ((se.cti S (se.all (R.take k) ++ (se.texts l).take j) (tb.find S t) : Int) + 1))) := by
       show _ = _
       rw [List.take_add_one, ht, ← List.append_assoc]
       exact stv_snoc _ _ _
      rw [← HN.out] at hfs
      obtain ⟨f, hf⟩ : ∃ x, x = tb.find S t := ⟨_, rfl⟩
      obtain ⟨c, hc⟩ : ∃ x, x = se.cti S (se.all (R.take k) ++ (se.texts l).take j) (tb.find S t) := ⟨_, rfl⟩
      rw [← hc, ← hf] at HSET z1
      rw [← hc] at hle
      rw [← hf] at hfs z0 z2
      have hfI : (f : Int) < (n : Int) := by omega
      obtain ⟨y, hy⟩ : ∃ y, (c : Int) + 1 = y := ⟨_, rfl⟩
      have hwy : wrap64 y = y := IntWalk.wrap64_in _ (by omega)
      have hwy2 : IntKind.i64.wrap y = y := IntWalk.i64_in _ (by omega)
      obtain ⟨hs1, hbs⟩ := kit.own_set (j := f) (u := .int .i64 y) HS.out
      rw [← hy, ← HSET.out, hy] at hs1
      have HS1 := Lib.hid hs1
      have HO1 := Lib.hid (omap_set (o := f) (u := .int .i64 y) HO.out (fun e => hGM e.symm))
      have HD1 := Lib.hid (HD.out.trans hbs)
      clear ht h4 hcell hf hc hs1 hbs
      go_wp2
      go_roundw
      case rel => exact ⟨j + 1, by go_num, by omega, HO1.out, HS1.out, HD1.out, by rw [World.size_setCell]; exact hMx⟩
      case measure => simp [intOf]; omega
     ·
      obtain rfl : j = m := by omega
      have HS2 : Hid (wx.ownsRow (w.heap.size + 1) 3 1 (.slice (some ⟨G, 0, none⟩) n n) n (stv S (se.all (R.take (k + 1))))) := by
       have h1 := HS.out
       rw [show (se.texts l).take j = se.texts l from List.take_of_length_le (by rw [← HM'.out]; exact Nat.le_refl _), ← HAT.out] at h1
       exact h1
      go_wp2
      go_roundw
      case rel => exact ⟨k + 1, _, by go_num, by omega, by rw [HUL.out]; go_num, HMP.out, HO.out, HS2.out, HD.out, hMx⟩
      case measure => simp [intOf]; omega
   ·
    obtain rfl : r = 0 := by omega
    obtain rfl := hre rfl
    obtain rfl : m = 0 := HM'.out
    have HUT2 : Hid (se.utx R (k + 1) = se.utx R k) := by show _ = _; rw [HUT.out, if_neg hp]
    have HM2 : Hid (MapIs D (se.utx R (k + 1))) := by show MapIs _ _; rw [HUT2.out]; exact HM.out
    have HUL : Hid ((se.utx R (k + 1)).length = (se.utx R k).length) := by show _ = _; rw [HUT2.out]
    have HS2 : Hid ((wr.alloc (.cells #[.slice ai 0 ci, .int .i64 0] 45)).ownsRow (w.heap.size + 1) 3 1 (.slice (some ⟨G, 0, none⟩) n n) n (stv S (se.all (R.take (k + 1))))) := by
     have h1 := HS.out.alloc (.cells #[.slice ai 0 ci, .int .i64 0] 45)
     have h2 := HAT.out
     show World.ownsRow _ _ _ _ _ _ _
     rw [h2]
     show World.ownsRow _ _ _ _ _ _ (stv S (se.all (R.take k) ++ []))
     rw [List.append_nil]; exact h1
    obtain ⟨u, hu⟩ : ∃ u, u = (se.utx R k).length := ⟨_, rfl⟩
    rw [← hu] at HUL hul ⊢
    have HO1 := Lib.hid (HO.out.alloc (.cells #[.slice ai 0 ci, .int .i64 0] 45))
    have HD1 : Hid (Below (w.heap.size + 1) W0 (wr.alloc (.cells #[.slice ai 0 ci, .int .i64 0] 45))) := HD.out.alloc (by omega) _
    clear hu hp HM' hre
    go_wp2
    go_roundw
    case rel => exact ⟨k + 1, D, by go_num, by omega, by rw [HUL.out], HM2.out, HO1.out.mono (Nat.le_succ k), HS2.out, HD1.out, by rw [World.size_alloc]; omega⟩
    case measure => simp [intOf]; omega
  ·
   obtain rfl : k = q0 := by omega
   obtain ⟨d0, d1, d2, hbl⟩ := HBX.out wr HD.out
   have hfull : R.take k = R := List.take_of_length_le (by rw [← HQ.out]; exact Nat.le_refl _)
   rw [hfull] at HS
   clear hfull
   go_wp2
   go_loopw [91] (fun i wx => ∃ j : Nat, i = .int .i64 j ∧ j ≤ n ∧ Hid (wx.ownsMap Try.prog 9 (plainElem Try.prog 3) MB k D) ∧ Hid (wx.ownsRow (w.heap.size + 1) 3 1 (.slice (some ⟨G, 0, none⟩) n n) n (stv S (se.all R))) ∧ Hid (Below (w.heap.size + 1) W0 wx) ∧ MB < wx.heap.size) (fun i _ => n - (intOf i).toNat)
   case atStart => exact ⟨0, rfl, by omega, HO.out, HS.out, HD.out, hMw⟩
   case round =>
    rename World => wx
    clear d0 d1 d2 HO HS HD hMw hbl
    obtain ⟨j, rfl, hj, HO, HS, HD, hMx⟩ := hrel
    obtain ⟨_, _, _, hbx⟩ := HBX.out wx HD.out
    by_cases hjn : j < n
    ·
     have hjI : (j : Int) < (n : Int) := by omega
     obtain ⟨bs, os, rfl, hBs, r0, r1⟩ := Tabs.get HC.out.1 HN.out hjn
     have c0 := (hbx.cell (p := ⟨bs, os + j * 2, none⟩) hBs).trans r0
     have c1 := (hbx.cell (p := ⟨bs, os + j * 2 + 1, none⟩) hBs).trans r1
     have hjS : j < S.length := by rw [← HN.out]; exact hjn
     have z1 := HS.out.cells (g := G) rfl _ _ (stv_get (se.all R) hjS)
     rw [Addr.add_lit, Nat.zero_add, se.cti_end HOK.out hjS] at z1
     obtain ⟨⟨x0, x1⟩, hx⟩ : ∃ x, x = tb.at_ S j := ⟨_, rfl⟩
     rw [← hx] at c0 c1 z1
     simp only at c0 c1 z1
     have hAl : Below wx.heap.size wx (wx.alloc (.cells #[.string x0, .int .i64 x1] 52)) := (Below.refl _ _).alloc (Nat.le_refl _) _
     have hGx : G < wx.heap.size := (HS.out.lt _ rfl).2
     have z2 := (hAl.cell (p := ⟨G, j, none⟩) hGx).trans z1
     have HO1 := Lib.hid (omap_step HO.out hAl)
     have HS1 := Lib.hid (own_stay HS.out hAl)
     have HD1 := Lib.hid (HD.out.trans (hAl.mono (by omega)))
     clear r0 r1 hx hAl
     go_wp2
     go_quiet (fail)
     go_wp2
     go_roundw
     case rel => exact ⟨j + 1, by go_num, by omega, omap_step HO1.out (below_drewN (Below.refl _ _) _), own_stay HS1.out (below_drewN (Below.refl _ _) _), below_drewN HD1.out _, by simp; omega⟩
     case measure => simp [intOf]; omega
    ·
     have hjI : ¬ (j : Int) < (n : Int) := by omega
     have HSZ : Hid (Maps.size D = (se.utx R k).length) := HM.out.1
     obtain ⟨u, hu⟩ : ∃ u, u = (se.utx R k).length := ⟨_, rfl⟩
     rw [← hu] at HSZ hul ⊢
     clear hu
     have hs := HSZ.out
     go_wp2_with (at_len; refine wpList_len_own _ rfl _ 64 rfl 9 3 Try.underlying64 _ MB k D rfl HO.out ?_)
     go_ret
     exact ⟨rfl, hbx⟩
end Go.Proofs.Ytegjpiggjcfoaaa
namespace Go.Proofs.Ytegjpiggjcfoaaa
open Go Go.RowKit Go.ChangeShapes cl Go.Sort
def nam : Nat → ByteArray
 | 0 => ⟨#[123, 97, 61, 34, 49, 34, 125]⟩
 | 1 => ⟨#[123, 97, 61, 34, 50, 34, 125]⟩
 | 2 => ⟨#[123, 98, 61, 34, 49, 34, 125]⟩
 | 3 => ⟨#[123, 97, 61, 34, 49, 34, 44, 98, 61, 34, 50, 34, 125]⟩
 | 4 => ⟨#[123, 97, 61, 34, 98, 34, 125]⟩
 | 5 => ⟨#[123, 98, 61, 34, 97, 34, 125]⟩
 | _ => ⟨#[120]⟩
def NM : List ByteArray := [nam 0, nam 1, nam 2, nam 3, nam 4, nam 5, nam 6]
def nlab : Nat → List Lab
 | 0 => [(⟨#[97]⟩, ⟨#[49]⟩)]
 | 1 => [(⟨#[97]⟩, ⟨#[50]⟩)]
 | 2 => [(⟨#[98]⟩, ⟨#[49]⟩)]
 | 3 => [(⟨#[97]⟩, ⟨#[49]⟩), (⟨#[98]⟩, ⟨#[50]⟩)]
 | 4 => [(⟨#[97]⟩, ⟨#[98]⟩)]
 | _ => [(⟨#[98]⟩, ⟨#[97]⟩)]
def nres (i : Nat) : Int × List Lab := if i < 6 then (0, nlab i) else (3, [])
theorem names_any (w : World) : Calls Try.prog 9 #[] w fun e w' => ∃ b, e = .returned (.slice (some ⟨b, 0, none⟩) 7 7) ∧ Strs w' w'.heap.size (.slice (some ⟨b, 0, none⟩) 7 7) NM ∧ Below w.heap.size w w' := by
 go_enter Try.func9, Try.ntmps9
 go_wp2
 go_ret
 refine ⟨_, rfl, ?_, (Below.refl _ _).alloc (Nat.le_refl _) _⟩
 exact cells_lit w 7 1 (strs NM) _ _ rfl rfl (by decide)
theorem nlab_text : ∀ i, i < 6 → lm.textF (nlab i) = (0, nam i)
 | 0, _ => by decide +kernel
 | 1, _ => by decide +kernel
 | 2, _ => by decide +kernel
 | 3, _ => by decide +kernel
 | 4, _ => by decide +kernel
 | 5, _ => by decide +kernel
 | n + 6, h => by omega
theorem nam_is : ∀ i, i < 7 → lm.Is (nam i) (nres i) := by
 intro i hi
 by_cases h : i < 6
 ·
  have hs : ¬ 600 < (nam i).size := by
   rcases (by omega : i = 0 ∨ i = 1 ∨ i = 2 ∨ i = 3 ∨ i = 4 ∨ i = 5) with rfl | rfl | rfl | rfl | rfl | rfl <;> decide
  unfold nres
  rw [if_pos h]
  exact Or.inr ⟨hs, Or.inl ⟨_, rfl, nlab_text i h⟩⟩
 ·
  obtain rfl : i = 6 := by omega
  refine Or.inr ⟨by decide, Or.inr ⟨rfl, ?_⟩⟩
  rintro ⟨l, hl⟩
  obtain ⟨_, h2⟩ := lm.text_iff.1 hl
  have h3 := congrArg kit.bytes h2
  rw [kit.bytes_str _ (lm.textB_lt l)] at h3
  have h4 : kit.bytes (nam 6) = [120] := by decide +kernel
  rw [h4] at h3
  unfold lm.textB at h3
  simp at h3
theorem nres_canon (i : Nat) (h : (nres i).1 = 0) : lm.canonF (nres i).2 = (0, (nres i).2) := by
 unfold nres at h ⊢
 by_cases hi : i < 6
 ·
  rw [if_pos hi]
  exact (lm.text_iff.1 (nlab_text i hi)).1
 ·
  rw [if_neg hi] at h
  cases h
theorem nam_size : ∀ i, (nam i).size ≤ 100
 | 0 => by decide
 | 1 => by decide
 | 2 => by decide
 | 3 => by decide
 | 4 => by decide
 | 5 => by decide
 | _ + 6 => (by decide : (⟨#[120]⟩ : ByteArray).size ≤ 100)
end Go.Proofs.Ytegjpiggjcfoaaa
namespace Go
section
variable {P : Program} {ops : Array Oper} {Q : Exit → Act → World → Prop}
def FlowStepG (P : Program) (ops : Array Oper) (Q : Exit → Act → World → Prop) (fill : (Nat → Value) → Act) (n : Nat) (die : Nat → Nat) (R : World → Prop) (T : Nat → World → World → Prop) (G : Nat → World → Prop) (F : Nat → Value → World → Prop) (P2 : Nat → Nat → Value → Value → Prop) (i : Nat) (o : Oper) : Prop :=
 ∀ x w, R w → (∀ s, s < n → (s == i || (flowAnc ops s).contains i) = true → G s w) → (∀ j, ((flowPred ops i).contains j && (die j == i || decide (n ≤ die j))) = true → F j (x j) w) → ∀ K : Act → World → Prop, Shut (∀ v w', T i w w' → F i v w' → (∀ j u, F j u w → P2 i j v u ∧ P2 j i u v) → K ((fill x).put o.dst v) w') →
  if Region.wanted o (yielded ops (fill x).tmps) then o.wp P (fill x) w K Q else K ((fill x).put o.dst undef) w
theorem flow_goG {fill : (Nat → Value) → Act} {die : Nat → Nat} {R : World → Prop} {T : Nat → World → World → Prop} {G : Nat → World → Prop} {F : Nat → Value → World → Prop} {P2 : Nat → Nat → Value → Value → Prop} {n : Nat} (hB : flowB ops n = true)
  (hst : ∀ k i v w w', k < n → i < n → k ≠ i → die k ≠ i → (flowAnc ops k).contains i = false → (flowAnc ops i).contains (die k) = false → F k v w → T i w w' → F k v w') (hR : ∀ i w w', R w → T i w w' → R w') (hG : ∀ s i w w', s < n → i < n → s ≠ i → (flowAnc ops i).contains s = false → R w → G s w → T i w w' → G s w')
  (hput : ∀ i o, i < n → ops[i]? = some o → ∀ x v, (fill x).put o.dst v = fill (upd x i v))
  (hstep : ∀ i o, i < n → ops[i]? = some o → FlowStepG P ops Q fill n die R T G F P2 i o)
  (hend : ∀ x w, R w → (∀ k, k < n → n ≤ die k → F k (x k) w) → (∀ j k, j < n → k < n → n ≤ die j → n ≤ die k → j ≠ k → P2 j k (x j) (x k)) → wpList P ops Q (ops.toList.drop n) (fill x) w) :
  ∀ (f : Nat) (L : List Nat) (listed : Array Bool) (x : Nat → Value) (w : World), L.Nodup → L.length = f → (∀ j, j ∈ L ↔ j < n ∧ listed.getD j false = false) → HeadInv .any ops n listed →
   R w → (∀ s, s < n → listed.getD s false = false → G s w) → (∀ k, k < n → listed.getD k false = true → listed.getD (die k) false = false → F k (x k) w) → (∀ j k, j < n → k < n → j ≠ k → listed.getD j false = true → listed.getD k false = true → listed.getD (die j) false = false → listed.getD (die k) false = false → P2 j k (x j) (x k)) → wpAny P .any ops Q (f + (ops.size - n)) listed (fill x) w := by
 obtain ⟨hn, hback, hseq, htail⟩ := flowB_spec hB
 intro f
 induction f with
 | zero =>
  intro L listed x w _ hlen hL inv hw _ hF hP
  obtain rfl : L = [] := List.eq_nil_of_length_eq_zero hlen
  have hall : ∀ j, j < n → listed.getD j false = true := fun j hj => by
   cases h : listed.getD j false with
   | true => rfl
   | false => exact absurd ((hL j).2 ⟨hj, h⟩) (by simp)
  have he := flow_eq inv.size hall inv.tail
  have far : ∀ {j : Nat}, n ≤ j → listed.getD j false = false := fun {j} hj => by
   rcases Nat.lt_or_ge j ops.size with h | h
   ·
    exact getD_both (inv.tail j hj h)
   ·
    have : listed.size ≤ j := by rw [inv.size]; exact h
    simp [this]
  have hlen2 : (ops.toList.drop n).length = ops.size - n := by simp
  have := wpAny_of_seq (md := .any) (P := P) (ops := ops) (Q' := Q) (ops.toList.drop n) n listed (fill x) w (fun j => by simp [List.getElem?_drop]) (by rw [he, hlen2]; exact hseq) (hend x w hw (fun k hk hd => hF k hk (hall k hk) (far hd)) (fun j k hj hk hdj hdk hne => hP j k hj hk hne (hall j hj) (hall k hk) (far hdj) (far hdk)))
  rw [hlen2] at this
  rw [Nat.zero_add]; exact this
 | succ f ih =>
  intro L listed x w hnd hlen hL inv hw hGl hF hP
  obtain ⟨i0, hi0⟩ : ∃ i0, i0 ∈ L := by
   cases L with
   | nil => simp at hlen
   | cons a r => exact ⟨a, List.mem_cons_self⟩
  obtain ⟨hi0n, hi0l⟩ := (hL i0).1 hi0
  rw [show f + 1 + (ops.size - n) = (f + (ops.size - n)) + 1 by omega]
  refine ⟨fun h0 => ?_, fun i hi => ?_⟩
  ·
   obtain ⟨j, _, hj⟩ := flow_ready hback inv hn i0 hi0n hi0l
   rw [h0] at hj; cases hj
  ·
   have hin : i < n := by
    rcases Nat.lt_or_ge i n with h | h
    ·
     exact h
    ·
     exact absurd hi (htail listed inv i0 hi0n (getD_in (by rw [inv.size]; omega) hi0l) i h)
   obtain ⟨hiun, oi, hoi, hall⟩ := mem_ready.1 hi
   have hif := getD_both hiun
   have hsz : i < listed.size := by rw [inv.size]; omega
   have hmem : i ∈ L := (hL i).2 ⟨hin, hif⟩
   have alive : ∀ {d : Nat}, (listed.setIfInBounds i true).getD d false = false → d ≠ i ∧ listed.getD d false = false := fun {d} h => by
    have hne : d ≠ i := fun e => by
     rw [e, show (listed.setIfInBounds i true).getD i false = true by simp [hsz]] at h
     cases h
    exact ⟨hne, by rwa [getD_set_ne false (fun e => hne e.symm)] at h⟩
   have hanc : ∀ k, listed.getD k false = true → (flowAnc ops k).contains i = false := fun k hk => by
    cases hc : (flowAnc ops k).contains i with
    | false => rfl
    | true =>
     have hD : ∀ j, listed.getD j false = true → ∀ e ∈ flowPred ops j, listed.getD e false = true := fun j hj e he => by
      unfold flowPred at he
      cases hoj : ops[j]? with
      | none => rw [hoj] at he; simp at he
      | some oj =>
       rw [hoj] at he
       simp only [Option.map_some, Option.getD_some, List.mem_map, List.mem_filter] at he
       obtain ⟨ed, ⟨h1, h2⟩, rfl⟩ := he
       exact inv.closed j oj hoj hj ed (by simpa using h1) h2
     have := anc_fold hD ((List.range k).reverse) (flowPred ops k) (hD k hk) i (by simpa [flowAnc] using hc)
     rw [hif] at this
     cases this
   have hdanc : ∀ d, listed.getD d false = false → (flowAnc ops i).contains d = false := fun d hd => by
    cases hc : (flowAnc ops i).contains d with
    | false => rfl
    | true =>
     have hD : ∀ j, listed.getD j false = true → ∀ e ∈ flowPred ops j, listed.getD e false = true := fun j hj e he => by
      unfold flowPred at he
      cases hoj : ops[j]? with
      | none => rw [hoj] at he; simp at he
      | some oj =>
       rw [hoj] at he
       simp only [Option.map_some, Option.getD_some, List.mem_map, List.mem_filter] at he
       obtain ⟨ed, ⟨h1, h2⟩, rfl⟩ := he
       exact inv.closed j oj hoj hj ed (by simpa using h1) h2
     have h0 : ∀ e ∈ flowPred ops i, listed.getD e false = true := fun e he => by
      unfold flowPred at he
      rw [hoi] at he
      simp only [Option.map_some, Option.getD_some, List.mem_map, List.mem_filter] at he
      obtain ⟨ed, ⟨h1, h2⟩, rfl⟩ := he
      exact hall ed (by simpa using h1) h2
     have := anc_fold hD ((List.range i).reverse) (flowPred ops i) h0 d (by simpa [flowAnc] using hc)
     rw [hd] at this
     cases this
   have key : ∀ v w', T i w w' → F i v w' → (∀ j u, F j u w → P2 i j v u ∧ P2 j i u v) → wpAny P .any ops Q (f + (ops.size - n)) (listed.setIfInBounds i true) ((fill x).put oi.dst v) w' := by
    intro v w' hT hv hp
    rw [hput i oi hin hoi x v]
    refine ih (L.erase i) _ _ w' (hnd.erase i) (by rw [List.length_erase_of_mem hmem]; omega) (fun j => ?_) (inv.set hi hin) (hR i w w' hw hT) (fun s hs hl => hG s i w w' hs hin (alive hl).1 (hdanc s (alive hl).2) hw (hGl s hs (alive hl).2) hT) (fun k hk hl hl' => ?_) (fun j k hj hk hne hl1 hl2 hl1' hl2' => ?_)
    ·
     rw [hnd.mem_erase_iff, hL j]
     by_cases hij : j = i
     ·
      subst hij
      constructor
      ·
       rintro ⟨h, _⟩; exact absurd rfl h
      ·
       rintro ⟨_, h⟩
       rw [show (listed.setIfInBounds j true).getD j false = true by simp [hsz]] at h
       cases h
     ·
      rw [getD_set_ne false (fun e => hij e.symm)]
      exact ⟨fun h => h.2, fun h => ⟨hij, h⟩⟩
    ·
     unfold upd
     by_cases hki : k = i
     ·
      rw [if_pos hki, hki]; exact hv
     ·
      rw [if_neg hki]
      rw [getD_set_ne false (fun e => hki e.symm)] at hl
      exact hst k i _ w w' hk hin hki (alive hl').1 (hanc k hl) (hdanc _ (alive hl').2) (hF k hk hl (alive hl').2) hT
    ·
     unfold upd
     by_cases hji : j = i
     ·
      have hki : k ≠ i := fun e => hne (hji.trans e.symm)
      rw [if_pos hji, if_neg hki, hji]
      rw [getD_set_ne false (fun e => hki e.symm)] at hl2
      exact (hp k _ (hF k hk hl2 (alive hl2').2)).1
     ·
      rw [if_neg hji]
      rw [getD_set_ne false (fun e => hji e.symm)] at hl1
      by_cases hki : k = i
      ·
       rw [if_pos hki, hki]
       exact (hp j _ (hF j hj hl1 (alive hl1').2)).2
      ·
       rw [if_neg hki]
       rw [getD_set_ne false (fun e => hki e.symm)] at hl2
       exact hP j k hj hk hne hl1 hl2 (alive hl1').2 (alive hl2').2
   have hs1 := hstep i oi hin hoi x w hw (fun s hs hc => hGl s hs (by
    rcases Nat.decEq s i with hne | he
    ·
     have hc2 : (flowAnc ops s).contains i = true := by
      have h9 : (s == i) = false := by simpa using hne
      rwa [h9, Bool.false_or] at hc
     cases hl : listed.getD s false with
     | false => rfl
     | true => rw [hanc s hl] at hc2; cases hc2
    ·
     rw [he]; exact hif)) (fun j hj => by
    simp only [flowPred, hoi, Option.map_some, Option.getD_some, List.contains_eq_mem, List.mem_map, List.mem_filter, decide_eq_true_eq, Bool.and_eq_true, Bool.or_eq_true, beq_iff_eq] at hj
    obtain ⟨⟨e, ⟨he, hb⟩, rfl⟩, hdj⟩ := hj
    have hal : listed.getD (die e.on) false = false := by
     rcases hdj with h | h
     ·
      rw [h]; exact hif
     ·
      rcases Nat.lt_or_ge (die e.on) ops.size with h' | h'
      ·
       exact getD_both (inv.tail _ h h')
      ·
       have : listed.size ≤ die e.on := by rw [inv.size]; exact h'
       simp [this]
    have h1 : e.on < i := by
     have h1 := List.all_eq_true.1 hback i (List.mem_range.2 (by omega))
     simp only [hoi, Option.map_some, Option.getD_some] at h1
     have h2 := Array.all_eq_true_iff_forall_mem.1 h1 e (by simpa using he)
     simpa only [hb, Bool.not_true, Bool.false_or, decide_eq_true_eq] using h2
    exact hF e.on (by omega) (hall e (by simpa using he) hb) hal) (fun a' w' => wpAny P .any ops Q (f + (ops.size - n)) (listed.setIfInBounds i true) a' w') key
   unfold wpOp
   simp only [hoi]
   split
   ·
    rename_i hwt
    rw [if_pos hwt] at hs1
    exact Or.inl hs1
   ·
    rename_i hwt
    rw [if_neg hwt] at hs1
    exact hs1
theorem wp_region_flowG {id : Nat} {a : Act} {w : World} {l : List Oper} (n : Nat) (die : Nat → Nat) (fill : (Nat → Value) → Act) (x0 : Nat → Value) (R : World → Prop) (T : Nat → World → World → Prop) (G : Nat → World → Prop) (F : Nat → Value → World → Prop) (P2 : Nat → Nat → Value → Value → Prop)
  (hm : P.follows .mixedOrders = true) (hB : flowB l.toArray n = true) (ha : a = fill x0) (h0 : R w.drew) (hG0 : ∀ s, s < n → G s w.drew)
  (hR : ∀ i w w', R w → T i w w' → R w') (hG : ∀ s i w w', s < n → i < n → s ≠ i → (flowAnc l.toArray i).contains s = false → R w → G s w → T i w w' → G s w') (hst : ∀ k, k < n → ∀ i, i < n → k ≠ i → die k ≠ i → (flowAnc l.toArray k).contains i = false → (flowAnc l.toArray i).contains (die k) = false → ∀ v w w', F k v w → T i w w' → F k v w')
  (hput : ∀ i, i < n → ∀ o, l[i]? = some o → ∀ x v, (fill x).put o.dst v = fill (upd x i v))
  (hstep : ∀ i, i < n → ∀ o, l[i]? = some o → FlowStepG P l.toArray Q fill n die R T G F P2 i o)
  (hend : ∀ x w, R w → (∀ k, k < n → n ≤ die k → F k (x k) w) → (∀ j k, j < n → k < n → n ≤ die j → n ≤ die k → j ≠ k → P2 j k (x j) (x k)) → wpList P l.toArray Q (l.drop n) (fill x) w) : (Code.region id l.toArray true).wp P Q a w := by
 have hn : n ≤ l.toArray.size := (flowB_spec hB).1
 refine wp_region_any hm ?_
 rw [ha]
 have := flow_goG (P := P) (Q := Q) (ops := l.toArray) hB (fun k i v w w' hk hi hne hd ha hb => hst k hk i hi hne hd ha hb v w w') hR hG (fun i o hi ho => hput i hi o (by simpa using ho)) (fun i o hi ho => hstep i hi o (by simpa using ho)) (fun x w hw hF hP => by simpa using hend x w hw hF hP)
  n (List.range n) (Array.replicate l.toArray.size false) x0 w.drew List.nodup_range (by simp) (fun j => by rw [List.mem_range, getD_replicate_false]; simp)
  ⟨by simp, fun j oj _ hl => (by rw [getD_replicate_false] at hl; cases hl), fun t _ ht => getD_in (by simpa using ht) (getD_replicate_false _ _)⟩ h0 (fun s hs _ => hG0 s hs) (fun k _ hl _ => by rw [getD_replicate_false] at hl; cases hl) (fun _ _ _ _ _ hl _ _ _ => by rw [getD_replicate_false] at hl; cases hl)
 rw [show n + (l.toArray.size - n) = l.toArray.size by omega] at this
 exact this
def FlowAllG (P : Program) (ops : Array Oper) (Q : Exit → Act → World → Prop) (fill : (Nat → Value) → Act) (n : Nat) (die : Nat → Nat) (R : World → Prop) (T : Nat → World → World → Prop) (G : Nat → World → Prop) (F : Nat → Value → World → Prop) (P2 : Nat → Nat → Value → Value → Prop) : Nat → List Oper → Prop
 | _, [] => True
 | i, o :: r => FlowStepG P ops Q fill n die R T G F P2 i o ∧ FlowAllG P ops Q fill n die R T G F P2 (i + 1) r
theorem FlowAllG.nil {fill : (Nat → Value) → Act} {n : Nat} {die : Nat → Nat} {R : World → Prop} {T : Nat → World → World → Prop} {G : Nat → World → Prop} {F : Nat → Value → World → Prop} {P2 : Nat → Nat → Value → Value → Prop} {i : Nat} : FlowAllG P ops Q fill n die R T G F P2 i [] := trivial
theorem FlowAllG.cons {fill : (Nat → Value) → Act} {n : Nat} {die : Nat → Nat} {R : World → Prop} {T : Nat → World → World → Prop} {G : Nat → World → Prop} {F : Nat → Value → World → Prop} {P2 : Nat → Nat → Value → Value → Prop} {i : Nat} {o : Oper} {r : List Oper} (h : FlowStepG P ops Q fill n die R T G F P2 i o) (h2 : FlowAllG P ops Q fill n die R T G F P2 (i + 1) r) : FlowAllG P ops Q fill n die R T G F P2 i (o :: r) := ⟨h, h2⟩
theorem FlowAllG.get {fill : (Nat → Value) → Act} {n : Nat} {die : Nat → Nat} {R : World → Prop} {T : Nat → World → World → Prop} {G : Nat → World → Prop} {F : Nat → Value → World → Prop} {P2 : Nat → Nat → Value → Value → Prop} : ∀ {l : List Oper} {i k : Nat} {o : Oper}, FlowAllG P ops Q fill n die R T G F P2 i l → l[k]? = some o → FlowStepG P ops Q fill n die R T G F P2 (i + k) o := by
 intro l
 induction l with
 | nil => intro i k o _ h; simp at h
 | cons p r ih =>
  intro i k o h ho
  cases k with
  | zero => simp only [List.getElem?_cons_zero, Option.some.injEq] at ho; subst ho; exact h.1
  | succ k => simp only [List.getElem?_cons_succ] at ho; have := ih h.2 ho; rwa [show i + (k + 1) = i + 1 + k by omega]
theorem wp_flowG {id : Nat} {a : Act} {w : World} {l : List Oper} (n : Nat) (die : Nat → Nat) (R : World → Prop) (T : Nat → World → World → Prop) (G : Nat → World → Prop) (F : Nat → Value → World → Prop) (P2 : Nat → Nat → Value → Value → Prop)
  (hm : P.follows .mixedOrders = true) (hB : (flowB l.toArray n && apartB (l.take n)) = true) (h0 : R w.drew) (hG0 : ∀ s, s < n → G s w.drew)
  (hR : ∀ i w w', R w → T i w w' → R w') (hG : ∀ s, s < n → ∀ i, i < n → s ≠ i → (flowAnc l.toArray i).contains s = false → ∀ w w', R w → G s w → T i w w' → G s w') (hst : ∀ k, k < n → ∀ i, i < n → k ≠ i → die k ≠ i → (flowAnc l.toArray k).contains i = false → (flowAnc l.toArray i).contains (die k) = false → ∀ v w w', F k v w → T i w w' → F k v w')
  (hstep : FlowAllG P l.toArray Q (fillOf a (l.take n) 0) n die R T G F P2 0 (l.take n))
  (hend : ∀ x w, R w → (∀ k, k < n → n ≤ die k → F k (x k) w) → (∀ j k, j < n → k < n → n ≤ die j → n ≤ die k → j ≠ k → P2 j k (x j) (x k)) → wpList P l.toArray Q (l.drop n) (fillOf a (l.take n) 0 x) w) : (Code.region id l.toArray true).wp P Q a w := by
 simp only [Bool.and_eq_true] at hB
 obtain ⟨x0, hx0⟩ := fill_start (l.take n) 0 a hB.2
 have hget : ∀ i o, i < n → l[i]? = some o → (l.take n)[i]? = some o := fun i o hi ho => by rw [List.getElem?_take]; simp [hi, ho]
 exact wp_region_flowG n die (fillOf a (l.take n) 0) x0 R T G F P2 hm hB.1 hx0.symm h0 hG0 hR (fun s i w w' hs hi hne ha => hG s hs i hi hne ha w w') hst
  (fun i hi o ho x v => by have := fill_put (l.take n) 0 a x i o v (hget i o hi ho) hB.2; rwa [Nat.zero_add] at this)
  (fun i hi o ho => by have := hstep.get (hget i o hi ho); rwa [Nat.zero_add] at this) hend
end
end Go
