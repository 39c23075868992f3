/- texts put together: SerPut, SerPts, SerSv, Fre. -/
import Derived.Test.YtegjpiggjcfoaaaPd02
import Derived.Test.YtegjpiggjcfoaaaPd05
import Derived.Test.YtegjpiggjcfoaaaPd11
namespace Go.Proofs.Ytegjpiggjcfoaaa
open Go Go.RowKit Go.ChangeShapes cl Go.Sort
def SPutQ (r : List tb.Sym × List se.Row × Int × Int) (S : List tb.Sym) (R : List se.Row) (vr : Value) (w : World) (e : Ending) (w' : World) : Prop := ∃ vs' vr', e = .returned (.tuple #[tval vs' vr', .int .i64 r.2.2.1, .int .i64 r.2.2.2]) ∧ SerAt w' w'.heap.size vs' vr' r.1 r.2.1 ∧ Below w.heap.size w w' ∧ (RB w vr → RB w' vr') ∧ ∀ q, q < w.heap.size → RX q S R w vr → RX q r.1 r.2.1 w' vr'
def SPutP (r : List tb.Sym × List se.Row × Int × Int) (vr : Value) (w : World) (e : Ending) (w' : World) : Prop := ∃ vs' vr', e = .returned (.tuple #[tval vs' vr', .int .i64 r.2.2.1, .int .i64 r.2.2.2]) ∧ SerAt w' w'.heap.size vs' vr' r.1 r.2.1 ∧ Below w.heap.size w w' ∧ (RB w vr → RB w' vr')
set_option maxHeartbeats 3200000 in
set_option maxRecDepth 100000 in
theorem sput_known (s : ByteArray) (r : Int × List Lab) (S : List tb.Sym) (R : List se.Row) (vs vr : Value) (w : World) (hi : lm.Is s r) (hs : s.size ≤ maxLen) (hm : MX w) (hok : se.Ok S R) (h : SerAt w w.heap.size vs vr S R) (hkn : r.1 ≠ 0 ∨ se.find R r.2 < R.length ∨ se.free R = 4000) :
  Calls Try.prog 14 #[tval vs vr, .string s] w (SPutQ (se.put S R r) S R vr w) := by
 obtain ⟨sa, sn, sc, rfl⟩ : ∃ a n c, vs = .slice a n c := by
  obtain ⟨a, c, e, _⟩ := Cells.form h.1
  exact ⟨_, _, _, e⟩
 obtain ⟨q0, hq0⟩ : ∃ q, q = R.length := ⟨_, rfl⟩
 obtain ⟨ra, rc, rfl, _, hqm⟩ := h.2.form' hq0
 unfold maxLen at hqm
 have HQ := Lib.hid hq0
 have HC := Lib.hid h
 have HOK := Lib.hid hok
 obtain ⟨W0, hW0⟩ : ∃ W, W = (w.alloc (.cells #[.slice sa sn sc, .int .i64 24000, .slice ra q0 rc] 28)).alloc (.cells #[.slice none 0 0, .int .i64 0, .slice none 0 0] 28) := ⟨_, rfl⟩
 have HBX : Hid (∀ W, Below (w.heap.size + 2) W0 W → (W.cell? ⟨w.heap.size, 0, none⟩ = some (.slice sa sn sc) ∧ W.cell? ⟨w.heap.size, 1, none⟩ = some (.int .i64 24000) ∧ W.cell? ⟨w.heap.size, 2, none⟩ = some (.slice ra q0 rc)) ∧
  (W.cell? ⟨w.heap.size + 1, 0, none⟩ = some (.slice none 0 0) ∧ W.cell? ⟨w.heap.size + 1, 1, none⟩ = some (.int .i64 0) ∧ W.cell? ⟨w.heap.size + 1, 2, none⟩ = some (.slice none 0 0)) ∧
  (W.frozen? ⟨w.heap.size + 1, 0, none⟩ = false ∧ W.frozen? ⟨w.heap.size + 1, 1, none⟩ = false ∧ W.frozen? ⟨w.heap.size + 1, 2, none⟩ = false) ∧ Below w.heap.size w W) := fun W hW => by
  rw [hW0] at hW; exact below_two' hW
 have hs0 : W0.heap.size = w.heap.size + 2 := by rw [hW0, World.size_alloc, World.size_alloc]
 have HO4 : Hid (∀ W, Below W0.heap.size W0 W → Ob W (w.heap.size + 1) 28) := fun W hW => by
  have h1 := heap_new (w.alloc (.cells #[.slice sa sn sc, .int .i64 24000, .slice ra q0 rc] 28)) #[.slice none 0 0, .int .i64 0, .slice none 0 0] 28
  rw [World.size_alloc, ← hW0] at h1
  exact ⟨_, heap_keep hW h1⟩
 have hw0 := (HBX.out W0 (Below.refl _ _)).2.2.2
 have hmW := hm.next hw0
 have HP : Hid (Calls Try.prog 11 #[.string s] W0 (CanonP r W0)) := by
  refine (parse_any s _ hs hmW).mono ?_
  rintro e w' ⟨r', h1, h2⟩
  rw [lm.is_one h2 hi] at h1; exact h1
 have HFI : Hid (∀ W, Below w.heap.size w W → Calls Try.prog 10 #[tval (.slice sa sn sc) (.slice ra q0 rc), .string s] W (SFindP R r W)) := fun W hW => sfind_any s r S R _ _ W hi hs (hm.next hW) HOK.out ((HC.out.below hW).mono hW.size)
 have HFR : Hid (∀ W, Below w.heap.size w W → Calls Try.prog 26 #[tval (.slice sa sn sc) (.slice ra q0 rc)] W (NatP (se.free R) W)) := fun W hW => sfree_any S R _ _ W ((HC.out.below hW).mono hW.size).2
 have HSET : Hid (∀ W x0 x1 x2, Below w.heap.size w W → Below w.heap.size w (((W.setCell ⟨w.heap.size + 1, 0, none⟩ x0).setCell ⟨w.heap.size + 1, 1, none⟩ x1).setCell ⟨w.heap.size + 1, 2, none⟩ x2)) := fun W x0 x1 x2 hb =>
  ((hb.setCell (Nat.le_succ _) _).setCell (Nat.le_succ _) _).setCell (Nat.le_succ _) _
 have HW0 := Lib.hid hW0
 obtain ⟨⟨a0, a1, a2⟩, _⟩ := HBX.out W0 (Below.refl _ _)
 rw [hW0] at a0 a1 a2
 obtain ⟨RES, hRES⟩ : ∃ x, x = se.put S R r := ⟨_, rfl⟩
 have HRES := Lib.hid hRES
 have HSAME : Hid (∀ W (c : Int), RES = (S, R, 0, c) → Below w.heap.size w W → SPutQ RES S R (.slice ra q0 rc) w (.returned (.tuple #[tval (.slice sa sn sc) (.slice ra q0 rc), .int .i64 0, .int .i64 c])) W) := fun W c he hb => by
  rw [he]; exact ⟨_, _, rfl, HC.out.next hb, hb, fun h => h.next hb, fun q _ h => h.next hb⟩
 rw [← hRES]
 obtain ⟨f, l⟩ := r
 have HKN := Lib.hid hkn
 unfold CanonP at HP
 clear h hok hq0 hW0 hw0 hmW hm hi hs hRES hkn
 by_cases hf : f = 0
 rotate_left
 ·
  have hfb : (f == 0) = false := by simpa using hf
  have hfn : (f != 0) = true := by simpa using hf
  have HE : Hid (RES = (S, R, 0, 8)) := by show _ = _; rw [HRES.out]; unfold se.put; rw [if_pos hf]
  clear hf
  go_enter Try.func14, Try.ntmps14
  go_wp2_with fail
  rw [← HW0.out]
  (with_reducible refine HP.out.mono ?_)
  rintro e w1 ⟨v, rfl, _, hb1⟩
  clear a0 a1 a2
  obtain ⟨⟨a0, a1, a2⟩, ⟨b0, b1, b2⟩, ⟨f0, f1, f2⟩, hb⟩ := HBX.out w1 (by rw [← hs0]; exact hb1)
  have HR1 := Lib.hid (HSAME.out _ 8 HE.out (HSET.out w1 (.slice sa sn sc) (.int .i64 24000) (.slice ra q0 rc) hb))
  go_wp2
  refine bodyPost_ret (v := .tuple #[tval (.slice sa sn sc) (.slice ra q0 rc), .int .i64 0, .int .i64 8]) (by simp [results, Try.results14, go_sem, b0, b1, b2, tval]) rfl ?_
  exact HR1.out
 subst hf
 unfold SFindP fnd at HFI
 simp only [true_and] at HFI
 by_cases hfl : se.find R l < R.length
 rotate_left
 ·
  have h4 : se.free R = 4000 := by
   rcases HKN.out with h1 | h1 | h1
   ·
    exact absurd rfl h1
   ·
    exact absurd h1 hfl
   ·
    exact h1
  have HE : Hid (RES = (S, R, 0, 7)) := by show _ = _; rw [HRES.out]; unfold se.put; rw [if_neg (by simp), if_neg hfl, if_pos h4]
  simp only [if_neg hfl] at HFI
  rw [h4] at HFR
  clear hfl h4
  go_enter Try.func14, Try.ntmps14
  go_wp2_with fail
  rw [← HW0.out]
  (with_reducible refine HP.out.mono ?_)
  rintro e w1 ⟨v, rfl, _, hb1⟩
  clear a0 a1 a2
  obtain ⟨⟨a0, a1, a2⟩, _, _, hbw1⟩ := HBX.out w1 (by rw [← hs0]; exact hb1)
  have HF1 := Lib.hid (HFI.out w1 hbw1)
  go_wp2_with fail
  (with_reducible refine HF1.out.mono ?_)
  rintro e w2 ⟨rfl, hb2⟩
  have hb12 := hb1.trans (hb2.mono hb1.size)
  clear a0 a1 a2
  obtain ⟨⟨a0, a1, a2⟩, _, _, hbw2⟩ := HBX.out w2 (by rw [← hs0]; exact hb12)
  have HF2 := Lib.hid (HFR.out w2 hbw2)
  go_wp2_with fail
  (with_reducible refine HF2.out.mono ?_)
  rintro e w3 ⟨rfl, hb3⟩
  have hb13 := hb12.trans (hb3.mono hb12.size)
  clear a0 a1 a2
  obtain ⟨⟨a0, a1, a2⟩, ⟨b0, b1, b2⟩, ⟨f0, f1, f2⟩, hbw3⟩ := HBX.out w3 (by rw [← hs0]; exact hb13)
  have HR1 := Lib.hid (HSAME.out _ 7 HE.out (HSET.out w3 (.slice sa sn sc) (.int .i64 24000) (.slice ra q0 rc) hbw3))
  go_wp2
  refine bodyPost_ret (v := .tuple #[tval (.slice sa sn sc) (.slice ra q0 rc), .int .i64 0, .int .i64 7]) (by simp [results, Try.results14, go_sem, b0, b1, b2, tval]) rfl ?_
  exact HR1.out
 simp only [if_pos hfl] at HFI
 obtain ⟨g1, g2⟩ := se.find_yes hfl
 have HRES2 : Hid (RES = if 1099511627776 ≤ (se.at_ R (se.find R l)).2 then (S, R, 0, 7) else (S, R.set (se.find R l) (l, (se.at_ R (se.find R l)).2 + 1), (se.find R l : Int), 0)) := by show _ = _; rw [HRES.out]; unfold se.put; rw [if_neg (by simp), if_pos hfl]
 obtain ⟨k, hk⟩ : ∃ k, k = se.find R l := ⟨_, rfl⟩
 rw [← hk] at HFI HRES2 hfl g1 g2
 have hkq : k < q0 := by rw [HQ.out]; exact hfl
 have hkI : (k : Int) < (q0 : Int) := by omega
 have hk0 : (0 : Int) ≤ (k : Int) := by omega
 have hk4 : k ≤ 4000 := by have := HOK.out.len; omega
 have HKR := Lib.hid hfl
 have HG2 := Lib.hid g2
 obtain ⟨b, off, ai, m, ci, rfl, hB, _, _, _, p0, p1⟩ := row_at HC.out.2 HQ.out hkq
 have HFEW : Hid (Few R) := fun x hx => by
  obtain ⟨j, hj, rfl⟩ := List.mem_iff_getElem.1 hx
  rw [se.at_get hj]
  have hb := HOK.out.row j hj
  rw [se.texts_len]
  by_cases h0 : 0 < (se.at_ R j).2
  ·
   have := (canon_len (hb.2.2.2 h0)).2.1; omega
  ·
   rw [hb.2.2.1 (by omega)]; decide
 have HAG0 : Hid (∀ W, Below w.heap.size w W → Calls Try.prog 24 #[.slice (some ⟨b, off, none⟩) q0 rc, .int .i64 (k : Int)] W (fun e w' => ∃ g n, e = .returned (.slice (some ⟨g, 0, none⟩) n n) ∧ Hid (n = R.length) ∧ OwnR w' W.heap.size g n S R ∧ Below W.heap.size W w')) := fun W hW => by
  have := again_any k S R (.slice (some ⟨b, off, none⟩) q0 rc) W HFEW.out HOK.out.len hk4 ((HC.out.below hW).mono hW.size).2
  rwa [more_in HKR.out] at this
 obtain ⟨r0, hr0⟩ : ∃ x, x = (se.at_ R k).2 := ⟨_, rfl⟩
 have hr1 := (HOK.out.row k HKR.out).2.1
 rw [← hr0] at p1 HRES2 g1 hr1
 have hd : decide (k < R.length) = true := decide_eq_true HKR.out
 have HR0 := Lib.hid hr0
 clear hk g2 hr0 hfl p0
 go_enter Try.func14, Try.ntmps14
 go_wp2_with fail
 rw [← HW0.out]
 (with_reducible refine HP.out.mono ?_)
 rintro e w1 ⟨v, rfl, _, hb1⟩
 clear a0 a1 a2
 obtain ⟨⟨a0, a1, a2⟩, _, _, hbw1⟩ := HBX.out w1 (by rw [← hs0]; exact hb1)
 have HF1 := Lib.hid (HFI.out w1 hbw1)
 go_wp2_with fail
 (with_reducible refine HF1.out.mono ?_)
 rintro e w2 ⟨rfl, hb2⟩
 have hb12 := hb1.trans (hb2.mono hb1.size)
 clear a0 a1 a2
 obtain ⟨⟨a0, a1, a2⟩, ⟨b0, b1, b2⟩, ⟨f0, f1, f2⟩, hbw2⟩ := HBX.out w2 (by rw [← hs0]; exact hb12)
 have e1 := (hbw2.cell (p := ⟨b, off + k * 2 + 1, none⟩) hB).trans p1
 by_cases hbig : 1099511627776 ≤ r0
 ·
  have HE : Hid (RES = (S, R, 0, 7)) := by show _ = _; rw [HRES2.out, if_pos hbig]
  have HR1 := Lib.hid (HSAME.out _ 7 HE.out (HSET.out w2 (.slice sa sn sc) (.int .i64 24000) (.slice (some ⟨b, off, none⟩) q0 rc) hbw2))
  go_wp2
  refine bodyPost_ret (v := .tuple #[tval (.slice sa sn sc) (.slice (some ⟨b, off, none⟩) q0 rc), .int .i64 0, .int .i64 7]) (by simp [results, Try.results14, go_sem, b0, b1, b2, tval]) rfl ?_
  exact HR1.out
 have HAG := Lib.hid (HAG0.out w2 hbw2)
 clear b0 b1 b2 f0 f1 f2
 go_wp2_with fail
 (with_reducible refine HAG.out.mono ?_)
 rintro e w3 ⟨g, n, rfl, hn, ho, hb3⟩
 have hb13 := hb12.trans (hb3.mono hb12.size)
 clear a0 a1 a2 e1 p1
 obtain ⟨⟨a0, a1, a2⟩, ⟨b0, b1, b2⟩, ⟨f0, f1, f2⟩, hbw3⟩ := HBX.out w3 (by rw [← hs0]; exact hb13)
 have hkn : k < n := by rw [hn.out]; exact HKR.out
 have hknI : (k : Int) < (n : Int) := by omega
 have H4 := Lib.hid (HO4.out w3 hb13)
 have HGO := Lib.hid (own_ob ho.choose_spec.2.2.2)
 have n3 : ¬ w.heap.size + 1 = g := Ob.ne H4.out HGO.out (by decide)
 have n4 : ¬ g = w.heap.size + 1 := fun e => n3 e.symm
 obtain ⟨⟨v0, s0⟩, s1, fz0, fz1, hbg, hg1⟩ := ho.spot hkn
 have hwg : w.heap.size ≤ g := by have := hbw2.size; omega
 have n9 : ¬ w.heap.size = g := by have := hb12.size; omega
 have n11 : ¬ g = w.heap.size := fun e => n9 e.symm
 obtain ⟨y, hy⟩ : ∃ y, r0 + 1 = y := ⟨_, rfl⟩
 have hwy : wrap64 y = y := IntWalk.wrap64_in _ (by omega)
 have hwy2 : IntKind.i64.wrap y = y := IntWalk.i64_in _ (by omega)
 have HRET : Hid (SPutQ RES S R (.slice (some ⟨b, off, none⟩) q0 rc) w (.returned (.tuple #[tval (.slice sa sn sc) (.slice (some ⟨g, 0, none⟩) n n), .int .i64 (k : Int), .int .i64 0])) ((((w3.setCell ⟨g, k * 2 + 1, none⟩ (.int .i64 y)).setCell ⟨w.heap.size + 1, 0, none⟩ (.slice sa sn sc)).setCell ⟨w.heap.size + 1, 1, none⟩ (.int .i64 24000)).setCell ⟨w.heap.size + 1, 2, none⟩ (.slice (some ⟨g, 0, none⟩) n n))) := by
  obtain ⟨e3, _⟩ := ho.refs hkn y
  have q3 : Ob (w3.setCell ⟨g, k * 2 + 1, none⟩ (.int .i64 y)) (w.heap.size + 1) 28 := HGO.out.other H4.out n3
  have e4 := e3.far (j := 0) (u := .slice sa sn sc) q3 (by decide) (by decide)
  have e5 := e4.far (j := 1) (u := .int .i64 24000) q3.same (by decide) (by decide)
  have e6 := e5.far (j := 2) (u := .slice (some ⟨g, 0, none⟩) n n) q3.same.same (by decide) (by decide)
  have hbC := hbw3.setCell (p := ⟨g, k * 2 + 1, none⟩) hwg (.int .i64 y)
  have hbF := HSET.out _ (.slice sa sn sc) (.int .i64 24000) (.slice (some ⟨g, 0, none⟩) n n) hbC
  rw [HRES2.out, if_neg (by omega), hy]
  rw [HG2.out] at e6
  exact ⟨_, _, rfl, ⟨(HC.out.next hbF).1, e6.rows⟩, hbF, fun _ => RB.own e6, fun q hq _ => RX.own e6 (by have := hbw2.size; omega)⟩
 rw [← HR0.out] at s1
 clear ho hn hbig s0 HRES2
 go_wp2
 refine bodyPost_ret (v := .tuple #[tval (.slice sa sn sc) (.slice (some ⟨g, 0, none⟩) n n), .int .i64 (k : Int), .int .i64 0]) (by simp [results, Try.results14, go_sem, b0, b1, b2, tval]) rfl ?_
 exact HRET.out
end Go.Proofs.Ytegjpiggjcfoaaa
namespace Go.Proofs.Ytegjpiggjcfoaaa
open Go.RowKit cl
theorem puts_step {S : List tb.Sym} {ts : List ByteArray} {j : Nat} {t : ByteArray} (hj : ts[j]? = some t) (h0 : (se.puts S (ts.take j)).2 = 0) :
  ((tb.put 24000 (se.puts S (ts.take j)).1 t).2.2 = 0 → se.puts S (ts.take (j + 1)) = ((tb.put 24000 (se.puts S (ts.take j)).1 t).1, 0)) ∧
  ((tb.put 24000 (se.puts S (ts.take j)).1 t).2.2 ≠ 0 → (se.puts S ts).2 = (tb.put 24000 (se.puts S (ts.take j)).1 t).2.2) := by
 have e : ts.take (j + 1) = ts.take j ++ [t] := by rw [List.take_add_one, hj]; rfl
 have h1 := se.puts_snoc (t := t) h0
 refine ⟨fun h => by rw [e, h1, if_pos h], fun h => ?_⟩
 rw [if_neg h] at h1
 have h2 := se.puts_fail (S := S) (ts := ts.take (j + 1)) (us := ts.drop (j + 1)) (by rw [e, h1]; exact h)
 rw [List.take_append_drop] at h2
 rw [h2, e, h1]
theorem puts_nums {S : List tb.Sym} {ts : List ByteArray} {j : Nat} {t : ByteArray} (hr : tb.Right 24000 S) (hj : ts[j]? = some t) (h0 : (se.puts S (ts.take j)).2 = 0) (h1 : (tb.put 24000 (se.puts S (ts.take j)).1 t).2.2 = 0) :
  nums (tb.put 24000 (se.puts S (ts.take j)).1 t).1 (ts.take (j + 1)) = nums (se.puts S (ts.take j)).1 (ts.take j) ++ [.int .i64 (tb.put 24000 (se.puts S (ts.take j)).1 t).2.1] := by
 have e : ts.take (j + 1) = ts.take j ++ [t] := by rw [List.take_add_one, hj]; rfl
 have hrP := se.puts_right (ts := ts.take j) hr
 rw [e, nums_app]
 have h2 : nums (tb.put 24000 (se.puts S (ts.take j)).1 t).1 (ts.take j) = nums (se.puts S (ts.take j)).1 (ts.take j) := nums_same fun x hx => by
  have hc := se.puts_cnt (x := x) hr h0
  have hp := se.ct_pos hx
  have hb := tb.cnt_bd (s := x) hr
  exact (tb.find_put hrP (tb.cnt_find (by omega))).1
 rw [h2, (tb.put_num hrP h1).1]
 rfl
end Go.Proofs.Ytegjpiggjcfoaaa
namespace Go.Proofs.Ytegjpiggjcfoaaa
open Go Go.RowKit Go.ChangeShapes cl Go.Sort
theorem cells_far' {w : World} {B n k m ci g j : Nat} {ai : Option Addr} {vs : List Value} {u : Value} (h : Cells w B (.slice ai m ci) n k vs) (ha : 0 < n → ∀ b off s, ai = some ⟨b, off, s⟩ → b ≠ g) : Cells (w.setCell ⟨g, j, none⟩ u) B (.slice ai m ci) n k vs := by
 obtain ⟨h0, ao', c, e, h1, h3, h4⟩ := h
 refine ⟨h0, ao', c, e, h1, h3, fun hp => ?_⟩
 obtain ⟨b, off, e2, hB, hc⟩ := h4 hp
 simp only [Value.slice.injEq] at e
 have hne := ha hp b off none (by rw [e.1, e2])
 refine ⟨b, off, e2, hB, fun i v hi => ?_⟩
 rw [World.cell?_setCell_far _ _ _ _ (fun e => hne e.symm)]
 exact hc i v hi
theorem heap_set {W : World} {B1 j : Nat} {c : Array Value} {T : TypeId} {u : Value} (h : W.heap[B1]? = some (.cells c T (0, 0))) : (W.setCell ⟨B1, j, none⟩ u).heap[B1]? = some (.cells (c.setIfInBounds j u) T (0, 0)) := by
 rw [setCell_eq_setRow W B1 j c T (0, 0) u h]
 exact setRow_heap W B1 c _ T (0, 0) h
theorem heap_far {W : World} {a b j : Nat} {u : Value} (hne : a ≠ b) : (W.setCell ⟨a, j, none⟩ u).heap[b]? = W.heap[b]? := by
 simp only [World.setCell, Array.getElem?_modify]
 simp [hne]
theorem row_cell {W : World} {b j : Nat} {c : Array Value} {T : TypeId} {u : Value} (h : W.heap[b]? = some (.cells c T (0, 0))) (hj : c[j]? = some u) : W.cell? ⟨b, j, none⟩ = some u := by simp [World.cell?, h, hj]
theorem row_free {W : World} {b j : Nat} {c : Array Value} {T : TypeId} (h : W.heap[b]? = some (.cells c T (0, 0))) : W.frozen? ⟨b, j, none⟩ = false := by simp [World.frozen?, h]
theorem own_at {w : World} {base b n k : Nat} {e : TypeId} {v : Value} {xs : List Value} (h : w.ownsRow base e k v n xs) (hb : v.ownBlock = some b) : ∃ cur, w.heap[b]? = some (.cells cur e (0, 0)) := by
 rcases h.2 with ⟨rfl, _⟩ | ⟨g, cap, cur, rfl, _, hg, _⟩
 ·
  cases hb
 ·
  obtain rfl := Option.some.inj hb
  exact ⟨cur, hg⟩
theorem own_not {w : World} {base b n k : Nat} {e T : TypeId} {v : Value} {xs : List Value} {c : Array Value} (h : w.ownsRow base e k v n xs) (hb : w.heap[b]? = some (.cells c T (0, 0))) (hT : T ≠ e) : v.ownBlock ≠ some b := fun hh => by
 obtain ⟨cur, hc⟩ := own_at h hh
 rw [hb] at hc
 simp only [Option.some.injEq, Obj.cells.injEq] at hc
 exact hT hc.2.1
structure Sv (w : World) (B1 Bq : Nat) (ids : Value) (L : List tb.Sym) (ao : Option Addr) (n cap : Nat) (W : World) : Prop where
 tab : Tabs W W.heap.size (.slice ao n cap) L
 far : 0 < L.length → ∀ b off s, ao = some ⟨b, off, s⟩ → b < W.heap.size ∧ b ≠ B1 ∧ b ≠ Bq ∧ ids.ownBlock ≠ some b
 row : W.heap[B1]? = some (.cells #[.slice ao n cap, .int .i64 24000] 25 (0, 0))
 below : Below w.heap.size w W
 low : w.heap.size ≤ B1
theorem Sv.step {w W W' : World} {B1 Bq n cap : Nat} {ids : Value} {L : List tb.Sym} {ao : Option Addr} (h : Sv w B1 Bq ids L ao n cap W) (hb : Below W.heap.size W W') : Sv w B1 Bq ids L ao n cap W' :=
 ⟨Cells.next h.tab hb, fun hn b off s e => by obtain ⟨a, b⟩ := h.far hn b off s e; exact ⟨Nat.lt_of_lt_of_le a hb.size, b⟩, heap_keep hb h.row, h.below.trans (hb.mono h.below.size), h.low⟩
theorem Sv.lt {w W : World} {B1 Bq n cap : Nat} {ids : Value} {L : List tb.Sym} {ao : Option Addr} (h : Sv w B1 Bq ids L ao n cap W) : B1 < W.heap.size := (Array.getElem?_eq_some_iff.1 h.row).1
theorem Sv.start {w W : World} {Bq n cap : Nat} {L : List tb.Sym} {ao : Option Addr} (h : Tabs W W.heap.size (.slice ao n cap) L) (hq : 0 < L.length → ∀ b off s, ao = some ⟨b, off, s⟩ → b ≠ Bq) (hb : Below w.heap.size w W) :
  Sv w W.heap.size Bq (.slice none 0 0) L ao n cap (W.alloc (.cells #[.slice ao n cap, .int .i64 24000] 25)) := by
 have hB : Below W.heap.size W (W.alloc (.cells #[.slice ao n cap, .int .i64 24000] 25)) := (Below.refl _ _).alloc (Nat.le_refl _) _
 refine ⟨Cells.next h hB, fun hn b off s e => ?_, heap_new _ _ _, hb.trans (hB.mono hb.size), hb.size⟩
 have h2 := hq hn b off s e
 obtain ⟨_, ao', c', e1, _, _, h4⟩ := h
 simp only [Value.slice.injEq] at e1
 obtain ⟨b', off', e2, hB', _⟩ := h4 hn
 rw [e1.1, e2] at e
 simp only [Option.some.injEq, Addr.mk.injEq] at e
 refine ⟨?_, by omega, h2, fun e => by cases e⟩
 rw [World.size_alloc]; omega
theorem Sv.put {w Wc W : World} {B1 Bq n cap n' cap' k base : Nat} {ids : Value} {xs : List Value} {L L' : List tb.Sym} {ao ao' : Option Addr} (h : Sv w B1 Bq ids L ao n cap Wc) (hq : Bq < Wc.heap.size) (hi : Wc.ownsRow base 3 1 ids k xs)
  (hb : Below Wc.heap.size Wc W) (hv : Value.slice ao n cap = .slice ao' n' cap' ∨ ∃ g, ao' = some ⟨g, 0, none⟩ ∧ Wc.heap.size ≤ g) (ht : Tabs W W.heap.size (.slice ao' n' cap') L') :
  Sv w B1 Bq ids L' ao' n' cap' ((W.setCell ⟨B1, 0, none⟩ (.slice ao' n' cap')).setCell ⟨B1, 1, none⟩ (.int .i64 24000)) := by
 have hlt := h.lt
 have hfar : 0 < L'.length → ∀ b off s, ao' = some ⟨b, off, s⟩ → b < W.heap.size ∧ b ≠ B1 ∧ b ≠ Bq ∧ ids.ownBlock ≠ some b := fun hn b off s e => by
  have hbW : b < W.heap.size := by
   obtain ⟨_, ao2, c2, e1, _, _, h4⟩ := ht
   simp only [Value.slice.injEq] at e1
   obtain ⟨b', off', e2, hB', _⟩ := h4 hn
   rw [e1.1, e2] at e
   simp only [Option.some.injEq, Addr.mk.injEq] at e
   omega
  refine ⟨hbW, ?_⟩
  rcases hv with h1 | ⟨g, h1, h2⟩
  ·
   simp only [Value.slice.injEq] at h1
   obtain ⟨h1, h2, _⟩ := h1
   have hn' : 0 < L.length := by
    obtain ⟨_, _, e1, _⟩ := Cells.form ht
    obtain ⟨_, _, e2, _⟩ := Cells.form h.tab
    simp only [Value.slice.injEq] at e1 e2
    omega
   exact (h.far hn' b off s (by rw [h1]; exact e)).2
  ·
   rw [h1] at e
   simp only [Option.some.injEq, Addr.mk.injEq] at e
   refine ⟨by omega, by omega, fun hh => ?_⟩
   have := (hi.lt b hh).2
   omega
 have hr0 := heap_keep hb h.row
 have hr1 := heap_set (j := 0) (u := .slice ao' n' cap') hr0
 have hr2 := heap_set (j := 1) (u := .int .i64 24000) hr1
 have hbl := h.below.trans (hb.mono h.below.size)
 refine ⟨?_, fun hn b off s e => ?_, hr2, (hbl.setCell h.low _).setCell h.low _, h.low⟩
 ·
  show Cells _ _ _ _ _ _
  simp only [World.size_setCell]
  exact cells_far' (cells_far' ht (fun hn b off s e => (hfar hn b off s e).2.1)) (fun hn b off s e => (hfar hn b off s e).2.1)
 ·
  simp only [World.size_setCell]
  exact hfar hn b off s e
theorem Sv.app {w W W' : World} {B1 Bq n cap k base : Nat} {ids ids' : Value} {xs : List Value} {L : List tb.Sym} {ao : Option Addr} {o : Obj} (h : Sv w B1 Bq ids L ao n cap W) (hi : W.ownsRow base 3 1 ids k xs) (hbw : w.heap.size ≤ base)
  (hg : (W.alloc o).grownBy W' ids.ownBlock) (hv : ids'.ownBlock = ids.ownBlock ∨ ∀ b, ids'.ownBlock = some b → (W.alloc o).heap.size ≤ b) : Sv w B1 Bq ids' L ao n cap W' := by
 have hA : Below W.heap.size W (W.alloc o) := (Below.refl _ _).alloc (Nat.le_refl _) _
 have h1 := h.step hA
 have hi1 := hi.alloc o
 have hz := hg.size
 have hkeep : 0 < L.length → ∀ b off s, ao = some ⟨b, off, s⟩ → W'.heap[b]? = (W.alloc o).heap[b]? := fun hn b off s e => by
  obtain ⟨a1, _, _, a4⟩ := h1.far hn b off s e
  exact hg.block b a1 (fun e => a4 e.symm)
 refine ⟨?_, fun hn b off s e => ?_, ?_, h1.below.grown hg h1.below.size (fun k hk => Nat.le_trans hbw (hi1.lt k hk).1), h.low⟩
 ·
  obtain ⟨g0, ao2, cap2, e, g1, g2, g3⟩ := h1.tab
  refine ⟨g0, ao2, cap2, e, g1, g2, fun hp => ?_⟩
  obtain ⟨b, off, e2, hB, hc⟩ := g3 hp
  simp only [Value.slice.injEq] at e
  have hb := hkeep hp b off none (by rw [e.1, e2])
  refine ⟨b, off, e2, by omega, fun j u hj => ?_⟩
  rw [World.cell?_of_block (a := ⟨b, off + j, none⟩) hb]
  exact hc j u hj
 ·
  obtain ⟨a1, a2, a3, a4⟩ := h1.far hn b off s e
  refine ⟨by omega, a2, a3, fun hh => ?_⟩
  rcases hv with hv | hv
  ·
   exact a4 (by rw [← hv]; exact hh)
  ·
   have := hv b hh
   omega
 ·
  have hne := own_not hi1 h1.row (by decide)
  rw [hg.block B1 h1.lt (fun e => hne e.symm)]
  exact h1.row
theorem box_app {W W' : World} {B2 k base : Nat} {c : Array Value} {ids : Value} {xs : List Value} {T : TypeId} {o : Obj} (h : W.heap[B2]? = some (.cells c T (0, 0))) (hi : W.ownsRow base 3 1 ids k xs) (hT : T ≠ 3)
  (hg : (W.alloc o).grownBy W' ids.ownBlock) : W'.heap[B2]? = some (.cells c T (0, 0)) := by
 have hA : Below W.heap.size W (W.alloc o) := (Below.refl _ _).alloc (Nat.le_refl _) _
 have h1 := heap_keep hA h
 have hne := own_not (hi.alloc o) h1 hT
 rw [hg.block B2 (Array.getElem?_eq_some_iff.1 h1).1 (fun e => hne e.symm)]
 exact h1
end Go.Proofs.Ytegjpiggjcfoaaa
namespace Go.Proofs.Ytegjpiggjcfoaaa
open Go Go.RowKit Go.ChangeShapes cl
theorem boxc {w : World} {q : Nat} {cs : Array Value} {t : TypeId} {fr : Nat × Nat} (h : w.heap[q]? = some (.cells cs t fr)) (i : Nat) (u : Value) (hu : cs[i]? = some u) : w.cell? ⟨q, i, none⟩ = some u := by simp [World.cell?, h, hu]
def FreA (B : Nat) (av : Option Nat) (W : World) (P : World → Prop) : Prop :=
 ∀ W', W.heap.size ≤ W'.heap.size → (∀ j, B ≤ j → j < W.heap.size → some j ≠ av → W'.heap[j]? = W.heap[j]?) → P W'
section
variable {B B' : Nat} {av av' : Option Nat} {W W' : World} {P P' : World → Prop}
theorem FreA.at (h : FreA B av W P) : P W := h W (Nat.le_refl _) (fun _ _ _ _ => rfl)
theorem FreA.low (h : FreA B av W P) (hB : B' ≤ B) : FreA B' av W P := fun W' h1 h2 => h W' h1 (fun j hj => h2 j (Nat.le_trans hB hj))
theorem FreA.imp (h : FreA B av W P) (hp : ∀ w, P w → P' w) : FreA B av W P' := fun W' h1 h2 => hp _ (h W' h1 h2)
theorem FreA.step (h : FreA B av W P) (hs : W.heap.size ≤ W'.heap.size) (hk : ∀ j, B ≤ j → j < W.heap.size → some j ≠ av → W'.heap[j]? = W.heap[j]?) (hav : av' = av ∨ ∀ b, av' = some b → W.heap.size ≤ b) : FreA B av' W' P := by
 intro W2 h1 h2
 refine h W2 (Nat.le_trans hs h1) (fun j hB hj hn => (h2 j hB (Nat.lt_of_lt_of_le hj hs) ?_).trans (hk j hB hj hn))
 rcases hav with rfl | hav
 ·
  exact hn
 ·
  intro e
  have := hav j e.symm
  omega
theorem FreA.next (h : FreA B av W P) (hb : Below W.heap.size W W') : FreA B av W' P := h.step hb.size (fun j _ hj _ => hb.block j hj) (Or.inl rfl)
theorem FreA.grown (h : FreA B av W P) (hg : W.grownBy W' av) (hav : av' = av ∨ ∀ b, av' = some b → W.heap.size ≤ b) : FreA B av' W' P := h.step hg.size (fun j _ hj hn => hg.block j hj hn) hav
theorem FreA.off (h : FreA B none W P) (hav : ∀ b, av = some b → b < B ∨ W.heap.size ≤ b) : FreA B av W P := by
 intro W2 h1 h2
 refine h W2 h1 (fun j hB hj _ => h2 j hB hj ?_)
 intro e
 rcases hav j e.symm with h | h <;> omega
end
theorem run_append_blk {P : Program} (w : World) (base : Nat) (t ty e : TypeId) (i : TypeInfo) (z : Value) (size bytes : Nat) (ht : P.underlying t = some (.slice e)) (hi : P.info? e = some i) (hz : i.zero = some z)
  (hsize : i.size = size) (hby : i.bytes = bytes) (hzs : z.cells.size = size) (hsz : 0 < size)
  (v : Value) (n : Nat) (xs : List Value) (hown : w.ownsRow base e size v n xs)
  (a : Addr) (m c : Nat) (news : List Value) (hl : news.length = m * size) (hnews : ∀ j u, news[j]? = some u → w.cell? (a.add j) = some u) (h1 : ∀ u ∈ news, u.oneCell' = true)
  (h63 : n + m ≤ maxLen) (hbytes : (n + m) * bytes ≤ 140737488355328) (hbase : base ≤ w.heap.size) :
  ∃ v' w', (Builtin.append_ #[t, t] ty #[v, .slice (some a) m c]).run P w = .ok v' w' ∧ w'.ownsRow base e size v' (n + m) (xs ++ news) ∧ w.grownBy w' v.ownBlock ∧
   (v'.ownBlock = v.ownBlock ∨ ∀ b, v'.ownBlock = some b → w.heap.size ≤ b) := by
 obtain ⟨v', w', hr, h2, h3, h4⟩ := run_append_own (P := P) w base t ty e i z size bytes ht hi hz hsize hby hzs hsz v n xs hown a m c news hl hnews h1 h63 hbytes hbase
 refine ⟨v', w', hr, h2, h3, ?_⟩
 rcases hown.2 with ⟨rfl, rfl⟩ | ⟨g, cap, cur, rfl, hbg, hg, hnc, hcm, hcs, htake⟩
 ·
  have hx : xs = [] := List.eq_nil_of_length_eq_zero (by simpa using hown.1)
  subst hx
  obtain ⟨v2, w2, hr2, g2, _, _⟩ := run_append_own (P := P) w w.heap.size t ty e i z size bytes ht hi hz hsize hby hzs hsz (.slice none 0 0) 0 [] (World.ownsRow_nil _ _ _ _) a m c news hl hnews h1 h63 hbytes (Nat.le_refl _)
  rw [hr] at hr2
  simp only [Result.ok.injEq] at hr2
  obtain ⟨rfl, rfl⟩ := hr2
  refine Or.inr (fun b hb => ?_)
  rcases g2.2 with ⟨rfl, _⟩ | ⟨g, cap, cur, rfl, hbg, _⟩
  ·
   simp [Value.ownBlock] at hb
  ·
   simp only [Value.ownBlock, Option.some.injEq] at hb
   omega
 ·
  subst hsize
  subst hby
  by_cases hroom : n + m ≤ cap
  ·
   have hfit : n * i.size + news.length ≤ cur.size := by rw [hl, hcs, ← Nat.add_mul]; exact Nat.mul_le_mul_right _ hroom
   have hr2 := run_append_room (P := P) w t ty e i ht hi g n cap cur hg a m c news hl hnews h1 hroom hfit
   rw [hr] at hr2
   simp only [Result.ok.injEq] at hr2
   obtain ⟨rfl, rfl⟩ := hr2
   exact Or.inl rfl
  ·
   have hsmall : n + m ≤ 9223372036854775807 := by simp only [maxLen] at h63; omega
   have holds : ∀ j u, xs[j]? = some u → w.cell? ((⟨g, 0, none⟩ : Addr).add j) = some u := hown.cells (g := g) rfl
   have hr2 := run_append_grow (P := P) w t ty e i z ht hi hz ⟨g, 0, none⟩ n cap xs hown.1 holds a m c news hl hnews (by omega) (by omega) (growslice_fits (by omega) hbytes)
   rw [hr] at hr2
   simp only [Result.ok.injEq] at hr2
   obtain ⟨rfl, rfl⟩ := hr2
   refine Or.inr (fun b hb => ?_)
   simp only [Value.ownBlock, Option.some.injEq] at hb
   omega
namespace kit
theorem app1k {P : Program} {w : World} {ops : Array Oper} {rest : List Oper} {o : Oper} {a : Act} {Q : Exit → Act → World → Prop} {cs : Array Value} {e' : TypeId} (B : Nat) (hB : B = w.heap.size)
  (s x : Operand) (t : TypeId) (hgd : o.guard = none)
  (ho : o.op = .call { callee := .builtin .append, args := #[s, x], argTypes := #[t, t] })
  (base : Nat) {e : TypeId} {z : Value} {size bytes : Nat} (ht : P.underlying t = some (.slice e)) (hi : (P.info? e).map (fun i => (i.zero, i.size, i.bytes)) = some (some z, size, bytes))
  (hzs : z.cells.size = size) (hsz : 0 < size) (hb1 : 0 < bytes)
  {v : Value} {n : Nat} {xs : List Value} {c : Nat} (hown : w.ownsRow base e size v n xs) (hs : a.eval s = v) (hx : a.eval x = .slice (some ⟨B, 0, none⟩) 1 c)
  (hcs : cs.size = size) (h1 : ∀ u ∈ cs.toList, u.oneCell' = true) (hbytes : (n + 1) * bytes ≤ 140737488355328) (hbase : base ≤ w.heap.size)
  (h : ∀ v' w', w'.ownsRow base e size v' (n + 1) (xs ++ cs.toList) → (w.alloc (.cells cs e')).grownBy w' v.ownBlock → (v'.ownBlock = v.ownBlock ∨ ∀ b, v'.ownBlock = some b → (w.alloc (.cells cs e')).heap.size ≤ b) → wpList P ops Q rest (a.put o.dst v') w') :
  wpList P ops Q (o :: rest) a (w.alloc (.cells cs e')) := by
 subst hB
 obtain ⟨i, hi, hz, hsize, hby⟩ := info_parts hi
 have hle : n + 1 ≤ (n + 1) * bytes := Nat.le_mul_of_pos_right _ hb1
 refine wpList_plain hgd fun _ hK => ?_
 obtain ⟨v', w', hr, h2, h3, h4⟩ := run_append_blk (P := P) (w.alloc (.cells cs e')) base t o.type e i z size bytes ht hi hz hsize hby hzs hsz v n xs (hown.alloc _) ⟨w.heap.size, 0, none⟩ 1 c cs.toList (by simp [hcs]) (by
  intro j u hj
  rw [Array.getElem?_toList] at hj
  rw [Addr.add_lit, Nat.zero_add]
  exact boxc (heap_alloc_new w _) j u hj) h1 (by unfold maxLen; omega) hbytes (by simp; omega)
 unfold Oper.wp execOp
 simp only [ho, resolve, invoke, builtin, Sem.run_bind, Sem.run_pure, Result.andThen_ok, List.map_toArray, List.map_cons, List.map_nil, hs, hx, hr]
 refine hK _ _ (h v' w' h2 h3 h4)
end kit
end Go.Proofs.Ytegjpiggjcfoaaa
