/- texts put together: SerPn, SerTv, SerTxt. -/
import Derived.Test.YtegjpiggjcfoaaaPd08
import Derived.Test.YtegjpiggjcfoaaaPd10
import Derived.Test.YtegjpiggjcfoaaaPd12
namespace Go.Proofs.Ytegjpiggjcfoaaa
open Go Go.RowKit Go.ChangeShapes cl Go.Sort
theorem infoInt : (Try.prog.info? 3).map (fun i => (i.zero, i.size, i.bytes)) = some (some (.int .i64 0), 1, 8) := by kernel_rfl
theorem int_one (x : Int) : ∀ u ∈ (#[Value.int .i64 x] : Array Value).toList, u.oneCell' = true := by
 intro u hu
 simp only [List.mem_cons, List.not_mem_nil, or_false] at hu
 subst hu; rfl
theorem grown_set (W : World) (B o : Nat) (u : Value) : W.grownBy (W.setCell ⟨B, o, none⟩ u) (some B) := by
 refine ⟨rfl, rfl, rfl, by rw [World.size_setCell]; exact Nat.le_refl _, fun k _ hk => ?_⟩
 have hne : ¬ B = k := fun e => hk (by rw [e])
 simp only [World.setCell, Array.getElem?_modify]
 simp [hne]
theorem own_far_ob {w : World} {base b n k j : Nat} {e T : TypeId} {v : Value} {xs : List Value} {c : Array Value} {u : Value} (h : w.ownsRow base e k v n xs) (hb : w.heap[b]? = some (.cells c T (0, 0))) (hT : T ≠ e) : (w.setCell ⟨b, j, none⟩ u).ownsRow base e k v n xs :=
 h.kept (row := some b) (grown_set w b j u) (Or.inr (own_not h hb hT))
theorem lab_texts {l : List Lab} {i : Nat} (hi : i < l.length) : (se.texts l)[i * 2]? = some (l.getD i (.empty, .empty)).1 ∧ (se.texts l)[i * 2 + 1]? = some (l.getD i (.empty, .empty)).2 := se.texts_get l i hi
set_option maxHeartbeats 3200000 in
set_option maxRecDepth 100000 in
theorem sput_new (s : ByteArray) (l : List Lab) (S : List tb.Sym) (R : List se.Row) (vs vr : Value) (w : World) (hi : lm.Is s (0, l)) (hs : s.size ≤ maxLen) (hm : MX w) (hok : se.Ok S R) (h : SerAt w w.heap.size vs vr S R) (hcan : lm.canonF l = (0, l)) (hnf : ¬ se.find R l < R.length) (h4 : se.free R ≠ 4000) :
  Calls Try.prog 14 #[tval vs vr, .string s] w (SPutQ (se.put S R (0, l)) S R vr w) := by
 obtain ⟨sa, sn, sc, rfl⟩ : ∃ a n c, vs = .slice a n c := by
  obtain ⟨a, c, e, _⟩ := Cells.form h.1
  exact ⟨_, _, _, e⟩
 obtain ⟨q0, hq0⟩ : ∃ q, q = R.length := ⟨_, rfl⟩
 obtain ⟨ra, rc, rfl, _, hqm⟩ := h.2.form' hq0
 unfold maxLen at hqm
 have HQ := Lib.hid hq0
 have HC := Lib.hid h
 have HOK := Lib.hid hok
 obtain ⟨W0, hW0⟩ : ∃ W, W = (w.alloc (.cells #[.slice sa sn sc, .int .i64 24000, .slice ra q0 rc] 28)).alloc (.cells #[.slice none 0 0, .int .i64 0, .slice none 0 0] 28) := ⟨_, rfl⟩
 have HBX : Hid (∀ W, Below (w.heap.size + 2) W0 W → (W.cell? ⟨w.heap.size, 0, none⟩ = some (.slice sa sn sc) ∧ W.cell? ⟨w.heap.size, 1, none⟩ = some (.int .i64 24000) ∧ W.cell? ⟨w.heap.size, 2, none⟩ = some (.slice ra q0 rc)) ∧
  (W.cell? ⟨w.heap.size + 1, 0, none⟩ = some (.slice none 0 0) ∧ W.cell? ⟨w.heap.size + 1, 1, none⟩ = some (.int .i64 0) ∧ W.cell? ⟨w.heap.size + 1, 2, none⟩ = some (.slice none 0 0)) ∧
  (W.frozen? ⟨w.heap.size + 1, 0, none⟩ = false ∧ W.frozen? ⟨w.heap.size + 1, 1, none⟩ = false ∧ W.frozen? ⟨w.heap.size + 1, 2, none⟩ = false) ∧ Below w.heap.size w W) := fun W hW => by
  rw [hW0] at hW; exact below_two' hW
 have hs0 : W0.heap.size = w.heap.size + 2 := by rw [hW0, World.size_alloc, World.size_alloc]
 have HO4 : Hid (∀ W, Below W0.heap.size W0 W → Ob W (w.heap.size + 1) 28) := fun W hW => by
  have h1 := heap_new (w.alloc (.cells #[.slice sa sn sc, .int .i64 24000, .slice ra q0 rc] 28)) #[.slice none 0 0, .int .i64 0, .slice none 0 0] 28
  rw [World.size_alloc, ← hW0] at h1
  exact ⟨_, heap_keep hW h1⟩
 have hw0 := (HBX.out W0 (Below.refl _ _)).2.2.2
 have hmW := hm.next hw0
 have HP : Hid (Calls Try.prog 11 #[.string s] W0 (CanonP (0, l) W0)) := by
  refine (parse_any s _ hs hmW).mono ?_
  rintro e w' ⟨r', h1, h2⟩
  rw [lm.is_one h2 hi] at h1; exact h1
 have HFI : Hid (∀ W, Below w.heap.size w W → Calls Try.prog 10 #[tval (.slice sa sn sc) (.slice ra q0 rc), .string s] W (SFindP R (0, l) W)) := fun W hW => sfind_any s (0, l) S R _ _ W hi hs (hm.next hW) HOK.out ((HC.out.below hW).mono hW.size)
 have HFR : Hid (∀ W, Below w.heap.size w W → Calls Try.prog 26 #[tval (.slice sa sn sc) (.slice ra q0 rc)] W (NatP (se.free R) W)) := fun W hW => sfree_any S R _ _ W ((HC.out.below hW).mono hW.size).2
 have HSET : Hid (∀ W x0 x1 x2, Below w.heap.size w W → Below w.heap.size w (((W.setCell ⟨w.heap.size + 1, 0, none⟩ x0).setCell ⟨w.heap.size + 1, 1, none⟩ x1).setCell ⟨w.heap.size + 1, 2, none⟩ x2)) := fun W x0 x1 x2 hb =>
  ((hb.setCell (Nat.le_succ _) _).setCell (Nat.le_succ _) _).setCell (Nat.le_succ _) _
 have HW0 := Lib.hid hW0
 obtain ⟨⟨a0, a1, a2⟩, _⟩ := HBX.out W0 (Below.refl _ _)
 rw [hW0] at a0 a1 a2
 have HRES : Hid (se.put S R (0, l) = if (se.puts S (se.texts l)).2 ≠ 0 then (S, R, 0, (se.puts S (se.texts l)).2) else ((se.puts S (se.texts l)).1, (se.room R (se.free R)).set (se.free R) (l, 1), (se.free R : Int), 0)) := by
  show _ = _
  unfold se.put
  rw [if_neg (by simp), if_neg hnf, if_neg h4]
 obtain ⟨RES, hRES⟩ : ∃ x, x = se.put S R (0, l) := ⟨_, rfl⟩
 rw [← hRES] at HRES ⊢
 have HSAME : Hid (∀ W (c : Int), RES = (S, R, 0, c) → Below w.heap.size w W → SPutQ RES S R (.slice ra q0 rc) w (.returned (.tuple #[tval (.slice sa sn sc) (.slice ra q0 rc), .int .i64 0, .int .i64 c])) W) := fun W c he hb => by
  rw [he]; exact ⟨_, _, rfl, HC.out.next hb, hb, fun h => h.next hb, fun q _ h => h.next hb⟩
 obtain ⟨hl0, hl6, hlz⟩ := canon_len hcan
 have HTS : Hid (∀ t ∈ se.texts l, t.size ≤ maxLen) := fun t ht => by
  obtain ⟨x, hx, h2⟩ := List.mem_flatMap.1 ht
  have := hlz x hx
  unfold maxLen
  rcases List.mem_cons.1 h2 with rfl | h2
  ·
   omega
  ·
   rcases List.mem_cons.1 h2 with rfl | h2
   ·
    omega
   ·
    cases h2
 have HRT : Hid (tb.Right 24000 S) := HOK.out.right
 obtain ⟨F, hF⟩ : ∃ F, F = se.free R := ⟨_, rfl⟩
 rw [← hF] at HFR HRES h4
 have hFl : F ≤ R.length := by rw [hF]; exact se.free_le R
 have hF4 : F ≤ 4000 := by have := HOK.out.len; omega
 have HFEW : Hid (Few R) := fun x hx => by
  obtain ⟨j, hj, rfl⟩ := List.mem_iff_getElem.1 hx
  rw [se.at_get hj]
  have hb := HOK.out.row j hj
  rw [se.texts_len]
  by_cases h0 : 0 < (se.at_ R j).2
  ·
   have := (canon_len (hb.2.2.2 h0)).2.1; omega
  ·
   rw [hb.2.2.1 (by omega)]; decide
 have HAG0 : Hid (∀ W, Below w.heap.size w W → Calls Try.prog 24 #[.slice ra q0 rc, .int .i64 (F : Int)] W (AgainP S (more R F) W)) := fun W hW =>
  again_any F S R (.slice ra q0 rc) W HFEW.out HOK.out.len hF4 ((HC.out.below hW).mono hW.size).2
 have hmoreL : F < (more R F).length := by rw [more_len]; omega
 have HML := Lib.hid hmoreL
 have HMT : Hid (∀ x ∈ more R F, ∀ t ∈ se.texts x.1, tb.find (se.puts S (se.texts l)).1 t = tb.find S t) := fun x hx t ht => by
  rcases List.mem_append.1 hx with h1 | h1
  ·
   obtain ⟨j, hj, rfl⟩ := List.mem_iff_getElem.1 h1
   rw [se.at_get hj] at ht
   exact (se.puts_find HRT.out (HOK.out.sym hj ht)).1
  ·
   rw [(List.mem_replicate.1 h1).2] at ht
   cases ht
 have hF4n : (F : Int) ≠ 4000 := by omega
 have hF4b : ((F : Int) == 4000) = false := by simpa using hF4n
 have HFL := Lib.hid hFl
 obtain ⟨m, hmv⟩ : ∃ m, m = l.length := ⟨_, rfl⟩
 rw [← hmv] at hl0 hl6
 have HLM := Lib.hid hmv
 have HTL : Hid ((se.texts l).length = m * 2) := by show _ = _; rw [se.texts_len, HLM.out]
 unfold SFindP fnd at HFI
 simp only [true_and, if_neg hnf] at HFI
 unfold CanonP at HP
 unfold NatP at HFR
 have hb0q : ∀ b off s, 0 < S.length → sa = some ⟨b, off, s⟩ → b ≠ w.heap.size + 1 := fun b off s hn e => by
  obtain ⟨_, ao', c', e1, _, _, h4⟩ := HC.out.1
  simp only [Value.slice.injEq] at e1
  obtain ⟨b', off', e2, hB, _⟩ := h4 hn
  rw [e1.1, e2] at e
  simp only [Option.some.injEq, Addr.mk.injEq] at e
  omega
 have HBQ0 := Lib.hid hb0q
 clear h hok hq0 hW0 hw0 hmW hm hi hs hRES hcan hnf hF hFl hlz hmv hb0q hmoreL
 go_enter Try.func14, Try.ntmps14
 go_wp2_with fail
 rw [← HW0.out]
 (with_reducible refine HP.out.mono ?_)
 rintro e w1 ⟨v, rfl, hv, hb1⟩
 obtain ⟨la, lc, rfl⟩ : ∃ a c, v = .slice a m c := by
  obtain ⟨a, c, e, _⟩ := Cells.form hv
  exact ⟨a, c, by rw [HLM.out]; exact e⟩
 have HV := Lib.hid hv
 clear a0 a1 a2 hv
 obtain ⟨⟨a0, a1, a2⟩, _, _, hbw1⟩ := HBX.out w1 (by rw [← hs0]; exact hb1)
 have HF1 := Lib.hid (HFI.out w1 hbw1)
 go_wp2_with fail
 (with_reducible refine HF1.out.mono ?_)
 rintro e w2 ⟨rfl, hb2⟩
 have hb12 := hb1.trans (hb2.mono hb1.size)
 clear a0 a1 a2
 obtain ⟨⟨a0, a1, a2⟩, _, _, hbw2⟩ := HBX.out w2 (by rw [← hs0]; exact hb12)
 have HF2 := Lib.hid (HFR.out w2 hbw2)
 go_wp2_with fail
 (with_reducible refine HF2.out.mono ?_)
 rintro e w3 ⟨rfl, hb3⟩
 have hb13 := hb12.trans (hb3.mono hb12.size)
 have HV3 : Hid (Labs w3 w3.heap.size (.slice la m lc) l) := Cells.next (Cells.next HV.out hb2) hb3
 clear a0 a1 a2
 have HBX3 : Hid (∀ W, Below w3.heap.size w3 W → (W.cell? ⟨w.heap.size, 0, none⟩ = some (.slice sa sn sc) ∧ W.cell? ⟨w.heap.size, 1, none⟩ = some (.int .i64 24000) ∧ W.cell? ⟨w.heap.size, 2, none⟩ = some (.slice ra q0 rc)) ∧
  (W.cell? ⟨w.heap.size + 1, 0, none⟩ = some (.slice none 0 0) ∧ W.cell? ⟨w.heap.size + 1, 1, none⟩ = some (.int .i64 0) ∧ W.cell? ⟨w.heap.size + 1, 2, none⟩ = some (.slice none 0 0)) ∧
  (W.frozen? ⟨w.heap.size + 1, 0, none⟩ = false ∧ W.frozen? ⟨w.heap.size + 1, 1, none⟩ = false ∧ W.frozen? ⟨w.heap.size + 1, 2, none⟩ = false) ∧ Below w.heap.size w W) := fun W hW => HBX.out W (by rw [← hs0]; exact hb13.trans (hW.mono hb13.size))
 have HO43 : Hid (∀ W, Below w3.heap.size w3 W → Ob W (w.heap.size + 1) 28) := fun W hW => HO4.out W (hb13.trans (hW.mono hb13.size))
 have hz3 : w.heap.size + 2 ≤ w3.heap.size := by have := hb13.size; omega
 obtain ⟨⟨a0, a1, a2⟩, _, _, hbw3⟩ := HBX3.out w3 (Below.refl _ _)
 have HS0 : Hid (Sv w3 w3.heap.size (w.heap.size + 1) (.slice none 0 0) S sa sn sc (w3.alloc (.cells #[.slice sa sn sc, .int .i64 24000] 25))) :=
  Sv.start ((HC.out.below hbw3).mono hbw3.size).1 (fun hn b off s e => HBQ0.out b off s hn e) (Below.refl _ _)
 have HOW0 : Hid ((w3.alloc (.cells #[.slice sa sn sc, .int .i64 24000] 25)).ownsRow w3.heap.size 3 1 (.slice none 0 0) 0 []) := ⟨rfl, Or.inl ⟨rfl, rfl⟩⟩
 go_wp2
 go_loopw [14, 72] (fun a i wr => ∃ (k : Nat) (vi : Value) (xo : Option Addr) (xn xc : Nat), vi = a ∧ i = .int .i64 k ∧ k ≤ m ∧ Hid ((se.puts S ((se.texts l).take (k * 2))).2 = 0) ∧ Hid (Sv w3 w3.heap.size (w.heap.size + 1) vi (se.puts S ((se.texts l).take (k * 2))).1 xo xn xc wr) ∧ Hid (wr.ownsRow w3.heap.size 3 1 vi (k * 2) (nums (se.puts S ((se.texts l).take (k * 2))).1 ((se.texts l).take (k * 2))))) (fun _ i _ => m - (intOf i).toNat)
 case atStart => exact ⟨0, _, sa, sn, sc, rfl, rfl, by omega, rfl, HS0.out, HOW0.out⟩
 case round =>
  obtain ⟨k, vi, xo, xn, xc, rfl, rfl, hk, HZ, HS, HO⟩ := hrel
  by_cases hlt : k < m
  ·
   have hkI : (k : Int) < (m : Int) := by omega
   obtain ⟨b, off, rfl, hB, p0, p1⟩ := Labs.get HV3.out HLM.out hlt
   have e0 := (HS.out.below.cell (p := ⟨b, off + k * 2, none⟩) hB).trans p0
   have e1 := (HS.out.below.cell (p := ⟨b, off + k * 2 + 1, none⟩) hB).trans p1
   obtain ⟨ht0, ht1⟩ := lab_texts (l := l) (i := k) (by rw [← HLM.out]; exact hlt)
   obtain ⟨⟨nm, vl⟩, hx⟩ : ∃ x, x = l.getD k (.empty, .empty) := ⟨_, rfl⟩
   rw [← hx] at e0 e1 ht0 ht1
   simp only at e0 e1 ht0 ht1
   have HT0 := Lib.hid ht0
   have HT1 := Lib.hid ht1
   have hAl : Below wr.heap.size wr ((wr.alloc (.cells #[.string nm, .string vl] 47)).alloc (.cells #[.string nm, .string vl] 9)) := ((Below.refl _ _).alloc (Nat.le_refl _) _).alloc (by rw [World.size_alloc]; omega) _
   have HSA := Lib.hid (HS.out.step hAl)
   have HOA := Lib.hid (own_stay HO.out hAl)
   have HB2 : Hid (((wr.alloc (.cells #[.string nm, .string vl] 47)).alloc (.cells #[.string nm, .string vl] 9)).heap[wr.heap.size + 1]? = some (.cells #[.string nm, .string vl] 9 (0, 0))) := by
    have h1 := heap_new (wr.alloc (.cells #[.string nm, .string vl] 47)) #[.string nm, .string vl] 9
    rw [World.size_alloc] at h1; exact h1
   have hzr : w.heap.size + 2 ≤ wr.heap.size := by have := HS.out.below.size; omega
   have hzr3 : w3.heap.size ≤ wr.heap.size := HS.out.below.size
   clear p0 p1 hx ht0 ht1 hAl HS HO
   go_wp2
   go_loopw [14, 82] (fun a i wx => ∃ (j : Nat) (vi : Value) (xo : Option Addr) (xn xc : Nat), vi = a ∧ i = .int .i64 j ∧ j ≤ 2 ∧ Hid ((se.puts S ((se.texts l).take (k * 2 + j))).2 = 0) ∧ Hid (Sv w3 w3.heap.size (w.heap.size + 1) vi (se.puts S ((se.texts l).take (k * 2 + j))).1 xo xn xc wx) ∧ Hid (wx.ownsRow w3.heap.size 3 1 vi (k * 2 + j) (nums (se.puts S ((se.texts l).take (k * 2 + j))).1 ((se.texts l).take (k * 2 + j)))) ∧ Hid (wx.heap[wr.heap.size + 1]? = some (.cells #[.string nm, .string vl] 9 (0, 0)))) (fun _ i _ => 2 - (intOf i).toNat)
   case atStart => exact ⟨0, _, xo, xn, xc, rfl, rfl, by omega, HZ.out, HSA.out, HOA.out, HB2.out⟩
   case round =>
    rename World => wx
    clear e0 e1 HSA HOA HB2 HZ
    obtain ⟨j, vi, xo, xn, xc, rfl, rfl, hj, HZ, HS, HO, HB2⟩ := hrel
    by_cases hj2 : j < 2
    ·
     have hjI : (j : Int) < 2 := by omega
     obtain ⟨t, htj, htc⟩ : ∃ t, (se.texts l)[k * 2 + j]? = some t ∧ (#[.string nm, .string vl] : Array Value)[j]? = some (.string t) := by
      rcases (by omega : j = 0 ∨ j = 1) with rfl | rfl
      ·
       exact ⟨nm, HT0.out, rfl⟩
      ·
       exact ⟨vl, HT1.out, rfl⟩
     have e0 := row_cell HB2.out htc
     have q0c : wx.cell? ⟨w3.heap.size, 0, none⟩ = some (.slice xo xn xc) := row_cell HS.out.row rfl
     have q1c : wx.cell? ⟨w3.heap.size, 1, none⟩ = some (.int .i64 24000) := row_cell HS.out.row rfl
     obtain ⟨HPY, HPN⟩ := puts_step (S := S) htj HZ.out
     have HPC := Lib.hid (put_right 24000 (se.puts S ((se.texts l).take (k * 2 + j))).1 t (.slice xo xn xc) wx (se.puts_right HRT.out) (HTS.out t (List.mem_of_getElem? htj)) HS.out.tab)
     have HNM : Hid ((tb.put 24000 (se.puts S ((se.texts l).take (k * 2 + j))).1 t).2.2 = 0 → nums (tb.put 24000 (se.puts S ((se.texts l).take (k * 2 + j))).1 t).1 ((se.texts l).take (k * 2 + (j + 1))) = nums (se.puts S ((se.texts l).take (k * 2 + j))).1 ((se.texts l).take (k * 2 + j)) ++ [.int .i64 (tb.put 24000 (se.puts S ((se.texts l).take (k * 2 + j))).1 t).2.1]) := fun h => puts_nums HRT.out htj HZ.out h
     unfold PutP at HPC
     have HPY := Lib.hid HPY
     have HPN := Lib.hid HPN
     have hqx : w.heap.size + 1 < wx.heap.size := by have := HS.out.below.size; omega
     obtain ⟨⟨L2, num, code⟩, hrr⟩ : ∃ x, x = tb.put 24000 (se.puts S ((se.texts l).take (k * 2 + j))).1 t := ⟨_, rfl⟩
     rw [← hrr] at HPC HPY HPN HNM
     simp only at HPC HPY HPN HNM
     obtain ⟨xn2, hxn2⟩ : ∃ x, x = L2.length := ⟨_, rfl⟩
     rw [← hxn2] at HPC
     clear hrr htj htc hxn2
     by_cases hc : code = 0
     ·
      subst hc
      have HPY2 := Lib.hid (HPY.out rfl)
      have HNM2 := Lib.hid (HNM.out rfl)
      clear HPY HNM
      go_wp2_with fail
      (with_reducible refine HPC.out.mono ?_)
      rintro e w4 ⟨ao, cap, rfl, hv, htb, hb4⟩
      have HS4 := Lib.hid (HS.out.step hb4)
      have HO4' := Lib.hid (own_stay HO.out hb4)
      have HS5 := Lib.hid (Sv.put HS.out hqx HO.out hb4 hv htb)
      have hrow4 := HS4.out.row
      have p0c : w4.cell? ⟨w3.heap.size, 0, none⟩ = some (.slice xo xn xc) := row_cell hrow4 rfl
      have p1c : w4.cell? ⟨w3.heap.size, 1, none⟩ = some (.int .i64 24000) := row_cell hrow4 rfl
      have pf0 : w4.frozen? ⟨w3.heap.size, 0, none⟩ = false := row_free hrow4
      have pf1 : w4.frozen? ⟨w3.heap.size, 1, none⟩ = false := row_free hrow4
      have hz4 : w3.heap.size < w4.heap.size := HS4.out.lt
      clear q0c q1c e0 hv htb hrow4
      obtain ⟨W5, hW5⟩ : ∃ W, W = (w4.setCell ⟨w3.heap.size, 0, none⟩ (.slice ao xn2 cap)).setCell ⟨w3.heap.size, 1, none⟩ (.int .i64 24000) := ⟨_, rfl⟩
      rw [← hW5] at HS5
      have hs5 : W5.heap.size = w4.heap.size := by rw [hW5, World.size_setCell, World.size_setCell]
      have hO5 : W5.ownsRow w3.heap.size 3 1 vi (k * 2 + j) (nums (se.puts S ((se.texts l).take (k * 2 + j))).1 ((se.texts l).take (k * 2 + j))) := by
       rw [hW5]
       exact own_far_ob (own_far_ob HO4'.out HS4.out.row (by decide)) (heap_set HS4.out.row) (by decide)
      have hB5 : W5.heap[wr.heap.size + 1]? = some (.cells #[.string nm, .string vl] 9 (0, 0)) := by
       have h1 := heap_keep hb4 HB2.out
       rw [hW5, heap_far (by omega), heap_far (by omega)]; exact h1
      have hA5 : Below W5.heap.size W5 (W5.alloc (.cells #[.slice ao xn2 cap, .int .i64 24000] 25)) := (Below.refl _ _).alloc (Nat.le_refl _) _
      have HS6 := Lib.hid (HS5.out.step hA5)
      have HO6 := Lib.hid (own_stay hO5 hA5)
      have HB6 := Lib.hid (heap_keep hA5 hB5)
      rw [hW5] at HO6 HS6 HB6
      clear hO5 hB5 hA5 HS5 hs5 hW5
      go_wp2_with (at_builtin; go_loud (refine kit.app1k (w4.heap.size + 1) (by simp) (.tmp 98) (.tmp 100) 29 rfl rfl w3.heap.size Try.underlying29 infoInt rfl (by decide) (by decide) HO6.out rfl rfl rfl (int_one num) (by omega) (by simp; omega) ?_))
      intro v' w6 hown' hgrow' hblk'
      have hblk2 : v'.ownBlock = vi.ownBlock ∨ ∀ b, v'.ownBlock = some b → ((((w4.setCell ⟨w3.heap.size, 0, none⟩ (.slice ao xn2 cap)).setCell ⟨w3.heap.size, 1, none⟩ (.int .i64 24000)).alloc (.cells #[.slice ao xn2 cap, .int .i64 24000] 25)).alloc (.cells #[.int .i64 num] 3)).heap.size ≤ b := by
       rcases hblk' with h | h
       ·
        exact Or.inl h
       ·
        refine Or.inr fun b hb => ?_
        have := h b hb
        simp only [World.size_alloc, World.size_setCell]; exact this
      have HS7 := Lib.hid (HS6.out.app HO6.out (Nat.le_refl _) hgrow' hblk2)
      have HB7 := Lib.hid (box_app HB6.out HO6.out (by decide) hgrow')
      have HO7 : Hid (w6.ownsRow w3.heap.size 3 1 v' (k * 2 + (j + 1)) (nums (se.puts S ((se.texts l).take (k * 2 + (j + 1)))).1 ((se.texts l).take (k * 2 + (j + 1))))) := by
       have e : se.puts S ((se.texts l).take (k * 2 + (j + 1))) = (L2, 0) := HPY2.out
       show World.ownsRow _ _ _ _ _ _ _
       rw [e, HNM2.out]; exact hown'
      have HS8 : Hid (Sv w3 w3.heap.size (w.heap.size + 1) v' (se.puts S ((se.texts l).take (k * 2 + (j + 1)))).1 ao xn2 cap w6) := by
       have e : se.puts S ((se.texts l).take (k * 2 + (j + 1))) = (L2, 0) := HPY2.out
       show Sv _ _ _ _ _ _ _ _ _
       rw [e]; exact HS7.out
      have HZ8 : Hid ((se.puts S ((se.texts l).take (k * 2 + (j + 1)))).2 = 0) := by
       have e : se.puts S ((se.texts l).take (k * 2 + (j + 1))) = (L2, 0) := HPY2.out
       show _ = _
       rw [e]
      clear hown' hgrow' hblk' hblk2 p0c p1c pf0 pf1 HS7
      go_wp2
      go_roundw
      case rel => exact ⟨j + 1, _, _, _, _, rfl, by go_num, by omega, HZ8.out, HS8.out, HO7.out, HB7.out⟩
      case measure => simp [intOf]; omega
     ·
      have hcn : (code != 0) = true := by simpa using hc
      have HE : Hid (RES = (S, R, 0, code)) := by
       show _ = _
       have h1 := HPN.out hc
       rw [HRES.out, h1, if_pos hc]
      go_wp2_with fail
      (with_reducible refine HPC.out.mono ?_)
      rintro e w4 ⟨ao, cap, rfl, hv, htb, hb4⟩
      clear a0 a1 a2 hv htb hc
      obtain ⟨⟨a0, a1, a2⟩, ⟨b0, b1, b2⟩, ⟨f0, f1, f2⟩, hbw4⟩ := HBX3.out w4 (HS.out.below.trans (hb4.mono HS.out.below.size))
      have hz4 : w.heap.size + 1 < w4.heap.size := by have := hb4.size; omega
      have hBx : Below w4.heap.size w4 (w4.alloc (.cells #[.slice ao xn2 cap, .int .i64 24000] 25)) := (Below.refl _ _).alloc (Nat.le_refl _) _
      have x0 := (hBx.cell (p := ⟨w.heap.size, 0, none⟩) (by show w.heap.size < w4.heap.size; omega)).trans a0
      have x1 := (hBx.cell (p := ⟨w.heap.size, 1, none⟩) (by show w.heap.size < w4.heap.size; omega)).trans a1
      have x2 := (hBx.cell (p := ⟨w.heap.size, 2, none⟩) (by show w.heap.size < w4.heap.size; omega)).trans a2
      have HR1 := Lib.hid (HSAME.out _ code HE.out ((HSET.out w4 (.slice sa sn sc) (.int .i64 24000) (.slice ra q0 rc) hbw4).alloc (by simp; omega) (.cells #[.slice ao xn2 cap, .int .i64 24000] 25)))
      clear q0c q1c e0
      obtain ⟨W6, hW6⟩ : ∃ W, W = (((w4.setCell ⟨w.heap.size + 1, 0, none⟩ (.slice sa sn sc)).setCell ⟨w.heap.size + 1, 1, none⟩ (.int .i64 24000)).setCell ⟨w.heap.size + 1, 2, none⟩ (.slice ra q0 rc)) := ⟨_, rfl⟩
      have hs6 : W6.heap.size = w4.heap.size := by rw [hW6, World.size_setCell, World.size_setCell, World.size_setCell]
      have hB6 : Below W6.heap.size W6 (W6.alloc (.cells #[.slice ao xn2 cap, .int .i64 24000] 25)) := (Below.refl _ _).alloc (Nat.le_refl _) _
      have c0 : W6.cell? ⟨w.heap.size + 1, 0, none⟩ = some (.slice sa sn sc) := by rw [hW6, World.cell?_setCell_other _ _ _ _ (by simp), World.cell?_setCell_other _ _ _ _ (by simp), World.cell?_setCell_same _ _ _ b0]
      have c1 : W6.cell? ⟨w.heap.size + 1, 1, none⟩ = some (.int .i64 24000) := by rw [hW6, World.cell?_setCell_other _ _ _ _ (by simp), World.cell?_setCell_same _ _ _ (u := .int .i64 0) (by rw [World.cell?_setCell_other _ _ _ _ (by simp)]; exact b1)]
      have c2 : W6.cell? ⟨w.heap.size + 1, 2, none⟩ = some (.slice ra q0 rc) := by rw [hW6, World.cell?_setCell_same _ _ _ (u := .slice none 0 0) (by rw [World.cell?_setCell_other _ _ _ _ (by simp), World.cell?_setCell_other _ _ _ _ (by simp)]; exact b2)]
      have g0 := (hB6.cell (p := ⟨w.heap.size + 1, 0, none⟩) (by show w.heap.size + 1 < W6.heap.size; omega)).trans c0
      have g1 := (hB6.cell (p := ⟨w.heap.size + 1, 1, none⟩) (by show w.heap.size + 1 < W6.heap.size; omega)).trans c1
      have g2 := (hB6.cell (p := ⟨w.heap.size + 1, 2, none⟩) (by show w.heap.size + 1 < W6.heap.size; omega)).trans c2
      have HW6 := Lib.hid hW6
      rw [← hW6] at HR1
      clear hs6 hB6 c0 c1 c2 hW6 hBx a0 a1 a2
      have HG := Lib.hid (And.intro g0 (And.intro g1 g2))
      clear g0 g1 g2
      go_wp2
      rw [← HW6.out]
      obtain ⟨g0, g1, g2⟩ := HG.out
      refine bodyPost_ret (v := .tuple #[tval (.slice sa sn sc) (.slice ra q0 rc), .int .i64 0, .int .i64 code]) (by simp [results, Try.results14, go_sem, g0, g1, g2, tval]) rfl ?_
      exact HR1.out
    ·
     obtain rfl : j = 2 := by omega
     have e2 : k * 2 + 2 = (k + 1) * 2 := by omega
     rw [e2] at HZ HS HO
     clear HB2 e2
     go_wp2
     go_roundw
     case rel => exact ⟨k + 1, _, _, _, _, rfl, by go_num, by omega, HZ.out, HS.out, HO.out⟩
     case measure => simp [intOf]; omega
  ·
   obtain rfl : k = m := by omega
   have hfull : (se.texts l).take (k * 2) = se.texts l := List.take_of_length_le (by rw [HTL.out]; exact Nat.le_refl _)
   rw [hfull] at HZ HS HO
   obtain ⟨S2, hS2⟩ : ∃ x, x = (se.puts S (se.texts l)).1 := ⟨_, rfl⟩
   have HE : Hid (RES = (S2, (se.room R F).set F (l, 1), (F : Int), 0)) := by
    show _ = _
    rw [HRES.out, if_neg (by simpa using HZ.out), hS2]
   rw [← hS2] at HS HO HMT
   clear hfull
   obtain ⟨gi, ci, hvi, hgi0, hgi⟩ : ∃ gi ci, vi = .slice (some ⟨gi, 0, none⟩) (k * 2) ci ∧ w3.heap.size ≤ gi ∧ Ob wr gi 3 := by
    rcases own_form HO.out with ⟨_, h0⟩ | ⟨g, cap, e, _⟩
    ·
     omega
    ·
     have h1 := HO.out
     rw [e] at h1
     exact ⟨g, cap, e, (h1.lt _ rfl).1, own_ob h1⟩
   subst hvi
   obtain ⟨⟨d0, d1, d2⟩, _, _, hbwr⟩ := HBX3.out wr HS.out.below
   have HAG := Lib.hid (HAG0.out wr hbwr)
   clear a0 a1 a2
   unfold AgainP at HAG
   go_wp2_with fail
   (with_reducible refine HAG.out.mono ?_)
   rintro e w5 ⟨g, n, rfl, hn, ho, hb5⟩
   have HS5 := Lib.hid (HS.out.step hb5)
   have HO5 := Lib.hid (own_stay HO.out hb5)
   have hgi5 := hgi.keep hb5
   have hFn : F < n := by rw [hn]; exact HML.out
   have hFI : (F : Int) < (n : Int) := by omega
   have hF0 : (0 : Int) ≤ (F : Int) := by omega
   clear d0 d1 d2
   obtain ⟨_, ⟨b0, b1, b2⟩, ⟨f0, f1, f2⟩, hbw5⟩ := HBX3.out w5 HS5.out.below
   have H4 := Lib.hid (HO43.out w5 HS5.out.below)
   have HGO := Lib.hid (own_ob ho.choose_spec.2.2.2)
   obtain ⟨⟨v0, s0⟩, s1, fz0, fz1, hbg, hg1⟩ := ho.spot hFn
   have n1 : ¬ w3.heap.size = g := by have := HS.out.lt; omega
   have n2 : ¬ g = w3.heap.size := fun e => n1 e.symm
   have n3 : ¬ w.heap.size + 1 = g := by have := HS.out.below.size; omega
   have n4 : ¬ g = w.heap.size + 1 := fun e => n3 e.symm
   have hn64 : n ≤ 9223372036854775807 := by have := HOK.out.len; have h1 := hn; rw [more_len] at h1; omega
   have p0c : w5.cell? ⟨w3.heap.size, 0, none⟩ = some (.slice xo xn xc) := row_cell HS5.out.row rfl
   have p1c : w5.cell? ⟨w3.heap.size, 1, none⟩ = some (.int .i64 24000) := row_cell HS5.out.row rfl
   have HRET : Hid (SPutQ RES S R (.slice ra q0 rc) w (.returned (.tuple #[tval (.slice xo xn xc) (.slice (some ⟨g, 0, none⟩) n n), .int .i64 (F : Int), .int .i64 0])) (((((w5.setCell ⟨g, F * 2, none⟩ (.slice (some ⟨gi, 0, none⟩) (k * 2) ci)).setCell ⟨g, F * 2 + 1, none⟩ (.int .i64 1)).setCell ⟨w.heap.size + 1, 0, none⟩ (.slice xo xn xc)).setCell ⟨w.heap.size + 1, 1, none⟩ (.int .i64 24000)).setCell ⟨w.heap.size + 1, 2, none⟩ (.slice (some ⟨g, 0, none⟩) n n))) := by
    have e0 := (ho.base hbwr.size).sym HMT.out
    obtain ⟨e1, _⟩ := e0.set (x := (l, 1)) (ai := some ⟨gi, 0, none⟩) (m := k * 2) (ci := ci) hFn (by
     have h1 := Cells.own HO5.out
     show Cells _ _ _ (se.texts l).length 1 _
     rw [HTL.out]; exact h1) (fun b off s e => by
     simp only [Option.some.injEq, Addr.mk.injEq] at e
     rw [← e.1]; exact ⟨Nat.le_trans hbw3.size hgi0, hgi5⟩)
    have q3 : Ob ((w5.setCell ⟨g, F * 2, none⟩ (.slice (some ⟨gi, 0, none⟩) (k * 2) ci)).setCell ⟨g, F * 2 + 1, none⟩ (.int .i64 1)) (w.heap.size + 1) 28 := HGO.out.same.other (HGO.out.other H4.out n3) n3
    have e4 := e1.far (j := 0) (u := .slice xo xn xc) q3 (by decide) (by decide)
    have e5 := e4.far (j := 1) (u := .int .i64 24000) q3.same (by decide) (by decide)
    have e6 := e5.far (j := 2) (u := .slice (some ⟨g, 0, none⟩) n n) q3.same.same (by decide) (by decide)
    have hfg : 0 < S2.length → ∀ b off s, xo = some ⟨b, off, s⟩ → b ≠ g := fun hn b off s e => by
     have := (HS.out.far hn b off s e).1
     omega
    have hfq : 0 < S2.length → ∀ b off s, xo = some ⟨b, off, s⟩ → b ≠ w.heap.size + 1 := fun hn b off s e => (HS.out.far hn b off s e).2.2.1
    have t1 := cells_far' (j := F * 2) (u := .slice (some ⟨gi, 0, none⟩) (k * 2) ci) HS5.out.tab hfg
    have t2 := cells_far' (j := F * 2 + 1) (u := .int .i64 1) t1 hfg
    have t3 := cells_far' (j := 0) (u := .slice xo xn xc) t2 hfq
    have t4 := cells_far' (j := 1) (u := .int .i64 24000) t3 hfq
    have t5 := cells_far' (j := 2) (u := .slice (some ⟨g, 0, none⟩) n n) t4 hfq
    have hbA := hbw5.setCell (p := ⟨g, F * 2, none⟩) (show w.heap.size ≤ g by have := hbwr.size; omega) (.slice (some ⟨gi, 0, none⟩) (k * 2) ci)
    have hbB := hbA.setCell (p := ⟨g, F * 2 + 1, none⟩) (show w.heap.size ≤ g by have := hbwr.size; omega) (.int .i64 1)
    have hbF := HSET.out _ (.slice xo xn xc) (.int .i64 24000) (.slice (some ⟨g, 0, none⟩) n n) hbB
    rw [HE.out]
    refine ⟨_, _, rfl, ⟨?_, e6.rows⟩, hbF, fun _ => RB.own e6, fun q hq _ => RX.own e6 hq⟩
    show Cells _ _ _ _ _ _
    simp only [World.size_setCell]
    exact t5
   clear ho hn HE hS2 HMT
   go_wp2
   refine bodyPost_ret (v := .tuple #[tval (.slice xo xn xc) (.slice (some ⟨g, 0, none⟩) n n), .int .i64 (F : Int), .int .i64 0]) (by simp [results, Try.results14, go_sem, b0, b1, b2, tval]) rfl ?_
   exact HRET.out
end Go.Proofs.Ytegjpiggjcfoaaa
namespace Go.Proofs.Ytegjpiggjcfoaaa
open Go Go.RowKit Go.ChangeShapes cl Go.Sort
theorem sput_full (s : ByteArray) (r : Int × List Lab) (S : List tb.Sym) (R : List se.Row) (vs vr : Value) (w : World) (hi : lm.Is s r) (hs : s.size ≤ maxLen) (hm : MX w) (hok : se.Ok S R) (h : SerAt w w.heap.size vs vr S R) (hcan : r.1 = 0 → lm.canonF r.2 = (0, r.2)) :
  Calls Try.prog 14 #[tval vs vr, .string s] w (SPutQ (se.put S R r) S R vr w) := by
 by_cases hkn : r.1 ≠ 0 ∨ se.find R r.2 < R.length ∨ se.free R = 4000
 ·
  exact sput_known s r S R vs vr w hi hs hm hok h hkn
 ·
  obtain ⟨f, l⟩ := r
  have h1 : f = 0 := Classical.byContradiction fun e => hkn (Or.inl e)
  subst h1
  exact sput_new s l S R vs vr w hi hs hm hok h (hcan rfl) (fun e => hkn (Or.inr (Or.inl e))) (fun e => hkn (Or.inr (Or.inr e)))
theorem sput_any (s : ByteArray) (r : Int × List Lab) (S : List tb.Sym) (R : List se.Row) (vs vr : Value) (w : World) (hi : lm.Is s r) (hs : s.size ≤ maxLen) (hm : MX w) (hok : se.Ok S R) (h : SerAt w w.heap.size vs vr S R) (hcan : r.1 = 0 → lm.canonF r.2 = (0, r.2)) :
  Calls Try.prog 14 #[tval vs vr, .string s] w (SPutP (se.put S R r) vr w) :=
 (sput_full s r S R vs vr w hi hs hm hok h hcan).mono fun _ _ ⟨vs', vr', h1, h2, h3, h4, _⟩ => ⟨vs', vr', h1, h2, h3, h4⟩
theorem set3_far {W : World} {q b : Nat} {x y z : Value} (hne : q ≠ b) : (((W.setCell ⟨q, 0, none⟩ x).setCell ⟨q, 1, none⟩ y).setCell ⟨q, 2, none⟩ z).heap[b]? = W.heap[b]? := by
 rw [heap_far hne, heap_far hne, heap_far hne]
theorem set3_size {W : World} {q : Nat} {x y z : Value} : (((W.setCell ⟨q, 0, none⟩ x).setCell ⟨q, 1, none⟩ y).setCell ⟨q, 2, none⟩ z).heap.size = W.heap.size := by
 rw [World.size_setCell, World.size_setCell, World.size_setCell]
theorem set3_row {W : World} {q : Nat} {x0 y0 z0 x y z : Value} {T : TypeId} (h : W.heap[q]? = some (.cells #[x0, y0, z0] T (0, 0))) : (((W.setCell ⟨q, 0, none⟩ x).setCell ⟨q, 1, none⟩ y).setCell ⟨q, 2, none⟩ z).heap[q]? = some (.cells #[x, y, z] T (0, 0)) := by
 have h1 := heap_set (j := 0) (u := x) h
 have h2 := heap_set (j := 1) (u := y) h1
 exact heap_set (j := 2) (u := z) h2
theorem ser_off {W W' : World} {q n1 c1 n2 c2 : Nat} {a1 a2 : Option Addr} {z : Int} {vs vr : Value} {S : List tb.Sym} {R : List se.Row} (h : SerAt W W.heap.size vs vr S R) (hr : RB W vr)
  (hq : W.heap[q]? = some (.cells #[.slice a1 n1 c1, .int .i64 z, .slice a2 n2 c2] 28 (0, 0))) (hs : W.heap.size ≤ W'.heap.size) (hk : ∀ b, b < W.heap.size → b ≠ q → W'.heap[b]? = W.heap[b]?) : SerAt W' W'.heap.size vs vr S R := by
 have hcell : ∀ (j : Nat) u, W.cell? ⟨q, j, none⟩ = some u → (#[.slice a1 n1 c1, .int .i64 z, .slice a2 n2 c2] : Array Value)[j]? = some u := fun j u h => by
  simpa [World.cell?, hq] using h
 constructor
 ·
  obtain ⟨h0, ao, c, e, h1, h3, h4⟩ := h.1
  refine ⟨h0, ao, c, e, h1, h3, fun hp => ?_⟩
  obtain ⟨b, off, e2, hB, hc⟩ := h4 hp
  have hne : b ≠ q := by
   rintro rfl
   obtain ⟨g0, _⟩ := tcells_get S 0 hp
   have := hcell _ _ (hc _ _ g0)
   rcases off with _ | _ | _ | off <;> simp at this
  refine ⟨b, off, e2, by omega, fun j u hj => ?_⟩
  rw [World.cell?_of_block (a := ⟨b, off + j, none⟩) (hk b hB hne)]
  exact hc j u hj
 ·
  obtain ⟨cs, h0, h1, h2⟩ := h.2
  refine ⟨cs, h0, fun j c x hc hx => ?_, ?_⟩
  ·
   obtain ⟨e, vi, e1, k0, ao, cc, e2, k1, k3, k4⟩ := h1 j c x hc hx
   refine ⟨e, vi, e1, k0, ao, cc, e2, k1, k3, fun hp => ?_⟩
   obtain ⟨b, off, e3, hB, hcc⟩ := k4 hp
   have hl := se.texts_len x.1
   have hne : b ≠ q := by
    rintro rfl
    have g0 := hcell _ _ (hcc 0 _ (nums_get (List.getElem?_eq_getElem hp)))
    have g1 := hcell _ _ (hcc 1 _ (nums_get (List.getElem?_eq_getElem (by omega))))
    rcases off with _ | _ | _ | off <;> simp at g0 g1
   refine ⟨b, off, e3, by omega, fun j u hj => ?_⟩
   rw [World.cell?_of_block (a := ⟨b, off + j, none⟩) (hk b hB hne)]
   exact hcc j u hj
  ·
   obtain ⟨k0, ao, cc, e2, k1, k3, k4⟩ := h2
   refine ⟨k0, ao, cc, e2, k1, k3, fun hp => ?_⟩
   obtain ⟨b, off, e3, hB, hcc⟩ := k4 hp
   have hne : b ≠ q := by
    rintro rfl
    obtain ⟨cur, hc⟩ := hr b off none _ cc (by rw [e2, e3])
    rw [hq] at hc
    simp only [Option.some.injEq, Obj.cells.injEq] at hc
    exact absurd hc.2.1 (by decide)
   refine ⟨b, off, e3, by omega, fun j u hj => ?_⟩
   rw [World.cell?_of_block (a := ⟨b, off + j, none⟩) (hk b hB hne)]
   exact hcc j u hj
theorem rb_off {W W' : World} {q : Nat} {c : Array Value} {vr : Value} (hr : RB W vr) (hq : W.heap[q]? = some (.cells c 28 (0, 0))) (hk : ∀ b, b < W.heap.size → b ≠ q → W'.heap[b]? = W.heap[b]?) : RB W' vr := fun b off s n cc e => by
 obtain ⟨cur, hc⟩ := hr b off s n cc e
 have hne : b ≠ q := by
  rintro rfl
  rw [hq] at hc
  simp only [Option.some.injEq, Obj.cells.injEq] at hc
  exact absurd hc.2.1 (by decide)
 exact ⟨cur, (hk b (Array.getElem?_eq_some_iff.1 hc).1 hne).trans hc⟩
structure Tv (w : World) (B : Nat) (S : List tb.Sym) (R : List se.Row) (vs vr : Value) (W : World) : Prop where
 ok : se.Ok S R
 ser : SerAt W W.heap.size vs vr S R
 rb : RB W vr
 row : W.heap[B]? = some (.cells #[vs, .int .i64 24000, vr] 28 (0, 0))
 below : Below w.heap.size w W
 low : w.heap.size ≤ B
theorem Tv.step {w W W' : World} {B : Nat} {S : List tb.Sym} {R : List se.Row} {vs vr : Value} (h : Tv w B S R vs vr W) (hb : Below W.heap.size W W') : Tv w B S R vs vr W' :=
 ⟨h.ok, h.ser.next hb, h.rb.next hb, heap_keep hb h.row, h.below.trans (hb.mono h.below.size), h.low⟩
theorem Tv.lt {w W : World} {B : Nat} {S : List tb.Sym} {R : List se.Row} {vs vr : Value} (h : Tv w B S R vs vr W) : B < W.heap.size := (Array.getElem?_eq_some_iff.1 h.row).1
theorem Tv.start {w W : World} {S : List tb.Sym} {R : List se.Row} {vs vr : Value} (hok : se.Ok S R) (h : SerAt W W.heap.size vs vr S R) (hr : RB W vr) (hb : Below w.heap.size w W) : Tv w W.heap.size S R vs vr (W.alloc (.cells #[vs, .int .i64 24000, vr] 28)) := by
 have hB : Below W.heap.size W (W.alloc (.cells #[vs, .int .i64 24000, vr] 28)) := (Below.refl _ _).alloc (Nat.le_refl _) _
 exact ⟨hok, h.next hB, hr.next hB, heap_new _ _ _, hb.trans (hB.mono hb.size), hb.size⟩
theorem SerAt.vals {w : World} {B : Nat} {vs vr : Value} {S : List tb.Sym} {R : List se.Row} (h : SerAt w B vs vr S R) : ∃ a n c a2 n2 c2, vs = .slice a n c ∧ vr = .slice a2 n2 c2 := by
 obtain ⟨a, c, e, _⟩ := Cells.form h.1
 obtain ⟨a2, c2, e2, _⟩ := h.2.form
 exact ⟨a, _, c, a2, _, c2, e, e2⟩
theorem Tv.store {w W : World} {B : Nat} {S S' : List tb.Sym} {R R' : List se.Row} {vs vr vs' vr' : Value} (h : Tv w B S R vs vr W) (hok : se.Ok S' R') (h' : SerAt W W.heap.size vs' vr' S' R') (hr' : RB W vr') :
  Tv w B S' R' vs' vr' (((W.setCell ⟨B, 0, none⟩ vs').setCell ⟨B, 1, none⟩ (.int .i64 24000)).setCell ⟨B, 2, none⟩ vr') := by
 obtain ⟨a, n, c, a2, n2, c2, rfl, rfl⟩ := h.ser.vals
 exact ⟨hok, ser_off h' hr' h.row (by rw [set3_size]; exact Nat.le_refl _) (fun b _ hb => set3_far hb.symm), rb_off hr' h.row (fun b _ hb => set3_far hb.symm), set3_row h.row,
  ((h.below.setCell h.low _).setCell h.low _).setCell h.low _, h.low⟩
theorem Tv.other {w W : World} {B q n1 c1 n2 c2 : Nat} {a1 a2 : Option Addr} {z : Int} {S : List tb.Sym} {R : List se.Row} {vs vr x y u : Value} (h : Tv w B S R vs vr W) (hq : W.heap[q]? = some (.cells #[.slice a1 n1 c1, .int .i64 z, .slice a2 n2 c2] 28 (0, 0))) (hne : q ≠ B) (hl : w.heap.size ≤ q) :
  Tv w B S R vs vr (((W.setCell ⟨q, 0, none⟩ x).setCell ⟨q, 1, none⟩ y).setCell ⟨q, 2, none⟩ u) :=
 ⟨h.ok, ser_off h.ser h.rb hq (by rw [set3_size]; exact Nat.le_refl _) (fun b _ hb => set3_far hb.symm), rb_off h.rb hq (fun b _ hb => set3_far hb.symm), by rw [set3_far hne]; exact h.row,
  ((h.below.setCell hl _).setCell hl _).setCell hl _, h.low⟩
theorem Tv.cell {w W : World} {B : Nat} {S : List tb.Sym} {R : List se.Row} {vs vr : Value} (h : Tv w B S R vs vr W) : (W.cell? ⟨B, 0, none⟩ = some vs ∧ W.cell? ⟨B, 1, none⟩ = some (.int .i64 24000) ∧ W.cell? ⟨B, 2, none⟩ = some vr) ∧ (W.frozen? ⟨B, 0, none⟩ = false ∧ W.frozen? ⟨B, 1, none⟩ = false ∧ W.frozen? ⟨B, 2, none⟩ = false) :=
 ⟨⟨row_cell h.row rfl, row_cell h.row rfl, row_cell h.row rfl⟩, ⟨row_free h.row, row_free h.row, row_free h.row⟩⟩
namespace se
end se
end Go.Proofs.Ytegjpiggjcfoaaa
namespace Go.Proofs.Ytegjpiggjcfoaaa
open Go Go.RowKit Go.ChangeShapes cl
theorem canon_text {l : List Lab} (h : lm.canonF l = (0, l)) : lm.textF l = (0, kit.str (lm.textB l)) := lm.text_iff.2 ⟨h, rfl⟩
def rtext (R : List se.Row) (id : Int) : ByteArray := if se.used R id = true then kit.str (lm.textB (se.at_ R id.toNat).1) else .empty
def STextP (R : List se.Row) (id : Int) (w : World) (e : Ending) (w' : World) : Prop := e = .returned (.tuple #[.string (rtext R id), .bool (se.used R id)]) ∧ Below w.heap.size w w'
set_option maxHeartbeats 3200000 in
set_option maxRecDepth 100000 in
theorem stext_any (id : Int) (S : List tb.Sym) (R : List se.Row) (vs vr : Value) (w : World) (hok : se.Ok S R) (h : SerAt w w.heap.size vs vr S R) :
  Calls Try.prog 17 #[tval vs vr, .int .i64 id] w (STextP R id w) := by
 have hA : Below w.heap.size w (w.alloc (.cells #[vs, .int .i64 24000, vr] 28)) := (Below.refl _ _).alloc (Nat.le_refl _) _
 have HLB := Lib.hid (slabels_any id S R vs vr _ hok (h.next hA))
 have HOK := Lib.hid hok
 obtain ⟨sa, sn, sc, rfl⟩ : ∃ a n c, vs = .slice a n c := by
  obtain ⟨a, c, e, _⟩ := Cells.form h.1
  exact ⟨_, _, _, e⟩
 obtain ⟨ra, rn, rc, rfl⟩ : ∃ a n c, vr = .slice a n c := by
  obtain ⟨a, c, e, _⟩ := h.2.form
  exact ⟨_, _, _, e⟩
 unfold LabsP at HLB
 have HRT : Hid (∀ s u, rtext R id = s → se.used R id = u → ∀ W, Below w.heap.size w W → STextP R id w (.returned (.tuple #[.string s, .bool u])) W) := fun s u h1 h2 W hb => by
  unfold STextP; rw [h1, h2]; exact ⟨rfl, hb⟩
 have HTR : Hid (rtext R id = if se.used R id = true then kit.str (lm.textB (se.at_ R id.toNat).1) else .empty) := rfl
 obtain ⟨F, hF⟩ : ∃ F, F = se.used R id := ⟨_, rfl⟩
 rw [← hF] at HLB HTR HRT
 have HF := Lib.hid hF
 clear h hok hF
 by_cases hu : F = false
 ·
  subst hu
  have HR0 := Lib.hid (HRT.out .empty false HTR.out rfl)
  go_enter Try.func17, Try.ntmps17
  go_wp2_with fail
  (with_reducible refine HLB.out.mono ?_)
  rintro e w1 ⟨v, rfl, _, hb1⟩
  have HRET := Lib.hid (HR0.out _ (hA.trans (hb1.mono hA.size)))
  clear HR0 HRT HTR HLB
  go_wp2
  refine bodyPost_ret (v := .tuple #[.string ⟨#[]⟩, .bool false]) (by simp [results, Try.results17, go_sem]) rfl ?_
  exact HRET.out
 obtain rfl : F = true := by simpa using hu
 have hus : 0 ≤ id ∧ id < (R.length : Int) ∧ 1 ≤ (se.at_ R id.toNat).2 := of_decide_eq_true HF.out.symm
 have HCN := Lib.hid ((HOK.out.row id.toNat (by omega)).2.2.2 (by omega))
 obtain ⟨l, hl⟩ : ∃ l, l = (se.at_ R id.toNat).1 := ⟨_, rfl⟩
 rw [← hl] at HCN HLB HTR
 have HR1 : Hid (∀ W, Below w.heap.size w W → STextP R id w (.returned (.tuple #[.string (kit.str (lm.textB l)), .bool true])) W) := HRT.out _ true HTR.out rfl
 have HT : Hid (∀ v W, Labs W W.heap.size v l → Calls Try.prog 21 #[v] W fun e w' => e = .returned (.tuple #[.string (kit.str (lm.textB l)), .int .i64 0]) ∧ Below W.heap.size W w') := fun v W hv => by
  obtain ⟨_, h6, hz⟩ := canon_len HCN.out
  refine (text_any l v W hv (fun x hx => ?_) (by omega)).mono ?_
  ·
   have := hz x hx
   unfold maxLen; omega
  ·
   rintro e w' ⟨rfl, hb⟩
   rw [canon_text HCN.out]; exact ⟨rfl, hb⟩
 clear hus hl HCN HOK HF HTR HRT hu
 obtain ⟨s, hs⟩ : ∃ s, s = kit.str (lm.textB l) := ⟨_, rfl⟩
 rw [← hs] at HT HR1
 clear hs
 go_enter Try.func17, Try.ntmps17
 go_wp2_with fail
 (with_reducible refine HLB.out.mono ?_)
 rintro e w1 ⟨v, rfl, hv, hb1⟩
 rw [if_pos trivial] at hv
 have HT1 := Lib.hid (HT.out v w1 hv)
 have hb := hA.trans (hb1.mono hA.size)
 clear hv
 go_wp2_with fail
 (with_reducible refine HT1.out.mono ?_)
 rintro e w2 ⟨rfl, hb2⟩
 have HRET := Lib.hid (HR1.out _ (hb.trans (hb2.mono hb.size)))
 clear HR1 HT
 go_wp2
 refine bodyPost_ret (v := .tuple #[.string s, .bool true]) (by simp [results, Try.results17, go_sem]) rfl ?_
 exact HRET.out
end Go.Proofs.Ytegjpiggjcfoaaa
