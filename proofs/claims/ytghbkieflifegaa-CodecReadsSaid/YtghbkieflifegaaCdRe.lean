/- codec: entry, context, delta read. -/
import Derived.Test.YtghbkieflifegaaCdRt
namespace Go.Proofs.Ytghbkieflifegaa
open Go.RowKit Go.ChangeShapes cl
/-- the reader's variable at p, and two more: at q0 and at q1, the one that is filled -/
structure Bx (w : World) (p : Nat) (s : ByteArray) (a q0 : Nat) (T0 : TypeId) (cs0 : Array Value) (q1 : Nat) (T1 : TypeId) (cs1 : Array Value) (W : World) : Prop where
  rd : Rd p s a W
  g : w.grownBy W (some p)
  x0 : W.heap[q0]? = some (.cells cs0 T0 (0, 0))
  x1 : W.heap[q1]? = some (.cells cs1 T1 (0, 0))
  n0 : q0 ≠ p
  n1 : q1 ≠ p
  n01 : q0 ≠ q1
  l0 : w.heap.size ≤ q0
  l1 : w.heap.size ≤ q1
section
variable {w : World} {p : Nat} {s : ByteArray} {a q0 : Nat} {T0 : TypeId} {cs0 : Array Value} {q1 : Nat} {T1 : TypeId} {cs1 : Array Value} {W W' : World}
theorem Bx.call {a' : Nat} (h : Bx w p s a q0 T0 cs0 q1 T1 cs1 W) (hg : W.grownBy W' (some p)) (hd : Rd p s a' W') : Bx w p s a' q0 T0 cs0 q1 T1 cs1 W' :=
  ⟨hd, grown_trans h.g hg, (hg.block q0 (lt_of_block h.x0) (fun e => h.n0 (Option.some.inj e))).trans h.x0, (hg.block q1 (lt_of_block h.x1) (fun e => h.n1 (Option.some.inj e))).trans h.x1, h.n0, h.n1, h.n01, h.l0, h.l1⟩
theorem Bx.set (h : Bx w p s a q0 T0 cs0 q1 T1 cs1 W) (i : Nat) (u : Value) : Bx w p s a q0 T0 cs0 q1 T1 (cs1.setIfInBounds i u) (W.setCell ⟨q1, i, none⟩ u) :=
  ⟨h.rd.other h.n1.symm i u, grown_set h.g h.l1 i u, (Below.heap_setCell _ _ _ _ h.n01).trans h.x0, heap_setCell_same W q1 i _ _ _ h.x1, h.n0, h.n1, h.n01, h.l0, h.l1⟩
theorem Bx.setl {l : List Value} (h : Bx w p s a q0 T0 cs0 q1 T1 l.toArray W) (i : Nat) (u : Value) : Bx w p s a q0 T0 cs0 q1 T1 (l.set i u).toArray (W.setCell ⟨q1, i, none⟩ u) := by
  have := h.set i u
  rwa [List.setIfInBounds_toArray] at this
theorem Bx.ks (h : Bx w p s a q0 T0 cs0 q1 T1 cs1 W) (i : Nat) (u : Value) : Kt T1 W (W.setCell ⟨q1, i, none⟩ u) := Kt.set h.x1 i u
theorem Bx.kc (h : Bx w p s a q0 T0 cs0 q1 T1 cs1 W) (hg : W.grownBy W' (some p)) : Kt 69 W W' := Kt.reader h.rd hg
theorem Bx.swap (h : Bx w p s a q0 T0 cs0 q1 T1 cs1 W) : Bx w p s a q1 T1 cs1 q0 T0 cs0 W := ⟨h.rd, h.g, h.x1, h.x0, h.n1, h.n0, h.n01.symm, h.l1, h.l0⟩
theorem Bx.start (h : Rd p s a w) (T0 T1 : TypeId) (cs0 cs1 : Array Value) {q1 : Nat} (hq : q1 = w.heap.size + 1) : Bx w p s a w.heap.size T0 cs0 q1 T1 cs1 ((w.alloc (.cells cs0 T0)).alloc (.cells cs1 T1)) := by
  subst hq
  have hp := lt_of_block h
  have b1 : Below w.heap.size w (w.alloc (.cells cs0 T0)) := below1
  have b2 : Below (w.alloc (.cells cs0 T0)).heap.size (w.alloc (.cells cs0 T0)) ((w.alloc (.cells cs0 T0)).alloc (.cells cs1 T1)) := below1
  have b3 := b1.trans (b2.mono b1.size)
  refine ⟨h.next b3, grown_below' b3, (b2.block _ (by simp)).trans (heap_alloc_new _ _), ?_, by omega, by omega, by omega, Nat.le_refl _, by omega⟩
  have := heap_alloc_new (w.alloc (.cells cs0 T0)) (.cells cs1 T1)
  rwa [World.size_alloc] at this
end

set_option maxHeartbeats 3200000 in
set_option maxRecDepth 100000 in
theorem rentry_any (p : Nat) (s : ByteArray) (a : Nat) (w : World) (h : Rd p s a w) (hs : s.size ≤ 1099511627776) :
    Calls Try.prog 55 #[.pointer (some ⟨p, 0, none⟩)] w (Reads p s (cd.entR (kit.bytes s) a) (fun w v x => ∃ c, v = .agg c.toArray ∧ entO w c x) w) := by
  have HB0 := Lib.hid (Bx.start h 50 50 #[.string ⟨#[]⟩, .int .i64 0, .int .i64 0, .int .i64 0, .slice none 0 0] #[.string ⟨#[]⟩, .int .i64 0, .int .i64 0, .int .i64 0, .slice none 0 0] rfl)
  have HN0 := Lib.hid (rtext_any p s a _ HB0.out.rd hs)
  clear h
  go_enter Try.func55, Try.ntmps55
  go_wp2_with fail
  (with_reducible refine HN0.out.mono ?_)
  rintro e w1 h
  rcases h.cases with ⟨x0, a1, v, hr0, rfl, ⟨rfl, hsz⟩, ha1, hd, hg⟩ | ⟨c, hr0, hc, rfl, hg⟩
  · have hB := HB0.out.call hg hd
    have HR0 := Lib.hid hr0
    have c0 := boxc hB.x1 0 _ rfl
    have f0 := boxf hB.x1 0
    have HB1 := Lib.hid (hB.setl 0 (.string x0))
    have HN1 := Lib.hid (rdot_any p s a1 _ HB1.out.rd hs)
    clear h hd hg hB hr0 HN0
    go_wp2_with fail
    (with_reducible refine HN1.out.mono ?_)
    rintro e w2 h
    rcases h.cases with ⟨x1, a2, v, hr1, rfl, rfl, ha2, hd, hg⟩ | ⟨c, hr1, hc, rfl, hg⟩
    · have hB := HB1.out.call hg hd
      have HR1 := Lib.hid hr1
      have c1 := boxc hB.x1 1 _ rfl
      have f1 := boxf hB.x1 1
      have c2 := boxc hB.x1 2 _ rfl
      have f2 := boxf hB.x1 2
      have HB2 := Lib.hid ((hB.setl 1 (.int .i64 x1.1)).setl 2 (.int .i64 x1.2))
      have HN2 := Lib.hid (number_any p s a2 _ HB2.out.rd hs)
      clear h hd hg hB hr1 HN1
      go_wp2_with fail
      (with_reducible refine HN2.out.mono ?_)
      rintro e w3 h
      rcases h.cases with ⟨x2, a3, v, hr2, rfl, rfl, ha3, hd, hg⟩ | ⟨c, hr2, hc, rfl, hg⟩
      · have hB := HB2.out.call hg hd
        have HR2 := Lib.hid hr2
        have c3 := boxc hB.x1 3 _ rfl
        have f3 := boxf hB.x1 3
        have HB3 := Lib.hid (hB.setl 3 (.int .i64 (x2 : Int)))
        have HN3 := Lib.hid (rl_link p s a3 _ HB3.out.rd hs)
        clear h hd hg hB hr2 HN2
        go_wp2_with fail
        (with_reducible refine HN3.out.mono ?_)
        rintro e w4 h
        rcases h.cases with ⟨x3, a4, v, hr3, rfl, hE, ha4, hd, hg⟩ | ⟨c, hr3, hc, rfl, hg⟩
        · have hB := HB3.out.call hg hd
          obtain ⟨ol, ml, kl, rfl⟩ := hE.form
          have Ol := Lib.hid hE
          clear hE
          have HR3 := Lib.hid hr3
          have c0 := boxc hB.x1 0 _ rfl
          have f0 := boxf hB.x1 0
          have c1 := boxc hB.x1 1 _ rfl
          have f1 := boxf hB.x1 1
          have c2 := boxc hB.x1 2 _ rfl
          have f2 := boxf hB.x1 2
          have c3 := boxc hB.x1 3 _ rfl
          have f3 := boxf hB.x1 3
          have c4 := boxc hB.x1 4 _ rfl
          have f4 := boxf hB.x1 4
          have z0 := boxc hB.x0 0 _ rfl
          have y0 := boxf hB.x0 0
          have z1 := boxc hB.x0 1 _ rfl
          have y1 := boxf hB.x0 1
          have z2 := boxc hB.x0 2 _ rfl
          have y2 := boxf hB.x0 2
          have z3 := boxc hB.x0 3 _ rfl
          have y3 := boxf hB.x0 3
          have z4 := boxc hB.x0 4 _ rfl
          have y4 := boxf hB.x0 4
          have HB4 := Lib.hid (hB.setl 4 (.slice ol ml kl))
          replace Ol := Lib.hid (Ol.out.kt (lnkO_pst _) (by decide) ((hB.ks 4 (.slice ol ml kl))))
          have HBL := Lib.hid hB
          clear h hd hg hB hr3 HN3
          go_wp2
          refine bodyPost_ret (v := .agg #[.string x0, .int .i64 x1.1, .int .i64 x1.2, .int .i64 (x2 : Int), .slice ol ml kl]) (by simp [results, Try.results55, go_sem, z0, z1, z2, z3, z4]) rfl ?_
          exact Reads.done (((((HB4.out.swap.set 0 _).set 1 _).set 2 _).set 3 _).set 4 _).g (by unfold cd.entR; rw [cd.seqR_ok HR0.out, cd.seqR_ok HR1.out, cd.seqR_ok HR2.out, cd.seqR_ok HR3.out]) ⟨[.string x0, .int .i64 x1.1, .int .i64 x1.2, .int .i64 (x2 : Int), .slice ol ml kl], rfl, _, _, _, rfl, Nat.le_trans hsz (by unfold maxLen; omega), ((Ol.out.kt (lnkO_pst _) (by decide) (((((HB4.out.swap.ks 0 _).trans ((HB4.out.swap.set 0 _).ks 1 _)).trans (((HB4.out.swap.set 0 _).set 1 _).ks 2 _)).trans ((((HB4.out.swap.set 0 _).set 1 _).set 2 _).ks 3 _)).trans (((((HB4.out.swap.set 0 _).set 1 _).set 2 _).set 3 _).ks 4 _))))⟩ ha4 (((((HB4.out.swap.set 0 _).set 1 _).set 2 _).set 3 _).set 4 _).rd
        · exact ⟨rfl, Reads.fail (grown_trans HB3.out.g hg) (by unfold cd.entR; rw [cd.seqR_ok HR0.out, cd.seqR_ok HR1.out, cd.seqR_ok HR2.out, cd.seqR_err hr3]) hc⟩
      · exact ⟨rfl, Reads.fail (grown_trans HB2.out.g hg) (by unfold cd.entR; rw [cd.seqR_ok HR0.out, cd.seqR_ok HR1.out, cd.seqR_err hr2]) hc⟩
    · exact ⟨rfl, Reads.fail (grown_trans HB1.out.g hg) (by unfold cd.entR; rw [cd.seqR_ok HR0.out, cd.seqR_err hr1]) hc⟩
  · exact ⟨rfl, Reads.fail (grown_trans HB0.out.g hg) (by unfold cd.entR; rw [cd.seqR_err hr0]) hc⟩

set_option maxHeartbeats 1600000 in
set_option maxRecDepth 100000 in
theorem rl_entry (p : Nat) (s : ByteArray) (a : Nat) (w : World) (h : Rd p s a w) (hs : s.size ≤ 1099511627776) :
    Calls Try.prog 54 #[.pointer (some ⟨p, 0, none⟩), .func (.func 55) #[] #[]] w (Reads p s (cd.lstR (kit.bytes s) (cd.entR (kit.bytes s)) a) (fun w v l => RowsO 0 50 5 entO w v l) w) := by
  have HN := Lib.hid (number_any p s a w h hs)
  have HR4 : Hid (∀ W : World, Calls Try.prog 34 #[.int .i64 4] W fun e' w' => e' = refusal (4 : Nat) ∧ w' = W) := fun W => refuse_n _ (by omega) W
  have HD := Lib.hid h
  clear h
  go_enter Try.func54, Try.ntmps54
  go_wp2_with fail
  (with_reducible refine HN.out.mono ?_)
  rintro e w1 h
  rcases h.cases with ⟨n, a1, v, hr, rfl, rfl, ha1, hd1, hg1⟩ | ⟨c, hr, hc, rfl, hg1⟩
  · by_cases h4 : 4000 < n
    · have h4i : (4000 : Int) < (n : Int) := by omega
      have HE : Hid (cd.lstR (kit.bytes s) (cd.entR (kit.bytes s)) a = .error 4) := by
        show _ = _
        unfold cd.lstR
        rw [cd.seqR_ok hr, if_pos h4]
      have HG1 := Lib.hid hg1
      clear h hr hd1 hg1 h4 HN
      go_wp2_with fail
      (with_reducible refine (HR4.out _).mono ?_)
      rintro e w2 ⟨rfl, rfl⟩
      exact ⟨rfl, Reads.fail HG1.out HE.out (by omega)⟩
    · have h4i : ¬ (4000 : Int) < (n : Int) := by omega
      have HE : Hid (cd.lstR (kit.bytes s) (cd.entR (kit.bytes s)) a = cd.repR (cd.entR (kit.bytes s)) n a1) := by
        show _ = _
        unfold cd.lstR
        rw [cd.seqR_ok hr, if_neg h4]
      have HG1 := Lib.hid hg1
      have HD1 := Lib.hid hd1
      have hz := hg1.size
      clear h hr hd1 hg1 HN
      go_wp2
      go_loopw [6, 13, 21] (fun v i _ wr => ∃ (k b : Nat) (l : List cd.Ent) (ao : Option Addr) (m cap : Nat), v = .slice ao m cap ∧ i = .int .i64 k ∧ k ≤ n ∧ b ≤ s.size ∧ Hid (cd.repR (cd.entR (kit.bytes s)) k a1 = .ok (l, b)) ∧ Hid (Rd p s b wr) ∧ Hid (w.grownBy wr (some p)) ∧ Hid (RowsO w.heap.size 50 5 entO wr (.slice ao m cap) l)) (fun _ i _ _ => n - (intOf i).toNat)
      case atStart => exact ⟨0, a1, [], none, 0, 0, rfl, rfl, by omega, ha1, rfl, HD1.out, HG1.out, RowsO.nil _⟩
      case round =>
        obtain ⟨k, b, l, ao, m, cap, rfl, rfl, hk, hb, HA, HRd, HG, HO⟩ := hrel
        by_cases hlt : k < n
        · have hkI : (k : Int) < (n : Int) := by omega
          have HC := Lib.hid (rentry_any p s b wr HRd.out hs)
          go_wp2_with fail
          (with_reducible refine HC.out.mono ?_)
          rintro e w2 h
          rcases h.cases with ⟨x, b2, v, hr, rfl, hE, hb2, hd2, hg2⟩ | ⟨c, hr, hc, rfl, hg2⟩
          · obtain ⟨_, rfl, lo, ln, lc, rfl, hsz, hrl⟩ := hE
            have hE : entO w2 [.string x.s, .int .i64 x.d.1, .int .i64 x.d.2, .int .i64 x.t, .slice lo ln lc] x := ⟨lo, ln, lc, rfl, hsz, hrl⟩
            clear hsz hrl
            have HA' : Hid (cd.repR (cd.entR (kit.bytes s)) (k + 1) a1 = .ok (l ++ [x], b2)) := cd.repR_one HA.out hr
            have hG2 := grown_trans HG.out hg2
            obtain ⟨cs, e0, e1, hown⟩ := HO.out.kt (entO_pst' _ (by decide)) (by decide) (Kt.reader HRd.out hg2)
            have hlen := cd.repR_len HA.out
            have hbl : Below w2.heap.size w2 (w2.alloc (.cells #[.string x.s, .int .i64 x.d.1, .int .i64 x.d.2, .int .i64 x.t, .slice lo ln lc] 50)) := below1
            have hml : l.length ≤ 4000 := by omega
            have HLL := Lib.hid hlen
            have HE0 := Lib.hid e0
            have HE1 := Lib.hid e1
            have HD2 := Lib.hid hd2
            have HG2 := Lib.hid hG2
            have HEE := Lib.hid hE
            have hz2 : w.heap.size ≤ w2.heap.size := hG2.size
            clear h hr hd2 hg2 hG2 e0 e1 HC hlen hE
            go_wp2_with (at_builtin; refine app1g (.tmp 15) (.tmp 19) 22 rfl rfl w.heap.size Try.underlying22 info_ent rfl (by decide) (by decide) hown rfl rfl rfl (by intro u hu; simp at hu; rcases hu with rfl | rfl | rfl | rfl | rfl <;> rfl) (by omega) hz2 ?_)
            intro v' w3 hown' hg3
            have hoA := World.ownsRow.alloc hown (.cells #[.string x.s, .int .i64 x.d.1, .int .i64 x.d.2, .int .i64 x.t, .slice lo ln lc] 50)
            have hkA : Kt 50 (w2.alloc (.cells #[.string x.s, .int .i64 x.d.1, .int .i64 x.d.2, .int .i64 x.t, .slice lo ln lc] 50)) w3 := Kt.append hoA hg3
            have hkB : Kt 50 w2 w3 := (Kt.of_below hbl).trans hkA
            have HO' : Hid (RowsO w.heap.size 50 5 entO w3 v' (l ++ [x])) := RowsO.snoc (c := [.string x.s, .int .i64 x.d.1, .int .i64 x.d.2, .int .i64 x.t, .slice lo ln lc]) HE0.out HE1.out hkB (entO_pst' _ (by decide)) rfl HEE.out (by simpa using hown')
            have HD3 : Hid (Rd p s b2 w3) := HD2.out.kt hkB (by decide)
            have HG3 : Hid (w.grownBy w3 (some p)) := grown_append (grown_trans HG2.out (grown_below' hbl)) hoA hg3
            obtain ⟨o3, m3, c3, rfl⟩ := own_slice hown'
            clear hown' hown hg3 hoA hkA hkB hbl HEE
            go_wp2
            go_roundw
            case rel => exact ⟨k + 1, b2, l ++ [x], o3, m3, c3, rfl, by go_num, by omega, hb2, HA', HD3, HG3, HO'⟩
            case measure => simp [intOf]; omega
          · exact ⟨rfl, Reads.fail (grown_trans HG.out hg2) (by rw [HE.out]; exact cd.repR_bad HA.out hr hlt) hc⟩
        · have HEa : Hid (cd.lstR (kit.bytes s) (cd.entR (kit.bytes s)) a = .ok (l, b)) := by
            show _ = _
            obtain rfl : k = n := by omega
            rw [HE.out]; exact HA.out
          go_wp2
          go_ret
          exact Reads.done HG.out HEa.out (RowsO.base HO.out) hb HRd.out
  · refine ⟨rfl, Reads.fail hg1 ?_ hc⟩
    unfold cd.lstR
    exact cd.seqR_err hr

set_option maxHeartbeats 1600000 in
set_option maxRecDepth 100000 in
theorem rcontext_any (p : Nat) (s : ByteArray) (a : Nat) (w : World) (h : Rd p s a w) (hs : s.size ≤ 1099511627776) :
    Calls Try.prog 31 #[.pointer (some ⟨p, 0, none⟩)] w (Reads p s (cd.ctxR (kit.bytes s) a) (fun w v x => ∃ a1 n1 c1 a2 n2 c2, v = .agg #[.slice a1 n1 c1, .slice a2 n2 c2] ∧ RowsO 0 47 2 dotO w (.slice a1 n1 c1) x.1 ∧ RowsO 0 47 2 dotO w (.slice a2 n2 c2) x.2) w) := by
  have hb0 : Below w.heap.size w (w.alloc (.cells #[.slice none 0 0, .slice none 0 0] 25)) := below1
  have hp := lt_of_block h
  have HD0 := Lib.hid (h.next hb0)
  have HN := Lib.hid (rl_dot p s a _ HD0.out hs)
  have hgA := grown_below' (r := some p) hb0
  have HX := Lib.hid (heap_alloc_new w (.cells #[.slice none 0 0, .slice none 0 0] 25))
  have hpq : ¬ w.heap.size = p := by omega
  have hqp : some w.heap.size ≠ some p := fun e => hpq (Option.some.inj e)
  clear h hb0
  go_enter Try.func31, Try.ntmps31
  go_wp2_with fail
  (with_reducible refine HN.out.mono ?_)
  rintro e w1 h
  rcases h.cases with ⟨x, a1, v, hr1, rfl, hE, ha1, hd1, hg1⟩ | ⟨c, hr1, hc, rfl, hg1⟩
  · have hx1 := (hg1.block w.heap.size (by simp) hqp).trans HX.out
    obtain ⟨o1, m1, k1, rfl⟩ := hE.form
    have HO1 := Lib.hid hE
    have HG1 := Lib.hid (grown_trans hgA hg1)
    have hs1 : w.heap.size < w1.heap.size := lt_of_block hx1
    have HX1 := Lib.hid hx1
    have HD1 := Lib.hid hd1
    have HN2 := Lib.hid (rl_dot p s a1 w1 hd1 hs)
    have HR1 := Lib.hid hr1
    clear h hd1 hg1 hx1 HN hr1 hgA hE
    go_wp2_with fail
    (with_reducible refine HN2.out.mono ?_)
    rintro e w2 h
    rcases h.cases with ⟨y, a2, v, hr2, rfl, hE, ha2, hd2, hg2⟩ | ⟨c, hr2, hc, rfl, hg2⟩
    · have hx2 := (hg2.block w.heap.size hs1 hqp).trans HX1.out
      obtain ⟨o2, m2, k2, rfl⟩ := hE.form
      have HO2 := Lib.hid hE
      have HG2 := Lib.hid (grown_trans HG1.out hg2)
      have HO1' := Lib.hid (HO1.out.kt (dotO_pst _) (by decide) (Kt.reader HD1.out hg2))
      have c0 := boxc hx2 0 _ rfl
      have c1 := boxc hx2 1 _ rfl
      have f0 := boxf hx2 0
      have f1 := boxf hx2 1
      have HX2 := Lib.hid hx2
      have HD2 := Lib.hid hd2
      have HR2 := Lib.hid hr2
      clear h hd2 hg2 hx2 HN2 hr2 hE
      go_wp2
      have KX := (Kt.set HX2.out 0 (.slice o1 m1 k1)).trans (Kt.set (heap_setCell_same w2 w.heap.size 0 _ _ _ HX2.out) 1 (.slice o2 m2 k2))
      refine bodyPost_ret (v := .agg #[.slice o1 m1 k1, .slice o2 m2 k2]) (by simp [results, Try.results31, go_sem, c0, c1]) rfl ?_
      refine Reads.done ?_ (by unfold cd.ctxR; rw [cd.seqR_ok HR1.out, cd.seqR_ok HR2.out]) ⟨o1, m1, k1, o2, m2, k2, rfl, HO1'.out.kt (dotO_pst _) (by decide) KX, HO2.out.kt (dotO_pst _) (by decide) KX⟩ ha2 ?_
      · exact grown_set (grown_set HG2.out (Nat.le_refl _) 0 _) (Nat.le_refl _) 1 _
      · exact ((HD2.out.other (fun e => hpq e.symm) 0 _).other (fun e => hpq e.symm) 1 _)
    · exact ⟨rfl, Reads.fail (grown_trans HG1.out hg2) (by unfold cd.ctxR; rw [cd.seqR_ok HR1.out, cd.seqR_err hr2]) hc⟩
  · exact ⟨rfl, Reads.fail (grown_trans hgA hg1) (by unfold cd.ctxR; rw [cd.seqR_err hr1]) hc⟩

set_option maxHeartbeats 3200000 in
set_option maxRecDepth 100000 in
theorem rdelta_any (p : Nat) (s : ByteArray) (a : Nat) (w : World) (h : Rd p s a w) (hs : s.size ≤ 1099511627776) :
    Calls Try.prog 30 #[.pointer (some ⟨p, 0, none⟩)] w (Reads p s (cd.delR (kit.bytes s) a) (fun w v x => ∃ a3 n3 c3 a4 n4 c4 a1 n1 c1 a2 n2 c2, v = .agg #[.slice a3 n3 c3, .slice a4 n4 c4, .slice a1 n1 c1, .slice a2 n2 c2] ∧ RowsO 0 50 5 entO w (.slice a3 n3 c3) x.1 ∧ RowsO 0 47 2 dotO w (.slice a4 n4 c4) x.2.1 ∧ RowsO 0 47 2 dotO w (.slice a1 n1 c1) x.2.2.1 ∧ RowsO 0 47 2 dotO w (.slice a2 n2 c2) x.2.2.2) w) := by
  have HB0 := Lib.hid (Bx.start h 27 27 #[.slice none 0 0, .slice none 0 0, .slice none 0 0, .slice none 0 0] #[.slice none 0 0, .slice none 0 0, .slice none 0 0, .slice none 0 0] rfl)
  have HN0 := Lib.hid (rl_entry p s a _ HB0.out.rd hs)
  clear h
  go_enter Try.func30, Try.ntmps30
  go_wp2_with fail
  (with_reducible refine HN0.out.mono ?_)
  rintro e w1 h
  rcases h.cases with ⟨x0, a1, v, hr0, rfl, hE, ha1, hd, hg⟩ | ⟨c, hr0, hc, rfl, hg⟩
  · have hB := HB0.out.call hg hd
    obtain ⟨oe, me, ke, rfl⟩ := hE.form
    have Oe := Lib.hid hE
    clear hE
    have HR0 := Lib.hid hr0
    have c0 := boxc hB.x1 0 _ rfl
    have f0 := boxf hB.x1 0
    have HB1 := Lib.hid (hB.setl 0 (.slice oe me ke))
    replace Oe := Lib.hid (Oe.out.kt (entO_pst (by decide)) (by decide) ((hB.ks 0 (.slice oe me ke))))
    have HN1 := Lib.hid (rl_dot p s a1 _ HB1.out.rd hs)
    clear h hd hg hB hr0 HN0
    go_wp2_with fail
    (with_reducible refine HN1.out.mono ?_)
    rintro e w2 h
    rcases h.cases with ⟨x1, a2, v, hr1, rfl, hE, ha2, hd, hg⟩ | ⟨c, hr1, hc, rfl, hg⟩
    · have hB := HB1.out.call hg hd
      replace Oe := Lib.hid (Oe.out.kt (entO_pst (by decide)) (by decide) (HB1.out.kc hg))
      obtain ⟨oa, ma, ka, rfl⟩ := hE.form
      have Oa := Lib.hid hE
      clear hE
      have HR1 := Lib.hid hr1
      have c1 := boxc hB.x1 1 _ rfl
      have f1 := boxf hB.x1 1
      have HB2 := Lib.hid (hB.setl 1 (.slice oa ma ka))
      replace Oe := Lib.hid (Oe.out.kt (entO_pst (by decide)) (by decide) ((hB.ks 1 (.slice oa ma ka))))
      replace Oa := Lib.hid (Oa.out.kt (dotO_pst _) (by decide) ((hB.ks 1 (.slice oa ma ka))))
      have HN2 := Lib.hid (rcontext_any p s a2 _ HB2.out.rd hs)
      clear h hd hg hB hr1 HN1
      go_wp2_with fail
      (with_reducible refine HN2.out.mono ?_)
      rintro e w3 h
      rcases h.cases with ⟨x2, a3, v, hr2, rfl, ⟨ov, mv, kv, oc, mc, kc, rfl, hE1, hE2⟩, ha3, hd, hg⟩ | ⟨c, hr2, hc, rfl, hg⟩
      · have hB := HB2.out.call hg hd
        replace Oe := Lib.hid (Oe.out.kt (entO_pst (by decide)) (by decide) (HB2.out.kc hg))
        replace Oa := Lib.hid (Oa.out.kt (dotO_pst _) (by decide) (HB2.out.kc hg))
        have Ov := Lib.hid hE1
        have Oc := Lib.hid hE2
        clear hE1 hE2
        have HR2 := Lib.hid hr2
        have c0 := boxc hB.x1 0 _ rfl
        have f0 := boxf hB.x1 0
        have c1 := boxc hB.x1 1 _ rfl
        have f1 := boxf hB.x1 1
        have c2 := boxc hB.x1 2 _ rfl
        have f2 := boxf hB.x1 2
        have c3 := boxc hB.x1 3 _ rfl
        have f3 := boxf hB.x1 3
        have z0 := boxc hB.x0 0 _ rfl
        have y0 := boxf hB.x0 0
        have z1 := boxc hB.x0 1 _ rfl
        have y1 := boxf hB.x0 1
        have z2 := boxc hB.x0 2 _ rfl
        have y2 := boxf hB.x0 2
        have z3 := boxc hB.x0 3 _ rfl
        have y3 := boxf hB.x0 3
        have HB3 := Lib.hid ((hB.setl 2 (.slice ov mv kv)).setl 3 (.slice oc mc kc))
        replace Oe := Lib.hid (Oe.out.kt (entO_pst (by decide)) (by decide) (((hB.ks 2 (.slice ov mv kv)).trans ((hB.setl 2 (.slice ov mv kv)).ks 3 (.slice oc mc kc)))))
        replace Oa := Lib.hid (Oa.out.kt (dotO_pst _) (by decide) (((hB.ks 2 (.slice ov mv kv)).trans ((hB.setl 2 (.slice ov mv kv)).ks 3 (.slice oc mc kc)))))
        replace Ov := Lib.hid (Ov.out.kt (dotO_pst _) (by decide) (((hB.ks 2 (.slice ov mv kv)).trans ((hB.setl 2 (.slice ov mv kv)).ks 3 (.slice oc mc kc)))))
        replace Oc := Lib.hid (Oc.out.kt (dotO_pst _) (by decide) (((hB.ks 2 (.slice ov mv kv)).trans ((hB.setl 2 (.slice ov mv kv)).ks 3 (.slice oc mc kc)))))
        have HBL := Lib.hid hB
        clear h hd hg hB hr2 HN2
        go_wp2
        refine bodyPost_ret (v := .agg #[.slice oe me ke, .slice oa ma ka, .slice ov mv kv, .slice oc mc kc]) (by simp [results, Try.results30, go_sem, z0, z1, z2, z3]) rfl ?_
        exact Reads.done ((((HB3.out.swap.set 0 _).set 1 _).set 2 _).set 3 _).g (by unfold cd.delR; rw [cd.seqR_ok HR0.out, cd.seqR_ok HR1.out, cd.seqR_ok HR2.out]) ⟨oe, me, ke, oa, ma, ka, ov, mv, kv, oc, mc, kc, rfl, ((Oe.out.kt (entO_pst (by decide)) (by decide) ((((HB3.out.swap.ks 0 _).trans ((HB3.out.swap.set 0 _).ks 1 _)).trans (((HB3.out.swap.set 0 _).set 1 _).ks 2 _)).trans ((((HB3.out.swap.set 0 _).set 1 _).set 2 _).ks 3 _)))), ((Oa.out.kt (dotO_pst _) (by decide) ((((HB3.out.swap.ks 0 _).trans ((HB3.out.swap.set 0 _).ks 1 _)).trans (((HB3.out.swap.set 0 _).set 1 _).ks 2 _)).trans ((((HB3.out.swap.set 0 _).set 1 _).set 2 _).ks 3 _)))), ((Ov.out.kt (dotO_pst _) (by decide) ((((HB3.out.swap.ks 0 _).trans ((HB3.out.swap.set 0 _).ks 1 _)).trans (((HB3.out.swap.set 0 _).set 1 _).ks 2 _)).trans ((((HB3.out.swap.set 0 _).set 1 _).set 2 _).ks 3 _)))), ((Oc.out.kt (dotO_pst _) (by decide) ((((HB3.out.swap.ks 0 _).trans ((HB3.out.swap.set 0 _).ks 1 _)).trans (((HB3.out.swap.set 0 _).set 1 _).ks 2 _)).trans ((((HB3.out.swap.set 0 _).set 1 _).set 2 _).ks 3 _))))⟩ ha3 ((((HB3.out.swap.set 0 _).set 1 _).set 2 _).set 3 _).rd
      · exact ⟨rfl, Reads.fail (grown_trans HB2.out.g hg) (by unfold cd.delR; rw [cd.seqR_ok HR0.out, cd.seqR_ok HR1.out, cd.seqR_err hr2]) hc⟩
    · exact ⟨rfl, Reads.fail (grown_trans HB1.out.g hg) (by unfold cd.delR; rw [cd.seqR_ok HR0.out, cd.seqR_err hr1]) hc⟩
  · exact ⟨rfl, Reads.fail (grown_trans HB0.out.g hg) (by unfold cd.delR; rw [cd.seqR_err hr0]) hc⟩
end Go.Proofs.Ytghbkieflifegaa
