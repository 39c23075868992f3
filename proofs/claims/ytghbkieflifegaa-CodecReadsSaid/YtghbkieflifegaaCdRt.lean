/- codec: dot, link, entry, context, delta read. -/
import Derived.Test.YtghbkieflifegaaCdRl
namespace Go.Proofs.Ytghbkieflifegaa
open Go.RowKit Go.ChangeShapes cl
theorem boxc {w : World} {q : Nat} {cs : Array Value} {t : TypeId} {fr : Nat × Nat} (h : w.heap[q]? = some (.cells cs t fr)) (i : Nat) (u : Value) (hu : cs[i]? = some u) : w.cell? ⟨q, i, none⟩ = some u := by simp [World.cell?, h, hu]
theorem boxf {w : World} {q : Nat} {cs : Array Value} {t : TypeId} (h : w.heap[q]? = some (.cells cs t (0, 0))) (i : Nat) : w.frozen? ⟨q, i, none⟩ = false := by simp [World.frozen?, h]
theorem grown_set {w w2 : World} {p q : Nat} (h : w.grownBy w2 (some p)) (hq : w.heap.size ≤ q) (i : Nat) (u : Value) : w.grownBy (w2.setCell ⟨q, i, none⟩ u) (some p) :=
  ⟨h.os, h.tape, h.output, by rw [World.size_setCell]; exact h.size, fun k hk hp => (Below.heap_setCell _ _ _ _ (show k ≠ q by omega)).trans (h.block k hk hp)⟩
theorem Rd.other {w : World} {p q a : Nat} {s : ByteArray} (h : Rd p s a w) (hq : p ≠ q) (i : Nat) (u : Value) : Rd p s a (w.setCell ⟨q, i, none⟩ u) := (Below.heap_setCell _ _ _ _ hq).trans h
theorem Kt.set {w : World} {q : Nat} {cs : Array Value} {T : TypeId} {fr : Nat × Nat} (h : w.heap[q]? = some (.cells cs T fr)) (i : Nat) (u : Value) : Kt T w (w.setCell ⟨q, i, none⟩ u) :=
  ⟨by rw [World.size_setCell]; exact Nat.le_refl _, fun k _ hn => Below.heap_setCell _ _ _ _ (fun e => by
    have e : k = q := e
    subst e
    exact hn _ _ h)⟩

set_option maxHeartbeats 1600000 in
set_option maxRecDepth 100000 in
theorem rdot_any (p : Nat) (s : ByteArray) (a : Nat) (w : World) (h : Rd p s a w) (hs : s.size ≤ 1099511627776) :
    Calls Try.prog 57 #[.pointer (some ⟨p, 0, none⟩)] w (Reads p s (cd.dotR (kit.bytes s) a) (fun _ v x => v = .agg #[.int .i64 x.1, .int .i64 x.2]) w) := by
  have hb0 : Below w.heap.size w (w.alloc (.cells #[.int .i64 0, .int .i64 0] 47)) := below1
  have hp := lt_of_block h
  have HN := Lib.hid (number_any p s a _ (h.next hb0) hs)
  have hgA := grown_below' (r := some p) hb0
  have HX := Lib.hid (heap_alloc_new w (.cells #[.int .i64 0, .int .i64 0] 47))
  have hpq : ¬ w.heap.size = p := by omega
  have hqp : some w.heap.size ≠ some p := fun e => hpq (Option.some.inj e)
  clear h hb0
  go_enter Try.func57, Try.ntmps57
  go_wp2_with fail
  (with_reducible refine HN.out.mono ?_)
  rintro e w1 h
  rcases h.cases with ⟨x, a1, v, hr1, rfl, rfl, ha1, hd1, hg1⟩ | ⟨c, hr1, hc, rfl, hg1⟩
  · have hx1 := (hg1.block w.heap.size (by simp) hqp).trans HX.out
    have HG1 := Lib.hid (grown_trans hgA hg1)
    have hs1 : w.heap.size < w1.heap.size := lt_of_block hx1
    have HX1 := Lib.hid hx1
    have HN2 := Lib.hid (number_any p s a1 w1 hd1 hs)
    have HR1 := Lib.hid hr1
    clear h hd1 hg1 hx1 HN hr1 hgA
    go_wp2_with fail
    (with_reducible refine HN2.out.mono ?_)
    rintro e w2 h
    rcases h.cases with ⟨y, a2, v, hr2, rfl, rfl, ha2, hd2, hg2⟩ | ⟨c, hr2, hc, rfl, hg2⟩
    · have hx2 := (hg2.block w.heap.size hs1 hqp).trans HX1.out
      have HG2 := Lib.hid (grown_trans HG1.out hg2)
      have c0 := boxc hx2 0 _ rfl
      have f0 := boxf hx2 0
      have c1 := boxc hx2 1 _ rfl
      have f1 := boxf hx2 1
      have HX2 := Lib.hid hx2
      have HD2 := Lib.hid hd2
      have HR2 := Lib.hid hr2
      clear h hd2 hg2 hx2 HN2 hr2
      go_wp2
      refine bodyPost_ret (v := .agg #[.int .i64 (x : Int), .int .i64 (y : Int)]) (by simp [results, Try.results57, go_sem, c0, c1]) rfl ?_
      refine Reads.done ?_ (by unfold cd.dotR; rw [cd.seqR_ok HR1.out, cd.seqR_ok HR2.out]) rfl ha2 ?_
      · exact grown_set (grown_set (HG2.out) (Nat.le_refl _) 0 _) (Nat.le_refl _) 1 _
      · exact ((HD2.out.other (fun e => hpq e.symm) 0 _).other (fun e => hpq e.symm) 1 _)
    · exact ⟨rfl, Reads.fail (grown_trans HG1.out hg2) (by unfold cd.dotR; rw [cd.seqR_ok HR1.out, cd.seqR_err hr2]) hc⟩
  · exact ⟨rfl, Reads.fail (grown_trans hgA hg1) (by unfold cd.dotR; rw [cd.seqR_err hr1]) hc⟩

set_option maxHeartbeats 1600000 in
set_option maxRecDepth 100000 in
theorem rlink_any (p : Nat) (s : ByteArray) (a : Nat) (w : World) (h : Rd p s a w) (hs : s.size ≤ 1099511627776) :
    Calls Try.prog 67 #[.pointer (some ⟨p, 0, none⟩)] w (Reads p s (cd.lnkR (kit.bytes s) a) (fun _ v x => v = .agg #[.int .i64 x.1, .int .i64 x.2.1, .int .i64 x.2.2]) w) := by
  have hb0 : Below w.heap.size w (w.alloc (.cells #[.int .i64 0, .int .i64 0, .int .i64 0] 91)) := below1
  have hp := lt_of_block h
  have HN := Lib.hid (number_any p s a _ (h.next hb0) hs)
  have hgA := grown_below' (r := some p) hb0
  have HX := Lib.hid (heap_alloc_new w (.cells #[.int .i64 0, .int .i64 0, .int .i64 0] 91))
  have hpq : ¬ w.heap.size = p := by omega
  have hqp : some w.heap.size ≠ some p := fun e => hpq (Option.some.inj e)
  clear h hb0
  go_enter Try.func67, Try.ntmps67
  go_wp2_with fail
  (with_reducible refine HN.out.mono ?_)
  rintro e w1 h
  rcases h.cases with ⟨x, a1, v, hr1, rfl, rfl, ha1, hd1, hg1⟩ | ⟨c, hr1, hc, rfl, hg1⟩
  · have hx1 := (hg1.block w.heap.size (by simp) hqp).trans HX.out
    have HG1 := Lib.hid (grown_trans hgA hg1)
    have hs1 : w.heap.size < w1.heap.size := lt_of_block hx1
    have HX1 := Lib.hid hx1
    have HN2 := Lib.hid (rdot_any p s a1 w1 hd1 hs)
    have HR1 := Lib.hid hr1
    clear h hd1 hg1 hx1 HN hr1 hgA
    go_wp2_with fail
    (with_reducible refine HN2.out.mono ?_)
    rintro e w2 h
    rcases h.cases with ⟨y, a2, v, hr2, rfl, rfl, ha2, hd2, hg2⟩ | ⟨c, hr2, hc, rfl, hg2⟩
    · have hx2 := (hg2.block w.heap.size hs1 hqp).trans HX1.out
      have HG2 := Lib.hid (grown_trans HG1.out hg2)
      have c0 := boxc hx2 0 _ rfl
      have f0 := boxf hx2 0
      have c1 := boxc hx2 1 _ rfl
      have f1 := boxf hx2 1
      have c2 := boxc hx2 2 _ rfl
      have f2 := boxf hx2 2
      have HX2 := Lib.hid hx2
      have HD2 := Lib.hid hd2
      have HR2 := Lib.hid hr2
      clear h hd2 hg2 hx2 HN2 hr2
      go_wp2
      refine bodyPost_ret (v := .agg #[.int .i64 (x : Int), .int .i64 y.1, .int .i64 y.2]) (by simp [results, Try.results67, go_sem, c0, c1, c2]) rfl ?_
      refine Reads.done ?_ (by unfold cd.lnkR; rw [cd.seqR_ok HR1.out, cd.seqR_ok HR2.out]) rfl ha2 ?_
      · exact grown_set (grown_set (grown_set (HG2.out) (Nat.le_refl _) 0 _) (Nat.le_refl _) 1 _) (Nat.le_refl _) 2 _
      · exact (((HD2.out.other (fun e => hpq e.symm) 0 _).other (fun e => hpq e.symm) 1 _).other (fun e => hpq e.symm) 2 _)
    · exact ⟨rfl, Reads.fail (grown_trans HG1.out hg2) (by unfold cd.lnkR; rw [cd.seqR_ok HR1.out, cd.seqR_err hr2]) hc⟩
  · exact ⟨rfl, Reads.fail (grown_trans hgA hg1) (by unfold cd.lnkR; rw [cd.seqR_err hr1]) hc⟩

set_option maxHeartbeats 1600000 in
set_option maxRecDepth 100000 in
theorem rl_dot (p : Nat) (s : ByteArray) (a : Nat) (w : World) (h : Rd p s a w) (hs : s.size ≤ 1099511627776) :
    Calls Try.prog 56 #[.pointer (some ⟨p, 0, none⟩), .func (.func 57) #[] #[]] w (Reads p s (cd.lstR (kit.bytes s) (cd.dotR (kit.bytes s)) a) (fun w v l => RowsO 0 47 2 dotO w v l) w) := by
  have HN := Lib.hid (number_any p s a w h hs)
  have HR4 : Hid (∀ W : World, Calls Try.prog 34 #[.int .i64 4] W fun e' w' => e' = refusal (4 : Nat) ∧ w' = W) := fun W => refuse_n _ (by omega) W
  have HD := Lib.hid h
  clear h
  go_enter Try.func56, Try.ntmps56
  go_wp2_with fail
  (with_reducible refine HN.out.mono ?_)
  rintro e w1 h
  rcases h.cases with ⟨n, a1, v, hr, rfl, rfl, ha1, hd1, hg1⟩ | ⟨c, hr, hc, rfl, hg1⟩
  · by_cases h4 : 4000 < n
    · have h4i : (4000 : Int) < (n : Int) := by omega
      have HE : Hid (cd.lstR (kit.bytes s) (cd.dotR (kit.bytes s)) a = .error 4) := by
        show _ = _
        unfold cd.lstR
        rw [cd.seqR_ok hr, if_pos h4]
      have HG1 := Lib.hid hg1
      clear h hr hd1 hg1 h4 HN
      go_wp2_with fail
      (with_reducible refine (HR4.out _).mono ?_)
      rintro e w2 ⟨rfl, rfl⟩
      exact ⟨rfl, Reads.fail HG1.out HE.out (by omega)⟩
    · have h4i : ¬ (4000 : Int) < (n : Int) := by omega
      have HE : Hid (cd.lstR (kit.bytes s) (cd.dotR (kit.bytes s)) a = cd.repR (cd.dotR (kit.bytes s)) n a1) := by
        show _ = _
        unfold cd.lstR
        rw [cd.seqR_ok hr, if_neg h4]
      have HG1 := Lib.hid hg1
      have HD1 := Lib.hid hd1
      have hz := hg1.size
      clear h hr hd1 hg1 HN
      go_wp2
      go_loopw [6, 13, 21] (fun v i _ wr => ∃ (k b : Nat) (l : List cd.D) (ao : Option Addr) (m cap : Nat), v = .slice ao m cap ∧ i = .int .i64 k ∧ k ≤ n ∧ b ≤ s.size ∧ Hid (cd.repR (cd.dotR (kit.bytes s)) k a1 = .ok (l, b)) ∧ Hid (Rd p s b wr) ∧ Hid (w.grownBy wr (some p)) ∧ Hid (RowsO w.heap.size 47 2 dotO wr (.slice ao m cap) l)) (fun _ i _ _ => n - (intOf i).toNat)
      case atStart => exact ⟨0, a1, [], none, 0, 0, rfl, rfl, by omega, ha1, rfl, HD1.out, HG1.out, RowsO.nil _⟩
      case round =>
        obtain ⟨k, b, l, ao, m, cap, rfl, rfl, hk, hb, HA, HRd, HG, HO⟩ := hrel
        by_cases hlt : k < n
        · have hkI : (k : Int) < (n : Int) := by omega
          have HC := Lib.hid (rdot_any p s b wr HRd.out hs)
          go_wp2_with fail
          (with_reducible refine HC.out.mono ?_)
          rintro e w2 h
          rcases h.cases with ⟨x, b2, v, hr, rfl, hE, hb2, hd2, hg2⟩ | ⟨c, hr, hc, rfl, hg2⟩
          · subst hE
            have hE : dotO w2 [.int .i64 x.1, .int .i64 x.2] x := rfl
            have HA' : Hid (cd.repR (cd.dotR (kit.bytes s)) (k + 1) a1 = .ok (l ++ [x], b2)) := cd.repR_one HA.out hr
            have hG2 := grown_trans HG.out hg2
            obtain ⟨cs, e0, e1, hown⟩ := HO.out.kt (dotO_pst' _ (by decide)) (by decide) (Kt.reader HRd.out hg2)
            have hlen := cd.repR_len HA.out
            have hbl : Below w2.heap.size w2 (w2.alloc (.cells #[.int .i64 x.1, .int .i64 x.2] 47)) := below1
            have hml : l.length ≤ 4000 := by omega
            have HLL := Lib.hid hlen
            have HE0 := Lib.hid e0
            have HE1 := Lib.hid e1
            have HD2 := Lib.hid hd2
            have HG2 := Lib.hid hG2
            have HEE := Lib.hid hE
            have hz2 : w.heap.size ≤ w2.heap.size := hG2.size
            clear h hr hd2 hg2 hG2 e0 e1 HC hlen hE
            go_wp2_with (at_builtin; refine app1g (.tmp 15) (.tmp 19) 23 rfl rfl w.heap.size Try.underlying23 info_dot rfl (by decide) (by decide) hown rfl rfl rfl (by intro u hu; simp at hu; rcases hu with rfl | rfl <;> rfl) (by omega) hz2 ?_)
            intro v' w3 hown' hg3
            have hoA := World.ownsRow.alloc hown (.cells #[.int .i64 x.1, .int .i64 x.2] 47)
            have hkA : Kt 47 (w2.alloc (.cells #[.int .i64 x.1, .int .i64 x.2] 47)) w3 := Kt.append hoA hg3
            have hkB : Kt 47 w2 w3 := (Kt.of_below hbl).trans hkA
            have HO' : Hid (RowsO w.heap.size 47 2 dotO w3 v' (l ++ [x])) := RowsO.snoc (c := [.int .i64 x.1, .int .i64 x.2]) HE0.out HE1.out hkB (dotO_pst' _ (by decide)) rfl HEE.out (by simpa using hown')
            have HD3 : Hid (Rd p s b2 w3) := HD2.out.kt hkB (by decide)
            have HG3 : Hid (w.grownBy w3 (some p)) := grown_append (grown_trans HG2.out (grown_below' hbl)) hoA hg3
            obtain ⟨o3, m3, c3, rfl⟩ := own_slice hown'
            clear hown' hown hg3 hoA hkA hkB hbl HEE
            go_wp2
            go_roundw
            case rel => exact ⟨k + 1, b2, l ++ [x], o3, m3, c3, rfl, by go_num, by omega, hb2, HA', HD3, HG3, HO'⟩
            case measure => simp [intOf]; omega
          · exact ⟨rfl, Reads.fail (grown_trans HG.out hg2) (by rw [HE.out]; exact cd.repR_bad HA.out hr hlt) hc⟩
        · have HEa : Hid (cd.lstR (kit.bytes s) (cd.dotR (kit.bytes s)) a = .ok (l, b)) := by
            show _ = _
            obtain rfl : k = n := by omega
            rw [HE.out]; exact HA.out
          go_wp2
          go_ret
          exact Reads.done HG.out HEa.out (RowsO.base HO.out) hb HRd.out
  · refine ⟨rfl, Reads.fail hg1 ?_ hc⟩
    unfold cd.lstR
    exact cd.seqR_err hr

set_option maxHeartbeats 1600000 in
set_option maxRecDepth 100000 in
theorem rl_link (p : Nat) (s : ByteArray) (a : Nat) (w : World) (h : Rd p s a w) (hs : s.size ≤ 1099511627776) :
    Calls Try.prog 66 #[.pointer (some ⟨p, 0, none⟩), .func (.func 67) #[] #[]] w (Reads p s (cd.lstR (kit.bytes s) (cd.lnkR (kit.bytes s)) a) (fun w v l => RowsO 0 91 3 lnkO w v l) w) := by
  have HN := Lib.hid (number_any p s a w h hs)
  have HR4 : Hid (∀ W : World, Calls Try.prog 34 #[.int .i64 4] W fun e' w' => e' = refusal (4 : Nat) ∧ w' = W) := fun W => refuse_n _ (by omega) W
  have HD := Lib.hid h
  clear h
  go_enter Try.func66, Try.ntmps66
  go_wp2_with fail
  (with_reducible refine HN.out.mono ?_)
  rintro e w1 h
  rcases h.cases with ⟨n, a1, v, hr, rfl, rfl, ha1, hd1, hg1⟩ | ⟨c, hr, hc, rfl, hg1⟩
  · by_cases h4 : 4000 < n
    · have h4i : (4000 : Int) < (n : Int) := by omega
      have HE : Hid (cd.lstR (kit.bytes s) (cd.lnkR (kit.bytes s)) a = .error 4) := by
        show _ = _
        unfold cd.lstR
        rw [cd.seqR_ok hr, if_pos h4]
      have HG1 := Lib.hid hg1
      clear h hr hd1 hg1 h4 HN
      go_wp2_with fail
      (with_reducible refine (HR4.out _).mono ?_)
      rintro e w2 ⟨rfl, rfl⟩
      exact ⟨rfl, Reads.fail HG1.out HE.out (by omega)⟩
    · have h4i : ¬ (4000 : Int) < (n : Int) := by omega
      have HE : Hid (cd.lstR (kit.bytes s) (cd.lnkR (kit.bytes s)) a = cd.repR (cd.lnkR (kit.bytes s)) n a1) := by
        show _ = _
        unfold cd.lstR
        rw [cd.seqR_ok hr, if_neg h4]
      have HG1 := Lib.hid hg1
      have HD1 := Lib.hid hd1
      have hz := hg1.size
      clear h hr hd1 hg1 HN
      go_wp2
      go_loopw [6, 13, 21] (fun v i _ wr => ∃ (k b : Nat) (l : List cd.Lk) (ao : Option Addr) (m cap : Nat), v = .slice ao m cap ∧ i = .int .i64 k ∧ k ≤ n ∧ b ≤ s.size ∧ Hid (cd.repR (cd.lnkR (kit.bytes s)) k a1 = .ok (l, b)) ∧ Hid (Rd p s b wr) ∧ Hid (w.grownBy wr (some p)) ∧ Hid (RowsO w.heap.size 91 3 lnkO wr (.slice ao m cap) l)) (fun _ i _ _ => n - (intOf i).toNat)
      case atStart => exact ⟨0, a1, [], none, 0, 0, rfl, rfl, by omega, ha1, rfl, HD1.out, HG1.out, RowsO.nil _⟩
      case round =>
        obtain ⟨k, b, l, ao, m, cap, rfl, rfl, hk, hb, HA, HRd, HG, HO⟩ := hrel
        by_cases hlt : k < n
        · have hkI : (k : Int) < (n : Int) := by omega
          have HC := Lib.hid (rlink_any p s b wr HRd.out hs)
          go_wp2_with fail
          (with_reducible refine HC.out.mono ?_)
          rintro e w2 h
          rcases h.cases with ⟨x, b2, v, hr, rfl, hE, hb2, hd2, hg2⟩ | ⟨c, hr, hc, rfl, hg2⟩
          · subst hE
            have hE : lnkO w2 [.int .i64 x.1, .int .i64 x.2.1, .int .i64 x.2.2] x := rfl
            have HA' : Hid (cd.repR (cd.lnkR (kit.bytes s)) (k + 1) a1 = .ok (l ++ [x], b2)) := cd.repR_one HA.out hr
            have hG2 := grown_trans HG.out hg2
            obtain ⟨cs, e0, e1, hown⟩ := HO.out.kt (lnkO_pst' _ (by decide)) (by decide) (Kt.reader HRd.out hg2)
            have hlen := cd.repR_len HA.out
            have hbl : Below w2.heap.size w2 (w2.alloc (.cells #[.int .i64 x.1, .int .i64 x.2.1, .int .i64 x.2.2] 91)) := below1
            have hml : l.length ≤ 4000 := by omega
            have HLL := Lib.hid hlen
            have HE0 := Lib.hid e0
            have HE1 := Lib.hid e1
            have HD2 := Lib.hid hd2
            have HG2 := Lib.hid hG2
            have HEE := Lib.hid hE
            have hz2 : w.heap.size ≤ w2.heap.size := hG2.size
            clear h hr hd2 hg2 hG2 e0 e1 HC hlen hE
            go_wp2_with (at_builtin; refine app1g (.tmp 15) (.tmp 19) 48 rfl rfl w.heap.size Try.underlying48 info_lnk rfl (by decide) (by decide) hown rfl rfl rfl (by intro u hu; simp at hu; rcases hu with rfl | rfl | rfl <;> rfl) (by omega) hz2 ?_)
            intro v' w3 hown' hg3
            have hoA := World.ownsRow.alloc hown (.cells #[.int .i64 x.1, .int .i64 x.2.1, .int .i64 x.2.2] 91)
            have hkA : Kt 91 (w2.alloc (.cells #[.int .i64 x.1, .int .i64 x.2.1, .int .i64 x.2.2] 91)) w3 := Kt.append hoA hg3
            have hkB : Kt 91 w2 w3 := (Kt.of_below hbl).trans hkA
            have HO' : Hid (RowsO w.heap.size 91 3 lnkO w3 v' (l ++ [x])) := RowsO.snoc (c := [.int .i64 x.1, .int .i64 x.2.1, .int .i64 x.2.2]) HE0.out HE1.out hkB (lnkO_pst' _ (by decide)) rfl HEE.out (by simpa using hown')
            have HD3 : Hid (Rd p s b2 w3) := HD2.out.kt hkB (by decide)
            have HG3 : Hid (w.grownBy w3 (some p)) := grown_append (grown_trans HG2.out (grown_below' hbl)) hoA hg3
            obtain ⟨o3, m3, c3, rfl⟩ := own_slice hown'
            clear hown' hown hg3 hoA hkA hkB hbl HEE
            go_wp2
            go_roundw
            case rel => exact ⟨k + 1, b2, l ++ [x], o3, m3, c3, rfl, by go_num, by omega, hb2, HA', HD3, HG3, HO'⟩
            case measure => simp [intOf]; omega
          · exact ⟨rfl, Reads.fail (grown_trans HG.out hg2) (by rw [HE.out]; exact cd.repR_bad HA.out hr hlt) hc⟩
        · have HEa : Hid (cd.lstR (kit.bytes s) (cd.lnkR (kit.bytes s)) a = .ok (l, b)) := by
            show _ = _
            obtain rfl : k = n := by omega
            rw [HE.out]; exact HA.out
          go_wp2
          go_ret
          exact Reads.done HG.out HEa.out (RowsO.base HO.out) hb HRd.out
  · refine ⟨rfl, Reads.fail hg1 ?_ hc⟩
    unfold cd.lstR
    exact cd.seqR_err hr
end Go.Proofs.Ytghbkieflifegaa
