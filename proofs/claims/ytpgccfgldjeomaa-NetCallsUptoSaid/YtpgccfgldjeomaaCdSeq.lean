/- codec: entry, context, delta. -/
import Derived.Test.YtpgccfgldjeomaaCdWl
namespace Go.Proofs.Ytpgccfgldjeomaa
open Go.RowKit Go.ChangeShapes cl

set_option maxHeartbeats 1600000 in
set_option maxRecDepth 100000 in
theorem entry_any (B p : Nat) (pre : List Nat) (x : cd.Ent) (lo : Option Addr) (ln lc : Nat) (w : World) (hw : Wr B p pre w) (hsz : x.s.size ≤ maxLen) (hv : RowsAt 3 lnkR w B (.slice lo ln lc) x.l) (hl : pre.length + 76030 ≤ 1099511627776) :
    Calls Try.prog 42 #[.pointer (some ⟨p, 0, none⟩), .agg #[.string x.s, .int .i64 x.d.1, .int .i64 x.d.2, .int .i64 x.t, .slice lo ln lc]] w (Wrote B p pre (cd.ent x) w) := by
  have HSF := Lib.hid (hw.fresh #[.string x.s, .int .i64 x.d.1, .int .i64 x.d.2, .int .i64 x.t, .slice lo ln lc] (t := 78) (by decide))
  have hw0 := hw.step (below1 (o := .cells #[.string x.s, .int .i64 x.d.1, .int .i64 x.d.2, .int .i64 x.t, .slice lo ln lc] 78))
  have HW := Lib.hid hw
  have HK0 : Hid (Kp B p w (w.alloc (.cells #[.string x.s, .int .i64 x.d.1, .int .i64 x.d.2, .int .i64 x.t, .slice lo ln lc] 78))) := Kp.of_below below1
  have HB0 : Hid (Kp B p (w.alloc (.cells #[.string x.s, .int .i64 x.d.1, .int .i64 x.d.2, .int .i64 x.t, .slice lo ln lc] 78)) (w.alloc (.cells #[.string x.s, .int .i64 x.d.1, .int .i64 x.d.2, .int .i64 x.t, .slice lo ln lc] 78))) := Kp.refl _ _ _
  have HN0 := Lib.hid (text_any B p pre x.s (w.alloc (.cells #[.string x.s, .int .i64 x.d.1, .int .i64 x.d.2, .int .i64 x.t, .slice lo ln lc] 78)) hw0 hsz (by omega))
  have HV := Lib.hid hv
  clear hv
  clear hw0 hw
  go_enter Try.func42, Try.ntmps42
  go_wp2_with fail
  (with_reducible refine HN0.out.mono ?_)
  rintro e w1 h
  rcases h.cases with ⟨b0, ht0, rfl, h2, hk⟩ | ⟨ht0, rfl, hk⟩
  · have HK1 : Hid (Kp B p w w1) := HK0.out.trans hk
    have HB1 : Hid (Kp B p (w.alloc (.cells #[.string x.s, .int .i64 x.d.1, .int .i64 x.d.2, .int .i64 x.t, .slice lo ln lc] 78)) w1) := HB0.out.trans hk
    have hbl0 : b0.length ≤ 4006 := cd.txt_len ht0
    have HT0 := Lib.hid ht0
    have k1 : w1.cell? ⟨w.heap.size, 1, none⟩ = some (.int .i64 x.d.1) := (HB1.out.cell HSF.out 1).trans (by rw [World.cell?_alloc_at _ _ _ _ rfl]; rfl)
    have k2 : w1.cell? ⟨w.heap.size, 2, none⟩ = some (.int .i64 x.d.2) := (HB1.out.cell HSF.out 2).trans (by rw [World.cell?_alloc_at _ _ _ _ rfl]; rfl)
    have HN1 := Lib.hid (dot_any B p (pre ++ b0) x.d w1 h2 (by simp only [List.length_append]; omega))
    clear h hk h2 HN0 ht0
    go_wp2_with fail
    (with_reducible refine HN1.out.mono ?_)
    rintro e w2 h
    rcases h.cases with ⟨b1, ht1, rfl, h2, hk⟩ | ⟨ht1, rfl, hk⟩
    · have HK2 : Hid (Kp B p w w2) := HK1.out.trans hk
      have HB2 : Hid (Kp B p (w.alloc (.cells #[.string x.s, .int .i64 x.d.1, .int .i64 x.d.2, .int .i64 x.t, .slice lo ln lc] 78)) w2) := HB1.out.trans hk
      have hbl1 : b1.length ≤ 12 := cd.dot_len ht1
      have HT1 := Lib.hid ht1
      have k3 : w2.cell? ⟨w.heap.size, 3, none⟩ = some (.int .i64 x.t) := (HB2.out.cell HSF.out 3).trans (by rw [World.cell?_alloc_at _ _ _ _ rfl]; rfl)
      have HN2 := Lib.hid (numbers_lit B p ((pre ++ b0) ++ b1) [x.t] #[.int .i64 x.t] 1 w2 rfl h2 rfl rfl (by decide) (by simp only [List.length_append]; omega))
      clear h hk h2 HN1 ht1
      go_wp2_with fail
      (with_reducible refine HN2.out.mono ?_)
      rintro e w3 h
      rcases h.cases with ⟨b2, ht2, rfl, h2, hk⟩ | ⟨ht2, rfl, hk⟩
      · have HK3 : Hid (Kp B p w w3) := HK2.out.trans hk
        have HB3 : Hid (Kp B p (w.alloc (.cells #[.string x.s, .int .i64 x.d.1, .int .i64 x.d.2, .int .i64 x.t, .slice lo ln lc] 78)) w3) := HB2.out.trans hk
        have hbl2 : b2.length ≤ 6 := cd.nums_len ht2
        have HT2 := Lib.hid ht2
        have k4 : w3.cell? ⟨w.heap.size, 4, none⟩ = some (.slice lo ln lc) := (HB3.out.cell HSF.out 4).trans (by rw [World.cell?_alloc_at _ _ _ _ rfl]; rfl)
        have HN3 := Lib.hid (wl_link B p (((pre ++ b0) ++ b1) ++ b2) x.l (.slice lo ln lc) w3 h2 (HV.out.below lnkR_steady (HK3.out.below HW.out) (Nat.le_refl _)) (by simp only [List.length_append]; omega))
        clear h hk h2 HN2 ht2
        go_wp2_with fail
        (with_reducible refine HN3.out.mono ?_)
        rintro e w4 h
        rcases h.cases with ⟨b3, ht3, rfl, h2, hk⟩ | ⟨ht3, rfl, hk⟩
        · go_wp2
          go_end0
          exact Wrote.done (b := (b0 ++ (b1 ++ (b2 ++ b3)))) (HK3.out.trans hk) (by simpa only [List.append_assoc] using h2) (by show cd.app (cd.txt x.s) (cd.app (cd.dot x.d) (cd.app (cd.each cd.num [x.t]) (cd.lst cd.lnk x.l))) = _; rw [HT0.out, HT1.out, HT2.out, ht3]; rfl)
        · exact ⟨rfl, Wrote.fail (HK3.out.trans hk) (by show cd.app (cd.txt x.s) (cd.app (cd.dot x.d) (cd.app (cd.each cd.num [x.t]) (cd.lst cd.lnk x.l))) = _; rw [HT0.out, HT1.out, HT2.out, ht3]; rfl)⟩
      · exact ⟨rfl, Wrote.fail (HK2.out.trans hk) (by show cd.app (cd.txt x.s) (cd.app (cd.dot x.d) (cd.app (cd.each cd.num [x.t]) (cd.lst cd.lnk x.l))) = _; rw [HT0.out, HT1.out, ht2]; rfl)⟩
    · exact ⟨rfl, Wrote.fail (HK1.out.trans hk) (by show cd.app (cd.txt x.s) (cd.app (cd.dot x.d) (cd.app (cd.each cd.num [x.t]) (cd.lst cd.lnk x.l))) = _; rw [HT0.out, ht1]; rfl)⟩
  · exact ⟨rfl, Wrote.fail (HK0.out.trans hk) (by show cd.app (cd.txt x.s) (cd.app (cd.dot x.d) (cd.app (cd.each cd.num [x.t]) (cd.lst cd.lnk x.l))) = _; rw [ht0]; rfl)⟩

set_option maxHeartbeats 800000 in
set_option maxRecDepth 100000 in
theorem wl_entry (B p : Nat) (pre : List Nat) (l : List cd.Ent) (v : Value) (w : World) (hw : Wr B p pre w) (hv : RowsAt 5 entR w B v l) (hl : pre.length + 304120006 ≤ 1099511627776) :
    Calls Try.prog 41 #[.pointer (some ⟨p, 0, none⟩), v, .func (.func 42) #[] #[]] w (Wrote B p pre (cd.lst cd.ent l) w) := by
  obtain ⟨n, hn⟩ : ∃ n, n = l.length := ⟨_, rfl⟩
  obtain ⟨ao, cap, rfl, hnc, hnm⟩ := hv.form' hn
  unfold maxLen at hnm
  have HR1 : Hid (∀ W : World, Calls Try.prog 40 #[.int .i64 1] W fun e w' => e = refusal 1 ∧ w' = W) := refuse_1
  have HN := Lib.hid hn
  have HV := Lib.hid hv
  have HW := Lib.hid hw
  by_cases h4 : 4000 < n
  · have HE : Hid (cd.lst cd.ent l = none) := if_pos (by rw [← hn]; exact h4)
    have h4i : (4000 : Int) < (n : Int) := by omega
    clear hv hw hn
    go_enter Try.func41, Try.ntmps41
    go_wp2_with fail
    (with_reducible refine (HR1.out _).mono ?_)
    rintro e w1 ⟨rfl, rfl⟩
    exact ⟨rfl, Wrote.fail (Kp.refl _ _ _) HE.out⟩
  · have h4i : ¬ (4000 : Int) < (n : Int) := by omega
    have HE : Hid (cd.lst cd.ent l = cd.app (cd.each cd.num [(n : Int)]) (cd.each cd.ent l)) := by
      show _ = _
      rw [show cd.each cd.num [(n : Int)] = cd.num n from cd.app_nil _]
      unfold cd.lst
      rw [if_neg (by rw [← hn]; exact h4), ← hn]
    have HNL := Lib.hid (numbers_lit B p pre [(n : Int)] #[.int .i64 (n : Int)] 1 w rfl hw rfl rfl (by decide) (by omega))
    clear hv hw hn
    go_enter Try.func41, Try.ntmps41
    go_wp2_with fail
    (with_reducible refine HNL.out.mono ?_)
    rintro e w1 h
    rcases h.cases with ⟨b0, ht, rfl, h2, hk⟩ | ⟨ht, rfl, hk⟩
    · have hb0 := cd.nums_len ht
      simp only [List.length_cons, List.length_nil] at hb0
      have HT0 := Lib.hid ht
      have HW1 := Lib.hid h2
      have HK1 := Lib.hid hk
      clear h ht h2 hk HNL
      go_wp2
      go_loopw [19, 27] (fun i _ wr => ∃ (k : Nat) (a : List Nat), i = .int .i64 k ∧ k ≤ n ∧ a.length ≤ k * 76030 ∧ Hid (cd.each cd.ent (l.take k) = some a) ∧ Hid (Wr B p (pre ++ b0 ++ a) wr) ∧ Hid (Kp B p w wr)) (fun i _ _ => n - (intOf i).toNat)
      case atStart => exact ⟨0, [], rfl, by omega, by simp, rfl, by show Wr _ _ _ _; rw [List.append_nil]; exact HW1.out, HK1.out⟩
      case round =>
        obtain ⟨k, a, rfl, hk, hak, HA, HWr, HK⟩ := hrel
        by_cases hlt : k < n
        · have hkI : (k : Int) < (n : Int) := by omega
          have hS := each_split' cd.ent default (l := l) (k := k) (by rw [← HN.out]; exact hlt) HA.out
          obtain ⟨b, off, c, rfl, hbB, hck, hR, hcell⟩ := (HV.out.below entR_steady (HK.out.below HW.out) (Nat.le_refl _)).get HN.out hlt default
          obtain ⟨x, hx⟩ : ∃ x, x = l.getD k default := ⟨_, rfl⟩
          rw [← hx] at hR hS
          obtain ⟨lo, ln, lc, rfl, hsz, hlk⟩ := hR
          obtain ⟨x0, ⟨x1, x2⟩, x3, x4⟩ := x
          have c0 : wr.cell? ⟨b, off + k * 5, none⟩ = some (.string x0) := by simpa using hcell 0 _ rfl
          have c1 : wr.cell? ⟨b, off + k * 5 + 1, none⟩ = some (.int .i64 x1) := by simpa using hcell 1 _ rfl
          have c2 : wr.cell? ⟨b, off + k * 5 + 2, none⟩ = some (.int .i64 x2) := by simpa using hcell 2 _ rfl
          have c3 : wr.cell? ⟨b, off + k * 5 + 3, none⟩ = some (.int .i64 x3) := by simpa using hcell 3 _ rfl
          have c4 : wr.cell? ⟨b, off + k * 5 + 4, none⟩ = some (.slice lo ln lc) := by simpa using hcell 4 _ rfl

          have HS := Lib.hid hS
          have hlen : (pre ++ b0 ++ a).length + 76030 ≤ 1099511627776 := by rw [List.length_append, List.length_append]; omega
          have HO : Hid (Calls Try.prog 42 #[.pointer (some ⟨p, 0, none⟩), .agg #[.string x0, .int .i64 x1, .int .i64 x2, .int .i64 x3, .slice lo ln lc]] (wr.alloc (.cells #[.string x0, .int .i64 x1, .int .i64 x2, .int .i64 x3, .slice lo ln lc] 78)) (Wrote B p (pre ++ b0 ++ a) (cd.ent ⟨x0, (x1, x2), x3, x4⟩) wr)) := (entry_any B p (pre ++ b0 ++ a) ⟨x0, (x1, x2), x3, x4⟩ lo ln lc _ (HWr.out.step below1) hsz (hlk.below lnkR_steady (below1.mono (by have := HWr.out.lt; have := HWr.out.1; omega)) (Nat.le_refl _)) hlen).mono fun _ _ h => h.from (Kp.of_below below1)
          clear hlk hsz
          clear hS hx hlen
          go_wp2_with fail
          (with_reducible refine HO.out.mono ?_)
          rintro e w2 h
          rcases h.cases with ⟨b1, ht, rfl, h2, hk2⟩ | ⟨ht, rfl, hk2⟩
          · have hb1 : b1.length ≤ 76030 := cd.ent_len ht
            have HA' : Hid (cd.each cd.ent (l.take (k + 1)) = some (a ++ b1)) := by show _ = _; rw [HS.out.1, ht, cd.app_some]
            have HW' : Hid (Wr B p (pre ++ b0 ++ (a ++ b1)) w2) := by show Wr _ _ _ _; rw [← List.append_assoc]; exact h2
            have HK' : Hid (Kp B p w w2) := HK.out.trans hk2
            clear h ht h2 hk2 HO hcell
            go_wp2
            go_roundw
            case rel => exact ⟨k + 1, a ++ b1, by go_num, by omega, by rw [List.length_append]; omega, HA', HW', HK'⟩
            case measure => simp [intOf]; omega
          · exact ⟨rfl, Wrote.fail (HK.out.trans hk2) (by rw [HE.out, HS.out.2 ht]; exact cd.app_none _)⟩
        · have HEa : Hid (cd.each cd.ent l = some a) := by
            show _ = _
            have := HA.out
            rwa [List.take_of_length_le (by rw [← HN.out]; omega)] at this
          go_wp2
          go_end0
          exact Wrote.done HK.out (by rw [← List.append_assoc]; exact HWr.out) (by rw [HE.out, HT0.out, HEa.out]; rfl)
    · exact ⟨rfl, Wrote.fail hk (by rw [HE.out, ht]; rfl)⟩

set_option maxHeartbeats 1600000 in
set_option maxRecDepth 100000 in
theorem context_any (B p : Nat) (pre : List Nat) (v c : List cd.D) (a1 : Option Addr) (n1 c1 : Nat) (a2 : Option Addr) (n2 c2 : Nat) (w : World) (hw : Wr B p pre w) (hv : RowsAt 2 dotR w B (.slice a1 n1 c1) v) (hc : RowsAt 2 dotR w B (.slice a2 n2 c2) c) (hl : pre.length + 96012 ≤ 1099511627776) :
    Calls Try.prog 33 #[.pointer (some ⟨p, 0, none⟩), .agg #[.slice a1 n1 c1, .slice a2 n2 c2]] w (Wrote B p pre (cd.ctx v c) w) := by
  have HSF := Lib.hid (hw.fresh #[.slice a1 n1 c1, .slice a2 n2 c2] (t := 26) (by decide))
  have hw0 := hw.step (below1 (o := .cells #[.slice a1 n1 c1, .slice a2 n2 c2] 26))
  have HW := Lib.hid hw
  have HK0 : Hid (Kp B p w (w.alloc (.cells #[.slice a1 n1 c1, .slice a2 n2 c2] 26))) := Kp.of_below below1
  have HB0 : Hid (Kp B p (w.alloc (.cells #[.slice a1 n1 c1, .slice a2 n2 c2] 26)) (w.alloc (.cells #[.slice a1 n1 c1, .slice a2 n2 c2] 26))) := Kp.refl _ _ _
  have HN0 := Lib.hid (wl_dot B p pre v (.slice a1 n1 c1) (w.alloc (.cells #[.slice a1 n1 c1, .slice a2 n2 c2] 26)) hw0 (hv.below dotR_steady (HK0.out.below HW.out) (Nat.le_refl _)) (by omega))
  have HV := Lib.hid hc
  clear hv hc
  clear hw0 hw
  go_enter Try.func33, Try.ntmps33
  go_wp2_with fail
  (with_reducible refine HN0.out.mono ?_)
  rintro e w1 h
  rcases h.cases with ⟨b0, ht0, rfl, h2, hk⟩ | ⟨ht0, rfl, hk⟩
  · have HK1 : Hid (Kp B p w w1) := HK0.out.trans hk
    have HB1 : Hid (Kp B p (w.alloc (.cells #[.slice a1 n1 c1, .slice a2 n2 c2] 26)) w1) := HB0.out.trans hk
    have hbl0 : b0.length ≤ 48006 := cd.lst_len (fun _ _ h => cd.dot_len h) ht0
    have HT0 := Lib.hid ht0
    have k1 : w1.cell? ⟨w.heap.size, 1, none⟩ = some (.slice a2 n2 c2) := (HB1.out.cell HSF.out 1).trans (by rw [World.cell?_alloc_at _ _ _ _ rfl]; rfl)
    have HN1 := Lib.hid (wl_dot B p (pre ++ b0) c (.slice a2 n2 c2) w1 h2 (HV.out.below dotR_steady (HK1.out.below HW.out) (Nat.le_refl _)) (by simp only [List.length_append]; omega))
    clear h hk h2 HN0 ht0
    go_wp2_with fail
    (with_reducible refine HN1.out.mono ?_)
    rintro e w2 h
    rcases h.cases with ⟨b1, ht1, rfl, h2, hk⟩ | ⟨ht1, rfl, hk⟩
    · go_wp2
      go_end0
      exact Wrote.done (b := (b0 ++ b1)) (HK1.out.trans hk) (by simpa only [List.append_assoc] using h2) (by show cd.app (cd.lst cd.dot v) (cd.lst cd.dot c) = _; rw [HT0.out, ht1]; rfl)
    · exact ⟨rfl, Wrote.fail (HK1.out.trans hk) (by show cd.app (cd.lst cd.dot v) (cd.lst cd.dot c) = _; rw [HT0.out, ht1]; rfl)⟩
  · exact ⟨rfl, Wrote.fail (HK0.out.trans hk) (by show cd.app (cd.lst cd.dot v) (cd.lst cd.dot c) = _; rw [ht0]; rfl)⟩

set_option maxHeartbeats 1600000 in
set_option maxRecDepth 100000 in
theorem delta_any (B p : Nat) (pre : List Nat) (e : List cd.Ent) (al v c : List cd.D) (a3 : Option Addr) (n3 c3 : Nat) (a4 : Option Addr) (n4 c4 : Nat) (a1 : Option Addr) (n1 c1 : Nat) (a2 : Option Addr) (n2 c2 : Nat) (w : World) (hw : Wr B p pre w) (he : RowsAt 5 entR w B (.slice a3 n3 c3) e) (ha : RowsAt 2 dotR w B (.slice a4 n4 c4) al) (hv : RowsAt 2 dotR w B (.slice a1 n1 c1) v) (hc : RowsAt 2 dotR w B (.slice a2 n2 c2) c) (hl : pre.length + 304264024 ≤ 1099511627776) :
    Calls Try.prog 32 #[.pointer (some ⟨p, 0, none⟩), .agg #[.slice a3 n3 c3, .slice a4 n4 c4, .slice a1 n1 c1, .slice a2 n2 c2]] w (Wrote B p pre (cd.del e al v c) w) := by
  have HSF := Lib.hid (hw.fresh #[.slice a3 n3 c3, .slice a4 n4 c4, .slice a1 n1 c1, .slice a2 n2 c2] (t := 28) (by decide))
  have hw0 := hw.step (below1 (o := .cells #[.slice a3 n3 c3, .slice a4 n4 c4, .slice a1 n1 c1, .slice a2 n2 c2] 28))
  have HW := Lib.hid hw
  have HK0 : Hid (Kp B p w (w.alloc (.cells #[.slice a3 n3 c3, .slice a4 n4 c4, .slice a1 n1 c1, .slice a2 n2 c2] 28))) := Kp.of_below below1
  have HB0 : Hid (Kp B p (w.alloc (.cells #[.slice a3 n3 c3, .slice a4 n4 c4, .slice a1 n1 c1, .slice a2 n2 c2] 28)) (w.alloc (.cells #[.slice a3 n3 c3, .slice a4 n4 c4, .slice a1 n1 c1, .slice a2 n2 c2] 28))) := Kp.refl _ _ _
  have HN0 := Lib.hid (wl_entry B p pre e (.slice a3 n3 c3) (w.alloc (.cells #[.slice a3 n3 c3, .slice a4 n4 c4, .slice a1 n1 c1, .slice a2 n2 c2] 28)) hw0 (he.below entR_steady (HK0.out.below HW.out) (Nat.le_refl _)) (by omega))
  have HA := Lib.hid ha
  have HV := Lib.hid hv
  have HC := Lib.hid hc
  clear ha hv hc he
  clear hw0 hw
  go_enter Try.func32, Try.ntmps32
  go_wp2_with fail
  (with_reducible refine HN0.out.mono ?_)
  rintro e w1 h
  rcases h.cases with ⟨b0, ht0, rfl, h2, hk⟩ | ⟨ht0, rfl, hk⟩
  · have HK1 : Hid (Kp B p w w1) := HK0.out.trans hk
    have HB1 : Hid (Kp B p (w.alloc (.cells #[.slice a3 n3 c3, .slice a4 n4 c4, .slice a1 n1 c1, .slice a2 n2 c2] 28)) w1) := HB0.out.trans hk
    have hbl0 : b0.length ≤ 304120006 := cd.lst_len (fun _ _ h => cd.ent_len h) ht0
    have HT0 := Lib.hid ht0
    have k1 : w1.cell? ⟨w.heap.size, 1, none⟩ = some (.slice a4 n4 c4) := (HB1.out.cell HSF.out 1).trans (by rw [World.cell?_alloc_at _ _ _ _ rfl]; rfl)
    have HN1 := Lib.hid (wl_dot B p (pre ++ b0) al (.slice a4 n4 c4) w1 h2 (HA.out.below dotR_steady (HK1.out.below HW.out) (Nat.le_refl _)) (by simp only [List.length_append]; omega))
    clear h hk h2 HN0 ht0
    go_wp2_with fail
    (with_reducible refine HN1.out.mono ?_)
    rintro e w2 h
    rcases h.cases with ⟨b1, ht1, rfl, h2, hk⟩ | ⟨ht1, rfl, hk⟩
    · have HK2 : Hid (Kp B p w w2) := HK1.out.trans hk
      have HB2 : Hid (Kp B p (w.alloc (.cells #[.slice a3 n3 c3, .slice a4 n4 c4, .slice a1 n1 c1, .slice a2 n2 c2] 28)) w2) := HB1.out.trans hk
      have hbl1 : b1.length ≤ 48006 := cd.lst_len (fun _ _ h => cd.dot_len h) ht1
      have HT1 := Lib.hid ht1
      have k2 : w2.cell? ⟨w.heap.size, 2, none⟩ = some (.slice a1 n1 c1) := (HB2.out.cell HSF.out 2).trans (by rw [World.cell?_alloc_at _ _ _ _ rfl]; rfl)
      have k3 : w2.cell? ⟨w.heap.size, 3, none⟩ = some (.slice a2 n2 c2) := (HB2.out.cell HSF.out 3).trans (by rw [World.cell?_alloc_at _ _ _ _ rfl]; rfl)
      have HN2 := Lib.hid (context_any B p ((pre ++ b0) ++ b1) v c a1 n1 c1 a2 n2 c2 w2 h2 (HV.out.below dotR_steady (HK2.out.below HW.out) (Nat.le_refl _)) (HC.out.below dotR_steady (HK2.out.below HW.out) (Nat.le_refl _)) (by simp only [List.length_append]; omega))
      clear h hk h2 HN1 ht1
      go_wp2_with fail
      (with_reducible refine HN2.out.mono ?_)
      rintro e w3 h
      rcases h.cases with ⟨b2, ht2, rfl, h2, hk⟩ | ⟨ht2, rfl, hk⟩
      · go_wp2
        go_end0
        exact Wrote.done (b := (b0 ++ (b1 ++ b2))) (HK2.out.trans hk) (by simpa only [List.append_assoc] using h2) (by show cd.app (cd.lst cd.ent e) (cd.app (cd.lst cd.dot al) (cd.ctx v c)) = _; rw [HT0.out, HT1.out, ht2]; rfl)
      · exact ⟨rfl, Wrote.fail (HK2.out.trans hk) (by show cd.app (cd.lst cd.ent e) (cd.app (cd.lst cd.dot al) (cd.ctx v c)) = _; rw [HT0.out, HT1.out, ht2]; rfl)⟩
    · exact ⟨rfl, Wrote.fail (HK1.out.trans hk) (by show cd.app (cd.lst cd.ent e) (cd.app (cd.lst cd.dot al) (cd.ctx v c)) = _; rw [HT0.out, ht1]; rfl)⟩
  · exact ⟨rfl, Wrote.fail (HK0.out.trans hk) (by show cd.app (cd.lst cd.ent e) (cd.app (cd.lst cd.dot al) (cd.ctx v c)) = _; rw [ht0]; rfl)⟩
end Go.Proofs.Ytpgccfgldjeomaa
