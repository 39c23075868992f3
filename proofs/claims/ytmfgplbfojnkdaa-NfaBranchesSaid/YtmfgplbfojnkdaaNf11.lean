/- texts put together: RfBnd, RfOft. -/
import Derived.Test.YtmfgplbfojnkdaaNf10
namespace Go.Proofs.Ytmfgplbfojnkdaa
open Go Go.RowKit Go.ChangeShapes cl rx
open rf
set_option maxHeartbeats 6400000 in
set_option maxRecDepth 100000 in
theorem rf_bounds (q : Nat) (S : ByteArray) (dp : Int) (t : T) (w : World) (h : RdT q S dp t w) (hS : S.size ≤ 60) (hp : t.p ≤ S.size) : Calls Try.prog 74 #[.pointer (some ⟨q, 0, none⟩)] w (fun e w' => e = .returned (.tuple #[.int .i64 (rf.bounds (kit.bytes S) t).1.1, .int .i64 (rf.bounds (kit.bytes S) t).1.2.1, .bool (rf.bounds (kit.bytes S) t).1.2.2]) ∧ RKT q S dp (rf.bounds (kit.bytes S) t).2 w w') := by
 have hlen : (kit.bytes S).length = S.size := by simp [kit.bytes]
 have HN : Hid (∀ (t : T) (W : World), t.p ≤ S.size → RdT q S dp t W → Calls Try.prog 80 #[.pointer (some ⟨q, 0, none⟩)] W (fun e w' => e = .returned (.tuple #[.int .i64 (rf.number (kit.bytes S) t).1.1, .bool (rf.number (kit.bytes S) t).1.2]) ∧ RKT q S dp (rf.number (kit.bytes S) t).2 W w')) := fun t W hp hW => rf_number q S dp t W hW hS hp
 have HM : Hid (∀ (c : Nat) (t : T) (W : World), RdT q S dp t W → Calls Try.prog 61 #[.pointer (some ⟨q, 0, none⟩), .int .u8 (c : Int)] W (fun e w' => e = .returned (.bool (rf.meets (kit.bytes S) c t).1) ∧ RKT q S dp (rf.meets (kit.bytes S) c t).2 W w')) := fun c t W hW => rf_meets q S dp t c W hW hS
 obtain ⟨r, hr⟩ : ∃ r, r = rf.bounds (kit.bytes S) t := ⟨_, rfl⟩
 rw [← hr]
 have R0 := Lib.hid h
 have K0 : Hid (KX q w w) := KX.refl
 clear h
 obtain ⟨a1, o1, t1, hn1⟩ : ∃ a o t', rf.number (kit.bytes S) t = ((a, o), t') := ⟨_, _, _, rfl⟩
 have HN1 : Hid (∀ W, RdT q S dp t W → Calls Try.prog 80 #[.pointer (some ⟨q, 0, none⟩)] W (fun e w' => e = .returned (.tuple #[.int .i64 a1, .bool o1]) ∧ RKT q S dp t1 W w')) := fun W hW => by have h := HN.out t W hp hW; rw [hn1] at h; exact h
 have hp1 : t1.p ≤ S.size := by
  have h := (number_pr (s := kit.bytes S) (t := t)).2 (by omega)
  rw [hn1] at h; simp only at h; omega
 cases o1 with
 | false =>
  have HV : Hid (r = ((0, 0, false), t1)) := by show _ = _; rw [hr]; simp [rf.bounds, hn1]
  clear hr
  go_enter Try.func74, Try.ntmps74
  go_wp2_with fail
  (with_reducible refine (HN1.out _ R0.out).mono ?_)
  rintro e4 w4 ⟨rfl, r4, k4⟩
  have R4 := Lib.hid r4
  have K4 := Lib.hid (K0.out.trans k4)
  clear r4 k4
  go_wp2
  refine bodyPost_ret (v := .tuple #[.int .i64 0, .int .i64 0, .bool false]) (by simp [results, Try.results74, go_sem]) rfl ⟨by rw [HV.out], by rw [HV.out]; exact R4.out, K4.out⟩
 | true =>
  obtain ⟨b2, t2, hm2⟩ : ∃ b t', rf.meets (kit.bytes S) 125 t1 = (b, t') := ⟨_, _, rfl⟩
  have HM2 : Hid (∀ W, RdT q S dp t1 W → Calls Try.prog 61 #[.pointer (some ⟨q, 0, none⟩), .int .u8 125] W (fun e w' => e = .returned (.bool b2) ∧ RKT q S dp t2 W w')) := fun W hW => by have h := HM.out 125 t1 W hW; rw [hm2] at h; exact h
  cases b2 with
  | true =>
   have HV : Hid (r = (((a1 : Int), (a1 : Int), true), t2)) := by show _ = _; rw [hr]; simp [rf.bounds, hn1, hm2]
   clear hr
   go_enter Try.func74, Try.ntmps74
   go_wp2_with fail
   (with_reducible refine (HN1.out _ R0.out).mono ?_)
   rintro e4 w4 ⟨rfl, r4, k4⟩
   have R4 := Lib.hid r4
   have K4 := Lib.hid (K0.out.trans k4)
   clear r4 k4
   go_wp2_with fail
   (with_reducible refine (HM2.out _ R4.out).mono ?_)
   rintro e5 w5 ⟨rfl, r5, k5⟩
   have R5 := Lib.hid r5
   have K5 := Lib.hid (K4.out.trans k5)
   clear r5 k5
   go_wp2
   refine bodyPost_ret (v := .tuple #[.int .i64 a1, .int .i64 a1, .bool true]) (by simp [results, Try.results74, go_sem]) rfl ⟨by rw [HV.out], by rw [HV.out]; exact R5.out, K5.out⟩
  | false =>
   have ht2 : t2 = t1 := by
    have h := hm2
    unfold rf.meets at h
    split at h
    ·
     cases h
    ·
     simp only [Prod.mk.injEq] at h; exact h.2.symm
   subst ht2
   obtain ⟨b3, t3, hm3⟩ : ∃ b t', rf.meets (kit.bytes S) 44 t2 = (b, t') := ⟨_, _, rfl⟩
   have HM3 : Hid (∀ W, RdT q S dp t2 W → Calls Try.prog 61 #[.pointer (some ⟨q, 0, none⟩), .int .u8 44] W (fun e w' => e = .returned (.bool b3) ∧ RKT q S dp t3 W w')) := fun W hW => by have h := HM.out 44 t2 W hW; rw [hm3] at h; exact h
   cases b3 with
   | false =>
    have ht3 : t3 = t2 := by
     have h := hm3
     unfold rf.meets at h
     split at h
     ·
      cases h
     ·
      simp only [Prod.mk.injEq] at h; exact h.2.symm
    subst ht3
    have HV : Hid (r = ((0, 0, false), t3)) := by show _ = _; rw [hr]; simp [rf.bounds, hn1, hm2, hm3]
    clear hr
    go_enter Try.func74, Try.ntmps74
    go_wp2_with fail
    (with_reducible refine (HN1.out _ R0.out).mono ?_)
    rintro e4 w4 ⟨rfl, r4, k4⟩
    have R4 := Lib.hid r4
    have K4 := Lib.hid (K0.out.trans k4)
    clear r4 k4
    go_wp2_with fail
    (with_reducible refine (HM2.out _ R4.out).mono ?_)
    rintro e5 w5 ⟨rfl, r5, k5⟩
    have R5 := Lib.hid r5
    have K5 := Lib.hid (K4.out.trans k5)
    clear r5 k5
    go_wp2_with fail
    (with_reducible refine (HM3.out _ R5.out).mono ?_)
    rintro e6 w6 ⟨rfl, r6, k6⟩
    have R6 := Lib.hid r6
    have K6 := Lib.hid (K5.out.trans k6)
    clear r6 k6
    go_wp2
    refine bodyPost_ret (v := .tuple #[.int .i64 0, .int .i64 0, .bool false]) (by simp [results, Try.results74, go_sem]) rfl ⟨by rw [HV.out], by rw [HV.out]; exact R6.out, K6.out⟩
   | true =>
    have hp3 : t3.p ≤ S.size := by
     have h := (meets_pr (s := kit.bytes S) (t := t2) 44).2 (by omega)
     rw [hm3] at h; simp only at h; omega
    obtain ⟨b4, t4, hm4⟩ : ∃ b t', rf.meets (kit.bytes S) 125 t3 = (b, t') := ⟨_, _, rfl⟩
    have HM4 : Hid (∀ W, RdT q S dp t3 W → Calls Try.prog 61 #[.pointer (some ⟨q, 0, none⟩), .int .u8 125] W (fun e w' => e = .returned (.bool b4) ∧ RKT q S dp t4 W w')) := fun W hW => by have h := HM.out 125 t3 W hW; rw [hm4] at h; exact h
    cases b4 with
    | true =>
     have HV : Hid (r = (((a1 : Int), -1, true), t4)) := by show _ = _; rw [hr]; simp [rf.bounds, hn1, hm2, hm3, hm4]
     clear hr
     go_enter Try.func74, Try.ntmps74
     go_wp2_with fail
     (with_reducible refine (HN1.out _ R0.out).mono ?_)
     rintro e4 w4 ⟨rfl, r4, k4⟩
     have R4 := Lib.hid r4
     have K4 := Lib.hid (K0.out.trans k4)
     clear r4 k4
     go_wp2_with fail
     (with_reducible refine (HM2.out _ R4.out).mono ?_)
     rintro e5 w5 ⟨rfl, r5, k5⟩
     have R5 := Lib.hid r5
     have K5 := Lib.hid (K4.out.trans k5)
     clear r5 k5
     go_wp2_with fail
     (with_reducible refine (HM3.out _ R5.out).mono ?_)
     rintro e6 w6 ⟨rfl, r6, k6⟩
     have R6 := Lib.hid r6
     have K6 := Lib.hid (K5.out.trans k6)
     clear r6 k6
     go_wp2_with fail
     (with_reducible refine (HM4.out _ R6.out).mono ?_)
     rintro e7 w7 ⟨rfl, r7, k7⟩
     have R7 := Lib.hid r7
     have K7 := Lib.hid (K6.out.trans k7)
     clear r7 k7
     go_wp2
     refine bodyPost_ret (v := .tuple #[.int .i64 a1, .int .i64 (-1), .bool true]) (by simp [results, Try.results74, go_sem]) rfl ⟨by rw [HV.out], by rw [HV.out]; exact R7.out, K7.out⟩
    | false =>
     have ht4 : t4 = t3 := by
      have h := hm4
      unfold rf.meets at h
      split at h
      ·
       cases h
      ·
       simp only [Prod.mk.injEq] at h; exact h.2.symm
     subst ht4
     obtain ⟨a5, o5, t5, hn5⟩ : ∃ a o t', rf.number (kit.bytes S) t4 = ((a, o), t') := ⟨_, _, _, rfl⟩
     have HN5 : Hid (∀ W, RdT q S dp t4 W → Calls Try.prog 80 #[.pointer (some ⟨q, 0, none⟩)] W (fun e w' => e = .returned (.tuple #[.int .i64 a5, .bool o5]) ∧ RKT q S dp t5 W w')) := fun W hW => by have h := HN.out t4 W hp3 hW; rw [hn5] at h; exact h
     have hp5 : t5.p ≤ S.size := by
      have h := (number_pr (s := kit.bytes S) (t := t4)).2 (by omega)
      rw [hn5] at h; simp only at h; omega
     cases o5 with
     | false =>
      have HV : Hid (r = ((0, 0, false), t5)) := by show _ = _; rw [hr]; simp [rf.bounds, hn1, hm2, hm3, hm4, hn5]
      clear hr
      go_enter Try.func74, Try.ntmps74
      go_wp2_with fail
      (with_reducible refine (HN1.out _ R0.out).mono ?_)
      rintro e4 w4 ⟨rfl, r4, k4⟩
      have R4 := Lib.hid r4
      have K4 := Lib.hid (K0.out.trans k4)
      clear r4 k4
      go_wp2_with fail
      (with_reducible refine (HM2.out _ R4.out).mono ?_)
      rintro e5 w5 ⟨rfl, r5, k5⟩
      have R5 := Lib.hid r5
      have K5 := Lib.hid (K4.out.trans k5)
      clear r5 k5
      go_wp2_with fail
      (with_reducible refine (HM3.out _ R5.out).mono ?_)
      rintro e6 w6 ⟨rfl, r6, k6⟩
      have R6 := Lib.hid r6
      have K6 := Lib.hid (K5.out.trans k6)
      clear r6 k6
      go_wp2_with fail
      (with_reducible refine (HM4.out _ R6.out).mono ?_)
      rintro e7 w7 ⟨rfl, r7, k7⟩
      have R7 := Lib.hid r7
      have K7 := Lib.hid (K6.out.trans k7)
      clear r7 k7
      go_wp2_with fail
      (with_reducible refine (HN5.out _ R7.out).mono ?_)
      rintro e8 w8 ⟨rfl, r8, k8⟩
      have R8 := Lib.hid r8
      have K8 := Lib.hid (K7.out.trans k8)
      clear r8 k8
      go_wp2
      refine bodyPost_ret (v := .tuple #[.int .i64 0, .int .i64 0, .bool false]) (by simp [results, Try.results74, go_sem]) rfl ⟨by rw [HV.out], by rw [HV.out]; exact R8.out, K8.out⟩
     | true =>
      obtain ⟨b6, t6, hm6⟩ : ∃ b t', rf.meets (kit.bytes S) 125 t5 = (b, t') := ⟨_, _, rfl⟩
      have HM6 : Hid (∀ W, RdT q S dp t5 W → Calls Try.prog 61 #[.pointer (some ⟨q, 0, none⟩), .int .u8 125] W (fun e w' => e = .returned (.bool b6) ∧ RKT q S dp t6 W w')) := fun W hW => by have h := HM.out 125 t5 W hW; rw [hm6] at h; exact h
      cases b6 with
      | false =>
       have HV : Hid (r = ((0, 0, false), t6)) := by show _ = _; rw [hr]; simp [rf.bounds, hn1, hm2, hm3, hm4, hn5, hm6]
       clear hr
       go_enter Try.func74, Try.ntmps74
       go_wp2_with fail
       (with_reducible refine (HN1.out _ R0.out).mono ?_)
       rintro e4 w4 ⟨rfl, r4, k4⟩
       have R4 := Lib.hid r4
       have K4 := Lib.hid (K0.out.trans k4)
       clear r4 k4
       go_wp2_with fail
       (with_reducible refine (HM2.out _ R4.out).mono ?_)
       rintro e5 w5 ⟨rfl, r5, k5⟩
       have R5 := Lib.hid r5
       have K5 := Lib.hid (K4.out.trans k5)
       clear r5 k5
       go_wp2_with fail
       (with_reducible refine (HM3.out _ R5.out).mono ?_)
       rintro e6 w6 ⟨rfl, r6, k6⟩
       have R6 := Lib.hid r6
       have K6 := Lib.hid (K5.out.trans k6)
       clear r6 k6
       go_wp2_with fail
       (with_reducible refine (HM4.out _ R6.out).mono ?_)
       rintro e7 w7 ⟨rfl, r7, k7⟩
       have R7 := Lib.hid r7
       have K7 := Lib.hid (K6.out.trans k7)
       clear r7 k7
       go_wp2_with fail
       (with_reducible refine (HN5.out _ R7.out).mono ?_)
       rintro e8 w8 ⟨rfl, r8, k8⟩
       have R8 := Lib.hid r8
       have K8 := Lib.hid (K7.out.trans k8)
       clear r8 k8
       go_wp2_with fail
       (with_reducible refine (HM6.out _ R8.out).mono ?_)
       rintro e9 w9 ⟨rfl, r9, k9⟩
       have R9 := Lib.hid r9
       have K9 := Lib.hid (K8.out.trans k9)
       clear r9 k9
       go_wp2
       refine bodyPost_ret (v := .tuple #[.int .i64 0, .int .i64 0, .bool false]) (by simp [results, Try.results74, go_sem]) rfl ⟨by rw [HV.out], by rw [HV.out]; exact R9.out, K9.out⟩
      | true =>
       by_cases hlt : a5 < a1
       ·
        have hli : (a5 : Int) < (a1 : Int) := by omega
        have HV : Hid (r = ((0, 0, false), t6)) := by show _ = _; rw [hr]; simp [rf.bounds, hn1, hm2, hm3, hm4, hn5, hm6, hlt]
        clear hr hlt
        go_enter Try.func74, Try.ntmps74
        go_wp2_with fail
        (with_reducible refine (HN1.out _ R0.out).mono ?_)
        rintro e4 w4 ⟨rfl, r4, k4⟩
        have R4 := Lib.hid r4
        have K4 := Lib.hid (K0.out.trans k4)
        clear r4 k4
        go_wp2_with fail
        (with_reducible refine (HM2.out _ R4.out).mono ?_)
        rintro e5 w5 ⟨rfl, r5, k5⟩
        have R5 := Lib.hid r5
        have K5 := Lib.hid (K4.out.trans k5)
        clear r5 k5
        go_wp2_with fail
        (with_reducible refine (HM3.out _ R5.out).mono ?_)
        rintro e6 w6 ⟨rfl, r6, k6⟩
        have R6 := Lib.hid r6
        have K6 := Lib.hid (K5.out.trans k6)
        clear r6 k6
        go_wp2_with fail
        (with_reducible refine (HM4.out _ R6.out).mono ?_)
        rintro e7 w7 ⟨rfl, r7, k7⟩
        have R7 := Lib.hid r7
        have K7 := Lib.hid (K6.out.trans k7)
        clear r7 k7
        go_wp2_with fail
        (with_reducible refine (HN5.out _ R7.out).mono ?_)
        rintro e8 w8 ⟨rfl, r8, k8⟩
        have R8 := Lib.hid r8
        have K8 := Lib.hid (K7.out.trans k8)
        clear r8 k8
        go_wp2_with fail
        (with_reducible refine (HM6.out _ R8.out).mono ?_)
        rintro e9 w9 ⟨rfl, r9, k9⟩
        have R9 := Lib.hid r9
        have K9 := Lib.hid (K8.out.trans k9)
        clear r9 k9
        go_wp2
        refine bodyPost_ret (v := .tuple #[.int .i64 0, .int .i64 0, .bool false]) (by simp [results, Try.results74, go_sem]) rfl ⟨by rw [HV.out], by rw [HV.out]; exact R9.out, K9.out⟩
       ·
        have hli : ¬ (a5 : Int) < (a1 : Int) := by omega
        have HV : Hid (r = (((a1 : Int), (a5 : Int), true), t6)) := by show _ = _; rw [hr]; simp [rf.bounds, hn1, hm2, hm3, hm4, hn5, hm6, hlt]
        clear hr hlt
        go_enter Try.func74, Try.ntmps74
        go_wp2_with fail
        (with_reducible refine (HN1.out _ R0.out).mono ?_)
        rintro e4 w4 ⟨rfl, r4, k4⟩
        have R4 := Lib.hid r4
        have K4 := Lib.hid (K0.out.trans k4)
        clear r4 k4
        go_wp2_with fail
        (with_reducible refine (HM2.out _ R4.out).mono ?_)
        rintro e5 w5 ⟨rfl, r5, k5⟩
        have R5 := Lib.hid r5
        have K5 := Lib.hid (K4.out.trans k5)
        clear r5 k5
        go_wp2_with fail
        (with_reducible refine (HM3.out _ R5.out).mono ?_)
        rintro e6 w6 ⟨rfl, r6, k6⟩
        have R6 := Lib.hid r6
        have K6 := Lib.hid (K5.out.trans k6)
        clear r6 k6
        go_wp2_with fail
        (with_reducible refine (HM4.out _ R6.out).mono ?_)
        rintro e7 w7 ⟨rfl, r7, k7⟩
        have R7 := Lib.hid r7
        have K7 := Lib.hid (K6.out.trans k7)
        clear r7 k7
        go_wp2_with fail
        (with_reducible refine (HN5.out _ R7.out).mono ?_)
        rintro e8 w8 ⟨rfl, r8, k8⟩
        have R8 := Lib.hid r8
        have K8 := Lib.hid (K7.out.trans k8)
        clear r8 k8
        go_wp2_with fail
        (with_reducible refine (HM6.out _ R8.out).mono ?_)
        rintro e9 w9 ⟨rfl, r9, k9⟩
        have R9 := Lib.hid r9
        have K9 := Lib.hid (K8.out.trans k9)
        clear r9 k9
        go_wp2
        refine bodyPost_ret (v := .tuple #[.int .i64 a1, .int .i64 a5, .bool true]) (by simp [results, Try.results74, go_sem]) rfl ⟨by rw [HV.out], by rw [HV.out]; exact R9.out, K9.out⟩
end Go.Proofs.Ytmfgplbfojnkdaa
namespace Go.Proofs.Ytmfgplbfojnkdaa
open Go Go.RowKit Go.ChangeShapes cl rx
open rf
set_option maxHeartbeats 6400000 in
set_option maxRecDepth 100000 in
theorem rf_often (q : Nat) (S : ByteArray) (dp : Int) (t : T) (w : World) (h : RdT q S dp t w) (hS : S.size ≤ 60) : Calls Try.prog 66 #[.pointer (some ⟨q, 0, none⟩)] w (fun e w' => e = .returned (.tuple #[.int .i64 (rf.often (kit.bytes S) t).1.1, .int .i64 (rf.often (kit.bytes S) t).1.2.1, .bool (rf.often (kit.bytes S) t).1.2.2]) ∧ RKT q S dp (rf.often (kit.bytes S) t).2 w w') := by
 have HM : Hid (∀ (c : Nat) (t : T) (W : World), RdT q S dp t W → Calls Try.prog 61 #[.pointer (some ⟨q, 0, none⟩), .int .u8 (c : Int)] W (fun e w' => e = .returned (.bool (rf.meets (kit.bytes S) c t).1) ∧ RKT q S dp (rf.meets (kit.bytes S) c t).2 W w')) := fun c t W hW => rf_meets q S dp t c W hW hS
 obtain ⟨r, hr⟩ : ∃ r, r = rf.often (kit.bytes S) t := ⟨_, rfl⟩
 rw [← hr]
 have R0 := Lib.hid h
 have K0 : Hid (KX q w w) := KX.refl
 have c1 := boxc h.box 1 _ rfl
 have HYES : Hid (∀ (c : Nat) (t : T), rf.nxt (kit.bytes S) t = some c → rf.meets (kit.bytes S) c t = (true, t.fwd)) := fun c t e => by unfold rf.meets; rw [if_pos e]
 have HNOT : Hid (∀ (c : Nat) (t : T), ¬ rf.nxt (kit.bytes S) t = some c → rf.meets (kit.bytes S) c t = (false, t)) := fun c t e => by unfold rf.meets; rw [if_neg e]
 clear h
 by_cases g0 : rf.nxt (kit.bytes S) t = some 42
 ·
  skip
  have HM0 : Hid (∀ W, RdT q S dp t W → Calls Try.prog 61 #[.pointer (some ⟨q, 0, none⟩), .int .u8 42] W (fun e w' => e = .returned (.bool true) ∧ RKT q S dp t.fwd W w')) := fun W hW => by have h := HM.out 42 t W hW; rw [HYES.out 42 t g0] at h; exact h
  have HV : Hid (r = ((0, (-1), true), t.fwd)) := by show _ = _; rw [hr]; simp [rf.often, g0]
  clear hr
  go_enter Try.func66, Try.ntmps66
  go_wp2_with fail
  (with_reducible refine (HM0.out _ R0.out).mono ?_)
  rintro e11 w11 ⟨rfl, r11, k11⟩
  have R11 := Lib.hid r11
  have K11 := Lib.hid (K0.out.trans k11)
  clear r11 k11
  go_wp2
  refine bodyPost_ret (v := .tuple #[.int .i64 0, .int .i64 (-1), .bool true]) (by simp [results, Try.results66, go_sem]) rfl ⟨by rw [HV.out], by rw [HV.out]; exact R11.out, K11.out⟩
 by_cases g1 : rf.nxt (kit.bytes S) t = some 43
 ·
  skip
  have HM0 : Hid (∀ W, RdT q S dp t W → Calls Try.prog 61 #[.pointer (some ⟨q, 0, none⟩), .int .u8 42] W (fun e w' => e = .returned (.bool false) ∧ RKT q S dp t W w')) := fun W hW => by have h := HM.out 42 t W hW; rw [HNOT.out 42 t g0] at h; exact h
  have HM1 : Hid (∀ W, RdT q S dp t W → Calls Try.prog 61 #[.pointer (some ⟨q, 0, none⟩), .int .u8 43] W (fun e w' => e = .returned (.bool true) ∧ RKT q S dp t.fwd W w')) := fun W hW => by have h := HM.out 43 t W hW; rw [HYES.out 43 t g1] at h; exact h
  have HV : Hid (r = ((1, (-1), true), t.fwd)) := by show _ = _; rw [hr]; simp [rf.often, g1]
  clear hr
  go_enter Try.func66, Try.ntmps66
  go_wp2_with fail
  (with_reducible refine (HM0.out _ R0.out).mono ?_)
  rintro e11 w11 ⟨rfl, r11, k11⟩
  have R11 := Lib.hid r11
  have K11 := Lib.hid (K0.out.trans k11)
  clear r11 k11
  go_wp2_with fail
  (with_reducible refine (HM1.out _ R11.out).mono ?_)
  rintro e12 w12 ⟨rfl, r12, k12⟩
  have R12 := Lib.hid r12
  have K12 := Lib.hid (K11.out.trans k12)
  clear r12 k12
  go_wp2
  refine bodyPost_ret (v := .tuple #[.int .i64 1, .int .i64 (-1), .bool true]) (by simp [results, Try.results66, go_sem]) rfl ⟨by rw [HV.out], by rw [HV.out]; exact R12.out, K12.out⟩
 by_cases g2 : rf.nxt (kit.bytes S) t = some 63
 ·
  skip
  have HM0 : Hid (∀ W, RdT q S dp t W → Calls Try.prog 61 #[.pointer (some ⟨q, 0, none⟩), .int .u8 42] W (fun e w' => e = .returned (.bool false) ∧ RKT q S dp t W w')) := fun W hW => by have h := HM.out 42 t W hW; rw [HNOT.out 42 t g0] at h; exact h
  have HM1 : Hid (∀ W, RdT q S dp t W → Calls Try.prog 61 #[.pointer (some ⟨q, 0, none⟩), .int .u8 43] W (fun e w' => e = .returned (.bool false) ∧ RKT q S dp t W w')) := fun W hW => by have h := HM.out 43 t W hW; rw [HNOT.out 43 t g1] at h; exact h
  have HM2 : Hid (∀ W, RdT q S dp t W → Calls Try.prog 61 #[.pointer (some ⟨q, 0, none⟩), .int .u8 63] W (fun e w' => e = .returned (.bool true) ∧ RKT q S dp t.fwd W w')) := fun W hW => by have h := HM.out 63 t W hW; rw [HYES.out 63 t g2] at h; exact h
  have HV : Hid (r = ((0, 1, true), t.fwd)) := by show _ = _; rw [hr]; simp [rf.often, g2]
  clear hr
  go_enter Try.func66, Try.ntmps66
  go_wp2_with fail
  (with_reducible refine (HM0.out _ R0.out).mono ?_)
  rintro e11 w11 ⟨rfl, r11, k11⟩
  have R11 := Lib.hid r11
  have K11 := Lib.hid (K0.out.trans k11)
  clear r11 k11
  go_wp2_with fail
  (with_reducible refine (HM1.out _ R11.out).mono ?_)
  rintro e12 w12 ⟨rfl, r12, k12⟩
  have R12 := Lib.hid r12
  have K12 := Lib.hid (K11.out.trans k12)
  clear r12 k12
  go_wp2_with fail
  (with_reducible refine (HM2.out _ R12.out).mono ?_)
  rintro e13 w13 ⟨rfl, r13, k13⟩
  have R13 := Lib.hid r13
  have K13 := Lib.hid (K12.out.trans k13)
  clear r13 k13
  go_wp2
  refine bodyPost_ret (v := .tuple #[.int .i64 0, .int .i64 1, .bool true]) (by simp [results, Try.results66, go_sem]) rfl ⟨by rw [HV.out], by rw [HV.out]; exact R13.out, K13.out⟩
 by_cases g3 : rf.nxt (kit.bytes S) t = some 123
 ·
  skip
  have HM0 : Hid (∀ W, RdT q S dp t W → Calls Try.prog 61 #[.pointer (some ⟨q, 0, none⟩), .int .u8 42] W (fun e w' => e = .returned (.bool false) ∧ RKT q S dp t W w')) := fun W hW => by have h := HM.out 42 t W hW; rw [HNOT.out 42 t g0] at h; exact h
  have HM1 : Hid (∀ W, RdT q S dp t W → Calls Try.prog 61 #[.pointer (some ⟨q, 0, none⟩), .int .u8 43] W (fun e w' => e = .returned (.bool false) ∧ RKT q S dp t W w')) := fun W hW => by have h := HM.out 43 t W hW; rw [HNOT.out 43 t g1] at h; exact h
  have HM2 : Hid (∀ W, RdT q S dp t W → Calls Try.prog 61 #[.pointer (some ⟨q, 0, none⟩), .int .u8 63] W (fun e w' => e = .returned (.bool false) ∧ RKT q S dp t W w')) := fun W hW => by have h := HM.out 63 t W hW; rw [HNOT.out 63 t g2] at h; exact h
  have HM3 : Hid (∀ W, RdT q S dp t W → Calls Try.prog 61 #[.pointer (some ⟨q, 0, none⟩), .int .u8 123] W (fun e w' => e = .returned (.bool true) ∧ RKT q S dp t.fwd W w')) := fun W hW => by have h := HM.out 123 t W hW; rw [HYES.out 123 t g3] at h; exact h
  obtain ⟨_, hpl, _⟩ := rf_nxt_lt g3
  obtain ⟨la, lb, ok, t4, hb⟩ : ∃ la lb ok t4, rf.bounds (kit.bytes S) t.fwd = ((la, lb, ok), t4) := ⟨_, _, _, _, rfl⟩
  have HB : Hid (∀ W, RdT q S dp t.fwd W → Calls Try.prog 74 #[.pointer (some ⟨q, 0, none⟩)] W (fun e w' => e = .returned (.tuple #[.int .i64 la, .int .i64 lb, .bool ok]) ∧ RKT q S dp t4 W w')) := fun W hW => by have h := rf_bounds q S dp t.fwd W hW hS hpl; rw [hb] at h; exact h
  have HFL : Hid (∀ (co : Int) (W : World), RdT q S dp t4 W → Calls Try.prog 55 #[.pointer (some ⟨q, 0, none⟩), .int .i64 (t.p : Int), .int .i64 co] W (fun e w' => e = .returned (.tuple #[]) ∧ RKT q S dp (t4.fail t.p co) W w')) := fun co W hW => rf_fail q S dp t4 t.p co W hW
  cases ok with
  | false =>
   have HV : Hid (r = ((la, lb, false), t4.fail t.p 9)) := by show _ = _; rw [hr]; simp [rf.often, g3, hb]
   clear hr hb hpl
   go_enter Try.func66, Try.ntmps66
   go_wp2_with fail
   (with_reducible refine (HM0.out _ R0.out).mono ?_)
   rintro e11 w11 ⟨rfl, r11, k11⟩
   have R11 := Lib.hid r11
   have K11 := Lib.hid (K0.out.trans k11)
   clear r11 k11
   go_wp2_with fail
   (with_reducible refine (HM1.out _ R11.out).mono ?_)
   rintro e12 w12 ⟨rfl, r12, k12⟩
   have R12 := Lib.hid r12
   have K12 := Lib.hid (K11.out.trans k12)
   clear r12 k12
   go_wp2_with fail
   (with_reducible refine (HM2.out _ R12.out).mono ?_)
   rintro e13 w13 ⟨rfl, r13, k13⟩
   have R13 := Lib.hid r13
   have K13 := Lib.hid (K12.out.trans k13)
   clear r13 k13
   go_wp2_with fail
   (with_reducible refine (HM3.out _ R13.out).mono ?_)
   rintro e14 w14 ⟨rfl, r14, k14⟩
   have R14 := Lib.hid r14
   have K14 := Lib.hid (K13.out.trans k14)
   clear r14 k14
   go_wp2_with fail
   (with_reducible refine (HB.out _ R14.out).mono ?_)
   rintro e15 w15 ⟨rfl, r15, k15⟩
   have R15 := Lib.hid r15
   have K15 := Lib.hid (K14.out.trans k15)
   clear r15 k15
   go_wp2_with fail
   (with_reducible refine (HFL.out 9 _ R15.out).mono ?_)
   rintro e16 w16 ⟨rfl, r16, k16⟩
   have R16 := Lib.hid r16
   have K16 := Lib.hid (K15.out.trans k16)
   clear r16 k16
   go_wp2
   refine bodyPost_ret (v := .tuple #[.int .i64 la, .int .i64 lb, .bool false]) (by simp [results, Try.results66, go_sem]) rfl ⟨by rw [HV.out], by rw [HV.out]; exact R16.out, K16.out⟩
  | true =>
   by_cases hla : 20 < la
   ·
    have HV : Hid (r = ((la, lb, true), t4.fail t.p 4)) := by show _ = _; rw [hr]; simp [rf.often, g3, hb, hla]
    clear hr hb hpl
    go_enter Try.func66, Try.ntmps66
    go_wp2_with fail
    (with_reducible refine (HM0.out _ R0.out).mono ?_)
    rintro e11 w11 ⟨rfl, r11, k11⟩
    have R11 := Lib.hid r11
    have K11 := Lib.hid (K0.out.trans k11)
    clear r11 k11
    go_wp2_with fail
    (with_reducible refine (HM1.out _ R11.out).mono ?_)
    rintro e12 w12 ⟨rfl, r12, k12⟩
    have R12 := Lib.hid r12
    have K12 := Lib.hid (K11.out.trans k12)
    clear r12 k12
    go_wp2_with fail
    (with_reducible refine (HM2.out _ R12.out).mono ?_)
    rintro e13 w13 ⟨rfl, r13, k13⟩
    have R13 := Lib.hid r13
    have K13 := Lib.hid (K12.out.trans k13)
    clear r13 k13
    go_wp2_with fail
    (with_reducible refine (HM3.out _ R13.out).mono ?_)
    rintro e14 w14 ⟨rfl, r14, k14⟩
    have R14 := Lib.hid r14
    have K14 := Lib.hid (K13.out.trans k14)
    clear r14 k14
    go_wp2_with fail
    (with_reducible refine (HB.out _ R14.out).mono ?_)
    rintro e15 w15 ⟨rfl, r15, k15⟩
    have R15 := Lib.hid r15
    have K15 := Lib.hid (K14.out.trans k15)
    clear r15 k15
    go_wp2_with fail
    (with_reducible refine (HFL.out 4 _ R15.out).mono ?_)
    rintro e16 w16 ⟨rfl, r16, k16⟩
    have R16 := Lib.hid r16
    have K16 := Lib.hid (K15.out.trans k16)
    clear r16 k16
    go_wp2
    refine bodyPost_ret (v := .tuple #[.int .i64 la, .int .i64 lb, .bool true]) (by simp [results, Try.results66, go_sem]) rfl ⟨by rw [HV.out], by rw [HV.out]; exact R16.out, K16.out⟩
   by_cases hlb : 20 < lb
   ·
    have HV : Hid (r = ((la, lb, true), t4.fail t.p 4)) := by show _ = _; rw [hr]; simp [rf.often, g3, hb, hla, hlb]
    clear hr hb hpl
    go_enter Try.func66, Try.ntmps66
    go_wp2_with fail
    (with_reducible refine (HM0.out _ R0.out).mono ?_)
    rintro e11 w11 ⟨rfl, r11, k11⟩
    have R11 := Lib.hid r11
    have K11 := Lib.hid (K0.out.trans k11)
    clear r11 k11
    go_wp2_with fail
    (with_reducible refine (HM1.out _ R11.out).mono ?_)
    rintro e12 w12 ⟨rfl, r12, k12⟩
    have R12 := Lib.hid r12
    have K12 := Lib.hid (K11.out.trans k12)
    clear r12 k12
    go_wp2_with fail
    (with_reducible refine (HM2.out _ R12.out).mono ?_)
    rintro e13 w13 ⟨rfl, r13, k13⟩
    have R13 := Lib.hid r13
    have K13 := Lib.hid (K12.out.trans k13)
    clear r13 k13
    go_wp2_with fail
    (with_reducible refine (HM3.out _ R13.out).mono ?_)
    rintro e14 w14 ⟨rfl, r14, k14⟩
    have R14 := Lib.hid r14
    have K14 := Lib.hid (K13.out.trans k14)
    clear r14 k14
    go_wp2_with fail
    (with_reducible refine (HB.out _ R14.out).mono ?_)
    rintro e15 w15 ⟨rfl, r15, k15⟩
    have R15 := Lib.hid r15
    have K15 := Lib.hid (K14.out.trans k15)
    clear r15 k15
    go_wp2_with fail
    (with_reducible refine (HFL.out 4 _ R15.out).mono ?_)
    rintro e16 w16 ⟨rfl, r16, k16⟩
    have R16 := Lib.hid r16
    have K16 := Lib.hid (K15.out.trans k16)
    clear r16 k16
    go_wp2
    refine bodyPost_ret (v := .tuple #[.int .i64 la, .int .i64 lb, .bool true]) (by simp [results, Try.results66, go_sem]) rfl ⟨by rw [HV.out], by rw [HV.out]; exact R16.out, K16.out⟩
   have HV : Hid (r = ((la, lb, true), t4)) := by show _ = _; rw [hr]; simp [rf.often, g3, hb, hla, hlb]
   clear hr hb hpl
   go_enter Try.func66, Try.ntmps66
   go_wp2_with fail
   (with_reducible refine (HM0.out _ R0.out).mono ?_)
   rintro e11 w11 ⟨rfl, r11, k11⟩
   have R11 := Lib.hid r11
   have K11 := Lib.hid (K0.out.trans k11)
   clear r11 k11
   go_wp2_with fail
   (with_reducible refine (HM1.out _ R11.out).mono ?_)
   rintro e12 w12 ⟨rfl, r12, k12⟩
   have R12 := Lib.hid r12
   have K12 := Lib.hid (K11.out.trans k12)
   clear r12 k12
   go_wp2_with fail
   (with_reducible refine (HM2.out _ R12.out).mono ?_)
   rintro e13 w13 ⟨rfl, r13, k13⟩
   have R13 := Lib.hid r13
   have K13 := Lib.hid (K12.out.trans k13)
   clear r13 k13
   go_wp2_with fail
   (with_reducible refine (HM3.out _ R13.out).mono ?_)
   rintro e14 w14 ⟨rfl, r14, k14⟩
   have R14 := Lib.hid r14
   have K14 := Lib.hid (K13.out.trans k14)
   clear r14 k14
   go_wp2_with fail
   (with_reducible refine (HB.out _ R14.out).mono ?_)
   rintro e15 w15 ⟨rfl, r15, k15⟩
   have R15 := Lib.hid r15
   have K15 := Lib.hid (K14.out.trans k15)
   clear r15 k15
   go_wp2
   refine bodyPost_ret (v := .tuple #[.int .i64 la, .int .i64 lb, .bool true]) (by simp [results, Try.results66, go_sem]) rfl ⟨by rw [HV.out], by rw [HV.out]; exact R15.out, K15.out⟩
 ·
  skip
  have HM0 : Hid (∀ W, RdT q S dp t W → Calls Try.prog 61 #[.pointer (some ⟨q, 0, none⟩), .int .u8 42] W (fun e w' => e = .returned (.bool false) ∧ RKT q S dp t W w')) := fun W hW => by have h := HM.out 42 t W hW; rw [HNOT.out 42 t g0] at h; exact h
  have HM1 : Hid (∀ W, RdT q S dp t W → Calls Try.prog 61 #[.pointer (some ⟨q, 0, none⟩), .int .u8 43] W (fun e w' => e = .returned (.bool false) ∧ RKT q S dp t W w')) := fun W hW => by have h := HM.out 43 t W hW; rw [HNOT.out 43 t g1] at h; exact h
  have HM2 : Hid (∀ W, RdT q S dp t W → Calls Try.prog 61 #[.pointer (some ⟨q, 0, none⟩), .int .u8 63] W (fun e w' => e = .returned (.bool false) ∧ RKT q S dp t W w')) := fun W hW => by have h := HM.out 63 t W hW; rw [HNOT.out 63 t g2] at h; exact h
  have HM3 : Hid (∀ W, RdT q S dp t W → Calls Try.prog 61 #[.pointer (some ⟨q, 0, none⟩), .int .u8 123] W (fun e w' => e = .returned (.bool false) ∧ RKT q S dp t W w')) := fun W hW => by have h := HM.out 123 t W hW; rw [HNOT.out 123 t g3] at h; exact h
  have HV : Hid (r = ((0, 0, false), t)) := by show _ = _; rw [hr]; simp [rf.often, g0, g1, g2, g3]
  clear hr
  go_enter Try.func66, Try.ntmps66
  go_wp2_with fail
  (with_reducible refine (HM0.out _ R0.out).mono ?_)
  rintro e11 w11 ⟨rfl, r11, k11⟩
  have R11 := Lib.hid r11
  have K11 := Lib.hid (K0.out.trans k11)
  clear r11 k11
  go_wp2_with fail
  (with_reducible refine (HM1.out _ R11.out).mono ?_)
  rintro e12 w12 ⟨rfl, r12, k12⟩
  have R12 := Lib.hid r12
  have K12 := Lib.hid (K11.out.trans k12)
  clear r12 k12
  go_wp2_with fail
  (with_reducible refine (HM2.out _ R12.out).mono ?_)
  rintro e13 w13 ⟨rfl, r13, k13⟩
  have R13 := Lib.hid r13
  have K13 := Lib.hid (K12.out.trans k13)
  clear r13 k13
  go_wp2_with fail
  (with_reducible refine (HM3.out _ R13.out).mono ?_)
  rintro e14 w14 ⟨rfl, r14, k14⟩
  have R14 := Lib.hid r14
  have K14 := Lib.hid (K13.out.trans k14)
  clear r14 k14
  go_wp2
  refine bodyPost_ret (v := .tuple #[.int .i64 0, .int .i64 0, .bool false]) (by simp [results, Try.results66, go_sem]) rfl ⟨by rw [HV.out], by rw [HV.out]; exact R14.out, K14.out⟩
end Go.Proofs.Ytmfgplbfojnkdaa
