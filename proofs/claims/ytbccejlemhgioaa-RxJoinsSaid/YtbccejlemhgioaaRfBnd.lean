/- the reader: bounds. -/
import Derived.Test.YtbccejlemhgioaaRfNum
namespace Go.Proofs.Ytbccejlemhgioaa
open Go Go.RowKit Go.ChangeShapes cl rx
open rf
set_option maxHeartbeats 6400000 in
set_option maxRecDepth 100000 in
theorem rf_bounds (q : Nat) (S : ByteArray) (dp : Int) (t : T) (w : World) (h : RdT q S dp t w) (hS : S.size ≤ 60) (hp : t.p ≤ S.size) : Calls Try.prog 50 #[.pointer (some ⟨q, 0, none⟩)] w (fun e w' => e = .returned (.tuple #[.int .i64 (rf.bounds (kit.bytes S) t).1.1, .int .i64 (rf.bounds (kit.bytes S) t).1.2.1, .bool (rf.bounds (kit.bytes S) t).1.2.2]) ∧ RKT q S dp (rf.bounds (kit.bytes S) t).2 w w') := by
  have hlen : (kit.bytes S).length = S.size := by simp [kit.bytes]
  have HN : Hid (∀ (t : T) (W : World), t.p ≤ S.size → RdT q S dp t W → Calls Try.prog 61 #[.pointer (some ⟨q, 0, none⟩)] W (fun e w' => e = .returned (.tuple #[.int .i64 (rf.number (kit.bytes S) t).1.1, .bool (rf.number (kit.bytes S) t).1.2]) ∧ RKT q S dp (rf.number (kit.bytes S) t).2 W w')) := fun t W hp hW => rf_number q S dp t W hW hS hp
  have HM : Hid (∀ (c : Nat) (t : T) (W : World), RdT q S dp t W → Calls Try.prog 27 #[.pointer (some ⟨q, 0, none⟩), .int .u8 (c : Int)] W (fun e w' => e = .returned (.bool (rf.meets (kit.bytes S) c t).1) ∧ RKT q S dp (rf.meets (kit.bytes S) c t).2 W w')) := fun c t W hW => rf_meets q S dp t c W hW hS
  obtain ⟨r, hr⟩ : ∃ r, r = rf.bounds (kit.bytes S) t := ⟨_, rfl⟩
  rw [← hr]
  have R0 := Lib.hid h
  have K0 : Hid (KX q w w) := KX.refl
  clear h
  obtain ⟨a1, o1, t1, hn1⟩ : ∃ a o t', rf.number (kit.bytes S) t = ((a, o), t') := ⟨_, _, _, rfl⟩
  have HN1 : Hid (∀ W, RdT q S dp t W → Calls Try.prog 61 #[.pointer (some ⟨q, 0, none⟩)] W (fun e w' => e = .returned (.tuple #[.int .i64 a1, .bool o1]) ∧ RKT q S dp t1 W w')) := fun W hW => by have h := HN.out t W hp hW; rw [hn1] at h; exact h
  have hp1 : t1.p ≤ S.size := by
    have h := (number_pr (s := kit.bytes S) (t := t)).2 (by omega)
    rw [hn1] at h; simp only at h; omega
  cases o1 with
  | false =>
    have HV : Hid (r = ((0, 0, false), t1)) := by show _ = _; rw [hr]; simp [rf.bounds, hn1]
    clear hr 
    go_enter Try.func50, Try.ntmps50
    go_wp2_with fail
    (with_reducible refine (HN1.out _ R0.out).mono ?_)
    rintro e4 w4 ⟨rfl, r4, k4⟩
    have R4 := Lib.hid r4
    have K4 := Lib.hid (K0.out.trans k4)
    clear r4 k4
    go_wp2
    refine bodyPost_ret (v := .tuple #[.int .i64 0, .int .i64 0, .bool false]) (by simp [results, Try.results50, go_sem]) rfl ⟨by rw [HV.out], by rw [HV.out]; exact R4.out, K4.out⟩
  | true =>
    obtain ⟨b2, t2, hm2⟩ : ∃ b t', rf.meets (kit.bytes S) 125 t1 = (b, t') := ⟨_, _, rfl⟩
    have HM2 : Hid (∀ W, RdT q S dp t1 W → Calls Try.prog 27 #[.pointer (some ⟨q, 0, none⟩), .int .u8 125] W (fun e w' => e = .returned (.bool b2) ∧ RKT q S dp t2 W w')) := fun W hW => by have h := HM.out 125 t1 W hW; rw [hm2] at h; exact h
    cases b2 with
    | true =>
      have HV : Hid (r = (((a1 : Int), (a1 : Int), true), t2)) := by show _ = _; rw [hr]; simp [rf.bounds, hn1, hm2]
      clear hr 
      go_enter Try.func50, Try.ntmps50
      go_wp2_with fail
      (with_reducible refine (HN1.out _ R0.out).mono ?_)
      rintro e4 w4 ⟨rfl, r4, k4⟩
      have R4 := Lib.hid r4
      have K4 := Lib.hid (K0.out.trans k4)
      clear r4 k4
      go_wp2_with fail
      (with_reducible refine (HM2.out _ R4.out).mono ?_)
      rintro e5 w5 ⟨rfl, r5, k5⟩
      have R5 := Lib.hid r5
      have K5 := Lib.hid (K4.out.trans k5)
      clear r5 k5
      go_wp2
      refine bodyPost_ret (v := .tuple #[.int .i64 a1, .int .i64 a1, .bool true]) (by simp [results, Try.results50, go_sem]) rfl ⟨by rw [HV.out], by rw [HV.out]; exact R5.out, K5.out⟩
    | false =>
      have ht2 : t2 = t1 := by
        have h := hm2
        unfold rf.meets at h
        split at h
        · cases h
        · simp only [Prod.mk.injEq] at h; exact h.2.symm
      subst ht2
      obtain ⟨b3, t3, hm3⟩ : ∃ b t', rf.meets (kit.bytes S) 44 t2 = (b, t') := ⟨_, _, rfl⟩
      have HM3 : Hid (∀ W, RdT q S dp t2 W → Calls Try.prog 27 #[.pointer (some ⟨q, 0, none⟩), .int .u8 44] W (fun e w' => e = .returned (.bool b3) ∧ RKT q S dp t3 W w')) := fun W hW => by have h := HM.out 44 t2 W hW; rw [hm3] at h; exact h
      cases b3 with
      | false =>
        have ht3 : t3 = t2 := by
          have h := hm3
          unfold rf.meets at h
          split at h
          · cases h
          · simp only [Prod.mk.injEq] at h; exact h.2.symm
        subst ht3
        have HV : Hid (r = ((0, 0, false), t3)) := by show _ = _; rw [hr]; simp [rf.bounds, hn1, hm2, hm3]
        clear hr 
        go_enter Try.func50, Try.ntmps50
        go_wp2_with fail
        (with_reducible refine (HN1.out _ R0.out).mono ?_)
        rintro e4 w4 ⟨rfl, r4, k4⟩
        have R4 := Lib.hid r4
        have K4 := Lib.hid (K0.out.trans k4)
        clear r4 k4
        go_wp2_with fail
        (with_reducible refine (HM2.out _ R4.out).mono ?_)
        rintro e5 w5 ⟨rfl, r5, k5⟩
        have R5 := Lib.hid r5
        have K5 := Lib.hid (K4.out.trans k5)
        clear r5 k5
        go_wp2_with fail
        (with_reducible refine (HM3.out _ R5.out).mono ?_)
        rintro e6 w6 ⟨rfl, r6, k6⟩
        have R6 := Lib.hid r6
        have K6 := Lib.hid (K5.out.trans k6)
        clear r6 k6
        go_wp2
        refine bodyPost_ret (v := .tuple #[.int .i64 0, .int .i64 0, .bool false]) (by simp [results, Try.results50, go_sem]) rfl ⟨by rw [HV.out], by rw [HV.out]; exact R6.out, K6.out⟩
      | true =>
        have hp3 : t3.p ≤ S.size := by
          have h := (meets_pr (s := kit.bytes S) (t := t2) 44).2 (by omega)
          rw [hm3] at h; simp only at h; omega
        obtain ⟨b4, t4, hm4⟩ : ∃ b t', rf.meets (kit.bytes S) 125 t3 = (b, t') := ⟨_, _, rfl⟩
        have HM4 : Hid (∀ W, RdT q S dp t3 W → Calls Try.prog 27 #[.pointer (some ⟨q, 0, none⟩), .int .u8 125] W (fun e w' => e = .returned (.bool b4) ∧ RKT q S dp t4 W w')) := fun W hW => by have h := HM.out 125 t3 W hW; rw [hm4] at h; exact h
        cases b4 with
        | true =>
          have HV : Hid (r = (((a1 : Int), -1, true), t4)) := by show _ = _; rw [hr]; simp [rf.bounds, hn1, hm2, hm3, hm4]
          clear hr 
          go_enter Try.func50, Try.ntmps50
          go_wp2_with fail
          (with_reducible refine (HN1.out _ R0.out).mono ?_)
          rintro e4 w4 ⟨rfl, r4, k4⟩
          have R4 := Lib.hid r4
          have K4 := Lib.hid (K0.out.trans k4)
          clear r4 k4
          go_wp2_with fail
          (with_reducible refine (HM2.out _ R4.out).mono ?_)
          rintro e5 w5 ⟨rfl, r5, k5⟩
          have R5 := Lib.hid r5
          have K5 := Lib.hid (K4.out.trans k5)
          clear r5 k5
          go_wp2_with fail
          (with_reducible refine (HM3.out _ R5.out).mono ?_)
          rintro e6 w6 ⟨rfl, r6, k6⟩
          have R6 := Lib.hid r6
          have K6 := Lib.hid (K5.out.trans k6)
          clear r6 k6
          go_wp2_with fail
          (with_reducible refine (HM4.out _ R6.out).mono ?_)
          rintro e7 w7 ⟨rfl, r7, k7⟩
          have R7 := Lib.hid r7
          have K7 := Lib.hid (K6.out.trans k7)
          clear r7 k7
          go_wp2
          refine bodyPost_ret (v := .tuple #[.int .i64 a1, .int .i64 (-1), .bool true]) (by simp [results, Try.results50, go_sem]) rfl ⟨by rw [HV.out], by rw [HV.out]; exact R7.out, K7.out⟩
        | false =>
          have ht4 : t4 = t3 := by
            have h := hm4
            unfold rf.meets at h
            split at h
            · cases h
            · simp only [Prod.mk.injEq] at h; exact h.2.symm
          subst ht4
          obtain ⟨a5, o5, t5, hn5⟩ : ∃ a o t', rf.number (kit.bytes S) t4 = ((a, o), t') := ⟨_, _, _, rfl⟩
          have HN5 : Hid (∀ W, RdT q S dp t4 W → Calls Try.prog 61 #[.pointer (some ⟨q, 0, none⟩)] W (fun e w' => e = .returned (.tuple #[.int .i64 a5, .bool o5]) ∧ RKT q S dp t5 W w')) := fun W hW => by have h := HN.out t4 W hp3 hW; rw [hn5] at h; exact h
          have hp5 : t5.p ≤ S.size := by
            have h := (number_pr (s := kit.bytes S) (t := t4)).2 (by omega)
            rw [hn5] at h; simp only at h; omega
          cases o5 with
          | false =>
            have HV : Hid (r = ((0, 0, false), t5)) := by show _ = _; rw [hr]; simp [rf.bounds, hn1, hm2, hm3, hm4, hn5]
            clear hr 
            go_enter Try.func50, Try.ntmps50
            go_wp2_with fail
            (with_reducible refine (HN1.out _ R0.out).mono ?_)
            rintro e4 w4 ⟨rfl, r4, k4⟩
            have R4 := Lib.hid r4
            have K4 := Lib.hid (K0.out.trans k4)
            clear r4 k4
            go_wp2_with fail
            (with_reducible refine (HM2.out _ R4.out).mono ?_)
            rintro e5 w5 ⟨rfl, r5, k5⟩
            have R5 := Lib.hid r5
            have K5 := Lib.hid (K4.out.trans k5)
            clear r5 k5
            go_wp2_with fail
            (with_reducible refine (HM3.out _ R5.out).mono ?_)
            rintro e6 w6 ⟨rfl, r6, k6⟩
            have R6 := Lib.hid r6
            have K6 := Lib.hid (K5.out.trans k6)
            clear r6 k6
            go_wp2_with fail
            (with_reducible refine (HM4.out _ R6.out).mono ?_)
            rintro e7 w7 ⟨rfl, r7, k7⟩
            have R7 := Lib.hid r7
            have K7 := Lib.hid (K6.out.trans k7)
            clear r7 k7
            go_wp2_with fail
            (with_reducible refine (HN5.out _ R7.out).mono ?_)
            rintro e8 w8 ⟨rfl, r8, k8⟩
            have R8 := Lib.hid r8
            have K8 := Lib.hid (K7.out.trans k8)
            clear r8 k8
            go_wp2
            refine bodyPost_ret (v := .tuple #[.int .i64 0, .int .i64 0, .bool false]) (by simp [results, Try.results50, go_sem]) rfl ⟨by rw [HV.out], by rw [HV.out]; exact R8.out, K8.out⟩
          | true =>
            obtain ⟨b6, t6, hm6⟩ : ∃ b t', rf.meets (kit.bytes S) 125 t5 = (b, t') := ⟨_, _, rfl⟩
            have HM6 : Hid (∀ W, RdT q S dp t5 W → Calls Try.prog 27 #[.pointer (some ⟨q, 0, none⟩), .int .u8 125] W (fun e w' => e = .returned (.bool b6) ∧ RKT q S dp t6 W w')) := fun W hW => by have h := HM.out 125 t5 W hW; rw [hm6] at h; exact h
            cases b6 with
            | false =>
              have HV : Hid (r = ((0, 0, false), t6)) := by show _ = _; rw [hr]; simp [rf.bounds, hn1, hm2, hm3, hm4, hn5, hm6]
              clear hr 
              go_enter Try.func50, Try.ntmps50
              go_wp2_with fail
              (with_reducible refine (HN1.out _ R0.out).mono ?_)
              rintro e4 w4 ⟨rfl, r4, k4⟩
              have R4 := Lib.hid r4
              have K4 := Lib.hid (K0.out.trans k4)
              clear r4 k4
              go_wp2_with fail
              (with_reducible refine (HM2.out _ R4.out).mono ?_)
              rintro e5 w5 ⟨rfl, r5, k5⟩
              have R5 := Lib.hid r5
              have K5 := Lib.hid (K4.out.trans k5)
              clear r5 k5
              go_wp2_with fail
              (with_reducible refine (HM3.out _ R5.out).mono ?_)
              rintro e6 w6 ⟨rfl, r6, k6⟩
              have R6 := Lib.hid r6
              have K6 := Lib.hid (K5.out.trans k6)
              clear r6 k6
              go_wp2_with fail
              (with_reducible refine (HM4.out _ R6.out).mono ?_)
              rintro e7 w7 ⟨rfl, r7, k7⟩
              have R7 := Lib.hid r7
              have K7 := Lib.hid (K6.out.trans k7)
              clear r7 k7
              go_wp2_with fail
              (with_reducible refine (HN5.out _ R7.out).mono ?_)
              rintro e8 w8 ⟨rfl, r8, k8⟩
              have R8 := Lib.hid r8
              have K8 := Lib.hid (K7.out.trans k8)
              clear r8 k8
              go_wp2_with fail
              (with_reducible refine (HM6.out _ R8.out).mono ?_)
              rintro e9 w9 ⟨rfl, r9, k9⟩
              have R9 := Lib.hid r9
              have K9 := Lib.hid (K8.out.trans k9)
              clear r9 k9
              go_wp2
              refine bodyPost_ret (v := .tuple #[.int .i64 0, .int .i64 0, .bool false]) (by simp [results, Try.results50, go_sem]) rfl ⟨by rw [HV.out], by rw [HV.out]; exact R9.out, K9.out⟩
            | true =>
              by_cases hlt : a5 < a1
              · have hli : (a5 : Int) < (a1 : Int) := by omega
                have HV : Hid (r = ((0, 0, false), t6)) := by show _ = _; rw [hr]; simp [rf.bounds, hn1, hm2, hm3, hm4, hn5, hm6, hlt]
                clear hr hlt
                go_enter Try.func50, Try.ntmps50
                go_wp2_with fail
                (with_reducible refine (HN1.out _ R0.out).mono ?_)
                rintro e4 w4 ⟨rfl, r4, k4⟩
                have R4 := Lib.hid r4
                have K4 := Lib.hid (K0.out.trans k4)
                clear r4 k4
                go_wp2_with fail
                (with_reducible refine (HM2.out _ R4.out).mono ?_)
                rintro e5 w5 ⟨rfl, r5, k5⟩
                have R5 := Lib.hid r5
                have K5 := Lib.hid (K4.out.trans k5)
                clear r5 k5
                go_wp2_with fail
                (with_reducible refine (HM3.out _ R5.out).mono ?_)
                rintro e6 w6 ⟨rfl, r6, k6⟩
                have R6 := Lib.hid r6
                have K6 := Lib.hid (K5.out.trans k6)
                clear r6 k6
                go_wp2_with fail
                (with_reducible refine (HM4.out _ R6.out).mono ?_)
                rintro e7 w7 ⟨rfl, r7, k7⟩
                have R7 := Lib.hid r7
                have K7 := Lib.hid (K6.out.trans k7)
                clear r7 k7
                go_wp2_with fail
                (with_reducible refine (HN5.out _ R7.out).mono ?_)
                rintro e8 w8 ⟨rfl, r8, k8⟩
                have R8 := Lib.hid r8
                have K8 := Lib.hid (K7.out.trans k8)
                clear r8 k8
                go_wp2_with fail
                (with_reducible refine (HM6.out _ R8.out).mono ?_)
                rintro e9 w9 ⟨rfl, r9, k9⟩
                have R9 := Lib.hid r9
                have K9 := Lib.hid (K8.out.trans k9)
                clear r9 k9
                go_wp2
                refine bodyPost_ret (v := .tuple #[.int .i64 0, .int .i64 0, .bool false]) (by simp [results, Try.results50, go_sem]) rfl ⟨by rw [HV.out], by rw [HV.out]; exact R9.out, K9.out⟩
              · have hli : ¬ (a5 : Int) < (a1 : Int) := by omega
                have HV : Hid (r = (((a1 : Int), (a5 : Int), true), t6)) := by show _ = _; rw [hr]; simp [rf.bounds, hn1, hm2, hm3, hm4, hn5, hm6, hlt]
                clear hr hlt
                go_enter Try.func50, Try.ntmps50
                go_wp2_with fail
                (with_reducible refine (HN1.out _ R0.out).mono ?_)
                rintro e4 w4 ⟨rfl, r4, k4⟩
                have R4 := Lib.hid r4
                have K4 := Lib.hid (K0.out.trans k4)
                clear r4 k4
                go_wp2_with fail
                (with_reducible refine (HM2.out _ R4.out).mono ?_)
                rintro e5 w5 ⟨rfl, r5, k5⟩
                have R5 := Lib.hid r5
                have K5 := Lib.hid (K4.out.trans k5)
                clear r5 k5
                go_wp2_with fail
                (with_reducible refine (HM3.out _ R5.out).mono ?_)
                rintro e6 w6 ⟨rfl, r6, k6⟩
                have R6 := Lib.hid r6
                have K6 := Lib.hid (K5.out.trans k6)
                clear r6 k6
                go_wp2_with fail
                (with_reducible refine (HM4.out _ R6.out).mono ?_)
                rintro e7 w7 ⟨rfl, r7, k7⟩
                have R7 := Lib.hid r7
                have K7 := Lib.hid (K6.out.trans k7)
                clear r7 k7
                go_wp2_with fail
                (with_reducible refine (HN5.out _ R7.out).mono ?_)
                rintro e8 w8 ⟨rfl, r8, k8⟩
                have R8 := Lib.hid r8
                have K8 := Lib.hid (K7.out.trans k8)
                clear r8 k8
                go_wp2_with fail
                (with_reducible refine (HM6.out _ R8.out).mono ?_)
                rintro e9 w9 ⟨rfl, r9, k9⟩
                have R9 := Lib.hid r9
                have K9 := Lib.hid (K8.out.trans k9)
                clear r9 k9
                go_wp2
                refine bodyPost_ret (v := .tuple #[.int .i64 a1, .int .i64 a5, .bool true]) (by simp [results, Try.results50, go_sem]) rfl ⟨by rw [HV.out], by rw [HV.out]; exact R9.out, K9.out⟩
end Go.Proofs.Ytbccejlemhgioaa
