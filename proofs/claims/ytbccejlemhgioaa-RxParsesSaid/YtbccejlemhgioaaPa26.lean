/- texts put together: RfOft, RfSng. -/
import Derived.Test.YtbccejlemhgioaaPa17
import Derived.Test.YtbccejlemhgioaaPa25
namespace Go.Proofs.Ytbccejlemhgioaa
open Go Go.RowKit Go.ChangeShapes cl rx
open rf
set_option maxHeartbeats 6400000 in
set_option maxRecDepth 100000 in
theorem rf_often (q : Nat) (S : ByteArray) (dp : Int) (t : T) (w : World) (h : RdT q S dp t w) (hS : S.size ≤ 60) : Calls Try.prog 40 #[.pointer (some ⟨q, 0, none⟩)] w (fun e w' => e = .returned (.tuple #[.int .i64 (rf.often (kit.bytes S) t).1.1, .int .i64 (rf.often (kit.bytes S) t).1.2.1, .bool (rf.often (kit.bytes S) t).1.2.2]) ∧ RKT q S dp (rf.often (kit.bytes S) t).2 w w') := by
 have HM : Hid (∀ (c : Nat) (t : T) (W : World), RdT q S dp t W → Calls Try.prog 27 #[.pointer (some ⟨q, 0, none⟩), .int .u8 (c : Int)] W (fun e w' => e = .returned (.bool (rf.meets (kit.bytes S) c t).1) ∧ RKT q S dp (rf.meets (kit.bytes S) c t).2 W w')) := fun c t W hW => rf_meets q S dp t c W hW hS
 obtain ⟨r, hr⟩ : ∃ r, r = rf.often (kit.bytes S) t := ⟨_, rfl⟩
 rw [← hr]
 have R0 := Lib.hid h
 have K0 : Hid (KX q w w) := KX.refl
 have c1 := boxc h.box 1 _ rfl
 have HYES : Hid (∀ (c : Nat) (t : T), rf.nxt (kit.bytes S) t = some c → rf.meets (kit.bytes S) c t = (true, t.fwd)) := fun c t e => by unfold rf.meets; rw [if_pos e]
 have HNOT : Hid (∀ (c : Nat) (t : T), ¬ rf.nxt (kit.bytes S) t = some c → rf.meets (kit.bytes S) c t = (false, t)) := fun c t e => by unfold rf.meets; rw [if_neg e]
 clear h
 by_cases g0 : rf.nxt (kit.bytes S) t = some 42
 ·
  skip
  have HM0 : Hid (∀ W, RdT q S dp t W → Calls Try.prog 27 #[.pointer (some ⟨q, 0, none⟩), .int .u8 42] W (fun e w' => e = .returned (.bool true) ∧ RKT q S dp t.fwd W w')) := fun W hW => by have h := HM.out 42 t W hW; rw [HYES.out 42 t g0] at h; exact h
  have HV : Hid (r = ((0, (-1), true), t.fwd)) := by show _ = _; rw [hr]; simp [rf.often, g0]
  clear hr
  go_enter Try.func40, Try.ntmps40
  go_wp2_with fail
  (with_reducible refine (HM0.out _ R0.out).mono ?_)
  rintro e11 w11 ⟨rfl, r11, k11⟩
  have R11 := Lib.hid r11
  have K11 := Lib.hid (K0.out.trans k11)
  clear r11 k11
  go_wp2
  refine bodyPost_ret (v := .tuple #[.int .i64 0, .int .i64 (-1), .bool true]) (by simp [results, Try.results40, go_sem]) rfl ⟨by rw [HV.out], by rw [HV.out]; exact R11.out, K11.out⟩
 by_cases g1 : rf.nxt (kit.bytes S) t = some 43
 ·
  skip
  have HM0 : Hid (∀ W, RdT q S dp t W → Calls Try.prog 27 #[.pointer (some ⟨q, 0, none⟩), .int .u8 42] W (fun e w' => e = .returned (.bool false) ∧ RKT q S dp t W w')) := fun W hW => by have h := HM.out 42 t W hW; rw [HNOT.out 42 t g0] at h; exact h
  have HM1 : Hid (∀ W, RdT q S dp t W → Calls Try.prog 27 #[.pointer (some ⟨q, 0, none⟩), .int .u8 43] W (fun e w' => e = .returned (.bool true) ∧ RKT q S dp t.fwd W w')) := fun W hW => by have h := HM.out 43 t W hW; rw [HYES.out 43 t g1] at h; exact h
  have HV : Hid (r = ((1, (-1), true), t.fwd)) := by show _ = _; rw [hr]; simp [rf.often, g1]
  clear hr
  go_enter Try.func40, Try.ntmps40
  go_wp2_with fail
  (with_reducible refine (HM0.out _ R0.out).mono ?_)
  rintro e11 w11 ⟨rfl, r11, k11⟩
  have R11 := Lib.hid r11
  have K11 := Lib.hid (K0.out.trans k11)
  clear r11 k11
  go_wp2_with fail
  (with_reducible refine (HM1.out _ R11.out).mono ?_)
  rintro e12 w12 ⟨rfl, r12, k12⟩
  have R12 := Lib.hid r12
  have K12 := Lib.hid (K11.out.trans k12)
  clear r12 k12
  go_wp2
  refine bodyPost_ret (v := .tuple #[.int .i64 1, .int .i64 (-1), .bool true]) (by simp [results, Try.results40, go_sem]) rfl ⟨by rw [HV.out], by rw [HV.out]; exact R12.out, K12.out⟩
 by_cases g2 : rf.nxt (kit.bytes S) t = some 63
 ·
  skip
  have HM0 : Hid (∀ W, RdT q S dp t W → Calls Try.prog 27 #[.pointer (some ⟨q, 0, none⟩), .int .u8 42] W (fun e w' => e = .returned (.bool false) ∧ RKT q S dp t W w')) := fun W hW => by have h := HM.out 42 t W hW; rw [HNOT.out 42 t g0] at h; exact h
  have HM1 : Hid (∀ W, RdT q S dp t W → Calls Try.prog 27 #[.pointer (some ⟨q, 0, none⟩), .int .u8 43] W (fun e w' => e = .returned (.bool false) ∧ RKT q S dp t W w')) := fun W hW => by have h := HM.out 43 t W hW; rw [HNOT.out 43 t g1] at h; exact h
  have HM2 : Hid (∀ W, RdT q S dp t W → Calls Try.prog 27 #[.pointer (some ⟨q, 0, none⟩), .int .u8 63] W (fun e w' => e = .returned (.bool true) ∧ RKT q S dp t.fwd W w')) := fun W hW => by have h := HM.out 63 t W hW; rw [HYES.out 63 t g2] at h; exact h
  have HV : Hid (r = ((0, 1, true), t.fwd)) := by show _ = _; rw [hr]; simp [rf.often, g2]
  clear hr
  go_enter Try.func40, Try.ntmps40
  go_wp2_with fail
  (with_reducible refine (HM0.out _ R0.out).mono ?_)
  rintro e11 w11 ⟨rfl, r11, k11⟩
  have R11 := Lib.hid r11
  have K11 := Lib.hid (K0.out.trans k11)
  clear r11 k11
  go_wp2_with fail
  (with_reducible refine (HM1.out _ R11.out).mono ?_)
  rintro e12 w12 ⟨rfl, r12, k12⟩
  have R12 := Lib.hid r12
  have K12 := Lib.hid (K11.out.trans k12)
  clear r12 k12
  go_wp2_with fail
  (with_reducible refine (HM2.out _ R12.out).mono ?_)
  rintro e13 w13 ⟨rfl, r13, k13⟩
  have R13 := Lib.hid r13
  have K13 := Lib.hid (K12.out.trans k13)
  clear r13 k13
  go_wp2
  refine bodyPost_ret (v := .tuple #[.int .i64 0, .int .i64 1, .bool true]) (by simp [results, Try.results40, go_sem]) rfl ⟨by rw [HV.out], by rw [HV.out]; exact R13.out, K13.out⟩
 by_cases g3 : rf.nxt (kit.bytes S) t = some 123
 ·
  skip
  have HM0 : Hid (∀ W, RdT q S dp t W → Calls Try.prog 27 #[.pointer (some ⟨q, 0, none⟩), .int .u8 42] W (fun e w' => e = .returned (.bool false) ∧ RKT q S dp t W w')) := fun W hW => by have h := HM.out 42 t W hW; rw [HNOT.out 42 t g0] at h; exact h
  have HM1 : Hid (∀ W, RdT q S dp t W → Calls Try.prog 27 #[.pointer (some ⟨q, 0, none⟩), .int .u8 43] W (fun e w' => e = .returned (.bool false) ∧ RKT q S dp t W w')) := fun W hW => by have h := HM.out 43 t W hW; rw [HNOT.out 43 t g1] at h; exact h
  have HM2 : Hid (∀ W, RdT q S dp t W → Calls Try.prog 27 #[.pointer (some ⟨q, 0, none⟩), .int .u8 63] W (fun e w' => e = .returned (.bool false) ∧ RKT q S dp t W w')) := fun W hW => by have h := HM.out 63 t W hW; rw [HNOT.out 63 t g2] at h; exact h
  have HM3 : Hid (∀ W, RdT q S dp t W → Calls Try.prog 27 #[.pointer (some ⟨q, 0, none⟩), .int .u8 123] W (fun e w' => e = .returned (.bool true) ∧ RKT q S dp t.fwd W w')) := fun W hW => by have h := HM.out 123 t W hW; rw [HYES.out 123 t g3] at h; exact h
  obtain ⟨_, hpl, _⟩ := rf_nxt_lt g3
  obtain ⟨la, lb, ok, t4, hb⟩ : ∃ la lb ok t4, rf.bounds (kit.bytes S) t.fwd = ((la, lb, ok), t4) := ⟨_, _, _, _, rfl⟩
  have HB : Hid (∀ W, RdT q S dp t.fwd W → Calls Try.prog 50 #[.pointer (some ⟨q, 0, none⟩)] W (fun e w' => e = .returned (.tuple #[.int .i64 la, .int .i64 lb, .bool ok]) ∧ RKT q S dp t4 W w')) := fun W hW => by have h := rf_bounds q S dp t.fwd W hW hS hpl; rw [hb] at h; exact h
  have HFL : Hid (∀ (co : Int) (W : World), RdT q S dp t4 W → Calls Try.prog 21 #[.pointer (some ⟨q, 0, none⟩), .int .i64 (t.p : Int), .int .i64 co] W (fun e w' => e = .returned (.tuple #[]) ∧ RKT q S dp (t4.fail t.p co) W w')) := fun co W hW => rf_fail q S dp t4 t.p co W hW
  cases ok with
  | false =>
   have HV : Hid (r = ((la, lb, false), t4.fail t.p 9)) := by show _ = _; rw [hr]; simp [rf.often, g3, hb]
   clear hr hb hpl
   go_enter Try.func40, Try.ntmps40
   go_wp2_with fail
   (with_reducible refine (HM0.out _ R0.out).mono ?_)
   rintro e11 w11 ⟨rfl, r11, k11⟩
   have R11 := Lib.hid r11
   have K11 := Lib.hid (K0.out.trans k11)
   clear r11 k11
   go_wp2_with fail
   (with_reducible refine (HM1.out _ R11.out).mono ?_)
   rintro e12 w12 ⟨rfl, r12, k12⟩
   have R12 := Lib.hid r12
   have K12 := Lib.hid (K11.out.trans k12)
   clear r12 k12
   go_wp2_with fail
   (with_reducible refine (HM2.out _ R12.out).mono ?_)
   rintro e13 w13 ⟨rfl, r13, k13⟩
   have R13 := Lib.hid r13
   have K13 := Lib.hid (K12.out.trans k13)
   clear r13 k13
   go_wp2_with fail
   (with_reducible refine (HM3.out _ R13.out).mono ?_)
   rintro e14 w14 ⟨rfl, r14, k14⟩
   have R14 := Lib.hid r14
   have K14 := Lib.hid (K13.out.trans k14)
   clear r14 k14
   go_wp2_with fail
   (with_reducible refine (HB.out _ R14.out).mono ?_)
   rintro e15 w15 ⟨rfl, r15, k15⟩
   have R15 := Lib.hid r15
   have K15 := Lib.hid (K14.out.trans k15)
   clear r15 k15
   go_wp2_with fail
   (with_reducible refine (HFL.out 9 _ R15.out).mono ?_)
   rintro e16 w16 ⟨rfl, r16, k16⟩
   have R16 := Lib.hid r16
   have K16 := Lib.hid (K15.out.trans k16)
   clear r16 k16
   go_wp2
   refine bodyPost_ret (v := .tuple #[.int .i64 la, .int .i64 lb, .bool false]) (by simp [results, Try.results40, go_sem]) rfl ⟨by rw [HV.out], by rw [HV.out]; exact R16.out, K16.out⟩
  | true =>
   by_cases hla : 20 < la
   ·
    have HV : Hid (r = ((la, lb, true), t4.fail t.p 4)) := by show _ = _; rw [hr]; simp [rf.often, g3, hb, hla]
    clear hr hb hpl
    go_enter Try.func40, Try.ntmps40
    go_wp2_with fail
    (with_reducible refine (HM0.out _ R0.out).mono ?_)
    rintro e11 w11 ⟨rfl, r11, k11⟩
    have R11 := Lib.hid r11
    have K11 := Lib.hid (K0.out.trans k11)
    clear r11 k11
    go_wp2_with fail
    (with_reducible refine (HM1.out _ R11.out).mono ?_)
    rintro e12 w12 ⟨rfl, r12, k12⟩
    have R12 := Lib.hid r12
    have K12 := Lib.hid (K11.out.trans k12)
    clear r12 k12
    go_wp2_with fail
    (with_reducible refine (HM2.out _ R12.out).mono ?_)
    rintro e13 w13 ⟨rfl, r13, k13⟩
    have R13 := Lib.hid r13
    have K13 := Lib.hid (K12.out.trans k13)
    clear r13 k13
    go_wp2_with fail
    (with_reducible refine (HM3.out _ R13.out).mono ?_)
    rintro e14 w14 ⟨rfl, r14, k14⟩
    have R14 := Lib.hid r14
    have K14 := Lib.hid (K13.out.trans k14)
    clear r14 k14
    go_wp2_with fail
    (with_reducible refine (HB.out _ R14.out).mono ?_)
    rintro e15 w15 ⟨rfl, r15, k15⟩
    have R15 := Lib.hid r15
    have K15 := Lib.hid (K14.out.trans k15)
    clear r15 k15
    go_wp2_with fail
    (with_reducible refine (HFL.out 4 _ R15.out).mono ?_)
    rintro e16 w16 ⟨rfl, r16, k16⟩
    have R16 := Lib.hid r16
    have K16 := Lib.hid (K15.out.trans k16)
    clear r16 k16
    go_wp2
    refine bodyPost_ret (v := .tuple #[.int .i64 la, .int .i64 lb, .bool true]) (by simp [results, Try.results40, go_sem]) rfl ⟨by rw [HV.out], by rw [HV.out]; exact R16.out, K16.out⟩
   by_cases hlb : 20 < lb
   ·
    have HV : Hid (r = ((la, lb, true), t4.fail t.p 4)) := by show _ = _; rw [hr]; simp [rf.often, g3, hb, hla, hlb]
    clear hr hb hpl
    go_enter Try.func40, Try.ntmps40
    go_wp2_with fail
    (with_reducible refine (HM0.out _ R0.out).mono ?_)
    rintro e11 w11 ⟨rfl, r11, k11⟩
    have R11 := Lib.hid r11
    have K11 := Lib.hid (K0.out.trans k11)
    clear r11 k11
    go_wp2_with fail
    (with_reducible refine (HM1.out _ R11.out).mono ?_)
    rintro e12 w12 ⟨rfl, r12, k12⟩
    have R12 := Lib.hid r12
    have K12 := Lib.hid (K11.out.trans k12)
    clear r12 k12
    go_wp2_with fail
    (with_reducible refine (HM2.out _ R12.out).mono ?_)
    rintro e13 w13 ⟨rfl, r13, k13⟩
    have R13 := Lib.hid r13
    have K13 := Lib.hid (K12.out.trans k13)
    clear r13 k13
    go_wp2_with fail
    (with_reducible refine (HM3.out _ R13.out).mono ?_)
    rintro e14 w14 ⟨rfl, r14, k14⟩
    have R14 := Lib.hid r14
    have K14 := Lib.hid (K13.out.trans k14)
    clear r14 k14
    go_wp2_with fail
    (with_reducible refine (HB.out _ R14.out).mono ?_)
    rintro e15 w15 ⟨rfl, r15, k15⟩
    have R15 := Lib.hid r15
    have K15 := Lib.hid (K14.out.trans k15)
    clear r15 k15
    go_wp2_with fail
    (with_reducible refine (HFL.out 4 _ R15.out).mono ?_)
    rintro e16 w16 ⟨rfl, r16, k16⟩
    have R16 := Lib.hid r16
    have K16 := Lib.hid (K15.out.trans k16)
    clear r16 k16
    go_wp2
    refine bodyPost_ret (v := .tuple #[.int .i64 la, .int .i64 lb, .bool true]) (by simp [results, Try.results40, go_sem]) rfl ⟨by rw [HV.out], by rw [HV.out]; exact R16.out, K16.out⟩
   have HV : Hid (r = ((la, lb, true), t4)) := by show _ = _; rw [hr]; simp [rf.often, g3, hb, hla, hlb]
   clear hr hb hpl
   go_enter Try.func40, Try.ntmps40
   go_wp2_with fail
   (with_reducible refine (HM0.out _ R0.out).mono ?_)
   rintro e11 w11 ⟨rfl, r11, k11⟩
   have R11 := Lib.hid r11
   have K11 := Lib.hid (K0.out.trans k11)
   clear r11 k11
   go_wp2_with fail
   (with_reducible refine (HM1.out _ R11.out).mono ?_)
   rintro e12 w12 ⟨rfl, r12, k12⟩
   have R12 := Lib.hid r12
   have K12 := Lib.hid (K11.out.trans k12)
   clear r12 k12
   go_wp2_with fail
   (with_reducible refine (HM2.out _ R12.out).mono ?_)
   rintro e13 w13 ⟨rfl, r13, k13⟩
   have R13 := Lib.hid r13
   have K13 := Lib.hid (K12.out.trans k13)
   clear r13 k13
   go_wp2_with fail
   (with_reducible refine (HM3.out _ R13.out).mono ?_)
   rintro e14 w14 ⟨rfl, r14, k14⟩
   have R14 := Lib.hid r14
   have K14 := Lib.hid (K13.out.trans k14)
   clear r14 k14
   go_wp2_with fail
   (with_reducible refine (HB.out _ R14.out).mono ?_)
   rintro e15 w15 ⟨rfl, r15, k15⟩
   have R15 := Lib.hid r15
   have K15 := Lib.hid (K14.out.trans k15)
   clear r15 k15
   go_wp2
   refine bodyPost_ret (v := .tuple #[.int .i64 la, .int .i64 lb, .bool true]) (by simp [results, Try.results40, go_sem]) rfl ⟨by rw [HV.out], by rw [HV.out]; exact R15.out, K15.out⟩
 ·
  skip
  have HM0 : Hid (∀ W, RdT q S dp t W → Calls Try.prog 27 #[.pointer (some ⟨q, 0, none⟩), .int .u8 42] W (fun e w' => e = .returned (.bool false) ∧ RKT q S dp t W w')) := fun W hW => by have h := HM.out 42 t W hW; rw [HNOT.out 42 t g0] at h; exact h
  have HM1 : Hid (∀ W, RdT q S dp t W → Calls Try.prog 27 #[.pointer (some ⟨q, 0, none⟩), .int .u8 43] W (fun e w' => e = .returned (.bool false) ∧ RKT q S dp t W w')) := fun W hW => by have h := HM.out 43 t W hW; rw [HNOT.out 43 t g1] at h; exact h
  have HM2 : Hid (∀ W, RdT q S dp t W → Calls Try.prog 27 #[.pointer (some ⟨q, 0, none⟩), .int .u8 63] W (fun e w' => e = .returned (.bool false) ∧ RKT q S dp t W w')) := fun W hW => by have h := HM.out 63 t W hW; rw [HNOT.out 63 t g2] at h; exact h
  have HM3 : Hid (∀ W, RdT q S dp t W → Calls Try.prog 27 #[.pointer (some ⟨q, 0, none⟩), .int .u8 123] W (fun e w' => e = .returned (.bool false) ∧ RKT q S dp t W w')) := fun W hW => by have h := HM.out 123 t W hW; rw [HNOT.out 123 t g3] at h; exact h
  have HV : Hid (r = ((0, 0, false), t)) := by show _ = _; rw [hr]; simp [rf.often, g0, g1, g2, g3]
  clear hr
  go_enter Try.func40, Try.ntmps40
  go_wp2_with fail
  (with_reducible refine (HM0.out _ R0.out).mono ?_)
  rintro e11 w11 ⟨rfl, r11, k11⟩
  have R11 := Lib.hid r11
  have K11 := Lib.hid (K0.out.trans k11)
  clear r11 k11
  go_wp2_with fail
  (with_reducible refine (HM1.out _ R11.out).mono ?_)
  rintro e12 w12 ⟨rfl, r12, k12⟩
  have R12 := Lib.hid r12
  have K12 := Lib.hid (K11.out.trans k12)
  clear r12 k12
  go_wp2_with fail
  (with_reducible refine (HM2.out _ R12.out).mono ?_)
  rintro e13 w13 ⟨rfl, r13, k13⟩
  have R13 := Lib.hid r13
  have K13 := Lib.hid (K12.out.trans k13)
  clear r13 k13
  go_wp2_with fail
  (with_reducible refine (HM3.out _ R13.out).mono ?_)
  rintro e14 w14 ⟨rfl, r14, k14⟩
  have R14 := Lib.hid r14
  have K14 := Lib.hid (K13.out.trans k14)
  clear r14 k14
  go_wp2
  refine bodyPost_ret (v := .tuple #[.int .i64 0, .int .i64 0, .bool false]) (by simp [results, Try.results40, go_sem]) rfl ⟨by rw [HV.out], by rw [HV.out]; exact R14.out, K14.out⟩
end Go.Proofs.Ytbccejlemhgioaa
namespace Go.Proofs.Ytbccejlemhgioaa
open Go Go.RowKit Go.ChangeShapes cl rx
open rf
set_option maxRecDepth 100000 in
theorem ix_four : ∀ c : Nat, c < 256 → (0 ≤ Lib.indexByte [91, 93, 94, 45] (c : Int).toNat.toUInt8 ↔ (c = 91 ∨ c = 93 ∨ c = 94 ∨ c = 45)) := by decide +kernel
set_option maxHeartbeats 12800000 in
set_option maxRecDepth 100000 in
theorem rf_single (q : Nat) (S : ByteArray) (dp : Int) (t : T) (w : World) (h : RdT q S dp t w) (hS : S.size ≤ 60) (hp : t.p < S.size) : Calls Try.prog 65 #[.pointer (some ⟨q, 0, none⟩)] w (fun e w' => e = .returned (.tuple #[.agg #[.int .u64 (rf.single (kit.bytes S) t).1.1.a, .int .u64 (rf.single (kit.bytes S) t).1.1.b, .int .u64 (rf.single (kit.bytes S) t).1.1.c, .int .u64 (rf.single (kit.bytes S) t).1.1.d], .int .u8 ((rf.single (kit.bytes S) t).1.2.1 : Nat), .bool (rf.single (kit.bytes S) t).1.2.2]) ∧ RKT q S dp (rf.single (kit.bytes S) t).2 w w') := by
 obtain ⟨c, hb, hcE⟩ : ∃ c, (kit.bytes S)[t.p]? = some c ∧ c = (S[t.p]'hp).toNat := ⟨_, byte_at hp, rfl⟩
 have hc : c < 256 := kit.bytes_lt S c (List.mem_of_getElem? hb)
 obtain ⟨p, hpp⟩ : ∃ p, p = t.p := ⟨_, rfl⟩
 have hp' : p < S.size := by rw [hpp]; exact hp
 have hcE' : (S[p]'hp').toNat = c := by rw [hcE]; simp only [hpp]
 have hpi : (p : Int) < (S.size : Int) := by omega
 obtain ⟨r, hr⟩ : ∃ r, r = rf.single (kit.bytes S) t := ⟨_, rfl⟩
 rw [← hr]
 obtain ⟨q1, hq1⟩ : ∃ q1, q1 = w.heap.size := ⟨_, rfl⟩
 have hqq : q < q1 := by rw [hq1]; exact lt_of_block h
 have hA := below1 (w := w) (o := .cells #[.int .u64 0, .int .u64 0, .int .u64 0, .int .u64 0] 25)
 have x1 := (hA.block q (by rw [← hq1]; exact hqq)).trans h.box
 have c1 : (w.alloc (.cells #[.int .u64 0, .int .u64 0, .int .u64 0, .int .u64 0] 25)).cell? ⟨q, 1, none⟩ = some (.int .i64 (p : Int)) := by rw [hpp]; exact boxc x1 1 _ rfl
 have c0 : (w.alloc (.cells #[.int .u64 0, .int .u64 0, .int .u64 0, .int .u64 0] 25)).cell? ⟨q, 0, none⟩ = some (.string S) := boxc x1 0 _ rfl
 have c1w : w.cell? ⟨q, 1, none⟩ = some (.int .i64 (p : Int)) := by rw [hpp]; exact boxc h.box 1 _ rfl
 have f1 : (w.alloc (.cells #[.int .u64 0, .int .u64 0, .int .u64 0, .int .u64 0] 25)).frozen? ⟨q, 1, none⟩ = false := boxf x1 1
 have f1w : w.frozen? ⟨q, 1, none⟩ = false := boxf h.box 1
 have c0w : w.cell? ⟨q, 0, none⟩ = some (.string S) := boxc h.box 0 _ rfl
 obtain ⟨W3, hW3⟩ : ∃ W, W = (w.alloc (.cells #[.int .u64 0, .int .u64 0, .int .u64 0, .int .u64 0] 25)).setCell ⟨q, 1, none⟩ (.int .i64 ((p : Int) + 1)) := ⟨_, rfl⟩
 have R4 : Hid (RdT q S dp t.fwd W3) := by show RdT _ _ _ _ _; rw [hW3, hpp]; exact heap_setCell_same _ q 1 _ _ _ x1
 have K4 : Hid (KX q w W3) := by show KX q w W3; rw [hW3]; exact (KX.of hA).trans KX.cell
 have Z4 : Hid (W3.heap[q1]? = some (.cells #[.int .u64 0, .int .u64 0, .int .u64 0, .int .u64 0] 25)) := by
  show _ = _
  rw [hW3, heap_setCell_other _ _ _ _ (by show q1 ≠ q; omega), hq1]; exact heap_alloc_new _ _
 have HW3 := Lib.hid hW3
 have HQ1 := Lib.hid hq1
 have HQQ := Lib.hid hqq
 have HSG : Hid (∀ W, Calls Try.prog 13 #[.int .u8 c] W (fun e w' => e = .returned (.agg #[.int .u64 (Cls.one c).a, .int .u64 (Cls.one c).b, .int .u64 (Cls.one c).c, .int .u64 (Cls.one c).d]) ∧ Below W.heap.size W w')) := fun W => rx_single c W hc
 have HF : Hid (∀ W, RdT q S dp t.fwd W → Calls Try.prog 21 #[.pointer (some ⟨q, 0, none⟩), .int .i64 (p : Int), .int .i64 9] W (fun e w' => e = .returned (.tuple #[]) ∧ RKT q S dp (t.fwd.fail t.p 9) W w')) := fun W hW => by rw [hpp]; exact rf_fail q S dp t.fwd t.p 9 W hW
 have HIX : Hid (∀ W, Calls Try.prog 60 #[.string ⟨#[91, 93, 94, 45]⟩, .int .u8 c] W (fun e w' => e = .returned (.int .i64 (Lib.indexByte [91, 93, 94, 45] (c : Int).toNat.toUInt8)) ∧ w' = W)) := fun W => Try.strings_IndexByte ⟨#[91, 93, 94, 45]⟩ (c : Int) W
 obtain ⟨z, hz⟩ : ∃ z, z = Lib.indexByte [91, 93, 94, 45] (c : Int).toNat.toUInt8 := ⟨_, rfl⟩
 have hz4 := ix_four c hc
 rw [← hz] at hz4 HIX
 have HPP := Lib.hid hpp
 clear h hA x1 hW3 hq1 hqq hcE hz
 by_cases h92 : c = 92
 ·
  obtain ⟨k, n, o, t1, hes⟩ : ∃ k n o t1, rf.escape (kit.bytes S) t.p t.fwd = ((k, n, o), t1) := ⟨_, _, _, _, rfl⟩
  have HES : Hid (∀ W, RdT q S dp t.fwd W → Calls Try.prog 47 #[.pointer (some ⟨q, 0, none⟩), .int .i64 (p : Int)] W (fun e w' => e = .returned (.tuple #[.agg #[.int .u64 k.a, .int .u64 k.b, .int .u64 k.c, .int .u64 k.d], .int .u8 (n : Int), .bool o]) ∧ RKT q S dp t1 W w')) := fun W hW => by have h := rf_escape q S dp t.fwd t.p W hW hS; rw [hes] at h; rw [hpp]; exact h
  have b92 : ((c : Int) == 92) = true := by simp [h92]
  have HV : Hid (r = ((k, n, o), t1)) := by show _ = _; rw [hr]; unfold rf.single; rw [hb]; simp only; rw [if_pos h92, hes]
  clear hpp hz4
  clear hr hb hes h92
  go_enter Try.func65, Try.ntmps65
  go_wp2_with fail
  rw [← HW3.out, ← HQ1.out]
  (with_reducible refine (HES.out _ R4.out).mono ?_)
  rintro e8 w8 ⟨rfl, r8, k8⟩
  have R8 := Lib.hid r8
  have K8 := Lib.hid (K4.out.trans k8)
  have Z8 := Lib.hid ((k8.2.2 q1 (lt_of_block Z4.out) (by have := HQQ.out; omega)).trans Z4.out)
  clear r8 k8
  go_wp2_with ((with_reducible show wpList _ _ _ (Oper.mk _ (Op.store 25 (.tmp 2) _) _ _ _ _ :: _) _ _); refine wpList_store_row rfl 25 (.tmp 2) _ rfl (q1) #[.int .u64 k.a, .int .u64 k.b, .int .u64 k.c, .int .u64 k.d] rfl rfl 25 #[.int .u64 0, .int .u64 0, .int .u64 0, .int .u64 0] Z8.out clsize rfl (by simp [Value.oneCell']) ?_)
  have cc := setRow_heap _ q1 _ #[.int .u64 k.a, .int .u64 k.b, .int .u64 k.c, .int .u64 k.d] _ _ Z8.out
  have rr : RdT q S dp _ (World.setRow w8 q1 #[.int .u64 k.a, .int .u64 k.b, .int .u64 k.c, .int .u64 k.d]) := R8.out.keep KX.row (by have := HQQ.out; omega)
  have kk : KX q w (World.setRow w8 q1 #[.int .u64 k.a, .int .u64 k.b, .int .u64 k.c, .int .u64 k.d]) := K8.out.trans' KX.row (by have := HQ1.out; omega)
  obtain ⟨w99, h99⟩ : ∃ W, W = World.setRow w8 q1 #[.int .u64 k.a, .int .u64 k.b, .int .u64 k.c, .int .u64 k.d] := ⟨_, rfl⟩
  rw [← h99] at cc rr kk ⊢
  clear h99
  have k0 := boxc cc 0 _ rfl
  have k1 := boxc cc 1 _ rfl
  have k2 := boxc cc 2 _ rfl
  have k3 := boxc cc 3 _ rfl
  refine bodyPost_ret (v := .tuple #[.agg #[.int .u64 k.a, .int .u64 k.b, .int .u64 k.c, .int .u64 k.d], .int .u8 n, .bool o]) (by simp [results, Try.results65, go_sem, k0, k1, k2, k3]) rfl ⟨by rw [HV.out]; try rfl, by rw [HV.out]; exact rr, kk⟩
 have b92 : ((c : Int) == 92) = false := beq_eq_false_iff_ne.2 (by omega)
 clear hpp
 by_cases h32 : c < 32
 ·
  have i32 : (c : Int) < 32 := by omega
  have HV : Hid (r = ((Cls.zero, 0, false), t.fwd.fail t.p 9)) := by show _ = _; rw [hr]; unfold rf.single; rw [hb]; simp only; rw [if_neg h92, if_pos (Or.inl h32)]
  clear hr hb hz4 h92
  go_enter Try.func65, Try.ntmps65
  go_wp2_with fail
  rw [← HW3.out, ← HQ1.out]
  (with_reducible refine (HF.out _ R4.out).mono ?_)
  rintro e8 w8 ⟨rfl, r8, k8⟩
  have R8 := Lib.hid r8
  have K8 := Lib.hid (K4.out.trans k8)
  have Z8 := Lib.hid ((k8.2.2 q1 (lt_of_block Z4.out) (by have := HQQ.out; omega)).trans Z4.out)
  clear r8 k8
  go_wp2_with ((with_reducible show wpList _ _ _ (Oper.mk _ (Op.store 25 (.tmp 2) _) _ _ _ _ :: _) _ _); refine wpList_store_row rfl 25 (.tmp 2) _ rfl (q1) #[.int .u64 0, .int .u64 0, .int .u64 0, .int .u64 0] rfl rfl 25 #[.int .u64 0, .int .u64 0, .int .u64 0, .int .u64 0] Z8.out clsize rfl (by simp [Value.oneCell']) ?_)
  have cc := setRow_heap _ q1 _ #[.int .u64 0, .int .u64 0, .int .u64 0, .int .u64 0] _ _ Z8.out
  have rr : RdT q S dp _ (World.setRow w8 q1 #[.int .u64 0, .int .u64 0, .int .u64 0, .int .u64 0]) := R8.out.keep KX.row (by have := HQQ.out; omega)
  have kk : KX q w (World.setRow w8 q1 #[.int .u64 0, .int .u64 0, .int .u64 0, .int .u64 0]) := K8.out.trans' KX.row (by have := HQ1.out; omega)
  obtain ⟨w99, h99⟩ : ∃ W, W = World.setRow w8 q1 #[.int .u64 0, .int .u64 0, .int .u64 0, .int .u64 0] := ⟨_, rfl⟩
  rw [← h99] at cc rr kk ⊢
  clear h99
  have k0 := boxc cc 0 _ rfl
  have k1 := boxc cc 1 _ rfl
  have k2 := boxc cc 2 _ rfl
  have k3 := boxc cc 3 _ rfl
  refine bodyPost_ret (v := .tuple #[.agg #[.int .u64 0, .int .u64 0, .int .u64 0, .int .u64 0], .int .u8 0, .bool false]) (by simp [results, Try.results65, go_sem, k0, k1, k2, k3]) rfl ⟨by rw [HV.out]; try rfl, by rw [HV.out]; exact rr, kk⟩
 have i32 : ¬ (c : Int) < 32 := by omega
 by_cases h126 : 126 < c
 ·
  have i126 : (126 : Int) < (c : Int) := by omega
  have HV : Hid (r = ((Cls.zero, 0, false), t.fwd.fail t.p 9)) := by show _ = _; rw [hr]; unfold rf.single; rw [hb]; simp only; rw [if_neg h92, if_pos (Or.inr (Or.inl h126))]
  clear hr hb hz4 h92
  go_enter Try.func65, Try.ntmps65
  go_wp2_with fail
  rw [← HW3.out, ← HQ1.out]
  (with_reducible refine (HF.out _ R4.out).mono ?_)
  rintro e8 w8 ⟨rfl, r8, k8⟩
  have R8 := Lib.hid r8
  have K8 := Lib.hid (K4.out.trans k8)
  have Z8 := Lib.hid ((k8.2.2 q1 (lt_of_block Z4.out) (by have := HQQ.out; omega)).trans Z4.out)
  clear r8 k8
  go_wp2_with ((with_reducible show wpList _ _ _ (Oper.mk _ (Op.store 25 (.tmp 2) _) _ _ _ _ :: _) _ _); refine wpList_store_row rfl 25 (.tmp 2) _ rfl (q1) #[.int .u64 0, .int .u64 0, .int .u64 0, .int .u64 0] rfl rfl 25 #[.int .u64 0, .int .u64 0, .int .u64 0, .int .u64 0] Z8.out clsize rfl (by simp [Value.oneCell']) ?_)
  have cc := setRow_heap _ q1 _ #[.int .u64 0, .int .u64 0, .int .u64 0, .int .u64 0] _ _ Z8.out
  have rr : RdT q S dp _ (World.setRow w8 q1 #[.int .u64 0, .int .u64 0, .int .u64 0, .int .u64 0]) := R8.out.keep KX.row (by have := HQQ.out; omega)
  have kk : KX q w (World.setRow w8 q1 #[.int .u64 0, .int .u64 0, .int .u64 0, .int .u64 0]) := K8.out.trans' KX.row (by have := HQ1.out; omega)
  obtain ⟨w99, h99⟩ : ∃ W, W = World.setRow w8 q1 #[.int .u64 0, .int .u64 0, .int .u64 0, .int .u64 0] := ⟨_, rfl⟩
  rw [← h99] at cc rr kk ⊢
  clear h99
  have k0 := boxc cc 0 _ rfl
  have k1 := boxc cc 1 _ rfl
  have k2 := boxc cc 2 _ rfl
  have k3 := boxc cc 3 _ rfl
  refine bodyPost_ret (v := .tuple #[.agg #[.int .u64 0, .int .u64 0, .int .u64 0, .int .u64 0], .int .u8 0, .bool false]) (by simp [results, Try.results65, go_sem, k0, k1, k2, k3]) rfl ⟨by rw [HV.out]; try rfl, by rw [HV.out]; exact rr, kk⟩
 have i126 : ¬ (126 : Int) < (c : Int) := by omega
 have mid : True := trivial
 clear mid
 by_cases hzz : 0 ≤ z
 ·
  have h4 := hz4.1 hzz
  have HV : Hid (r = ((Cls.zero, 0, false), t.fwd.fail t.p 9)) := by show _ = _; rw [hr]; unfold rf.single; rw [hb]; simp only; rw [if_neg h92, if_pos (Or.inr (Or.inr h4))]
  clear hr hb hz4 h4 h92
  go_enter Try.func65, Try.ntmps65
  go_wp2_with fail
  rw [← HW3.out, ← HQ1.out]
  (with_reducible refine (HIX.out _).mono ?_)
  rintro e3 w3 ⟨rfl, h3⟩
  obtain rfl := h3.symm
  go_wp2_with fail
  (with_reducible refine (HF.out _ R4.out).mono ?_)
  rintro e8 w8 ⟨rfl, r8, k8⟩
  have R8 := Lib.hid r8
  have K8 := Lib.hid (K4.out.trans k8)
  have Z8 := Lib.hid ((k8.2.2 q1 (lt_of_block Z4.out) (by have := HQQ.out; omega)).trans Z4.out)
  clear r8 k8
  go_wp2_with ((with_reducible show wpList _ _ _ (Oper.mk _ (Op.store 25 (.tmp 2) _) _ _ _ _ :: _) _ _); refine wpList_store_row rfl 25 (.tmp 2) _ rfl (q1) #[.int .u64 0, .int .u64 0, .int .u64 0, .int .u64 0] rfl rfl 25 #[.int .u64 0, .int .u64 0, .int .u64 0, .int .u64 0] Z8.out clsize rfl (by simp [Value.oneCell']) ?_)
  have cc := setRow_heap _ q1 _ #[.int .u64 0, .int .u64 0, .int .u64 0, .int .u64 0] _ _ Z8.out
  have rr : RdT q S dp _ (World.setRow w8 q1 #[.int .u64 0, .int .u64 0, .int .u64 0, .int .u64 0]) := R8.out.keep KX.row (by have := HQQ.out; omega)
  have kk : KX q w (World.setRow w8 q1 #[.int .u64 0, .int .u64 0, .int .u64 0, .int .u64 0]) := K8.out.trans' KX.row (by have := HQ1.out; omega)
  obtain ⟨w99, h99⟩ : ∃ W, W = World.setRow w8 q1 #[.int .u64 0, .int .u64 0, .int .u64 0, .int .u64 0] := ⟨_, rfl⟩
  rw [← h99] at cc rr kk ⊢
  clear h99
  have k0 := boxc cc 0 _ rfl
  have k1 := boxc cc 1 _ rfl
  have k2 := boxc cc 2 _ rfl
  have k3 := boxc cc 3 _ rfl
  refine bodyPost_ret (v := .tuple #[.agg #[.int .u64 0, .int .u64 0, .int .u64 0, .int .u64 0], .int .u8 0, .bool false]) (by simp [results, Try.results65, go_sem, k0, k1, k2, k3]) rfl ⟨by rw [HV.out]; try rfl, by rw [HV.out]; exact rr, kk⟩
 ·
  have h4 : ¬ (c = 91 ∨ c = 93 ∨ c = 94 ∨ c = 45) := fun h => hzz (hz4.2 h)
  have HV : Hid (r = ((Cls.one c, c, true), t.fwd)) := by show _ = _; rw [hr]; unfold rf.single; rw [hb]; simp only; rw [if_neg h92, if_neg (fun h => h.elim h32 (fun h => h.elim h126 h4))]
  clear hr hb hz4 h4 h92
  go_enter Try.func65, Try.ntmps65
  go_wp2_with fail
  rw [← HW3.out, ← HQ1.out]
  (with_reducible refine (HIX.out _).mono ?_)
  rintro e3 w3 ⟨rfl, h3⟩
  obtain rfl := h3.symm
  go_wp2_with fail
  (with_reducible refine (HSG.out _).mono ?_)
  rintro e8 w8 ⟨rfl, b8⟩
  have R8 := Lib.hid (R4.out.next b8)
  have K8 := Lib.hid (K4.out.next b8)
  have Z8 := Lib.hid ((b8.block _ (lt_of_block Z4.out)).trans Z4.out)
  clear b8
  go_wp2_with ((with_reducible show wpList _ _ _ (Oper.mk _ (Op.store 25 (.tmp 2) _) _ _ _ _ :: _) _ _); refine wpList_store_row rfl 25 (.tmp 2) _ rfl (q1) #[.int .u64 (Cls.one c).a, .int .u64 (Cls.one c).b, .int .u64 (Cls.one c).c, .int .u64 (Cls.one c).d] rfl rfl 25 #[.int .u64 0, .int .u64 0, .int .u64 0, .int .u64 0] Z8.out clsize rfl (by simp [Value.oneCell']) ?_)
  have cc := setRow_heap _ q1 _ #[.int .u64 (Cls.one c).a, .int .u64 (Cls.one c).b, .int .u64 (Cls.one c).c, .int .u64 (Cls.one c).d] _ _ Z8.out
  have rr : RdT q S dp _ (World.setRow w8 q1 #[.int .u64 (Cls.one c).a, .int .u64 (Cls.one c).b, .int .u64 (Cls.one c).c, .int .u64 (Cls.one c).d]) := R8.out.keep KX.row (by have := HQQ.out; omega)
  have kk : KX q w (World.setRow w8 q1 #[.int .u64 (Cls.one c).a, .int .u64 (Cls.one c).b, .int .u64 (Cls.one c).c, .int .u64 (Cls.one c).d]) := K8.out.trans' KX.row (by have := HQ1.out; omega)
  obtain ⟨w99, h99⟩ : ∃ W, W = World.setRow w8 q1 #[.int .u64 (Cls.one c).a, .int .u64 (Cls.one c).b, .int .u64 (Cls.one c).c, .int .u64 (Cls.one c).d] := ⟨_, rfl⟩
  rw [← h99] at cc rr kk ⊢
  clear h99
  have k0 := boxc cc 0 _ rfl
  have k1 := boxc cc 1 _ rfl
  have k2 := boxc cc 2 _ rfl
  have k3 := boxc cc 3 _ rfl
  refine bodyPost_ret (v := .tuple #[.agg #[.int .u64 (Cls.one c).a, .int .u64 (Cls.one c).b, .int .u64 (Cls.one c).c, .int .u64 (Cls.one c).d], .int .u8 c, .bool true]) (by simp [results, Try.results65, go_sem, k0, k1, k2, k3]) rfl ⟨by rw [HV.out]; try rfl, by rw [HV.out]; exact rr, kk⟩
end Go.Proofs.Ytbccejlemhgioaa
