/- texts put together: RfNum. -/
import Derived.Test.YtbccejlemhgioaaPa03
import Derived.Test.YtbccejlemhgioaaPa04
namespace Go.Proofs.Ytbccejlemhgioaa
open Go Go.RowKit Go.ChangeShapes cl rx
open rf
theorem RdT.pOf {q : Nat} {S : ByteArray} {dp : Int} {t : T} {w : World} (h : RdT q S dp t w) : pOf w q = t.p := Rd.pOf h
set_option maxHeartbeats 6400000 in
set_option maxRecDepth 100000 in
theorem rf_number (q : Nat) (S : ByteArray) (dp : Int) (t : T) (w : World) (h : RdT q S dp t w) (hS : S.size ≤ 60) (hp : t.p ≤ S.size) : Calls Try.prog 61 #[.pointer (some ⟨q, 0, none⟩)] w (fun e w' => e = .returned (.tuple #[.int .i64 (rf.number (kit.bytes S) t).1.1, .bool (rf.number (kit.bytes S) t).1.2]) ∧ RKT q S dp (rf.number (kit.bytes S) t).2 w w') := by
 have hlen : (kit.bytes S).length = S.size := by simp [kit.bytes]
 have c1 := boxc h.box 1 _ rfl
 have HNX : Hid (∀ (t : T) (W : World), RdT q S dp t W → Calls Try.prog 35 #[.pointer (some ⟨q, 0, none⟩)] W (fun e w' => e = .returned (.tuple #[.int .u8 (((rf.nxt (kit.bytes S) t).getD 0 : Nat) : Int), .bool (rf.nxt (kit.bytes S) t).isSome]) ∧ Below W.heap.size W w')) := fun t W hW => rf_next q S dp t W hW hS
 have R0 := Lib.hid h
 unfold rf.number
 simp only
 obtain ⟨fn, ft, hfin⟩ : ∃ fn ft, numF (kit.bytes S) t.p 5 0 t = (fn, ft) := ⟨_, _, rfl⟩
 rw [hfin]
 simp only
 obtain ⟨b, hb⟩ : ∃ b, b = decide (1 ≤ ft.p - t.p ∧ ft.p - t.p ≤ 3 ∧ (ft.p - t.p = 1 ∨ (kit.bytes S)[t.p]? ≠ some 48)) := ⟨_, rfl⟩
 rw [← hb]
 have HB := Lib.hid hb
 have HFS := Lib.hid hfin
 have HLEN := Lib.hid hlen
 clear h hfin hb hlen
 go_enter Try.func61, Try.ntmps61
 go_wp2_with fail
 (with_reducible refine (HNX.out _ _ R0.out).mono ?_)
 rintro e4 w4 ⟨rfl, b4⟩
 have R4 := Lib.hid (R0.out.next b4)
 have K4 := Lib.hid (KX.of (q := q) b4)
 clear b4 c1
 go_wp2
 go_loopw [5, 6, 7] (fun v c o wr => ∃ (f n : Nat) (tt : T), v = .int .i64 n ∧ c = .int .u8 (((rf.nxt (kit.bytes S) tt).getD 0 : Nat) : Int) ∧ o = .bool (rf.nxt (kit.bytes S) tt).isSome ∧ Hid (numF (kit.bytes S) t.p f n tt = (fn, ft)) ∧ tt.p + f = t.p + 5 ∧ t.p ≤ tt.p ∧ tt.p ≤ S.size ∧ 1 ≤ f ∧ n < 10 ^ (5 - f) ∧ Hid (RdT q S dp tt wr) ∧ Hid (KX q w wr)) (fun _ _ _ wr => S.size + 1 - pOf wr q)
 case atStart => exact ⟨5, 0, t, rfl, rfl, rfl, HFS.out, rfl, Nat.le_refl _, hp, by omega, by decide, R4.out, K4.out⟩
 case round =>
  obtain ⟨f, n, tt, rfl, rfl, rfl, HF, hfp, htp, hts, hf1, hnb, HR, KR⟩ := hrel
  have hn10 : n < 10000 := by
   have h1 : (10 : Nat) ^ (5 - f) ≤ 10 ^ 4 := Nat.pow_le_pow_right (by decide) (by omega)
   have h2 : (10 : Nat) ^ 4 = 10000 := by decide
   omega
  have hn2 : 5 - f = 4 - f + (if f = 5 then 0 else 1) := by split <;> omega
  obtain ⟨f1, rfl⟩ : ∃ f1, f = f1 + 1 := ⟨f - 1, by omega⟩
  obtain ⟨o, ho⟩ : ∃ o, o = rf.nxt (kit.bytes S) tt := ⟨_, rfl⟩
  rw [← ho]
  have HNO := Lib.hid ho
  cases o with
  | none =>
   have HST : Hid (n = fn ∧ tt = ft) := by
    have h1 := HF.out
    have h2 : numF (kit.bytes S) t.p (f1 + 1) n tt = (n, tt) := by unfold numF; rw [← HNO.out]
    rw [h2] at h1
    simp only [Prod.mk.injEq] at h1
    exact h1
   obtain ⟨hst1, hst2⟩ := HST.out
   have HE : Hid (b = decide (1 ≤ tt.p - t.p ∧ tt.p - t.p ≤ 3 ∧ (tt.p - t.p = 1 ∨ (kit.bytes S)[t.p]? ≠ some 48))) := by show _ = _; rw [HB.out, hst2]
   clear hst1 hst2 HB HF
   clear ho hnb hn2
   simp only [Option.getD_none, Option.isSome_none]
   have c1 := boxc HR.out.box 1 _ rfl
   have c0 := boxc HR.out.box 0 _ rfl
   have hsub : IntKind.i64.wrap ((tt.p : Int) - (t.p : Int)) = (tt.p : Int) - (t.p : Int) := IntWalk.i64_in _ (by omega)
   go_wp2
   have hsub0 : (tt.p : Int) - (t.p : Int) = ((tt.p - t.p : Nat) : Int) := by omega
   rw [hsub0]
   clear hsub hsub0
   obtain ⟨d, hd⟩ : ∃ d, d = tt.p - t.p := ⟨_, rfl⟩
   rw [← hd] at HE ⊢
   have HD := Lib.hid hd
   clear hd
   by_cases d1 : 1 ≤ d
   ·
    have i1 : (1 : Int) ≤ (d : Int) := by omega
    by_cases d3 : d ≤ 3
    ·
     have i3 : (d : Int) ≤ 3 := by omega
     by_cases d2 : d = 1
     ·
      have i2 : ((d : Int) == 1) = true := by simp [d2]
      have HV : Hid (b = true) := by show _ = _; rw [HE.out]; exact decide_eq_true ⟨d1, d3, Or.inl d2⟩
      have HI2 := Lib.hid i2
      clear HE d2
      go_quiet (fail)
      have bd := below_drewN (Below.refl wr.heap.size wr) nq
      obtain ⟨W4, hW4⟩ : ∃ W, W = wr.drewN nq := ⟨_, rfl⟩
      rw [← hW4] at bd ⊢
      have R9 := Lib.hid (HR.out.next bd)
      have K9 := Lib.hid (KR.out.next bd)
      clear hW4 bd c0 c1
      go_wp2
      refine bodyPost_ret (v := .tuple #[.int .i64 n, .bool true]) (by simp [results, Try.results61, go_sem]) rfl ⟨?_, ?_, K9.out⟩
      ·
       rw [HV.out, HST.out.1]
      ·
       rw [← HST.out.2]; exact R9.out
     ·
      have i2 : ((d : Int) == 1) = false := beq_eq_false_iff_ne.2 (by omega)
      have hps : t.p < S.size := by have := HD.out; omega
      obtain ⟨z, hz⟩ : ∃ z, z = (S[t.p]'hps).toNat := ⟨_, rfl⟩
      have hby : (kit.bytes S)[t.p]? = some z := by rw [byte_at hps, hz]
      have hpsi : (t.p : Int) < (S.size : Int) := by omega
      by_cases z0 : z = 48
      ·
       have HV : Hid (b = false) := by show _ = _; rw [HE.out]; exact decide_eq_false (fun h => h.2.2.elim d2 (fun h => h (by subst z0; exact hby)))
       have hzi : (((S[t.p]'hps).toNat : Int) == 48) = true := by rw [← hz, z0]; rfl
       have hzj : (((S[t.p]'hps).toNat : Int) != 48) = false := by rw [bne, hzi]; rfl
       clear HE d2 hz hby z0
       go_quiet (fail)
       have bd := below_drewN (Below.refl wr.heap.size wr) nq
       obtain ⟨W4, hW4⟩ : ∃ W, W = wr.drewN nq := ⟨_, rfl⟩
       rw [← hW4] at bd ⊢
       have R9 := Lib.hid (HR.out.next bd)
       have K9 := Lib.hid (KR.out.next bd)
       clear hW4 bd c0 c1
       go_wp2
       refine bodyPost_ret (v := .tuple #[.int .i64 n, .bool false]) (by simp [results, Try.results61, go_sem]) rfl ⟨?_, ?_, K9.out⟩
       ·
        rw [HV.out, HST.out.1]
       ·
        rw [← HST.out.2]; exact R9.out
      ·
       have HV : Hid (b = true) := by show _ = _; rw [HE.out]; exact decide_eq_true ⟨d1, d3, Or.inr (fun h => z0 (by rw [hby] at h; exact Option.some.inj h))⟩
       have hzi : (((S[t.p]'hps).toNat : Int) == 48) = false := by rw [← hz]; exact beq_eq_false_iff_ne.2 (by omega)
       have hzj : (((S[t.p]'hps).toNat : Int) != 48) = true := by rw [bne, hzi]; rfl
       clear HE d2 hz hby z0
       go_quiet (fail)
       have bd := below_drewN (Below.refl wr.heap.size wr) nq
       obtain ⟨W4, hW4⟩ : ∃ W, W = wr.drewN nq := ⟨_, rfl⟩
       rw [← hW4] at bd ⊢
       have R9 := Lib.hid (HR.out.next bd)
       have K9 := Lib.hid (KR.out.next bd)
       clear hW4 bd c0 c1
       go_wp2
       refine bodyPost_ret (v := .tuple #[.int .i64 n, .bool true]) (by simp [results, Try.results61, go_sem]) rfl ⟨?_, ?_, K9.out⟩
       ·
        rw [HV.out, HST.out.1]
       ·
        rw [← HST.out.2]; exact R9.out
    ·
     have i3 : decide ((d : Int) ≤ 3) = false := decide_eq_false (by omega)
     have HV : Hid (b = false) := by show _ = _; rw [HE.out]; exact decide_eq_false (fun h => d3 h.2.1)
     clear HE
     go_quiet (fail)
     have bd := below_drewN (Below.refl wr.heap.size wr) nq
     obtain ⟨W4, hW4⟩ : ∃ W, W = wr.drewN nq := ⟨_, rfl⟩
     rw [← hW4] at bd ⊢
     have R9 := Lib.hid (HR.out.next bd)
     have K9 := Lib.hid (KR.out.next bd)
     clear hW4 bd c0 c1
     go_wp2
     refine bodyPost_ret (v := .tuple #[.int .i64 n, .bool false]) (by simp [results, Try.results61, go_sem]) rfl ⟨?_, ?_, K9.out⟩
     ·
      rw [HV.out, HST.out.1]
     ·
      rw [← HST.out.2]; exact R9.out
   ·
    have i1 : decide ((1 : Int) ≤ (d : Int)) = false := decide_eq_false (by omega)
    have HV : Hid (b = false) := by show _ = _; rw [HE.out]; exact decide_eq_false (fun h => d1 h.1)
    clear HE
    go_quiet (fail)
    have bd := below_drewN (Below.refl wr.heap.size wr) nq
    obtain ⟨W4, hW4⟩ : ∃ W, W = wr.drewN nq := ⟨_, rfl⟩
    rw [← hW4] at bd ⊢
    have R9 := Lib.hid (HR.out.next bd)
    have K9 := Lib.hid (KR.out.next bd)
    clear hW4 bd c0 c1
    go_wp2
    refine bodyPost_ret (v := .tuple #[.int .i64 n, .bool false]) (by simp [results, Try.results61, go_sem]) rfl ⟨?_, ?_, K9.out⟩
    ·
     rw [HV.out, HST.out.1]
    ·
     rw [← HST.out.2]; exact R9.out
  | some c =>
   obtain ⟨hco, hpl, hc⟩ := rf_nxt_lt ho.symm
   simp only [Option.getD_some, Option.isSome_some]
   by_cases h48 : 48 ≤ c
   ·
    have i48 : (48 : Int) ≤ (c : Int) := by omega
    by_cases h57 : c ≤ 57
    ·
     have i57 : (c : Int) ≤ 57 := by omega
     by_cases h4 : tt.p - t.p < 4
     ·
      have i4 : (tt.p : Int) - (t.p : Int) < 4 := by omega
      have hst : Hid (numF (kit.bytes S) t.p f1 (10 * n + (c - 48)) tt.fwd = (fn, ft)) := by
       have h1 := HF.out
       unfold numF at h1
       rw [← HNO.out] at h1
       simp only at h1
       rw [if_pos ⟨h48, h57, h4⟩] at h1
       exact h1
      have hnb2 : 10 * n + (c - 48) < 10 ^ (5 - f1) := by
       have e : 5 - f1 = (5 - (f1 + 1)) + 1 := by omega
       rw [e, Nat.pow_succ]
       omega
      have HNB := Lib.hid hnb2
      have c1 := boxc HR.out.box 1 _ rfl
      have f1r := boxf HR.out.box 1
      have hsub : IntKind.i64.wrap ((tt.p : Int) - (t.p : Int)) = (tt.p : Int) - (t.p : Int) := IntWalk.i64_in _ (by omega)
      have HX : Hid (RKT q S dp tt.fwd w (wr.setCell ⟨q, 1, none⟩ (.int .i64 ((tt.p : Int) + 1)))) := ⟨heap_setCell_same wr q 1 _ _ _ HR.out.box, KR.out.trans KX.cell⟩
      have HPO : Hid (pOf wr q = tt.p) := HR.out.pOf
      clear ho hco hnb hnb2 hn2
      go_wp2_with fail
      have XR := HX.out.1
      obtain ⟨w5, hw5⟩ : ∃ W, W = wr.setCell ⟨q, 1, none⟩ (.int .i64 ((tt.p : Int) + 1)) := ⟨_, rfl⟩
      rw [← hw5] at HX XR ⊢
      clear hw5 c1 f1r
      (with_reducible refine (HNX.out _ _ XR).mono ?_)
      rintro e6 w6 ⟨rfl, b6⟩
      have R6 := Lib.hid (XR.next b6)
      have K6 := Lib.hid (HX.out.2.next b6)
      clear b6 XR
      go_wp2
      go_roundw
      case rel => exact ⟨f1, 10 * n + (c - 48), tt.fwd, by go_num, rfl, rfl, hst.out, by show tt.p + 1 + f1 = _; omega, by show t.p ≤ tt.p + 1; omega, hpl, by omega, HNB.out, R6.out, K6.out⟩
      case measure => rw [R6.out.pOf, HPO.out]; show S.size + 1 - (tt.p + 1) < _; omega
     ·
      have i4 : ¬ (tt.p : Int) - (t.p : Int) < 4 := by omega
      have HST : Hid (n = fn ∧ tt = ft) := by
       have h1 := HF.out
       have h2 : numF (kit.bytes S) t.p (f1 + 1) n tt = (n, tt) := by unfold numF; rw [← HNO.out]; simp only; rw [if_neg (fun h => h4 h.2.2)]
       rw [h2] at h1
       simp only [Prod.mk.injEq] at h1
       exact h1
      obtain ⟨hst1, hst2⟩ := HST.out
      have HE : Hid (b = decide (1 ≤ tt.p - t.p ∧ tt.p - t.p ≤ 3 ∧ (tt.p - t.p = 1 ∨ (kit.bytes S)[t.p]? ≠ some 48))) := by show _ = _; rw [HB.out, hst2]
      clear hst1 hst2 HB HF
      clear ho hnb hn2 hco
      have c1 := boxc HR.out.box 1 _ rfl
      have c0 := boxc HR.out.box 0 _ rfl
      have hsub : IntKind.i64.wrap ((tt.p : Int) - (t.p : Int)) = (tt.p : Int) - (t.p : Int) := IntWalk.i64_in _ (by omega)
      go_wp2
      have hsub0 : (tt.p : Int) - (t.p : Int) = ((tt.p - t.p : Nat) : Int) := by omega
      rw [hsub0]
      clear hsub hsub0 i4
      obtain ⟨d, hd⟩ : ∃ d, d = tt.p - t.p := ⟨_, rfl⟩
      rw [← hd] at HE ⊢
      have HD := Lib.hid hd
      clear hd
      by_cases d1 : 1 ≤ d
      ·
       have i1 : (1 : Int) ≤ (d : Int) := by omega
       by_cases d3 : d ≤ 3
       ·
        have i3 : (d : Int) ≤ 3 := by omega
        by_cases d2 : d = 1
        ·
         have i2 : ((d : Int) == 1) = true := by simp [d2]
         have HV : Hid (b = true) := by show _ = _; rw [HE.out]; exact decide_eq_true ⟨d1, d3, Or.inl d2⟩
         have HI2 := Lib.hid i2
         clear HE d2
         go_quiet (fail)
         have bd := below_drewN (Below.refl wr.heap.size wr) nq
         obtain ⟨W4, hW4⟩ : ∃ W, W = wr.drewN nq := ⟨_, rfl⟩
         rw [← hW4] at bd ⊢
         have R9 := Lib.hid (HR.out.next bd)
         have K9 := Lib.hid (KR.out.next bd)
         clear hW4 bd c0 c1
         go_wp2
         refine bodyPost_ret (v := .tuple #[.int .i64 n, .bool true]) (by simp [results, Try.results61, go_sem]) rfl ⟨?_, ?_, K9.out⟩
         ·
          rw [HV.out, HST.out.1]
         ·
          rw [← HST.out.2]; exact R9.out
        ·
         have i2 : ((d : Int) == 1) = false := beq_eq_false_iff_ne.2 (by omega)
         have hps : t.p < S.size := by have := HD.out; omega
         obtain ⟨z, hz⟩ : ∃ z, z = (S[t.p]'hps).toNat := ⟨_, rfl⟩
         have hby : (kit.bytes S)[t.p]? = some z := by rw [byte_at hps, hz]
         have hpsi : (t.p : Int) < (S.size : Int) := by omega
         by_cases z0 : z = 48
         ·
          have HV : Hid (b = false) := by show _ = _; rw [HE.out]; exact decide_eq_false (fun h => h.2.2.elim d2 (fun h => h (by subst z0; exact hby)))
          have hzi : (((S[t.p]'hps).toNat : Int) == 48) = true := by rw [← hz, z0]; rfl
          have hzj : (((S[t.p]'hps).toNat : Int) != 48) = false := by rw [bne, hzi]; rfl
          clear HE d2 hz hby z0
          go_quiet (fail)
          have bd := below_drewN (Below.refl wr.heap.size wr) nq
          obtain ⟨W4, hW4⟩ : ∃ W, W = wr.drewN nq := ⟨_, rfl⟩
          rw [← hW4] at bd ⊢
          have R9 := Lib.hid (HR.out.next bd)
          have K9 := Lib.hid (KR.out.next bd)
          clear hW4 bd c0 c1
          go_wp2
          refine bodyPost_ret (v := .tuple #[.int .i64 n, .bool false]) (by simp [results, Try.results61, go_sem]) rfl ⟨?_, ?_, K9.out⟩
          ·
           rw [HV.out, HST.out.1]
          ·
           rw [← HST.out.2]; exact R9.out
         ·
          have HV : Hid (b = true) := by show _ = _; rw [HE.out]; exact decide_eq_true ⟨d1, d3, Or.inr (fun h => z0 (by rw [hby] at h; exact Option.some.inj h))⟩
          have hzi : (((S[t.p]'hps).toNat : Int) == 48) = false := by rw [← hz]; exact beq_eq_false_iff_ne.2 (by omega)
          have hzj : (((S[t.p]'hps).toNat : Int) != 48) = true := by rw [bne, hzi]; rfl
          clear HE d2 hz hby z0
          go_quiet (fail)
          have bd := below_drewN (Below.refl wr.heap.size wr) nq
          obtain ⟨W4, hW4⟩ : ∃ W, W = wr.drewN nq := ⟨_, rfl⟩
          rw [← hW4] at bd ⊢
          have R9 := Lib.hid (HR.out.next bd)
          have K9 := Lib.hid (KR.out.next bd)
          clear hW4 bd c0 c1
          go_wp2
          refine bodyPost_ret (v := .tuple #[.int .i64 n, .bool true]) (by simp [results, Try.results61, go_sem]) rfl ⟨?_, ?_, K9.out⟩
          ·
           rw [HV.out, HST.out.1]
          ·
           rw [← HST.out.2]; exact R9.out
       ·
        have i3 : decide ((d : Int) ≤ 3) = false := decide_eq_false (by omega)
        have HV : Hid (b = false) := by show _ = _; rw [HE.out]; exact decide_eq_false (fun h => d3 h.2.1)
        clear HE
        go_quiet (fail)
        have bd := below_drewN (Below.refl wr.heap.size wr) nq
        obtain ⟨W4, hW4⟩ : ∃ W, W = wr.drewN nq := ⟨_, rfl⟩
        rw [← hW4] at bd ⊢
        have R9 := Lib.hid (HR.out.next bd)
        have K9 := Lib.hid (KR.out.next bd)
        clear hW4 bd c0 c1
        go_wp2
        refine bodyPost_ret (v := .tuple #[.int .i64 n, .bool false]) (by simp [results, Try.results61, go_sem]) rfl ⟨?_, ?_, K9.out⟩
        ·
         rw [HV.out, HST.out.1]
        ·
         rw [← HST.out.2]; exact R9.out
      ·
       have i1 : decide ((1 : Int) ≤ (d : Int)) = false := decide_eq_false (by omega)
       have HV : Hid (b = false) := by show _ = _; rw [HE.out]; exact decide_eq_false (fun h => d1 h.1)
       clear HE
       go_quiet (fail)
       have bd := below_drewN (Below.refl wr.heap.size wr) nq
       obtain ⟨W4, hW4⟩ : ∃ W, W = wr.drewN nq := ⟨_, rfl⟩
       rw [← hW4] at bd ⊢
       have R9 := Lib.hid (HR.out.next bd)
       have K9 := Lib.hid (KR.out.next bd)
       clear hW4 bd c0 c1
       go_wp2
       refine bodyPost_ret (v := .tuple #[.int .i64 n, .bool false]) (by simp [results, Try.results61, go_sem]) rfl ⟨?_, ?_, K9.out⟩
       ·
        rw [HV.out, HST.out.1]
       ·
        rw [← HST.out.2]; exact R9.out
    ·
     have i57 : ¬ (c : Int) ≤ 57 := by omega
     have HST : Hid (n = fn ∧ tt = ft) := by
      have h1 := HF.out
      have h2 : numF (kit.bytes S) t.p (f1 + 1) n tt = (n, tt) := by unfold numF; rw [← HNO.out]; simp only; rw [if_neg (fun h => h57 h.2.1)]
      rw [h2] at h1
      simp only [Prod.mk.injEq] at h1
      exact h1
     obtain ⟨hst1, hst2⟩ := HST.out
     have HE : Hid (b = decide (1 ≤ tt.p - t.p ∧ tt.p - t.p ≤ 3 ∧ (tt.p - t.p = 1 ∨ (kit.bytes S)[t.p]? ≠ some 48))) := by show _ = _; rw [HB.out, hst2]
     clear hst1 hst2 HB HF
     clear ho hnb hn2 hco
     have c1 := boxc HR.out.box 1 _ rfl
     have c0 := boxc HR.out.box 0 _ rfl
     have hsub : IntKind.i64.wrap ((tt.p : Int) - (t.p : Int)) = (tt.p : Int) - (t.p : Int) := IntWalk.i64_in _ (by omega)
     go_wp2
     have hsub0 : (tt.p : Int) - (t.p : Int) = ((tt.p - t.p : Nat) : Int) := by omega
     rw [hsub0]
     clear hsub hsub0
     obtain ⟨d, hd⟩ : ∃ d, d = tt.p - t.p := ⟨_, rfl⟩
     rw [← hd] at HE ⊢
     have HD := Lib.hid hd
     clear hd
     by_cases d1 : 1 ≤ d
     ·
      have i1 : (1 : Int) ≤ (d : Int) := by omega
      by_cases d3 : d ≤ 3
      ·
       have i3 : (d : Int) ≤ 3 := by omega
       by_cases d2 : d = 1
       ·
        have i2 : ((d : Int) == 1) = true := by simp [d2]
        have HV : Hid (b = true) := by show _ = _; rw [HE.out]; exact decide_eq_true ⟨d1, d3, Or.inl d2⟩
        have HI2 := Lib.hid i2
        clear HE d2
        go_quiet (fail)
        have bd := below_drewN (Below.refl wr.heap.size wr) nq
        obtain ⟨W4, hW4⟩ : ∃ W, W = wr.drewN nq := ⟨_, rfl⟩
        rw [← hW4] at bd ⊢
        have R9 := Lib.hid (HR.out.next bd)
        have K9 := Lib.hid (KR.out.next bd)
        clear hW4 bd c0 c1
        go_wp2
        refine bodyPost_ret (v := .tuple #[.int .i64 n, .bool true]) (by simp [results, Try.results61, go_sem]) rfl ⟨?_, ?_, K9.out⟩
        ·
         rw [HV.out, HST.out.1]
        ·
         rw [← HST.out.2]; exact R9.out
       ·
        have i2 : ((d : Int) == 1) = false := beq_eq_false_iff_ne.2 (by omega)
        have hps : t.p < S.size := by have := HD.out; omega
        obtain ⟨z, hz⟩ : ∃ z, z = (S[t.p]'hps).toNat := ⟨_, rfl⟩
        have hby : (kit.bytes S)[t.p]? = some z := by rw [byte_at hps, hz]
        have hpsi : (t.p : Int) < (S.size : Int) := by omega
        by_cases z0 : z = 48
        ·
         have HV : Hid (b = false) := by show _ = _; rw [HE.out]; exact decide_eq_false (fun h => h.2.2.elim d2 (fun h => h (by subst z0; exact hby)))
         have hzi : (((S[t.p]'hps).toNat : Int) == 48) = true := by rw [← hz, z0]; rfl
         have hzj : (((S[t.p]'hps).toNat : Int) != 48) = false := by rw [bne, hzi]; rfl
         clear HE d2 hz hby z0
         go_quiet (fail)
         have bd := below_drewN (Below.refl wr.heap.size wr) nq
         obtain ⟨W4, hW4⟩ : ∃ W, W = wr.drewN nq := ⟨_, rfl⟩
         rw [← hW4] at bd ⊢
         have R9 := Lib.hid (HR.out.next bd)
         have K9 := Lib.hid (KR.out.next bd)
         clear hW4 bd c0 c1
         go_wp2
         refine bodyPost_ret (v := .tuple #[.int .i64 n, .bool false]) (by simp [results, Try.results61, go_sem]) rfl ⟨?_, ?_, K9.out⟩
         ·
          rw [HV.out, HST.out.1]
         ·
          rw [← HST.out.2]; exact R9.out
        ·
         have HV : Hid (b = true) := by show _ = _; rw [HE.out]; exact decide_eq_true ⟨d1, d3, Or.inr (fun h => z0 (by rw [hby] at h; exact Option.some.inj h))⟩
         have hzi : (((S[t.p]'hps).toNat : Int) == 48) = false := by rw [← hz]; exact beq_eq_false_iff_ne.2 (by omega)
         have hzj : (((S[t.p]'hps).toNat : Int) != 48) = true := by rw [bne, hzi]; rfl
         clear HE d2 hz hby z0
         go_quiet (fail)
         have bd := below_drewN (Below.refl wr.heap.size wr) nq
         obtain ⟨W4, hW4⟩ : ∃ W, W = wr.drewN nq := ⟨_, rfl⟩
         rw [← hW4] at bd ⊢
         have R9 := Lib.hid (HR.out.next bd)
         have K9 := Lib.hid (KR.out.next bd)
         clear hW4 bd c0 c1
         go_wp2
         refine bodyPost_ret (v := .tuple #[.int .i64 n, .bool true]) (by simp [results, Try.results61, go_sem]) rfl ⟨?_, ?_, K9.out⟩
         ·
          rw [HV.out, HST.out.1]
         ·
          rw [← HST.out.2]; exact R9.out
      ·
       have i3 : decide ((d : Int) ≤ 3) = false := decide_eq_false (by omega)
       have HV : Hid (b = false) := by show _ = _; rw [HE.out]; exact decide_eq_false (fun h => d3 h.2.1)
       clear HE
       go_quiet (fail)
       have bd := below_drewN (Below.refl wr.heap.size wr) nq
       obtain ⟨W4, hW4⟩ : ∃ W, W = wr.drewN nq := ⟨_, rfl⟩
       rw [← hW4] at bd ⊢
       have R9 := Lib.hid (HR.out.next bd)
       have K9 := Lib.hid (KR.out.next bd)
       clear hW4 bd c0 c1
       go_wp2
       refine bodyPost_ret (v := .tuple #[.int .i64 n, .bool false]) (by simp [results, Try.results61, go_sem]) rfl ⟨?_, ?_, K9.out⟩
       ·
        rw [HV.out, HST.out.1]
       ·
        rw [← HST.out.2]; exact R9.out
     ·
      have i1 : decide ((1 : Int) ≤ (d : Int)) = false := decide_eq_false (by omega)
      have HV : Hid (b = false) := by show _ = _; rw [HE.out]; exact decide_eq_false (fun h => d1 h.1)
      clear HE
      go_quiet (fail)
      have bd := below_drewN (Below.refl wr.heap.size wr) nq
      obtain ⟨W4, hW4⟩ : ∃ W, W = wr.drewN nq := ⟨_, rfl⟩
      rw [← hW4] at bd ⊢
      have R9 := Lib.hid (HR.out.next bd)
      have K9 := Lib.hid (KR.out.next bd)
      clear hW4 bd c0 c1
      go_wp2
      refine bodyPost_ret (v := .tuple #[.int .i64 n, .bool false]) (by simp [results, Try.results61, go_sem]) rfl ⟨?_, ?_, K9.out⟩
      ·
       rw [HV.out, HST.out.1]
      ·
       rw [← HST.out.2]; exact R9.out
   ·
    have i48 : ¬ (48 : Int) ≤ (c : Int) := by omega
    have HST : Hid (n = fn ∧ tt = ft) := by
     have h1 := HF.out
     have h2 : numF (kit.bytes S) t.p (f1 + 1) n tt = (n, tt) := by unfold numF; rw [← HNO.out]; simp only; rw [if_neg (fun h => h48 h.1)]
     rw [h2] at h1
     simp only [Prod.mk.injEq] at h1
     exact h1
    obtain ⟨hst1, hst2⟩ := HST.out
    have HE : Hid (b = decide (1 ≤ tt.p - t.p ∧ tt.p - t.p ≤ 3 ∧ (tt.p - t.p = 1 ∨ (kit.bytes S)[t.p]? ≠ some 48))) := by show _ = _; rw [HB.out, hst2]
    clear hst1 hst2 HB HF
    clear ho hnb hn2 hco
    have c1 := boxc HR.out.box 1 _ rfl
    have c0 := boxc HR.out.box 0 _ rfl
    have hsub : IntKind.i64.wrap ((tt.p : Int) - (t.p : Int)) = (tt.p : Int) - (t.p : Int) := IntWalk.i64_in _ (by omega)
    go_wp2
    have hsub0 : (tt.p : Int) - (t.p : Int) = ((tt.p - t.p : Nat) : Int) := by omega
    rw [hsub0]
    clear hsub hsub0
    obtain ⟨d, hd⟩ : ∃ d, d = tt.p - t.p := ⟨_, rfl⟩
    rw [← hd] at HE ⊢
    have HD := Lib.hid hd
    clear hd
    by_cases d1 : 1 ≤ d
    ·
     have i1 : (1 : Int) ≤ (d : Int) := by omega
     by_cases d3 : d ≤ 3
     ·
      have i3 : (d : Int) ≤ 3 := by omega
      by_cases d2 : d = 1
      ·
       have i2 : ((d : Int) == 1) = true := by simp [d2]
       have HV : Hid (b = true) := by show _ = _; rw [HE.out]; exact decide_eq_true ⟨d1, d3, Or.inl d2⟩
       have HI2 := Lib.hid i2
       clear HE d2
       go_quiet (fail)
       have bd := below_drewN (Below.refl wr.heap.size wr) nq
       obtain ⟨W4, hW4⟩ : ∃ W, W = wr.drewN nq := ⟨_, rfl⟩
       rw [← hW4] at bd ⊢
       have R9 := Lib.hid (HR.out.next bd)
       have K9 := Lib.hid (KR.out.next bd)
       clear hW4 bd c0 c1
       go_wp2
       refine bodyPost_ret (v := .tuple #[.int .i64 n, .bool true]) (by simp [results, Try.results61, go_sem]) rfl ⟨?_, ?_, K9.out⟩
       ·
        rw [HV.out, HST.out.1]
       ·
        rw [← HST.out.2]; exact R9.out
      ·
       have i2 : ((d : Int) == 1) = false := beq_eq_false_iff_ne.2 (by omega)
       have hps : t.p < S.size := by have := HD.out; omega
       obtain ⟨z, hz⟩ : ∃ z, z = (S[t.p]'hps).toNat := ⟨_, rfl⟩
       have hby : (kit.bytes S)[t.p]? = some z := by rw [byte_at hps, hz]
       have hpsi : (t.p : Int) < (S.size : Int) := by omega
       by_cases z0 : z = 48
       ·
        have HV : Hid (b = false) := by show _ = _; rw [HE.out]; exact decide_eq_false (fun h => h.2.2.elim d2 (fun h => h (by subst z0; exact hby)))
        have hzi : (((S[t.p]'hps).toNat : Int) == 48) = true := by rw [← hz, z0]; rfl
        have hzj : (((S[t.p]'hps).toNat : Int) != 48) = false := by rw [bne, hzi]; rfl
        clear HE d2 hz hby z0
        go_quiet (fail)
        have bd := below_drewN (Below.refl wr.heap.size wr) nq
        obtain ⟨W4, hW4⟩ : ∃ W, W = wr.drewN nq := ⟨_, rfl⟩
        rw [← hW4] at bd ⊢
        have R9 := Lib.hid (HR.out.next bd)
        have K9 := Lib.hid (KR.out.next bd)
        clear hW4 bd c0 c1
        go_wp2
        refine bodyPost_ret (v := .tuple #[.int .i64 n, .bool false]) (by simp [results, Try.results61, go_sem]) rfl ⟨?_, ?_, K9.out⟩
        ·
         rw [HV.out, HST.out.1]
        ·
         rw [← HST.out.2]; exact R9.out
       ·
        have HV : Hid (b = true) := by show _ = _; rw [HE.out]; exact decide_eq_true ⟨d1, d3, Or.inr (fun h => z0 (by rw [hby] at h; exact Option.some.inj h))⟩
        have hzi : (((S[t.p]'hps).toNat : Int) == 48) = false := by rw [← hz]; exact beq_eq_false_iff_ne.2 (by omega)
        have hzj : (((S[t.p]'hps).toNat : Int) != 48) = true := by rw [bne, hzi]; rfl
        clear HE d2 hz hby z0
        go_quiet (fail)
        have bd := below_drewN (Below.refl wr.heap.size wr) nq
        obtain ⟨W4, hW4⟩ : ∃ W, W = wr.drewN nq := ⟨_, rfl⟩
        rw [← hW4] at bd ⊢
        have R9 := Lib.hid (HR.out.next bd)
        have K9 := Lib.hid (KR.out.next bd)
        clear hW4 bd c0 c1
        go_wp2
        refine bodyPost_ret (v := .tuple #[.int .i64 n, .bool true]) (by simp [results, Try.results61, go_sem]) rfl ⟨?_, ?_, K9.out⟩
        ·
         rw [HV.out, HST.out.1]
        ·
         rw [← HST.out.2]; exact R9.out
     ·
      have i3 : decide ((d : Int) ≤ 3) = false := decide_eq_false (by omega)
      have HV : Hid (b = false) := by show _ = _; rw [HE.out]; exact decide_eq_false (fun h => d3 h.2.1)
      clear HE
      go_quiet (fail)
      have bd := below_drewN (Below.refl wr.heap.size wr) nq
      obtain ⟨W4, hW4⟩ : ∃ W, W = wr.drewN nq := ⟨_, rfl⟩
      rw [← hW4] at bd ⊢
      have R9 := Lib.hid (HR.out.next bd)
      have K9 := Lib.hid (KR.out.next bd)
      clear hW4 bd c0 c1
      go_wp2
      refine bodyPost_ret (v := .tuple #[.int .i64 n, .bool false]) (by simp [results, Try.results61, go_sem]) rfl ⟨?_, ?_, K9.out⟩
      ·
       rw [HV.out, HST.out.1]
      ·
       rw [← HST.out.2]; exact R9.out
    ·
     have i1 : decide ((1 : Int) ≤ (d : Int)) = false := decide_eq_false (by omega)
     have HV : Hid (b = false) := by show _ = _; rw [HE.out]; exact decide_eq_false (fun h => d1 h.1)
     clear HE
     go_quiet (fail)
     have bd := below_drewN (Below.refl wr.heap.size wr) nq
     obtain ⟨W4, hW4⟩ : ∃ W, W = wr.drewN nq := ⟨_, rfl⟩
     rw [← hW4] at bd ⊢
     have R9 := Lib.hid (HR.out.next bd)
     have K9 := Lib.hid (KR.out.next bd)
     clear hW4 bd c0 c1
     go_wp2
     refine bodyPost_ret (v := .tuple #[.int .i64 n, .bool false]) (by simp [results, Try.results61, go_sem]) rfl ⟨?_, ?_, K9.out⟩
     ·
      rw [HV.out, HST.out.1]
     ·
      rw [← HST.out.2]; exact R9.out
end Go.Proofs.Ytbccejlemhgioaa
