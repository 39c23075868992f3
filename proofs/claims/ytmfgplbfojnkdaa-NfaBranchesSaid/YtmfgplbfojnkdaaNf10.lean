/- texts put together: RfFn0, RxRow, RfNum. -/
import Derived.Test.YtmfgplbfojnkdaaNf00
import Derived.Test.YtmfgplbfojnkdaaNf01
import Derived.Test.YtmfgplbfojnkdaaNf09
namespace Go.Proofs.Ytmfgplbfojnkdaa
open Go Go.RowKit Go.ChangeShapes cl rx
open rf
def RdT (q : Nat) (S : ByteArray) (dp : Int) (t : T) (W : World) : Prop := Rd q S (t.up dp) W
theorem RdT.next {q : Nat} {S : ByteArray} {dp : Int} {t : T} {W W' : World} (h : RdT q S dp t W) (hb : Below W.heap.size W W') : RdT q S dp t W' := Rd.next h hb
theorem RdT.keep {q p : Nat} {S : ByteArray} {dp : Int} {t : T} {W W' : World} (h : RdT q S dp t W) (hk : KX p W W') (hp : q ≠ p) : RdT q S dp t W' := Rd.keep h hk hp
theorem RdT.box {q : Nat} {S : ByteArray} {dp : Int} {t : T} {W : World} (h : RdT q S dp t W) : W.heap[q]? = some (.cells #[.string S, .int .i64 (t.p : Int), .int .i64 dp, .int .i64 t.wr, .int .i64 t.co] 90) := h
def RKT (q : Nat) (S : ByteArray) (dp : Int) (t : T) (w w' : World) : Prop := RdT q S dp t w' ∧ KX q w w'
def RfA (d q : Nat) (S : ByteArray) (dp : Int) (r : Pat × T) (w : World) (e : Ending) (w' : World) : Prop :=
 ∃ c, e = .returned (.agg (List.toArray c)) ∧ Fre w.heap.size w' (fun W => rxR d W W.heap.size c r.1) ∧ RKT q S dp r.2 w w'
theorem up_fail (t : T) (dp a b : Int) : (t.up dp).fail a b = (t.fail a b).up dp := by
 unfold St.fail T.fail T.up
 by_cases h : t.co = 0
 ·
  rw [if_pos h, if_pos h]
 ·
  rw [if_neg h, if_neg h]
theorem up_nxt (s : List Nat) (t : T) (dp : Int) : rx.nxt s (t.up dp) = rf.nxt s t := rfl
theorem up_meets (s : List Nat) (c : Nat) (t : T) (dp : Int) : rx.meets s c (t.up dp) = ((rf.meets s c t).1, (rf.meets s c t).2.up dp) := by
 unfold rx.meets rf.meets
 rw [up_nxt]
 split <;> rfl
theorem rf_fail (q : Nat) (S : ByteArray) (dp : Int) (t : T) (z co : Int) (w : World) (h : RdT q S dp t w) : Calls Try.prog 55 #[.pointer (some ⟨q, 0, none⟩), .int .i64 z, .int .i64 co] w (fun e w' => e = .returned (.tuple #[]) ∧ RKT q S dp (t.fail z co) w w') := by
 refine (rx_fail q S (t.up dp) z co w h).mono fun e w' => ?_
 rw [up_fail]
 exact id
theorem rf_next (q : Nat) (S : ByteArray) (dp : Int) (t : T) (w : World) (h : RdT q S dp t w) (hS : S.size ≤ 60) : Calls Try.prog 63 #[.pointer (some ⟨q, 0, none⟩)] w (fun e w' => e = .returned (.tuple #[.int .u8 (((rf.nxt (kit.bytes S) t).getD 0 : Nat) : Int), .bool (rf.nxt (kit.bytes S) t).isSome]) ∧ Below w.heap.size w w') := rx_next q S (t.up dp) w h hS
theorem rf_meets (q : Nat) (S : ByteArray) (dp : Int) (t : T) (c : Nat) (w : World) (h : RdT q S dp t w) (hS : S.size ≤ 60) : Calls Try.prog 61 #[.pointer (some ⟨q, 0, none⟩), .int .u8 c] w (fun e w' => e = .returned (.bool (rf.meets (kit.bytes S) c t).1) ∧ RKT q S dp (rf.meets (kit.bytes S) c t).2 w w') := by
 refine (rx_meets q S (t.up dp) c w h hS).mono fun e w' => ?_
 rw [up_meets]
 exact id
theorem rf_nxt_lt {S : ByteArray} {t : T} {c : Nat} (h : rf.nxt (kit.bytes S) t = some c) : t.co = 0 ∧ t.p < S.size ∧ c < 256 := by
 obtain ⟨h1, h2, h3⟩ := rf.nxt_some h
 have hl : (kit.bytes S).length = S.size := by simp [kit.bytes]
 exact ⟨h1, by omega, kit.bytes_lt S c (List.mem_of_getElem? h2)⟩
set_option maxRecDepth 100000 in
theorem spB_spc : ∀ c : Nat, c < 256 → spB c = spc c := by decide +kernel
set_option maxRecDepth 100000 in
theorem dig_ix : ∀ c : Nat, c < 256 → Lib.indexByte [48, 49, 50, 51, 52, 53, 54, 55, 56, 57, 97, 98, 99, 100, 101, 102] (c : Int).toNat.toUInt8 = dig c := by decide +kernel
theorem rf_special (c : Nat) (w : World) (hc : c < 256) : Calls Try.prog 72 #[.int .u8 c] w (fun e w' => e = .returned (.bool (spc c)) ∧ w' = w) := by
 rw [← spB_spc c hc]
 exact rx_special c w
theorem rf_digit (c : Nat) (w : World) (hc : c < 256) : Calls Try.prog 78 #[.int .u8 c] w (fun e w' => e = .returned (.int .i64 (dig c)) ∧ w' = w) := by
 have HI := Lib.hid (Try.strings_IndexByte ⟨#[48, 49, 50, 51, 52, 53, 54, 55, 56, 57, 97, 98, 99, 100, 101, 102]⟩ (c : Int) w)
 obtain ⟨z, hz⟩ : ∃ z, z = dig c := ⟨_, rfl⟩
 have HZ : Hid (Calls Try.prog 79 #[.string ⟨#[48, 49, 50, 51, 52, 53, 54, 55, 56, 57, 97, 98, 99, 100, 101, 102]⟩, .int .u8 c] w (fun e w' => e = .returned (.int .i64 z) ∧ w' = w)) := by rw [hz, ← dig_ix c hc]; exact HI.out
 rw [← hz]
 clear HI hz
 go_enter Try.func78, Try.ntmps78
 go_wp2_with fail
 (with_reducible refine HZ.out.mono ?_)
 rintro e3 w3 ⟨rfl, rfl⟩
 go_wp2
 go_ret
 exact ⟨rfl, rfl⟩
end Go.Proofs.Ytmfgplbfojnkdaa
namespace Go.Proofs.Ytmfgplbfojnkdaa
open Go Go.RowKit Go.ChangeShapes cl rx
def pOf (w : World) (q : Nat) : Nat := match w.cell? ⟨q, 1, none⟩ with | some (.int _ z) => z.toNat | _ => 0
theorem Rd.pOf {q : Nat} {S : ByteArray} {t : St} {w : World} (h : Rd q S t w) : pOf w q = t.p := by
 unfold Proofs.Ytmfgplbfojnkdaa.pOf
 rw [boxc h 1 _ rfl]; simp
theorem RxO.snoc {B B2 d n : Nat} {L : List Pat} {v v' : Value} {W W' : World} {c : List Value} {x : Pat} {o : Obj} {cs : List (List Value)} (h0 : cs.length = L.length) (h1 : ∀ (j : Nat) (c : List Value) (x : Pat), cs[j]? = some c → L[j]? = some x → FreA B v.ownBlock W (fun W => c.length = 8 ∧ rxR d W W.heap.size c x)) (hn : n = L.length)
  (hx : Fre B2 W (fun W => rxR d W W.heap.size c x)) (h8 : c.length = 8) (hB2 : B ≤ B2) (hb : ∀ b, v.ownBlock = some b → b < B2 ∨ W.heap.size ≤ b)
  (hO : W'.ownsRow B 27 8 v' (n + 1) (cs.flatten ++ c)) (hg : (W.alloc o).grownBy W' v.ownBlock) (hv : v'.ownBlock = v.ownBlock ∨ ∀ b, v'.ownBlock = some b → (W.alloc o).heap.size ≤ b) : RxO B d (L ++ [x]) v' W' := by
 refine ⟨cs ++ [c], by simp [h0], snoc_fre (Q := fun c x => FreA B v'.ownBlock W' (fun W => c.length = 8 ∧ rxR d W W.heap.size c x)) h0 (fun j c x hc hx => ((h1 j c x hc hx).next below1).grown hg hv) (FreA.grown (FreA.next (FreA.imp (FreA.low (FreA.off hx hb) hB2) (fun V h => ⟨h8, h⟩)) below1) hg hv), ?_⟩
 rw [List.flatten_append, List.length_append, ← hn]
 simpa using hO
theorem KX.low {B q : Nat} {W W' W2 : World} (h : KX q W W') (hb : Below B W' W2) (hB : B = W.heap.size) : KX q W W2 := by
 subst hB
 exact ⟨⟨hb.os.trans h.1.1, hb.tape.trans h.1.2.1, hb.output.trans h.1.2.2⟩, Nat.le_trans h.2.1 hb.size, fun j hj hq => (hb.block j hj).trans (h.2.2 j hj hq)⟩
theorem RxO.up {B d : Nat} {L : List Pat} {v : Value} {W : World} (h : RxO B d L v W) : RxO B (d + 1) L v W := by
 obtain ⟨cs, h0, h1, h2⟩ := h
 exact ⟨cs, h0, fun j c x hc hx => (h1 j c x hc hx).imp (fun W h => ⟨h.1, rxR_up _ _ _ _ _ h.2⟩), h2⟩
end Go.Proofs.Ytmfgplbfojnkdaa
namespace Go.Proofs.Ytmfgplbfojnkdaa
open Go Go.RowKit Go.ChangeShapes cl rx
open rf
theorem RdT.pOf {q : Nat} {S : ByteArray} {dp : Int} {t : T} {w : World} (h : RdT q S dp t w) : pOf w q = t.p := Rd.pOf h
set_option maxHeartbeats 6400000 in
set_option maxRecDepth 100000 in
theorem rf_number (q : Nat) (S : ByteArray) (dp : Int) (t : T) (w : World) (h : RdT q S dp t w) (hS : S.size ≤ 60) (hp : t.p ≤ S.size) : Calls Try.prog 80 #[.pointer (some ⟨q, 0, none⟩)] w (fun e w' => e = .returned (.tuple #[.int .i64 (rf.number (kit.bytes S) t).1.1, .bool (rf.number (kit.bytes S) t).1.2]) ∧ RKT q S dp (rf.number (kit.bytes S) t).2 w w') := by
 have hlen : (kit.bytes S).length = S.size := by simp [kit.bytes]
 have c1 := boxc h.box 1 _ rfl
 have HNX : Hid (∀ (t : T) (W : World), RdT q S dp t W → Calls Try.prog 63 #[.pointer (some ⟨q, 0, none⟩)] W (fun e w' => e = .returned (.tuple #[.int .u8 (((rf.nxt (kit.bytes S) t).getD 0 : Nat) : Int), .bool (rf.nxt (kit.bytes S) t).isSome]) ∧ Below W.heap.size W w')) := fun t W hW => rf_next q S dp t W hW hS
 have R0 := Lib.hid h
 unfold rf.number
 simp only
 obtain ⟨fn, ft, hfin⟩ : ∃ fn ft, numF (kit.bytes S) t.p 5 0 t = (fn, ft) := ⟨_, _, rfl⟩
 rw [hfin]
 simp only
 obtain ⟨b, hb⟩ : ∃ b, b = decide (1 ≤ ft.p - t.p ∧ ft.p - t.p ≤ 3 ∧ (ft.p - t.p = 1 ∨ (kit.bytes S)[t.p]? ≠ some 48)) := ⟨_, rfl⟩
 rw [← hb]
 have HB := Lib.hid hb
 have HFS := Lib.hid hfin
 have HLEN := Lib.hid hlen
 clear h hfin hb hlen
 go_enter Try.func80, Try.ntmps80
 go_wp2_with fail
 (with_reducible refine (HNX.out _ _ R0.out).mono ?_)
 rintro e4 w4 ⟨rfl, b4⟩
 have R4 := Lib.hid (R0.out.next b4)
 have K4 := Lib.hid (KX.of (q := q) b4)
 clear b4 c1
 go_wp2
 go_loopw [5, 6, 7] (fun v c o wr => ∃ (f n : Nat) (tt : T), v = .int .i64 n ∧ c = .int .u8 (((rf.nxt (kit.bytes S) tt).getD 0 : Nat) : Int) ∧ o = .bool (rf.nxt (kit.bytes S) tt).isSome ∧ Hid (numF (kit.bytes S) t.p f n tt = (fn, ft)) ∧ tt.p + f = t.p + 5 ∧ t.p ≤ tt.p ∧ tt.p ≤ S.size ∧ 1 ≤ f ∧ n < 10 ^ (5 - f) ∧ Hid (RdT q S dp tt wr) ∧ Hid (KX q w wr)) (fun _ _ _ wr => S.size + 1 - pOf wr q)
 case atStart => exact ⟨5, 0, t, rfl, rfl, rfl, HFS.out, rfl, Nat.le_refl _, hp, by omega, by decide, R4.out, K4.out⟩
 case round =>
  obtain ⟨f, n, tt, rfl, rfl, rfl, HF, hfp, htp, hts, hf1, hnb, HR, KR⟩ := hrel
  have hn10 : n < 10000 := by
   have h1 : (10 : Nat) ^ (5 - f) ≤ 10 ^ 4 := Nat.pow_le_pow_right (by decide) (by omega)
   have h2 : (10 : Nat) ^ 4 = 10000 := by decide
   omega
  have hn2 : 5 - f = 4 - f + (if f = 5 then 0 else 1) := by split <;> omega
  obtain ⟨f1, rfl⟩ : ∃ f1, f = f1 + 1 := ⟨f - 1, by omega⟩
  obtain ⟨o, ho⟩ : ∃ o, o = rf.nxt (kit.bytes S) tt := ⟨_, rfl⟩
  rw [← ho]
  have HNO := Lib.hid ho
  cases o with
  | none =>
   have HST : Hid (n = fn ∧ tt = ft) := by
    have h1 := HF.out
    have h2 : numF (kit.bytes S) t.p (f1 + 1) n tt = (n, tt) := by unfold numF; rw [← HNO.out]
    rw [h2] at h1
    simp only [Prod.mk.injEq] at h1
    exact h1
   obtain ⟨hst1, hst2⟩ := HST.out
   have HE : Hid (b = decide (1 ≤ tt.p - t.p ∧ tt.p - t.p ≤ 3 ∧ (tt.p - t.p = 1 ∨ (kit.bytes S)[t.p]? ≠ some 48))) := by show _ = _; rw [HB.out, hst2]
   clear hst1 hst2 HB HF
   clear ho hnb hn2
   simp only [Option.getD_none, Option.isSome_none]
   have c1 := boxc HR.out.box 1 _ rfl
   have c0 := boxc HR.out.box 0 _ rfl
   have hsub : IntKind.i64.wrap ((tt.p : Int) - (t.p : Int)) = (tt.p : Int) - (t.p : Int) := IntWalk.i64_in _ (by omega)
   go_wp2
   have hsub0 : (tt.p : Int) - (t.p : Int) = ((tt.p - t.p : Nat) : Int) := by omega
   rw [hsub0]
   clear hsub hsub0
   obtain ⟨d, hd⟩ : ∃ d, d = tt.p - t.p := ⟨_, rfl⟩
   rw [← hd] at HE ⊢
   have HD := Lib.hid hd
   clear hd
   by_cases d1 : 1 ≤ d
   ·
    have i1 : (1 : Int) ≤ (d : Int) := by omega
    by_cases d3 : d ≤ 3
    ·
     have i3 : (d : Int) ≤ 3 := by omega
     by_cases d2 : d = 1
     ·
      have i2 : ((d : Int) == 1) = true := by simp [d2]
      have HV : Hid (b = true) := by show _ = _; rw [HE.out]; exact decide_eq_true ⟨d1, d3, Or.inl d2⟩
      have HI2 := Lib.hid i2
      clear HE d2
      go_quiet (fail)
      have bd := below_drewN (Below.refl wr.heap.size wr) nq
      obtain ⟨W4, hW4⟩ : ∃ W, W = wr.drewN nq := ⟨_, rfl⟩
      rw [← hW4] at bd ⊢
      have R9 := Lib.hid (HR.out.next bd)
      have K9 := Lib.hid (KR.out.next bd)
      clear hW4 bd c0 c1
      go_wp2
      refine bodyPost_ret (v := .tuple #[.int .i64 n, .bool true]) (by simp [results, Try.results80, go_sem]) rfl ⟨?_, ?_, K9.out⟩
      ·
       rw [HV.out, HST.out.1]
      ·
       rw [← HST.out.2]; exact R9.out
     ·
      have i2 : ((d : Int) == 1) = false := beq_eq_false_iff_ne.2 (by omega)
      have hps : t.p < S.size := by have := HD.out; omega
      obtain ⟨z, hz⟩ : ∃ z, z = (S[t.p]'hps).toNat := ⟨_, rfl⟩
      have hby : (kit.bytes S)[t.p]? = some z := by rw [byte_at hps, hz]
      have hpsi : (t.p : Int) < (S.size : Int) := by omega
      by_cases z0 : z = 48
      ·
       have HV : Hid (b = false) := by show _ = _; rw [HE.out]; exact decide_eq_false (fun h => h.2.2.elim d2 (fun h => h (by subst z0; exact hby)))
       have hzi : (((S[t.p]'hps).toNat : Int) == 48) = true := by rw [← hz, z0]; rfl
       have hzj : (((S[t.p]'hps).toNat : Int) != 48) = false := by rw [bne, hzi]; rfl
       clear HE d2 hz hby z0
       go_quiet (fail)
       have bd := below_drewN (Below.refl wr.heap.size wr) nq
       obtain ⟨W4, hW4⟩ : ∃ W, W = wr.drewN nq := ⟨_, rfl⟩
       rw [← hW4] at bd ⊢
       have R9 := Lib.hid (HR.out.next bd)
       have K9 := Lib.hid (KR.out.next bd)
       clear hW4 bd c0 c1
       go_wp2
       refine bodyPost_ret (v := .tuple #[.int .i64 n, .bool false]) (by simp [results, Try.results80, go_sem]) rfl ⟨?_, ?_, K9.out⟩
       ·
        rw [HV.out, HST.out.1]
       ·
        rw [← HST.out.2]; exact R9.out
      ·
       have HV : Hid (b = true) := by show _ = _; rw [HE.out]; exact decide_eq_true ⟨d1, d3, Or.inr (fun h => z0 (by rw [hby] at h; exact Option.some.inj h))⟩
       have hzi : (((S[t.p]'hps).toNat : Int) == 48) = false := by rw [← hz]; exact beq_eq_false_iff_ne.2 (by omega)
       have hzj : (((S[t.p]'hps).toNat : Int) != 48) = true := by rw [bne, hzi]; rfl
       clear HE d2 hz hby z0
       go_quiet (fail)
       have bd := below_drewN (Below.refl wr.heap.size wr) nq
       obtain ⟨W4, hW4⟩ : ∃ W, W = wr.drewN nq := ⟨_, rfl⟩
       rw [← hW4] at bd ⊢
       have R9 := Lib.hid (HR.out.next bd)
       have K9 := Lib.hid (KR.out.next bd)
       clear hW4 bd c0 c1
       go_wp2
       refine bodyPost_ret (v := .tuple #[.int .i64 n, .bool true]) (by simp [results, Try.results80, go_sem]) rfl ⟨?_, ?_, K9.out⟩
       ·
        rw [HV.out, HST.out.1]
       ·
        rw [← HST.out.2]; exact R9.out
    ·
     have i3 : decide ((d : Int) ≤ 3) = false := decide_eq_false (by omega)
     have HV : Hid (b = false) := by show _ = _; rw [HE.out]; exact decide_eq_false (fun h => d3 h.2.1)
     clear HE
     go_quiet (fail)
     have bd := below_drewN (Below.refl wr.heap.size wr) nq
     obtain ⟨W4, hW4⟩ : ∃ W, W = wr.drewN nq := ⟨_, rfl⟩
     rw [← hW4] at bd ⊢
     have R9 := Lib.hid (HR.out.next bd)
     have K9 := Lib.hid (KR.out.next bd)
     clear hW4 bd c0 c1
     go_wp2
     refine bodyPost_ret (v := .tuple #[.int .i64 n, .bool false]) (by simp [results, Try.results80, go_sem]) rfl ⟨?_, ?_, K9.out⟩
     ·
      rw [HV.out, HST.out.1]
     ·
      rw [← HST.out.2]; exact R9.out
   ·
    have i1 : decide ((1 : Int) ≤ (d : Int)) = false := decide_eq_false (by omega)
    have HV : Hid (b = false) := by show _ = _; rw [HE.out]; exact decide_eq_false (fun h => d1 h.1)
    clear HE
    go_quiet (fail)
    have bd := below_drewN (Below.refl wr.heap.size wr) nq
    obtain ⟨W4, hW4⟩ : ∃ W, W = wr.drewN nq := ⟨_, rfl⟩
    rw [← hW4] at bd ⊢
    have R9 := Lib.hid (HR.out.next bd)
    have K9 := Lib.hid (KR.out.next bd)
    clear hW4 bd c0 c1
    go_wp2
    refine bodyPost_ret (v := .tuple #[.int .i64 n, .bool false]) (by simp [results, Try.results80, go_sem]) rfl ⟨?_, ?_, K9.out⟩
    ·
     rw [HV.out, HST.out.1]
    ·
     rw [← HST.out.2]; exact R9.out
  | some c =>
   obtain ⟨hco, hpl, hc⟩ := rf_nxt_lt ho.symm
   simp only [Option.getD_some, Option.isSome_some]
   by_cases h48 : 48 ≤ c
   ·
    have i48 : (48 : Int) ≤ (c : Int) := by omega
    by_cases h57 : c ≤ 57
    ·
     have i57 : (c : Int) ≤ 57 := by omega
     by_cases h4 : tt.p - t.p < 4
     ·
      have i4 : (tt.p : Int) - (t.p : Int) < 4 := by omega
      have hst : Hid (numF (kit.bytes S) t.p f1 (10 * n + (c - 48)) tt.fwd = (fn, ft)) := by
       have h1 := HF.out
       unfold numF at h1
       rw [← HNO.out] at h1
       simp only at h1
       rw [if_pos ⟨h48, h57, h4⟩] at h1
       exact h1
      have hnb2 : 10 * n + (c - 48) < 10 ^ (5 - f1) := by
       have e : 5 - f1 = (5 - (f1 + 1)) + 1 := by omega
       rw [e, Nat.pow_succ]
       omega
      have HNB := Lib.hid hnb2
      have c1 := boxc HR.out.box 1 _ rfl
      have f1r := boxf HR.out.box 1
      have hsub : IntKind.i64.wrap ((tt.p : Int) - (t.p : Int)) = (tt.p : Int) - (t.p : Int) := IntWalk.i64_in _ (by omega)
      have HX : Hid (RKT q S dp tt.fwd w (wr.setCell ⟨q, 1, none⟩ (.int .i64 ((tt.p : Int) + 1)))) := ⟨heap_setCell_same wr q 1 _ _ _ HR.out.box, KR.out.trans KX.cell⟩
      have HPO : Hid (pOf wr q = tt.p) := HR.out.pOf
      clear ho hco hnb hnb2 hn2
      go_wp2_with fail
      have XR := HX.out.1
      obtain ⟨w5, hw5⟩ : ∃ W, W = wr.setCell ⟨q, 1, none⟩ (.int .i64 ((tt.p : Int) + 1)) := ⟨_, rfl⟩
      rw [← hw5] at HX XR ⊢
      clear hw5 c1 f1r
      (with_reducible refine (HNX.out _ _ XR).mono ?_)
      rintro e6 w6 ⟨rfl, b6⟩
      have R6 := Lib.hid (XR.next b6)
      have K6 := Lib.hid (HX.out.2.next b6)
      clear b6 XR
      go_wp2
      go_roundw
      case rel => exact ⟨f1, 10 * n + (c - 48), tt.fwd, by go_num, rfl, rfl, hst.out, by show tt.p + 1 + f1 = _; omega, by show t.p ≤ tt.p + 1; omega, hpl, by omega, HNB.out, R6.out, K6.out⟩
      case measure => rw [R6.out.pOf, HPO.out]; show S.size + 1 - (tt.p + 1) < _; omega
     ·
      have i4 : ¬ (tt.p : Int) - (t.p : Int) < 4 := by omega
      have HST : Hid (n = fn ∧ tt = ft) := by
       have h1 := HF.out
       have h2 : numF (kit.bytes S) t.p (f1 + 1) n tt = (n, tt) := by unfold numF; rw [← HNO.out]; simp only; rw [if_neg (fun h => h4 h.2.2)]
       rw [h2] at h1
       simp only [Prod.mk.injEq] at h1
       exact h1
      obtain ⟨hst1, hst2⟩ := HST.out
      have HE : Hid (b = decide (1 ≤ tt.p - t.p ∧ tt.p - t.p ≤ 3 ∧ (tt.p - t.p = 1 ∨ (kit.bytes S)[t.p]? ≠ some 48))) := by show _ = _; rw [HB.out, hst2]
      clear hst1 hst2 HB HF
      clear ho hnb hn2 hco
      have c1 := boxc HR.out.box 1 _ rfl
      have c0 := boxc HR.out.box 0 _ rfl
      have hsub : IntKind.i64.wrap ((tt.p : Int) - (t.p : Int)) = (tt.p : Int) - (t.p : Int) := IntWalk.i64_in _ (by omega)
      go_wp2
      have hsub0 : (tt.p : Int) - (t.p : Int) = ((tt.p - t.p : Nat) : Int) := by omega
      rw [hsub0]
      clear hsub hsub0 i4
      obtain ⟨d, hd⟩ : ∃ d, d = tt.p - t.p := ⟨_, rfl⟩
      rw [← hd] at HE ⊢
      have HD := Lib.hid hd
      clear hd
      by_cases d1 : 1 ≤ d
      ·
       have i1 : (1 : Int) ≤ (d : Int) := by omega
       by_cases d3 : d ≤ 3
       ·
        have i3 : (d : Int) ≤ 3 := by omega
        by_cases d2 : d = 1
        ·
         have i2 : ((d : Int) == 1) = true := by simp [d2]
         have HV : Hid (b = true) := by show _ = _; rw [HE.out]; exact decide_eq_true ⟨d1, d3, Or.inl d2⟩
         have HI2 := Lib.hid i2
         clear HE d2
         go_quiet (fail)
         have bd := below_drewN (Below.refl wr.heap.size wr) nq
         obtain ⟨W4, hW4⟩ : ∃ W, W = wr.drewN nq := ⟨_, rfl⟩
         rw [← hW4] at bd ⊢
         have R9 := Lib.hid (HR.out.next bd)
         have K9 := Lib.hid (KR.out.next bd)
         clear hW4 bd c0 c1
         go_wp2
         refine bodyPost_ret (v := .tuple #[.int .i64 n, .bool true]) (by simp [results, Try.results80, go_sem]) rfl ⟨?_, ?_, K9.out⟩
         ·
          rw [HV.out, HST.out.1]
         ·
          rw [← HST.out.2]; exact R9.out
        ·
         have i2 : ((d : Int) == 1) = false := beq_eq_false_iff_ne.2 (by omega)
         have hps : t.p < S.size := by have := HD.out; omega
         obtain ⟨z, hz⟩ : ∃ z, z = (S[t.p]'hps).toNat := ⟨_, rfl⟩
         have hby : (kit.bytes S)[t.p]? = some z := by rw [byte_at hps, hz]
         have hpsi : (t.p : Int) < (S.size : Int) := by omega
         by_cases z0 : z = 48
         ·
          have HV : Hid (b = false) := by show _ = _; rw [HE.out]; exact decide_eq_false (fun h => h.2.2.elim d2 (fun h => h (by subst z0; exact hby)))
          have hzi : (((S[t.p]'hps).toNat : Int) == 48) = true := by rw [← hz, z0]; rfl
          have hzj : (((S[t.p]'hps).toNat : Int) != 48) = false := by rw [bne, hzi]; rfl
          clear HE d2 hz hby z0
          go_quiet (fail)
          have bd := below_drewN (Below.refl wr.heap.size wr) nq
          obtain ⟨W4, hW4⟩ : ∃ W, W = wr.drewN nq := ⟨_, rfl⟩
          rw [← hW4] at bd ⊢
          have R9 := Lib.hid (HR.out.next bd)
          have K9 := Lib.hid (KR.out.next bd)
          clear hW4 bd c0 c1
          go_wp2
          refine bodyPost_ret (v := .tuple #[.int .i64 n, .bool false]) (by simp [results, Try.results80, go_sem]) rfl ⟨?_, ?_, K9.out⟩
          ·
           rw [HV.out, HST.out.1]
          ·
           rw [← HST.out.2]; exact R9.out
         ·
          have HV : Hid (b = true) := by show _ = _; rw [HE.out]; exact decide_eq_true ⟨d1, d3, Or.inr (fun h => z0 (by rw [hby] at h; exact Option.some.inj h))⟩
          have hzi : (((S[t.p]'hps).toNat : Int) == 48) = false := by rw [← hz]; exact beq_eq_false_iff_ne.2 (by omega)
          have hzj : (((S[t.p]'hps).toNat : Int) != 48) = true := by rw [bne, hzi]; rfl
          clear HE d2 hz hby z0
          go_quiet (fail)
          have bd := below_drewN (Below.refl wr.heap.size wr) nq
          obtain ⟨W4, hW4⟩ : ∃ W, W = wr.drewN nq := ⟨_, rfl⟩
          rw [← hW4] at bd ⊢
          have R9 := Lib.hid (HR.out.next bd)
          have K9 := Lib.hid (KR.out.next bd)
          clear hW4 bd c0 c1
          go_wp2
          refine bodyPost_ret (v := .tuple #[.int .i64 n, .bool true]) (by simp [results, Try.results80, go_sem]) rfl ⟨?_, ?_, K9.out⟩
          ·
           rw [HV.out, HST.out.1]
          ·
           rw [← HST.out.2]; exact R9.out
       ·
        have i3 : decide ((d : Int) ≤ 3) = false := decide_eq_false (by omega)
        have HV : Hid (b = false) := by show _ = _; rw [HE.out]; exact decide_eq_false (fun h => d3 h.2.1)
        clear HE
        go_quiet (fail)
        have bd := below_drewN (Below.refl wr.heap.size wr) nq
        obtain ⟨W4, hW4⟩ : ∃ W, W = wr.drewN nq := ⟨_, rfl⟩
        rw [← hW4] at bd ⊢
        have R9 := Lib.hid (HR.out.next bd)
        have K9 := Lib.hid (KR.out.next bd)
        clear hW4 bd c0 c1
        go_wp2
        refine bodyPost_ret (v := .tuple #[.int .i64 n, .bool false]) (by simp [results, Try.results80, go_sem]) rfl ⟨?_, ?_, K9.out⟩
        ·
         rw [HV.out, HST.out.1]
        ·
         rw [← HST.out.2]; exact R9.out
      ·
       have i1 : decide ((1 : Int) ≤ (d : Int)) = false := decide_eq_false (by omega)
       have HV : Hid (b = false) := by show _ = _; rw [HE.out]; exact decide_eq_false (fun h => d1 h.1)
       clear HE
       go_quiet (fail)
       have bd := below_drewN (Below.refl wr.heap.size wr) nq
       obtain ⟨W4, hW4⟩ : ∃ W, W = wr.drewN nq := ⟨_, rfl⟩
       rw [← hW4] at bd ⊢
       have R9 := Lib.hid (HR.out.next bd)
       have K9 := Lib.hid (KR.out.next bd)
       clear hW4 bd c0 c1
       go_wp2
       refine bodyPost_ret (v := .tuple #[.int .i64 n, .bool false]) (by simp [results, Try.results80, go_sem]) rfl ⟨?_, ?_, K9.out⟩
       ·
        rw [HV.out, HST.out.1]
       ·
        rw [← HST.out.2]; exact R9.out
    ·
     have i57 : ¬ (c : Int) ≤ 57 := by omega
     have HST : Hid (n = fn ∧ tt = ft) := by
      have h1 := HF.out
      have h2 : numF (kit.bytes S) t.p (f1 + 1) n tt = (n, tt) := by unfold numF; rw [← HNO.out]; simp only; rw [if_neg (fun h => h57 h.2.1)]
      rw [h2] at h1
      simp only [Prod.mk.injEq] at h1
      exact h1
     obtain ⟨hst1, hst2⟩ := HST.out
     have HE : Hid (b = decide (1 ≤ tt.p - t.p ∧ tt.p - t.p ≤ 3 ∧ (tt.p - t.p = 1 ∨ (kit.bytes S)[t.p]? ≠ some 48))) := by show _ = _; rw [HB.out, hst2]
     clear hst1 hst2 HB HF
     clear ho hnb hn2 hco
     have c1 := boxc HR.out.box 1 _ rfl
     have c0 := boxc HR.out.box 0 _ rfl
     have hsub : IntKind.i64.wrap ((tt.p : Int) - (t.p : Int)) = (tt.p : Int) - (t.p : Int) := IntWalk.i64_in _ (by omega)
     go_wp2
     have hsub0 : (tt.p : Int) - (t.p : Int) = ((tt.p - t.p : Nat) : Int) := by omega
     rw [hsub0]
     clear hsub hsub0
     obtain ⟨d, hd⟩ : ∃ d, d = tt.p - t.p := ⟨_, rfl⟩
     rw [← hd] at HE ⊢
     have HD := Lib.hid hd
     clear hd
     by_cases d1 : 1 ≤ d
     ·
      have i1 : (1 : Int) ≤ (d : Int) := by omega
      by_cases d3 : d ≤ 3
      ·
       have i3 : (d : Int) ≤ 3 := by omega
       by_cases d2 : d = 1
       ·
        have i2 : ((d : Int) == 1) = true := by simp [d2]
        have HV : Hid (b = true) := by show _ = _; rw [HE.out]; exact decide_eq_true ⟨d1, d3, Or.inl d2⟩
        have HI2 := Lib.hid i2
        clear HE d2
        go_quiet (fail)
        have bd := below_drewN (Below.refl wr.heap.size wr) nq
        obtain ⟨W4, hW4⟩ : ∃ W, W = wr.drewN nq := ⟨_, rfl⟩
        rw [← hW4] at bd ⊢
        have R9 := Lib.hid (HR.out.next bd)
        have K9 := Lib.hid (KR.out.next bd)
        clear hW4 bd c0 c1
        go_wp2
        refine bodyPost_ret (v := .tuple #[.int .i64 n, .bool true]) (by simp [results, Try.results80, go_sem]) rfl ⟨?_, ?_, K9.out⟩
        ·
         rw [HV.out, HST.out.1]
        ·
         rw [← HST.out.2]; exact R9.out
       ·
        have i2 : ((d : Int) == 1) = false := beq_eq_false_iff_ne.2 (by omega)
        have hps : t.p < S.size := by have := HD.out; omega
        obtain ⟨z, hz⟩ : ∃ z, z = (S[t.p]'hps).toNat := ⟨_, rfl⟩
        have hby : (kit.bytes S)[t.p]? = some z := by rw [byte_at hps, hz]
        have hpsi : (t.p : Int) < (S.size : Int) := by omega
        by_cases z0 : z = 48
        ·
         have HV : Hid (b = false) := by show _ = _; rw [HE.out]; exact decide_eq_false (fun h => h.2.2.elim d2 (fun h => h (by subst z0; exact hby)))
         have hzi : (((S[t.p]'hps).toNat : Int) == 48) = true := by rw [← hz, z0]; rfl
         have hzj : (((S[t.p]'hps).toNat : Int) != 48) = false := by rw [bne, hzi]; rfl
         clear HE d2 hz hby z0
         go_quiet (fail)
         have bd := below_drewN (Below.refl wr.heap.size wr) nq
         obtain ⟨W4, hW4⟩ : ∃ W, W = wr.drewN nq := ⟨_, rfl⟩
         rw [← hW4] at bd ⊢
         have R9 := Lib.hid (HR.out.next bd)
         have K9 := Lib.hid (KR.out.next bd)
         clear hW4 bd c0 c1
         go_wp2
         refine bodyPost_ret (v := .tuple #[.int .i64 n, .bool false]) (by simp [results, Try.results80, go_sem]) rfl ⟨?_, ?_, K9.out⟩
         ·
          rw [HV.out, HST.out.1]
         ·
          rw [← HST.out.2]; exact R9.out
        ·
         have HV : Hid (b = true) := by show _ = _; rw [HE.out]; exact decide_eq_true ⟨d1, d3, Or.inr (fun h => z0 (by rw [hby] at h; exact Option.some.inj h))⟩
         have hzi : (((S[t.p]'hps).toNat : Int) == 48) = false := by rw [← hz]; exact beq_eq_false_iff_ne.2 (by omega)
         have hzj : (((S[t.p]'hps).toNat : Int) != 48) = true := by rw [bne, hzi]; rfl
         clear HE d2 hz hby z0
         go_quiet (fail)
         have bd := below_drewN (Below.refl wr.heap.size wr) nq
         obtain ⟨W4, hW4⟩ : ∃ W, W = wr.drewN nq := ⟨_, rfl⟩
         rw [← hW4] at bd ⊢
         have R9 := Lib.hid (HR.out.next bd)
         have K9 := Lib.hid (KR.out.next bd)
         clear hW4 bd c0 c1
         go_wp2
         refine bodyPost_ret (v := .tuple #[.int .i64 n, .bool true]) (by simp [results, Try.results80, go_sem]) rfl ⟨?_, ?_, K9.out⟩
         ·
          rw [HV.out, HST.out.1]
         ·
          rw [← HST.out.2]; exact R9.out
      ·
       have i3 : decide ((d : Int) ≤ 3) = false := decide_eq_false (by omega)
       have HV : Hid (b = false) := by show _ = _; rw [HE.out]; exact decide_eq_false (fun h => d3 h.2.1)
       clear HE
       go_quiet (fail)
       have bd := below_drewN (Below.refl wr.heap.size wr) nq
       obtain ⟨W4, hW4⟩ : ∃ W, W = wr.drewN nq := ⟨_, rfl⟩
       rw [← hW4] at bd ⊢
       have R9 := Lib.hid (HR.out.next bd)
       have K9 := Lib.hid (KR.out.next bd)
       clear hW4 bd c0 c1
       go_wp2
       refine bodyPost_ret (v := .tuple #[.int .i64 n, .bool false]) (by simp [results, Try.results80, go_sem]) rfl ⟨?_, ?_, K9.out⟩
       ·
        rw [HV.out, HST.out.1]
       ·
        rw [← HST.out.2]; exact R9.out
     ·
      have i1 : decide ((1 : Int) ≤ (d : Int)) = false := decide_eq_false (by omega)
      have HV : Hid (b = false) := by show _ = _; rw [HE.out]; exact decide_eq_false (fun h => d1 h.1)
      clear HE
      go_quiet (fail)
      have bd := below_drewN (Below.refl wr.heap.size wr) nq
      obtain ⟨W4, hW4⟩ : ∃ W, W = wr.drewN nq := ⟨_, rfl⟩
      rw [← hW4] at bd ⊢
      have R9 := Lib.hid (HR.out.next bd)
      have K9 := Lib.hid (KR.out.next bd)
      clear hW4 bd c0 c1
      go_wp2
      refine bodyPost_ret (v := .tuple #[.int .i64 n, .bool false]) (by simp [results, Try.results80, go_sem]) rfl ⟨?_, ?_, K9.out⟩
      ·
       rw [HV.out, HST.out.1]
      ·
       rw [← HST.out.2]; exact R9.out
   ·
    have i48 : ¬ (48 : Int) ≤ (c : Int) := by omega
    have HST : Hid (n = fn ∧ tt = ft) := by
     have h1 := HF.out
     have h2 : numF (kit.bytes S) t.p (f1 + 1) n tt = (n, tt) := by unfold numF; rw [← HNO.out]; simp only; rw [if_neg (fun h => h48 h.1)]
     rw [h2] at h1
     simp only [Prod.mk.injEq] at h1
     exact h1
    obtain ⟨hst1, hst2⟩ := HST.out
    have HE : Hid (b = decide (1 ≤ tt.p - t.p ∧ tt.p - t.p ≤ 3 ∧ (tt.p - t.p = 1 ∨ (kit.bytes S)[t.p]? ≠ some 48))) := by show _ = _; rw [HB.out, hst2]
    clear hst1 hst2 HB HF
    clear ho hnb hn2 hco
    have c1 := boxc HR.out.box 1 _ rfl
    have c0 := boxc HR.out.box 0 _ rfl
    have hsub : IntKind.i64.wrap ((tt.p : Int) - (t.p : Int)) = (tt.p : Int) - (t.p : Int) := IntWalk.i64_in _ (by omega)
    go_wp2
    have hsub0 : (tt.p : Int) - (t.p : Int) = ((tt.p - t.p : Nat) : Int) := by omega
    rw [hsub0]
    clear hsub hsub0
    obtain ⟨d, hd⟩ : ∃ d, d = tt.p - t.p := ⟨_, rfl⟩
    rw [← hd] at HE ⊢
    have HD := Lib.hid hd
    clear hd
    by_cases d1 : 1 ≤ d
    ·
     have i1 : (1 : Int) ≤ (d : Int) := by omega
     by_cases d3 : d ≤ 3
     ·
      have i3 : (d : Int) ≤ 3 := by omega
      by_cases d2 : d = 1
      ·
       have i2 : ((d : Int) == 1) = true := by simp [d2]
       have HV : Hid (b = true) := by show _ = _; rw [HE.out]; exact decide_eq_true ⟨d1, d3, Or.inl d2⟩
       have HI2 := Lib.hid i2
       clear HE d2
       go_quiet (fail)
       have bd := below_drewN (Below.refl wr.heap.size wr) nq
       obtain ⟨W4, hW4⟩ : ∃ W, W = wr.drewN nq := ⟨_, rfl⟩
       rw [← hW4] at bd ⊢
       have R9 := Lib.hid (HR.out.next bd)
       have K9 := Lib.hid (KR.out.next bd)
       clear hW4 bd c0 c1
       go_wp2
       refine bodyPost_ret (v := .tuple #[.int .i64 n, .bool true]) (by simp [results, Try.results80, go_sem]) rfl ⟨?_, ?_, K9.out⟩
       ·
        rw [HV.out, HST.out.1]
       ·
        rw [← HST.out.2]; exact R9.out
      ·
       have i2 : ((d : Int) == 1) = false := beq_eq_false_iff_ne.2 (by omega)
       have hps : t.p < S.size := by have := HD.out; omega
       obtain ⟨z, hz⟩ : ∃ z, z = (S[t.p]'hps).toNat := ⟨_, rfl⟩
       have hby : (kit.bytes S)[t.p]? = some z := by rw [byte_at hps, hz]
       have hpsi : (t.p : Int) < (S.size : Int) := by omega
       by_cases z0 : z = 48
       ·
        have HV : Hid (b = false) := by show _ = _; rw [HE.out]; exact decide_eq_false (fun h => h.2.2.elim d2 (fun h => h (by subst z0; exact hby)))
        have hzi : (((S[t.p]'hps).toNat : Int) == 48) = true := by rw [← hz, z0]; rfl
        have hzj : (((S[t.p]'hps).toNat : Int) != 48) = false := by rw [bne, hzi]; rfl
        clear HE d2 hz hby z0
        go_quiet (fail)
        have bd := below_drewN (Below.refl wr.heap.size wr) nq
        obtain ⟨W4, hW4⟩ : ∃ W, W = wr.drewN nq := ⟨_, rfl⟩
        rw [← hW4] at bd ⊢
        have R9 := Lib.hid (HR.out.next bd)
        have K9 := Lib.hid (KR.out.next bd)
        clear hW4 bd c0 c1
        go_wp2
        refine bodyPost_ret (v := .tuple #[.int .i64 n, .bool false]) (by simp [results, Try.results80, go_sem]) rfl ⟨?_, ?_, K9.out⟩
        ·
         rw [HV.out, HST.out.1]
        ·
         rw [← HST.out.2]; exact R9.out
       ·
        have HV : Hid (b = true) := by show _ = _; rw [HE.out]; exact decide_eq_true ⟨d1, d3, Or.inr (fun h => z0 (by rw [hby] at h; exact Option.some.inj h))⟩
        have hzi : (((S[t.p]'hps).toNat : Int) == 48) = false := by rw [← hz]; exact beq_eq_false_iff_ne.2 (by omega)
        have hzj : (((S[t.p]'hps).toNat : Int) != 48) = true := by rw [bne, hzi]; rfl
        clear HE d2 hz hby z0
        go_quiet (fail)
        have bd := below_drewN (Below.refl wr.heap.size wr) nq
        obtain ⟨W4, hW4⟩ : ∃ W, W = wr.drewN nq := ⟨_, rfl⟩
        rw [← hW4] at bd ⊢
        have R9 := Lib.hid (HR.out.next bd)
        have K9 := Lib.hid (KR.out.next bd)
        clear hW4 bd c0 c1
        go_wp2
        refine bodyPost_ret (v := .tuple #[.int .i64 n, .bool true]) (by simp [results, Try.results80, go_sem]) rfl ⟨?_, ?_, K9.out⟩
        ·
         rw [HV.out, HST.out.1]
        ·
         rw [← HST.out.2]; exact R9.out
     ·
      have i3 : decide ((d : Int) ≤ 3) = false := decide_eq_false (by omega)
      have HV : Hid (b = false) := by show _ = _; rw [HE.out]; exact decide_eq_false (fun h => d3 h.2.1)
      clear HE
      go_quiet (fail)
      have bd := below_drewN (Below.refl wr.heap.size wr) nq
      obtain ⟨W4, hW4⟩ : ∃ W, W = wr.drewN nq := ⟨_, rfl⟩
      rw [← hW4] at bd ⊢
      have R9 := Lib.hid (HR.out.next bd)
      have K9 := Lib.hid (KR.out.next bd)
      clear hW4 bd c0 c1
      go_wp2
      refine bodyPost_ret (v := .tuple #[.int .i64 n, .bool false]) (by simp [results, Try.results80, go_sem]) rfl ⟨?_, ?_, K9.out⟩
      ·
       rw [HV.out, HST.out.1]
      ·
       rw [← HST.out.2]; exact R9.out
    ·
     have i1 : decide ((1 : Int) ≤ (d : Int)) = false := decide_eq_false (by omega)
     have HV : Hid (b = false) := by show _ = _; rw [HE.out]; exact decide_eq_false (fun h => d1 h.1)
     clear HE
     go_quiet (fail)
     have bd := below_drewN (Below.refl wr.heap.size wr) nq
     obtain ⟨W4, hW4⟩ : ∃ W, W = wr.drewN nq := ⟨_, rfl⟩
     rw [← hW4] at bd ⊢
     have R9 := Lib.hid (HR.out.next bd)
     have K9 := Lib.hid (KR.out.next bd)
     clear hW4 bd c0 c1
     go_wp2
     refine bodyPost_ret (v := .tuple #[.int .i64 n, .bool false]) (by simp [results, Try.results80, go_sem]) rfl ⟨?_, ?_, K9.out⟩
     ·
      rw [HV.out, HST.out.1]
     ·
      rw [← HST.out.2]; exact R9.out
end Go.Proofs.Ytmfgplbfojnkdaa
