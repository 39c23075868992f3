/- texts put together: RrNum, RrLem, RrRel4. -/
import Derived.Test.YtbccejlemhgioaaPa01
import Derived.Test.YtbccejlemhgioaaPa03
import Derived.Test.YtbccejlemhgioaaPa04
import Derived.Test.YtbccejlemhgioaaPa09
namespace Go.Proofs.Ytbccejlemhgioaa
open Go Go.RowKit Go.ChangeShapes cl rx
open rf
theorem rdsize : (Try.prog.info? 48).map (·.size) = some 3 := by kernel_rfl
set_option maxHeartbeats 12800000 in
set_option maxRecDepth 100000 in
theorem rr_number (S : ByteArray) (r : rr.R) (w : World) (hS : S.size ≤ 60) (hp : r.p ≤ S.size) : Calls Try.prog 56 #[.agg #[.string S, .int .i64 ((r).p : Int), .int .i64 (r).co]] w (fun e w' => e = .returned (.tuple #[.agg #[.string S, .int .i64 (((rr.number (kit.bytes S) r).1).p : Int), .int .i64 ((rr.number (kit.bytes S) r).1).co], .int .i64 (rr.oi (rr.number (kit.bytes S) r).2)]) ∧ Below w.heap.size w w') := by
 have hlen : (kit.bytes S).length = S.size := by simp [kit.bytes]
 obtain ⟨m, hm⟩ : ∃ m, m = rr.number (kit.bytes S) r := ⟨_, rfl⟩
 rw [← hm]
 unfold rr.number at hm
 simp only at hm
 obtain ⟨fn, fr, hfin⟩ : ∃ fn fr, rr.numF (kit.bytes S) r.p 4 0 r = (fn, fr) := ⟨_, _, rfl⟩
 rw [hfin] at hm
 simp only at hm
 obtain ⟨q, hq⟩ : ∃ q, q = w.heap.size := ⟨_, rfl⟩
 obtain ⟨q2, hq2⟩ : ∃ q2, q2 = w.heap.size + 1 := ⟨_, rfl⟩
 obtain ⟨W3, hW3⟩ : ∃ W, W = (w.alloc (.cells #[.string S, .int .i64 ((r).p : Int), .int .i64 (r).co] 48)).alloc (.cells #[.string ⟨#[]⟩, .int .i64 0, .int .i64 0] 48) := ⟨_, rfl⟩
 have b1 : Below w.heap.size w (w.alloc (.cells #[.string S, .int .i64 ((r).p : Int), .int .i64 (r).co] 48)) := below1
 have b3 : Below w.heap.size w W3 := by rw [hW3]; exact b1.trans (below1.mono b1.size)
 have X3 : Hid (W3.heap[q]? = some (.cells #[.string S, .int .i64 ((r).p : Int), .int .i64 (r).co] 48)) := by
  show _ = _
  rw [hW3]; exact (below1.block q (by rw [World.size_alloc, hq]; omega)).trans (by rw [hq]; exact heap_alloc_new _ _)
 have Z3 : Hid (W3.heap[q2]? = some (.cells #[.string ⟨#[]⟩, .int .i64 0, .int .i64 0] 48)) := by
  show _ = _
  have : q2 = (w.alloc (.cells #[.string S, .int .i64 ((r).p : Int), .int .i64 (r).co] 48)).heap.size := by rw [World.size_alloc, hq2]
  rw [hW3, this]; exact heap_alloc_new _ _
 have HQ : Hid (q2 = q + 1 ∧ q = w.heap.size) := by show _ ∧ _; omega
 have B3 := Lib.hid b3
 have HW3 := Lib.hid hW3
 have HQ0 := Lib.hid hq
 have HQ2 := Lib.hid hq2
 have HM := Lib.hid hm
 have HFS := Lib.hid hfin
 have HLEN := Lib.hid hlen
 have y1 := boxc X3.out 1 _ rfl
 rw [HW3.out, HQ0.out] at y1
 clear b1 b3 hW3 hq hq2 hm hfin hlen
 go_enter Try.func56, Try.ntmps56
 go_wp2
 rw [← HW3.out, ← HQ2.out, ← HQ0.out]
 clear y1
 go_loopw [5] (fun v wr => ∃ (f n : Nat) (rz : rr.R), v = .int .i64 n ∧ Hid (rr.numF (kit.bytes S) r.p f n rz = (fn, fr)) ∧ rz.p + f = r.p + 4 ∧ r.p ≤ rz.p ∧ rz.p ≤ S.size ∧ 1 ≤ f ∧ n < 10 ^ (4 - f) ∧ Hid (wr.heap[q]? = some (.cells #[.string S, .int .i64 ((rz).p : Int), .int .i64 (rz).co] 48)) ∧ Hid (wr.heap[q2]? = some (.cells #[.string ⟨#[]⟩, .int .i64 0, .int .i64 0] 48)) ∧ Hid (Below w.heap.size w wr)) (fun _ wr => S.size + 1 - pOf wr q)
 case atStart => exact ⟨4, 0, r, rfl, HFS.out, rfl, Nat.le_refl _, hp, by omega, by decide, X3.out, Z3.out, B3.out⟩
 case round =>
  obtain ⟨f, n, rz, rfl, HF, hfp, hrp, hrs, hf1, hnb, XX, ZZ, BW⟩ := hrel
  have hn10 : n < 1000 := by
   have h1 : (10 : Nat) ^ (4 - f) ≤ 10 ^ 3 := Nat.pow_le_pow_right (by decide) (by omega)
   have h2 : (10 : Nat) ^ 3 = 1000 := by decide
   omega
  obtain ⟨f1, rfl⟩ : ∃ f1, f = f1 + 1 := ⟨f - 1, by omega⟩
  by_cases hpl : rz.p < S.size
  ·
   have hpi : (rz.p : Int) < (S.size : Int) := by omega
   obtain ⟨c, hcE⟩ : ∃ c, c = (S[rz.p]'hpl).toNat := ⟨_, rfl⟩
   have hb : (kit.bytes S)[rz.p]? = some c := by rw [byte_at hpl, hcE]
   have hc : c < 256 := kit.bytes_lt S c (List.mem_of_getElem? hb)
   have hcE' : (S[rz.p]'hpl).toNat = c := hcE.symm
   clear hcE
   by_cases h48 : 48 ≤ c
   ·
    have i48 : (48 : Int) ≤ (c : Int) := by omega
    by_cases h57 : c ≤ 57
    ·
     have i57 : (c : Int) ≤ 57 := by omega
     by_cases h3 : rz.p - r.p < 3
     ·
      have i3 : (rz.p : Int) - (r.p : Int) < 3 := by omega
      have hst : Hid (rr.numF (kit.bytes S) r.p f1 (n * 10 + (c - 48)) rz.fwd = (fn, fr)) := by
       have h1 := HF.out
       unfold rr.numF at h1
       rw [hb] at h1
       simp only at h1
       rw [if_pos ⟨h48, h57, h3⟩] at h1
       exact h1
      have hnb2 : n * 10 + (c - 48) < 10 ^ (4 - f1) := by
       have e : 4 - f1 = (4 - (f1 + 1)) + 1 := by omega
       rw [e, Nat.pow_succ]
       omega
      have HNB := Lib.hid hnb2
      have c1 := boxc XX.out 1 _ rfl
      have c0 := boxc XX.out 0 _ rfl
      have f1r := boxf XX.out 1
      have hsub : IntKind.i64.wrap ((rz.p : Int) - (r.p : Int)) = (rz.p : Int) - (r.p : Int) := IntWalk.i64_in _ (by omega)
      have XN : (wr.setCell ⟨q, 1, none⟩ (.int .i64 ((rz.p : Int) + 1))).heap[q]? = some (.cells #[.string S, .int .i64 ((rz.fwd).p : Int), .int .i64 (rz.fwd).co] 48) := heap_setCell_same wr q 1 _ _ _ XX.out
      have kx : KX q wr (wr.setCell ⟨q, 1, none⟩ (.int .i64 ((rz.p : Int) + 1))) := KX.cell
      have ZN := (kx.2.2 q2 (lt_of_block ZZ.out) (by have := HQ.out; omega)).trans ZZ.out
      have BN : Below w.heap.size w (wr.setCell ⟨q, 1, none⟩ (.int .i64 ((rz.p : Int) + 1))) := BW.out.trans ⟨kx.1.1, kx.1.2.1, kx.1.2.2, kx.2.1, fun j hj => kx.2.2 j (by have := BW.out.size; omega) (by have := HQ.out; omega)⟩
      have HXN := Lib.hid XN
      have HZN := Lib.hid ZN
      have HBN := Lib.hid BN
      have HPO : Hid (pOf wr q = rz.p) := by
       show _ = _
       unfold pOf
       rw [boxc XX.out 1 _ rfl]; simp
      have HPN : Hid (pOf (wr.setCell ⟨q, 1, none⟩ (.int .i64 ((rz.p : Int) + 1))) q = rz.p + 1) := by
       show _ = _
       unfold pOf
       rw [boxc HXN.out 1 _ rfl]
       show ((rz.p + 1 : Nat) : Int).toNat = _
       omega
      clear hb hnb hnb2 XN ZN BN kx
      go_wp2
      go_roundw
      case rel => exact ⟨f1, n * 10 + (c - 48), rz.fwd, by go_num, hst.out, by show rz.p + 1 + f1 = _; omega, by show r.p ≤ rz.p + 1; omega, hpl, by omega, HNB.out, HXN, HZN, HBN⟩
      case measure => rw [HPN.out, HPO.out]; omega
     ·
      have i3 : ¬ (rz.p : Int) - (r.p : Int) < 3 := by omega
      have hst : Hid (n = fn ∧ rz = fr) := by
       have h1 := HF.out
       have h2 : rr.numF (kit.bytes S) r.p (f1 + 1) n rz = (n, rz) := by unfold rr.numF; rw [hb]; simp only; rw [if_neg (fun h => h3 h.2.2)]
       rw [h2] at h1
       simp only [Prod.mk.injEq] at h1
       exact h1
      have c1 := boxc XX.out 1 _ rfl
      have c0 := boxc XX.out 0 _ rfl
      have hsub : IntKind.i64.wrap ((rz.p : Int) - (r.p : Int)) = (rz.p : Int) - (r.p : Int) := IntWalk.i64_in _ (by omega)
      by_cases e0 : rz.p = r.p
      ·
       have ib : ((rz.p : Int) == (r.p : Int)) = true := by simp [e0]
       have ie : (rz.p : Int) = (r.p : Int) := by omega
       have HV : Hid (m = (fr, none)) := by show _ = _; rw [HM.out, if_pos (Or.inl (by rw [← hst.out.2]; exact e0))]
       have HE0 := Lib.hid e0
       clear e0 ie hb hnb h3
       have xx := XX.out
       have zz := ZZ.out
       have cc := setRow_heap _ q2 _ #[.string S, .int .i64 ((rz).p : Int), .int .i64 (rz).co] _ _ zz
       have bb := below_setRow BW.out (g := q2) (by have := HQ.out; omega) #[.string S, .int .i64 ((rz).p : Int), .int .i64 (rz).co]
       have l0 := boxc xx 0 _ rfl
       have l1 := boxc xx 1 _ rfl
       have l2 := boxc xx 2 _ rfl
       go_wp2_with ((with_reducible show wpList _ _ _ (Oper.mk _ (Op.store 48 (.tmp 2) _) _ _ _ _ :: _) _ _); refine wpList_store_row rfl 48 (.tmp 2) _ rfl (q2) #[.string S, .int .i64 ((rz).p : Int), .int .i64 (rz).co] rfl rfl 48 #[.string ⟨#[]⟩, .int .i64 0, .int .i64 0] zz rdsize rfl (by simp [Value.oneCell']) ?_)
       obtain ⟨w9, h9⟩ : ∃ W, W = World.setRow wr q2 #[.string S, .int .i64 ((rz).p : Int), .int .i64 (rz).co] := ⟨_, rfl⟩
       rw [← h9] at cc bb ⊢
       clear h9 l0 l1 l2 xx zz
       have k0 := boxc cc 0 _ rfl
       have k1 := boxc cc 1 _ rfl
       have k2 := boxc cc 2 _ rfl
       refine bodyPost_ret (v := .tuple #[.agg #[.string S, .int .i64 ((rz).p : Int), .int .i64 (rz).co], .int .i64 (-1)]) (by simp [results, Try.results56, go_sem, k0, k1, k2]) rfl ⟨?_, bb⟩
       rw [HV.out, hst.out.2]; rfl
      have ib : ((rz.p : Int) == (r.p : Int)) = false := beq_eq_false_iff_ne.2 (by omega)
      have hps : r.p < S.size := by omega
      obtain ⟨z, hz⟩ : ∃ z, z = (S[r.p]'hps).toNat := ⟨_, rfl⟩
      have hby : (kit.bytes S)[r.p]? = some z := by rw [byte_at hps, hz]
      have hpsi : (r.p : Int) < (S.size : Int) := by omega
      by_cases z0 : z = 48
      ·
       have hzi : (((S[r.p]'hps).toNat : Int) == 48) = true := by rw [← hz, z0]; rfl
       by_cases e1 : 1 < rz.p - r.p
       ·
        have i1 : (1 : Int) < (rz.p : Int) - (r.p : Int) := by omega
        have HV : Hid (m = (fr, none)) := by show _ = _; rw [HM.out, if_pos (Or.inr ⟨by rw [hby, z0], by rw [← hst.out.2]; exact e1⟩)]
        clear hz hby z0 e1 hb hnb h3
        have xx := XX.out
        have zz := ZZ.out
        have cc := setRow_heap _ q2 _ #[.string S, .int .i64 ((rz).p : Int), .int .i64 (rz).co] _ _ zz
        have bb := below_setRow BW.out (g := q2) (by have := HQ.out; omega) #[.string S, .int .i64 ((rz).p : Int), .int .i64 (rz).co]
        have l0 := boxc xx 0 _ rfl
        have l1 := boxc xx 1 _ rfl
        have l2 := boxc xx 2 _ rfl
        go_wp2_with ((with_reducible show wpList _ _ _ (Oper.mk _ (Op.store 48 (.tmp 2) _) _ _ _ _ :: _) _ _); refine wpList_store_row rfl 48 (.tmp 2) _ rfl (q2) #[.string S, .int .i64 ((rz).p : Int), .int .i64 (rz).co] rfl rfl 48 #[.string ⟨#[]⟩, .int .i64 0, .int .i64 0] zz rdsize rfl (by simp [Value.oneCell']) ?_)
        obtain ⟨w9, h9⟩ : ∃ W, W = World.setRow wr q2 #[.string S, .int .i64 ((rz).p : Int), .int .i64 (rz).co] := ⟨_, rfl⟩
        rw [← h9] at cc bb ⊢
        clear h9 l0 l1 l2 xx zz
        have k0 := boxc cc 0 _ rfl
        have k1 := boxc cc 1 _ rfl
        have k2 := boxc cc 2 _ rfl
        refine bodyPost_ret (v := .tuple #[.agg #[.string S, .int .i64 ((rz).p : Int), .int .i64 (rz).co], .int .i64 (-1)]) (by simp [results, Try.results56, go_sem, k0, k1, k2]) rfl ⟨?_, bb⟩
        rw [HV.out, hst.out.2]; rfl
       ·
        exfalso; omega
      ·
       have hzi : (((S[r.p]'hps).toNat : Int) == 48) = false := by rw [← hz]; exact beq_eq_false_iff_ne.2 (by omega)
       have HV : Hid (m = (fr, some fn)) := by show _ = _; rw [HM.out, if_neg (by rw [← hst.out.2]; exact fun h => h.elim e0 (fun h => z0 (by have h1 := h.1; rw [hby] at h1; exact Option.some.inj h1)))]
       clear hz hby z0 hb hnb h3
       have xx := XX.out
       have zz := ZZ.out
       have cc := setRow_heap _ q2 _ #[.string S, .int .i64 ((rz).p : Int), .int .i64 (rz).co] _ _ zz
       have bb := below_setRow BW.out (g := q2) (by have := HQ.out; omega) #[.string S, .int .i64 ((rz).p : Int), .int .i64 (rz).co]
       have l0 := boxc xx 0 _ rfl
       have l1 := boxc xx 1 _ rfl
       have l2 := boxc xx 2 _ rfl
       go_wp2_with ((with_reducible show wpList _ _ _ (Oper.mk _ (Op.store 48 (.tmp 2) _) _ _ _ _ :: _) _ _); refine wpList_store_row rfl 48 (.tmp 2) _ rfl (q2) #[.string S, .int .i64 ((rz).p : Int), .int .i64 (rz).co] rfl rfl 48 #[.string ⟨#[]⟩, .int .i64 0, .int .i64 0] zz rdsize rfl (by simp [Value.oneCell']) ?_)
       obtain ⟨w9, h9⟩ : ∃ W, W = World.setRow wr q2 #[.string S, .int .i64 ((rz).p : Int), .int .i64 (rz).co] := ⟨_, rfl⟩
       rw [← h9] at cc bb ⊢
       clear h9 l0 l1 l2 xx zz
       have k0 := boxc cc 0 _ rfl
       have k1 := boxc cc 1 _ rfl
       have k2 := boxc cc 2 _ rfl
       refine bodyPost_ret (v := .tuple #[.agg #[.string S, .int .i64 ((rz).p : Int), .int .i64 (rz).co], .int .i64 n]) (by simp [results, Try.results56, go_sem, k0, k1, k2]) rfl ⟨?_, bb⟩
       rw [HV.out, hst.out.2, hst.out.1]; rfl
    ·
     have i57 : ¬ (c : Int) ≤ 57 := by omega
     have hst : Hid (n = fn ∧ rz = fr) := by
      have h1 := HF.out
      have h2 : rr.numF (kit.bytes S) r.p (f1 + 1) n rz = (n, rz) := by unfold rr.numF; rw [hb]; simp only; rw [if_neg (fun h => h57 h.2.1)]
      rw [h2] at h1
      simp only [Prod.mk.injEq] at h1
      exact h1
     have c1 := boxc XX.out 1 _ rfl
     have c0 := boxc XX.out 0 _ rfl
     have hsub : IntKind.i64.wrap ((rz.p : Int) - (r.p : Int)) = (rz.p : Int) - (r.p : Int) := IntWalk.i64_in _ (by omega)
     by_cases e0 : rz.p = r.p
     ·
      have ib : ((rz.p : Int) == (r.p : Int)) = true := by simp [e0]
      have ie : (rz.p : Int) = (r.p : Int) := by omega
      have HV : Hid (m = (fr, none)) := by show _ = _; rw [HM.out, if_pos (Or.inl (by rw [← hst.out.2]; exact e0))]
      have HE0 := Lib.hid e0
      clear e0 ie hb hnb h57
      have xx := XX.out
      have zz := ZZ.out
      have cc := setRow_heap _ q2 _ #[.string S, .int .i64 ((rz).p : Int), .int .i64 (rz).co] _ _ zz
      have bb := below_setRow BW.out (g := q2) (by have := HQ.out; omega) #[.string S, .int .i64 ((rz).p : Int), .int .i64 (rz).co]
      have l0 := boxc xx 0 _ rfl
      have l1 := boxc xx 1 _ rfl
      have l2 := boxc xx 2 _ rfl
      go_wp2_with ((with_reducible show wpList _ _ _ (Oper.mk _ (Op.store 48 (.tmp 2) _) _ _ _ _ :: _) _ _); refine wpList_store_row rfl 48 (.tmp 2) _ rfl (q2) #[.string S, .int .i64 ((rz).p : Int), .int .i64 (rz).co] rfl rfl 48 #[.string ⟨#[]⟩, .int .i64 0, .int .i64 0] zz rdsize rfl (by simp [Value.oneCell']) ?_)
      obtain ⟨w9, h9⟩ : ∃ W, W = World.setRow wr q2 #[.string S, .int .i64 ((rz).p : Int), .int .i64 (rz).co] := ⟨_, rfl⟩
      rw [← h9] at cc bb ⊢
      clear h9 l0 l1 l2 xx zz
      have k0 := boxc cc 0 _ rfl
      have k1 := boxc cc 1 _ rfl
      have k2 := boxc cc 2 _ rfl
      refine bodyPost_ret (v := .tuple #[.agg #[.string S, .int .i64 ((rz).p : Int), .int .i64 (rz).co], .int .i64 (-1)]) (by simp [results, Try.results56, go_sem, k0, k1, k2]) rfl ⟨?_, bb⟩
      rw [HV.out, hst.out.2]; rfl
     have ib : ((rz.p : Int) == (r.p : Int)) = false := beq_eq_false_iff_ne.2 (by omega)
     have hps : r.p < S.size := by omega
     obtain ⟨z, hz⟩ : ∃ z, z = (S[r.p]'hps).toNat := ⟨_, rfl⟩
     have hby : (kit.bytes S)[r.p]? = some z := by rw [byte_at hps, hz]
     have hpsi : (r.p : Int) < (S.size : Int) := by omega
     by_cases z0 : z = 48
     ·
      have hzi : (((S[r.p]'hps).toNat : Int) == 48) = true := by rw [← hz, z0]; rfl
      by_cases e1 : 1 < rz.p - r.p
      ·
       have i1 : (1 : Int) < (rz.p : Int) - (r.p : Int) := by omega
       have HV : Hid (m = (fr, none)) := by show _ = _; rw [HM.out, if_pos (Or.inr ⟨by rw [hby, z0], by rw [← hst.out.2]; exact e1⟩)]
       clear hz hby z0 e1 hb hnb h57
       have xx := XX.out
       have zz := ZZ.out
       have cc := setRow_heap _ q2 _ #[.string S, .int .i64 ((rz).p : Int), .int .i64 (rz).co] _ _ zz
       have bb := below_setRow BW.out (g := q2) (by have := HQ.out; omega) #[.string S, .int .i64 ((rz).p : Int), .int .i64 (rz).co]
       have l0 := boxc xx 0 _ rfl
       have l1 := boxc xx 1 _ rfl
       have l2 := boxc xx 2 _ rfl
       go_wp2_with ((with_reducible show wpList _ _ _ (Oper.mk _ (Op.store 48 (.tmp 2) _) _ _ _ _ :: _) _ _); refine wpList_store_row rfl 48 (.tmp 2) _ rfl (q2) #[.string S, .int .i64 ((rz).p : Int), .int .i64 (rz).co] rfl rfl 48 #[.string ⟨#[]⟩, .int .i64 0, .int .i64 0] zz rdsize rfl (by simp [Value.oneCell']) ?_)
       obtain ⟨w9, h9⟩ : ∃ W, W = World.setRow wr q2 #[.string S, .int .i64 ((rz).p : Int), .int .i64 (rz).co] := ⟨_, rfl⟩
       rw [← h9] at cc bb ⊢
       clear h9 l0 l1 l2 xx zz
       have k0 := boxc cc 0 _ rfl
       have k1 := boxc cc 1 _ rfl
       have k2 := boxc cc 2 _ rfl
       refine bodyPost_ret (v := .tuple #[.agg #[.string S, .int .i64 ((rz).p : Int), .int .i64 (rz).co], .int .i64 (-1)]) (by simp [results, Try.results56, go_sem, k0, k1, k2]) rfl ⟨?_, bb⟩
       rw [HV.out, hst.out.2]; rfl
      ·
       have i1 : ¬ (1 : Int) < (rz.p : Int) - (r.p : Int) := by omega
       have HV : Hid (m = (fr, some fn)) := by show _ = _; rw [HM.out, if_neg (by rw [← hst.out.2]; exact fun h => h.elim e0 (fun h => e1 h.2))]
       clear hz hby z0 e1 hb hnb h57
       have xx := XX.out
       have zz := ZZ.out
       have cc := setRow_heap _ q2 _ #[.string S, .int .i64 ((rz).p : Int), .int .i64 (rz).co] _ _ zz
       have bb := below_setRow BW.out (g := q2) (by have := HQ.out; omega) #[.string S, .int .i64 ((rz).p : Int), .int .i64 (rz).co]
       have l0 := boxc xx 0 _ rfl
       have l1 := boxc xx 1 _ rfl
       have l2 := boxc xx 2 _ rfl
       go_wp2_with ((with_reducible show wpList _ _ _ (Oper.mk _ (Op.store 48 (.tmp 2) _) _ _ _ _ :: _) _ _); refine wpList_store_row rfl 48 (.tmp 2) _ rfl (q2) #[.string S, .int .i64 ((rz).p : Int), .int .i64 (rz).co] rfl rfl 48 #[.string ⟨#[]⟩, .int .i64 0, .int .i64 0] zz rdsize rfl (by simp [Value.oneCell']) ?_)
       obtain ⟨w9, h9⟩ : ∃ W, W = World.setRow wr q2 #[.string S, .int .i64 ((rz).p : Int), .int .i64 (rz).co] := ⟨_, rfl⟩
       rw [← h9] at cc bb ⊢
       clear h9 l0 l1 l2 xx zz
       have k0 := boxc cc 0 _ rfl
       have k1 := boxc cc 1 _ rfl
       have k2 := boxc cc 2 _ rfl
       refine bodyPost_ret (v := .tuple #[.agg #[.string S, .int .i64 ((rz).p : Int), .int .i64 (rz).co], .int .i64 n]) (by simp [results, Try.results56, go_sem, k0, k1, k2]) rfl ⟨?_, bb⟩
       rw [HV.out, hst.out.2, hst.out.1]; rfl
     ·
      have hzi : (((S[r.p]'hps).toNat : Int) == 48) = false := by rw [← hz]; exact beq_eq_false_iff_ne.2 (by omega)
      have HV : Hid (m = (fr, some fn)) := by show _ = _; rw [HM.out, if_neg (by rw [← hst.out.2]; exact fun h => h.elim e0 (fun h => z0 (by have h1 := h.1; rw [hby] at h1; exact Option.some.inj h1)))]
      clear hz hby z0 hb hnb h57
      have xx := XX.out
      have zz := ZZ.out
      have cc := setRow_heap _ q2 _ #[.string S, .int .i64 ((rz).p : Int), .int .i64 (rz).co] _ _ zz
      have bb := below_setRow BW.out (g := q2) (by have := HQ.out; omega) #[.string S, .int .i64 ((rz).p : Int), .int .i64 (rz).co]
      have l0 := boxc xx 0 _ rfl
      have l1 := boxc xx 1 _ rfl
      have l2 := boxc xx 2 _ rfl
      go_wp2_with ((with_reducible show wpList _ _ _ (Oper.mk _ (Op.store 48 (.tmp 2) _) _ _ _ _ :: _) _ _); refine wpList_store_row rfl 48 (.tmp 2) _ rfl (q2) #[.string S, .int .i64 ((rz).p : Int), .int .i64 (rz).co] rfl rfl 48 #[.string ⟨#[]⟩, .int .i64 0, .int .i64 0] zz rdsize rfl (by simp [Value.oneCell']) ?_)
      obtain ⟨w9, h9⟩ : ∃ W, W = World.setRow wr q2 #[.string S, .int .i64 ((rz).p : Int), .int .i64 (rz).co] := ⟨_, rfl⟩
      rw [← h9] at cc bb ⊢
      clear h9 l0 l1 l2 xx zz
      have k0 := boxc cc 0 _ rfl
      have k1 := boxc cc 1 _ rfl
      have k2 := boxc cc 2 _ rfl
      refine bodyPost_ret (v := .tuple #[.agg #[.string S, .int .i64 ((rz).p : Int), .int .i64 (rz).co], .int .i64 n]) (by simp [results, Try.results56, go_sem, k0, k1, k2]) rfl ⟨?_, bb⟩
      rw [HV.out, hst.out.2, hst.out.1]; rfl
   ·
    have i48 : ¬ (48 : Int) ≤ (c : Int) := by omega
    have hst : Hid (n = fn ∧ rz = fr) := by
     have h1 := HF.out
     have h2 : rr.numF (kit.bytes S) r.p (f1 + 1) n rz = (n, rz) := by unfold rr.numF; rw [hb]; simp only; rw [if_neg (fun h => h48 h.1)]
     rw [h2] at h1
     simp only [Prod.mk.injEq] at h1
     exact h1
    have c1 := boxc XX.out 1 _ rfl
    have c0 := boxc XX.out 0 _ rfl
    have hsub : IntKind.i64.wrap ((rz.p : Int) - (r.p : Int)) = (rz.p : Int) - (r.p : Int) := IntWalk.i64_in _ (by omega)
    by_cases e0 : rz.p = r.p
    ·
     have ib : ((rz.p : Int) == (r.p : Int)) = true := by simp [e0]
     have ie : (rz.p : Int) = (r.p : Int) := by omega
     have HV : Hid (m = (fr, none)) := by show _ = _; rw [HM.out, if_pos (Or.inl (by rw [← hst.out.2]; exact e0))]
     have HE0 := Lib.hid e0
     clear e0 ie hb hnb h48
     have xx := XX.out
     have zz := ZZ.out
     have cc := setRow_heap _ q2 _ #[.string S, .int .i64 ((rz).p : Int), .int .i64 (rz).co] _ _ zz
     have bb := below_setRow BW.out (g := q2) (by have := HQ.out; omega) #[.string S, .int .i64 ((rz).p : Int), .int .i64 (rz).co]
     have l0 := boxc xx 0 _ rfl
     have l1 := boxc xx 1 _ rfl
     have l2 := boxc xx 2 _ rfl
     go_wp2_with ((with_reducible show wpList _ _ _ (Oper.mk _ (Op.store 48 (.tmp 2) _) _ _ _ _ :: _) _ _); refine wpList_store_row rfl 48 (.tmp 2) _ rfl (q2) #[.string S, .int .i64 ((rz).p : Int), .int .i64 (rz).co] rfl rfl 48 #[.string ⟨#[]⟩, .int .i64 0, .int .i64 0] zz rdsize rfl (by simp [Value.oneCell']) ?_)
     obtain ⟨w9, h9⟩ : ∃ W, W = World.setRow wr q2 #[.string S, .int .i64 ((rz).p : Int), .int .i64 (rz).co] := ⟨_, rfl⟩
     rw [← h9] at cc bb ⊢
     clear h9 l0 l1 l2 xx zz
     have k0 := boxc cc 0 _ rfl
     have k1 := boxc cc 1 _ rfl
     have k2 := boxc cc 2 _ rfl
     refine bodyPost_ret (v := .tuple #[.agg #[.string S, .int .i64 ((rz).p : Int), .int .i64 (rz).co], .int .i64 (-1)]) (by simp [results, Try.results56, go_sem, k0, k1, k2]) rfl ⟨?_, bb⟩
     rw [HV.out, hst.out.2]; rfl
    have ib : ((rz.p : Int) == (r.p : Int)) = false := beq_eq_false_iff_ne.2 (by omega)
    have hps : r.p < S.size := by omega
    obtain ⟨z, hz⟩ : ∃ z, z = (S[r.p]'hps).toNat := ⟨_, rfl⟩
    have hby : (kit.bytes S)[r.p]? = some z := by rw [byte_at hps, hz]
    have hpsi : (r.p : Int) < (S.size : Int) := by omega
    by_cases z0 : z = 48
    ·
     have hzi : (((S[r.p]'hps).toNat : Int) == 48) = true := by rw [← hz, z0]; rfl
     by_cases e1 : 1 < rz.p - r.p
     ·
      have i1 : (1 : Int) < (rz.p : Int) - (r.p : Int) := by omega
      have HV : Hid (m = (fr, none)) := by show _ = _; rw [HM.out, if_pos (Or.inr ⟨by rw [hby, z0], by rw [← hst.out.2]; exact e1⟩)]
      clear hz hby z0 e1 hb hnb h48
      have xx := XX.out
      have zz := ZZ.out
      have cc := setRow_heap _ q2 _ #[.string S, .int .i64 ((rz).p : Int), .int .i64 (rz).co] _ _ zz
      have bb := below_setRow BW.out (g := q2) (by have := HQ.out; omega) #[.string S, .int .i64 ((rz).p : Int), .int .i64 (rz).co]
      have l0 := boxc xx 0 _ rfl
      have l1 := boxc xx 1 _ rfl
      have l2 := boxc xx 2 _ rfl
      go_wp2_with ((with_reducible show wpList _ _ _ (Oper.mk _ (Op.store 48 (.tmp 2) _) _ _ _ _ :: _) _ _); refine wpList_store_row rfl 48 (.tmp 2) _ rfl (q2) #[.string S, .int .i64 ((rz).p : Int), .int .i64 (rz).co] rfl rfl 48 #[.string ⟨#[]⟩, .int .i64 0, .int .i64 0] zz rdsize rfl (by simp [Value.oneCell']) ?_)
      obtain ⟨w9, h9⟩ : ∃ W, W = World.setRow wr q2 #[.string S, .int .i64 ((rz).p : Int), .int .i64 (rz).co] := ⟨_, rfl⟩
      rw [← h9] at cc bb ⊢
      clear h9 l0 l1 l2 xx zz
      have k0 := boxc cc 0 _ rfl
      have k1 := boxc cc 1 _ rfl
      have k2 := boxc cc 2 _ rfl
      refine bodyPost_ret (v := .tuple #[.agg #[.string S, .int .i64 ((rz).p : Int), .int .i64 (rz).co], .int .i64 (-1)]) (by simp [results, Try.results56, go_sem, k0, k1, k2]) rfl ⟨?_, bb⟩
      rw [HV.out, hst.out.2]; rfl
     ·
      have i1 : ¬ (1 : Int) < (rz.p : Int) - (r.p : Int) := by omega
      have HV : Hid (m = (fr, some fn)) := by show _ = _; rw [HM.out, if_neg (by rw [← hst.out.2]; exact fun h => h.elim e0 (fun h => e1 h.2))]
      clear hz hby z0 e1 hb hnb h48
      have xx := XX.out
      have zz := ZZ.out
      have cc := setRow_heap _ q2 _ #[.string S, .int .i64 ((rz).p : Int), .int .i64 (rz).co] _ _ zz
      have bb := below_setRow BW.out (g := q2) (by have := HQ.out; omega) #[.string S, .int .i64 ((rz).p : Int), .int .i64 (rz).co]
      have l0 := boxc xx 0 _ rfl
      have l1 := boxc xx 1 _ rfl
      have l2 := boxc xx 2 _ rfl
      go_wp2_with ((with_reducible show wpList _ _ _ (Oper.mk _ (Op.store 48 (.tmp 2) _) _ _ _ _ :: _) _ _); refine wpList_store_row rfl 48 (.tmp 2) _ rfl (q2) #[.string S, .int .i64 ((rz).p : Int), .int .i64 (rz).co] rfl rfl 48 #[.string ⟨#[]⟩, .int .i64 0, .int .i64 0] zz rdsize rfl (by simp [Value.oneCell']) ?_)
      obtain ⟨w9, h9⟩ : ∃ W, W = World.setRow wr q2 #[.string S, .int .i64 ((rz).p : Int), .int .i64 (rz).co] := ⟨_, rfl⟩
      rw [← h9] at cc bb ⊢
      clear h9 l0 l1 l2 xx zz
      have k0 := boxc cc 0 _ rfl
      have k1 := boxc cc 1 _ rfl
      have k2 := boxc cc 2 _ rfl
      refine bodyPost_ret (v := .tuple #[.agg #[.string S, .int .i64 ((rz).p : Int), .int .i64 (rz).co], .int .i64 n]) (by simp [results, Try.results56, go_sem, k0, k1, k2]) rfl ⟨?_, bb⟩
      rw [HV.out, hst.out.2, hst.out.1]; rfl
    ·
     have hzi : (((S[r.p]'hps).toNat : Int) == 48) = false := by rw [← hz]; exact beq_eq_false_iff_ne.2 (by omega)
     have HV : Hid (m = (fr, some fn)) := by show _ = _; rw [HM.out, if_neg (by rw [← hst.out.2]; exact fun h => h.elim e0 (fun h => z0 (by have h1 := h.1; rw [hby] at h1; exact Option.some.inj h1)))]
     clear hz hby z0 hb hnb h48
     have xx := XX.out
     have zz := ZZ.out
     have cc := setRow_heap _ q2 _ #[.string S, .int .i64 ((rz).p : Int), .int .i64 (rz).co] _ _ zz
     have bb := below_setRow BW.out (g := q2) (by have := HQ.out; omega) #[.string S, .int .i64 ((rz).p : Int), .int .i64 (rz).co]
     have l0 := boxc xx 0 _ rfl
     have l1 := boxc xx 1 _ rfl
     have l2 := boxc xx 2 _ rfl
     go_wp2_with ((with_reducible show wpList _ _ _ (Oper.mk _ (Op.store 48 (.tmp 2) _) _ _ _ _ :: _) _ _); refine wpList_store_row rfl 48 (.tmp 2) _ rfl (q2) #[.string S, .int .i64 ((rz).p : Int), .int .i64 (rz).co] rfl rfl 48 #[.string ⟨#[]⟩, .int .i64 0, .int .i64 0] zz rdsize rfl (by simp [Value.oneCell']) ?_)
     obtain ⟨w9, h9⟩ : ∃ W, W = World.setRow wr q2 #[.string S, .int .i64 ((rz).p : Int), .int .i64 (rz).co] := ⟨_, rfl⟩
     rw [← h9] at cc bb ⊢
     clear h9 l0 l1 l2 xx zz
     have k0 := boxc cc 0 _ rfl
     have k1 := boxc cc 1 _ rfl
     have k2 := boxc cc 2 _ rfl
     refine bodyPost_ret (v := .tuple #[.agg #[.string S, .int .i64 ((rz).p : Int), .int .i64 (rz).co], .int .i64 n]) (by simp [results, Try.results56, go_sem, k0, k1, k2]) rfl ⟨?_, bb⟩
     rw [HV.out, hst.out.2, hst.out.1]; rfl
  ·
   have hpi : ¬ (rz.p : Int) < (S.size : Int) := by omega
   have hst : Hid (n = fn ∧ rz = fr) := by
    have h1 := HF.out
    have h2 : rr.numF (kit.bytes S) r.p (f1 + 1) n rz = (n, rz) := by unfold rr.numF; rw [byte_no (by omega)]
    rw [h2] at h1
    simp only [Prod.mk.injEq] at h1
    exact h1
   have c1 := boxc XX.out 1 _ rfl
   have c0 := boxc XX.out 0 _ rfl
   have hsub : IntKind.i64.wrap ((rz.p : Int) - (r.p : Int)) = (rz.p : Int) - (r.p : Int) := IntWalk.i64_in _ (by omega)
   by_cases e0 : rz.p = r.p
   ·
    have ib : ((rz.p : Int) == (r.p : Int)) = true := by simp [e0]
    have ie : (rz.p : Int) = (r.p : Int) := by omega
    have HV : Hid (m = (fr, none)) := by show _ = _; rw [HM.out, if_pos (Or.inl (by rw [← hst.out.2]; exact e0))]
    have HE0 := Lib.hid e0
    clear e0 ie hnb
    have xx := XX.out
    have zz := ZZ.out
    have cc := setRow_heap _ q2 _ #[.string S, .int .i64 ((rz).p : Int), .int .i64 (rz).co] _ _ zz
    have bb := below_setRow BW.out (g := q2) (by have := HQ.out; omega) #[.string S, .int .i64 ((rz).p : Int), .int .i64 (rz).co]
    have l0 := boxc xx 0 _ rfl
    have l1 := boxc xx 1 _ rfl
    have l2 := boxc xx 2 _ rfl
    go_wp2_with ((with_reducible show wpList _ _ _ (Oper.mk _ (Op.store 48 (.tmp 2) _) _ _ _ _ :: _) _ _); refine wpList_store_row rfl 48 (.tmp 2) _ rfl (q2) #[.string S, .int .i64 ((rz).p : Int), .int .i64 (rz).co] rfl rfl 48 #[.string ⟨#[]⟩, .int .i64 0, .int .i64 0] zz rdsize rfl (by simp [Value.oneCell']) ?_)
    obtain ⟨w9, h9⟩ : ∃ W, W = World.setRow wr q2 #[.string S, .int .i64 ((rz).p : Int), .int .i64 (rz).co] := ⟨_, rfl⟩
    rw [← h9] at cc bb ⊢
    clear h9 l0 l1 l2 xx zz
    have k0 := boxc cc 0 _ rfl
    have k1 := boxc cc 1 _ rfl
    have k2 := boxc cc 2 _ rfl
    refine bodyPost_ret (v := .tuple #[.agg #[.string S, .int .i64 ((rz).p : Int), .int .i64 (rz).co], .int .i64 (-1)]) (by simp [results, Try.results56, go_sem, k0, k1, k2]) rfl ⟨?_, bb⟩
    rw [HV.out, hst.out.2]; rfl
   have ib : ((rz.p : Int) == (r.p : Int)) = false := beq_eq_false_iff_ne.2 (by omega)
   have hps : r.p < S.size := by omega
   obtain ⟨z, hz⟩ : ∃ z, z = (S[r.p]'hps).toNat := ⟨_, rfl⟩
   have hby : (kit.bytes S)[r.p]? = some z := by rw [byte_at hps, hz]
   have hpsi : (r.p : Int) < (S.size : Int) := by omega
   by_cases z0 : z = 48
   ·
    have hzi : (((S[r.p]'hps).toNat : Int) == 48) = true := by rw [← hz, z0]; rfl
    by_cases e1 : 1 < rz.p - r.p
    ·
     have i1 : (1 : Int) < (rz.p : Int) - (r.p : Int) := by omega
     have HV : Hid (m = (fr, none)) := by show _ = _; rw [HM.out, if_pos (Or.inr ⟨by rw [hby, z0], by rw [← hst.out.2]; exact e1⟩)]
     clear hz hby z0 e1 hnb
     have xx := XX.out
     have zz := ZZ.out
     have cc := setRow_heap _ q2 _ #[.string S, .int .i64 ((rz).p : Int), .int .i64 (rz).co] _ _ zz
     have bb := below_setRow BW.out (g := q2) (by have := HQ.out; omega) #[.string S, .int .i64 ((rz).p : Int), .int .i64 (rz).co]
     have l0 := boxc xx 0 _ rfl
     have l1 := boxc xx 1 _ rfl
     have l2 := boxc xx 2 _ rfl
     go_wp2_with ((with_reducible show wpList _ _ _ (Oper.mk _ (Op.store 48 (.tmp 2) _) _ _ _ _ :: _) _ _); refine wpList_store_row rfl 48 (.tmp 2) _ rfl (q2) #[.string S, .int .i64 ((rz).p : Int), .int .i64 (rz).co] rfl rfl 48 #[.string ⟨#[]⟩, .int .i64 0, .int .i64 0] zz rdsize rfl (by simp [Value.oneCell']) ?_)
     obtain ⟨w9, h9⟩ : ∃ W, W = World.setRow wr q2 #[.string S, .int .i64 ((rz).p : Int), .int .i64 (rz).co] := ⟨_, rfl⟩
     rw [← h9] at cc bb ⊢
     clear h9 l0 l1 l2 xx zz
     have k0 := boxc cc 0 _ rfl
     have k1 := boxc cc 1 _ rfl
     have k2 := boxc cc 2 _ rfl
     refine bodyPost_ret (v := .tuple #[.agg #[.string S, .int .i64 ((rz).p : Int), .int .i64 (rz).co], .int .i64 (-1)]) (by simp [results, Try.results56, go_sem, k0, k1, k2]) rfl ⟨?_, bb⟩
     rw [HV.out, hst.out.2]; rfl
    ·
     have i1 : ¬ (1 : Int) < (rz.p : Int) - (r.p : Int) := by omega
     have HV : Hid (m = (fr, some fn)) := by show _ = _; rw [HM.out, if_neg (by rw [← hst.out.2]; exact fun h => h.elim e0 (fun h => e1 h.2))]
     clear hz hby z0 e1 hnb
     have xx := XX.out
     have zz := ZZ.out
     have cc := setRow_heap _ q2 _ #[.string S, .int .i64 ((rz).p : Int), .int .i64 (rz).co] _ _ zz
     have bb := below_setRow BW.out (g := q2) (by have := HQ.out; omega) #[.string S, .int .i64 ((rz).p : Int), .int .i64 (rz).co]
     have l0 := boxc xx 0 _ rfl
     have l1 := boxc xx 1 _ rfl
     have l2 := boxc xx 2 _ rfl
     go_wp2_with ((with_reducible show wpList _ _ _ (Oper.mk _ (Op.store 48 (.tmp 2) _) _ _ _ _ :: _) _ _); refine wpList_store_row rfl 48 (.tmp 2) _ rfl (q2) #[.string S, .int .i64 ((rz).p : Int), .int .i64 (rz).co] rfl rfl 48 #[.string ⟨#[]⟩, .int .i64 0, .int .i64 0] zz rdsize rfl (by simp [Value.oneCell']) ?_)
     obtain ⟨w9, h9⟩ : ∃ W, W = World.setRow wr q2 #[.string S, .int .i64 ((rz).p : Int), .int .i64 (rz).co] := ⟨_, rfl⟩
     rw [← h9] at cc bb ⊢
     clear h9 l0 l1 l2 xx zz
     have k0 := boxc cc 0 _ rfl
     have k1 := boxc cc 1 _ rfl
     have k2 := boxc cc 2 _ rfl
     refine bodyPost_ret (v := .tuple #[.agg #[.string S, .int .i64 ((rz).p : Int), .int .i64 (rz).co], .int .i64 n]) (by simp [results, Try.results56, go_sem, k0, k1, k2]) rfl ⟨?_, bb⟩
     rw [HV.out, hst.out.2, hst.out.1]; rfl
   ·
    have hzi : (((S[r.p]'hps).toNat : Int) == 48) = false := by rw [← hz]; exact beq_eq_false_iff_ne.2 (by omega)
    have HV : Hid (m = (fr, some fn)) := by show _ = _; rw [HM.out, if_neg (by rw [← hst.out.2]; exact fun h => h.elim e0 (fun h => z0 (by have h1 := h.1; rw [hby] at h1; exact Option.some.inj h1)))]
    clear hz hby z0 hnb
    have xx := XX.out
    have zz := ZZ.out
    have cc := setRow_heap _ q2 _ #[.string S, .int .i64 ((rz).p : Int), .int .i64 (rz).co] _ _ zz
    have bb := below_setRow BW.out (g := q2) (by have := HQ.out; omega) #[.string S, .int .i64 ((rz).p : Int), .int .i64 (rz).co]
    have l0 := boxc xx 0 _ rfl
    have l1 := boxc xx 1 _ rfl
    have l2 := boxc xx 2 _ rfl
    go_wp2_with ((with_reducible show wpList _ _ _ (Oper.mk _ (Op.store 48 (.tmp 2) _) _ _ _ _ :: _) _ _); refine wpList_store_row rfl 48 (.tmp 2) _ rfl (q2) #[.string S, .int .i64 ((rz).p : Int), .int .i64 (rz).co] rfl rfl 48 #[.string ⟨#[]⟩, .int .i64 0, .int .i64 0] zz rdsize rfl (by simp [Value.oneCell']) ?_)
    obtain ⟨w9, h9⟩ : ∃ W, W = World.setRow wr q2 #[.string S, .int .i64 ((rz).p : Int), .int .i64 (rz).co] := ⟨_, rfl⟩
    rw [← h9] at cc bb ⊢
    clear h9 l0 l1 l2 xx zz
    have k0 := boxc cc 0 _ rfl
    have k1 := boxc cc 1 _ rfl
    have k2 := boxc cc 2 _ rfl
    refine bodyPost_ret (v := .tuple #[.agg #[.string S, .int .i64 ((rz).p : Int), .int .i64 (rz).co], .int .i64 n]) (by simp [results, Try.results56, go_sem, k0, k1, k2]) rfl ⟨?_, bb⟩
    rw [HV.out, hst.out.2, hst.out.1]; rfl
end Go.Proofs.Ytbccejlemhgioaa
namespace Go.Proofs.Ytbccejlemhgioaa
open Go Go.RowKit Go.ChangeShapes cl rx
open rf
def RS (q : Nat) (S : ByteArray) (r : rr.R) (w W : World) : Prop := W.heap[q]? = some (.cells #[.string S, .int .i64 ((r).p : Int), .int .i64 (r).co] 48) ∧ Below w.heap.size w W ∧ w.heap.size ≤ q
def Bx (p : Nat) (cs : Array Value) (t : TypeId) (W : World) : Prop := W.heap[p]? = some (.cells cs t)
section
variable {q p : Nat} {S : ByteArray} {r : rr.R} {w W W' : World} {cs : Array Value} {t : TypeId}
theorem RS.kx (h : RS q S r w W) (hk : KX p W W') (hp : w.heap.size ≤ p) (hq : q ≠ p) : RS q S r w W' :=
 ⟨(hk.2.2 q (lt_of_block h.1) hq).trans h.1, h.2.1.trans ⟨hk.1.1, hk.1.2.1, hk.1.2.2, hk.2.1, fun j hj => hk.2.2 j (Nat.lt_of_lt_of_le hj h.2.1.size) (by omega)⟩, h.2.2⟩
theorem RS.own (h : RS q S r w W) (hk : KX q W W') {r' : rr.R} (hr : W'.heap[q]? = some (.cells #[.string S, .int .i64 ((r').p : Int), .int .i64 (r').co] 48)) : RS q S r' w W' :=
 ⟨hr, h.2.1.trans ⟨hk.1.1, hk.1.2.1, hk.1.2.2, hk.2.1, fun j hj => hk.2.2 j (Nat.lt_of_lt_of_le hj h.2.1.size) (by have := h.2.2; omega)⟩, h.2.2⟩
theorem RS.fwd (h : RS q S r w W) {r' : rr.R} (e : r' = r.fwd) : RS q S r' w (W.setCell ⟨q, 1, none⟩ (.int .i64 ((r.p : Int) + 1))) := by
 rw [e]; exact h.own KX.cell (heap_setCell_same W q 1 _ _ _ h.1)
theorem RS.fwd' (h : RS q S r w W) {r' : rr.R} (e : r' = r.fwd) : RS q S r' w (W.setCell ⟨q, 1, none⟩ (.int .i64 (r'.p : Int))) := by
 have h1 := h.fwd e
 rw [e] at h1 ⊢; exact h1
theorem RS.row (h : RS q S r w W) (r' : rr.R) : RS q S r' w (W.setRow q #[.string S, .int .i64 ((r').p : Int), .int .i64 (r').co]) := h.own KX.row (setRow_heap W q _ _ _ _ h.1)
theorem RS.call (h : RS q S r w W) (hb : Below W.heap.size W W') : RS q S r w W' :=
 ⟨(hb.block q (lt_of_block h.1)).trans h.1, h.2.1.trans (hb.mono h.2.1.size), h.2.2⟩
theorem Bx.kx (h : Bx p cs t W) (hk : KX q W W') (hp : p ≠ q) : Bx p cs t W' := (hk.2.2 p (lt_of_block h) hp).trans h
theorem Bx.call (h : Bx p cs t W) (hb : Below W.heap.size W W') : Bx p cs t W' := (hb.block p (lt_of_block h)).trans h
end
namespace rr
variable (s : List Nat)
theorem numF_le (a : Nat) : ∀ (f n : Nat) (r : R), r.p ≤ s.length → r.p ≤ (numF s a f n r).2.p ∧ (numF s a f n r).2.p ≤ s.length ∧ (numF s a f n r).2.co = r.co := by
 intro f
 induction f with
 | zero => intro n r h; exact ⟨Nat.le_refl _, h, rfl⟩
 | succ f ih =>
  intro n r h
  unfold numF
  split
  ·
   exact ⟨Nat.le_refl _, h, rfl⟩
  ·
   rename_i c hc
   split
   ·
    have hl : r.p < s.length := (List.getElem?_eq_some_iff.1 hc).1
    have := ih (n * 10 + (c - 48)) r.fwd (by show r.p + 1 ≤ _; omega)
    exact ⟨Nat.le_trans (Nat.le_succ _) this.1, this.2.1, this.2.2⟩
   ·
    exact ⟨Nat.le_refl _, h, rfl⟩
theorem number_le (r : R) (h : r.p ≤ s.length) : r.p ≤ (number s r).1.p ∧ (number s r).1.p ≤ s.length ∧ (number s r).1.co = r.co := by
 have := numF_le s r.p 4 0 r h
 unfold number
 simp only
 split <;> exact this
def fin (r : R) (α : Int) (r3 : R) (b : Int) : R × Int × Int :=
 if α < 0 ∨ s[r3.p]? ≠ some 125 ∨ (0 ≤ b ∧ b < α) then (r3.fail r.p 9, 0, 0) else
 if 20 < α ∨ 20 < b then (r3.fail r.p 4, 0, 0) else (r3.fwd, α, b)
theorem bounds_eq (r r1 r2 : R) (α : Int) (h1 : r1 = r.fwd) (h2 : r2 = (number s r1).1) (ha : α = oi (number s r1).2) : bounds s r = if s[r2.p]? = some 44 then (if r2.fwd.p < s.length ∧ s[r2.fwd.p]? ≠ some 125 then (if oi (number s r2.fwd).2 < 0 then ((number s r2.fwd).1.fail r.p 9, 0, 0) else fin s r α (number s r2.fwd).1 (oi (number s r2.fwd).2)) else fin s r α r2.fwd (-1)) else fin s r α r2 α := by
 subst h1 h2 ha
 rfl
end rr
end Go.Proofs.Ytbccejlemhgioaa
namespace Go.Proofs.Ytbccejlemhgioaa.rr
open rx
def isD (c : Nat) : Prop := 48 ≤ c ∧ c ≤ 57
section
variable (s : List Nat)
theorem nxt_at {t : rf.T} {r : R} (h : At t r) : rf.nxt s t = s[r.p]? := by unfold rf.nxt; rw [if_pos h.2.1, h.2.2]
theorem numF_rel (a : Nat) : ∀ (f n : Nat) (t : rf.T) (r : R), f ≤ 3 → At t r → r.p = a + 3 - f →
  a ≤ (rf.numF s a (f + 2) n t).2.p ∧ (rf.numF s a (f + 2) n t).2.co = 0 ∧
  ((rf.numF s a (f + 2) n t).2.p - a ≤ 3 → (numF s a (f + 1) n r).1 = (rf.numF s a (f + 2) n t).1 ∧ At (rf.numF s a (f + 2) n t).2 (numF s a (f + 1) n r).2) ∧
  (3 < (rf.numF s a (f + 2) n t).2.p - a → (numF s a (f + 1) n r).2.p = a + 3 ∧ (numF s a (f + 1) n r).2.co = 0 ∧ ∃ c, s[a + 3]? = some c ∧ isD c) := by
 intro f
 induction f with
 | zero =>
  intro n t r _ h hp
  have hp' : r.p = a + 3 := by omega
  have ht : t.p = a + 3 := by rw [← h.2.2]; exact hp'
  have hn := nxt_at s h
  unfold numF rf.numF
  rw [hn]
  cases hc : s[r.p]? with
  | none => exact ⟨by show a ≤ t.p; omega, h.2.1, fun _ => ⟨rfl, h⟩, fun k => by simp only at k; omega⟩
  | some c =>
   simp only
   rw [if_neg (show ¬ (48 ≤ c ∧ c ≤ 57 ∧ r.p - a < 3) by omega)]
   by_cases hd : 48 ≤ c ∧ c ≤ 57
   ·
    rw [if_pos (show 48 ≤ c ∧ c ≤ 57 ∧ t.p - a < 4 by omega)]
    have e : rf.numF s a (0 + 1) (10 * n + (c - 48)) t.fwd = (10 * n + (c - 48), t.fwd) := by
     unfold rf.numF
     cases rf.nxt s t.fwd with
     | none => rfl
     | some d => simp only; rw [if_neg (by show ¬ (48 ≤ d ∧ d ≤ 57 ∧ t.p + 1 - a < 4); omega)]
    rw [e]
    refine ⟨by show a ≤ t.p + 1; omega, h.2.1, fun k => ?_, fun _ => ⟨hp', h.1, c, by rw [← hp']; exact hc, hd⟩⟩
    have : t.p + 1 - a ≤ 3 := k
    omega
   ·
    rw [if_neg (show ¬ (48 ≤ c ∧ c ≤ 57 ∧ t.p - a < 4) by omega)]
    exact ⟨by show a ≤ t.p; omega, h.2.1, fun _ => ⟨rfl, h⟩, fun k => by simp only at k; omega⟩
 | succ f ih =>
  intro n t r hf h hp
  have ht : t.p = a + 3 - (f + 1) := by rw [← h.2.2]; exact hp
  have hn := nxt_at s h
  rw [show rf.numF s a (f + 1 + 2) n t = (match rf.nxt s t with
   | none => (n, t)
   | some c => if 48 ≤ c ∧ c ≤ 57 ∧ t.p - a < 4 then rf.numF s a (f + 2) (10 * n + (c - 48)) t.fwd else (n, t)) from rfl,
   show numF s a (f + 1 + 1) n r = (match s[r.p]? with
   | none => (n, r)
   | some c => if 48 ≤ c ∧ c ≤ 57 ∧ r.p - a < 3 then numF s a (f + 1) (n * 10 + (c - 48)) r.fwd else (n, r)) from rfl, hn]
  cases hc : s[r.p]? with
  | none => exact ⟨by show a ≤ t.p; omega, h.2.1, fun _ => ⟨rfl, h⟩, fun k => by simp only at k; omega⟩
  | some c =>
   simp only
   by_cases hd : 48 ≤ c ∧ c ≤ 57
   ·
    rw [if_pos (show 48 ≤ c ∧ c ≤ 57 ∧ t.p - a < 4 by omega), if_pos (show 48 ≤ c ∧ c ≤ 57 ∧ r.p - a < 3 by omega), Nat.mul_comm n 10]
    exact ih _ _ _ (by omega) h.fwd (by show r.p + 1 = _; omega)
   ·
    rw [if_neg (show ¬ (48 ≤ c ∧ c ≤ 57 ∧ t.p - a < 4) by omega), if_neg (show ¬ (48 ≤ c ∧ c ≤ 57 ∧ r.p - a < 3) by omega)]
    exact ⟨by show a ≤ t.p; omega, h.2.1, fun _ => ⟨rfl, h⟩, fun k => by simp only at k; omega⟩
theorem number_rel {t : rf.T} {r : R} (h : At t r) : (rf.number s t).2.co = 0 ∧ (number s r).1.co = 0 ∧
  ((rf.number s t).1.2 = true → (number s r).2 = some (rf.number s t).1.1 ∧ At (rf.number s t).2 (number s r).1) ∧
  ((rf.number s t).1.2 = false → (number s r).2 = none ∨ ∃ c, s[(number s r).1.p]? = some c ∧ isD c) := by
 have hq := numF_rel s t.p 3 0 t r (Nat.le_refl _) h (by rw [h.2.2]; omega)
 have hn : (numF s r.p 4 0 r).2.co = 0 := by
  by_cases hr : r.p ≤ s.length
  ·
   rw [(numF_le s r.p 4 0 r hr).2.2]; exact h.1
  ·
   unfold numF
   rw [List.getElem?_eq_none_iff.2 (by omega)]
   exact h.1
 unfold rf.number number
 simp only
 rw [h.2.2] at hn ⊢
 have hq : _ ≤ (rf.numF s t.p 5 0 t).2.p ∧ _ := hq
 generalize rf.numF s t.p 5 0 t = B at hq ⊢
 generalize hA : numF s t.p 4 0 r = A at hn ⊢
 have hq : t.p ≤ B.2.p ∧ B.2.co = 0 ∧ (B.2.p - t.p ≤ 3 → A.1 = B.1 ∧ At B.2 A.2) ∧ (3 < B.2.p - t.p → A.2.p = t.p + 3 ∧ A.2.co = 0 ∧ ∃ c, s[t.p + 3]? = some c ∧ isD c) := by rw [← hA]; exact hq
 obtain ⟨q1, q2, q3, q4⟩ := hq
 refine ⟨q2, by split <;> exact hn, fun k => ?_, fun k => ?_⟩
 ·
  have k := of_decide_eq_true k
  obtain ⟨e1, e2⟩ := q3 k.2.1
  have e3 := e2.2.2
  rw [if_neg (fun e => by
   rcases e with e | ⟨e, e5⟩
   ·
    omega
   ·
    rcases k.2.2 with k3 | k3
    ·
     omega
    ·
     exact k3 e)]
  exact ⟨by rw [e1], e2⟩
 ·
  have k := of_decide_eq_false k
  by_cases hd : B.2.p - t.p ≤ 3
  ·
   obtain ⟨e1, e2⟩ := q3 hd
   have e3 := e2.2.2
   left
   rw [if_pos]
   by_cases c1 : A.2.p = t.p
   ·
    exact Or.inl c1
   ·
    refine Or.inr ⟨?_, ?_⟩
    ·
     exact Classical.byContradiction fun c2 => k ⟨by omega, hd, Or.inr c2⟩
    ·
     exact Classical.byContradiction fun c2 => k ⟨by omega, hd, Or.inl (by omega)⟩
  ·
   obtain ⟨e1, e2, c, e3, e4⟩ := q4 (by omega)
   right
   refine ⟨c, ?_, e4⟩
   have : (if A.2.p = t.p ∨ s[t.p]? = some 48 ∧ 1 < A.2.p - t.p then (A.2, (none : Option Nat)) else (A.2, some A.1)).1 = A.2 := by split <;> rfl
   rw [this, e1]
   exact e3
theorem fail_any {t : rf.T} {r : R} (h : t.co = 0) (k : r.co = 0) (a : Nat) (co : Int) (hc : co ≠ 0) : Rel (t.fail a co) (r.fail a co) := by
 unfold rf.T.fail R.fail
 rw [if_pos h, if_pos k]
 exact ⟨rfl, fun e => absurd e hc, fun _ => rfl⟩
end
end Go.Proofs.Ytbccejlemhgioaa.rr
