/- texts put together: RrRow. -/
import Derived.Test.YtbccejlemhgioaaPa22
namespace Go.Proofs.Ytbccejlemhgioaa
open Go Go.RowKit Go.ChangeShapes cl rx
open rf
theorem Tm.fre {k2 k3 q2 q3 i n3 B : Nat} {T2 T3 : TypeId} {A : Array Value} {w w' : World} {P : World → Prop} (h2 : q2 < B) (h3 : q3 < B) (h : Fre B w P) (t : Tm k2 k3 q2 q3 T2 T3 A n3 i w w') : Fre B w' P := by
 unfold Tm at t
 by_cases e3 : i = k3
 ·
  rw [if_pos e3] at t; exact Fre.kx h t.1 h3
 ·
  rw [if_neg e3] at t
  by_cases e2 : i = k2
  ·
   rw [if_pos e2] at t; exact Fre.kx h t.1 h2
  ·
   rw [if_neg e2] at t; exact FreA.next h t
set_option maxHeartbeats 25600000 in
set_option maxRecDepth 100000 in
set_option linter.unusedSimpArgs false in
theorem rr_row (d g : Nat) (S : ByteArray) (M : rr.R → rr.R × Pat) (hG : rr.Gd (kit.bytes S) g M) (hg : g ≤ 40) (dp : Int) (HM : ∀ (x : rr.R) (W : World), x.co = 0 → x.p < S.size → Calls Try.prog 37 #[.agg #[.string S, .int .i64 ((x).p : Int), .int .i64 (x).co], .int .i64 dp] W (RrA (d + 1) S (M x) W)) (r : rr.R) (w : World) (hS : S.size ≤ 60) (hp : r.p ≤ S.size) : Calls Try.prog 29 #[.agg #[.string S, .int .i64 ((r).p : Int), .int .i64 (r).co], .int .i64 dp] w (RrA (d + 2) S (rr.row (kit.bytes S) M r) w) := by
 have hlen : (kit.bytes S).length = S.size := by simp [kit.bytes]
 obtain ⟨m, hm⟩ : ∃ m, m = rr.row (kit.bytes S) M r := ⟨_, rfl⟩
 rw [← hm]
 unfold rr.row at hm
 simp only at hm
 rw [hlen] at hm
 obtain ⟨fr, fl, hfin⟩ : ∃ fr fl, rr.rowF (kit.bytes S) M (S.size + 1) [] r = (fr, fl) := ⟨_, _, rfl⟩
 rw [hfin] at hm
 simp only at hm
 have HX := Lib.hid hm
 have HFIN := Lib.hid hfin
 have HLEN := Lib.hid hlen
 have HMA := Lib.hid HM
 have HGD := Lib.hid hG
 clear hlen hm hfin HM hG
 obtain ⟨q, hq⟩ : ∃ x, x = w.heap.size := ⟨_, rfl⟩
 have L1 := Lib.hid ((Lop.nil w).add (q := q) 48 #[.string S, .int .i64 ((r).p : Int), .int .i64 (r).co] hq)
 obtain ⟨q2, hq2⟩ : ∃ x, x = w.heap.size + 1 := ⟨_, rfl⟩
 have L2 := Lib.hid (L1.out.add (q := q2) 48 #[.string ⟨#[]⟩, .int .i64 0, .int .i64 0] (by simp only [World.size_alloc]; exact hq2))
 obtain ⟨q3, hq3⟩ : ∃ x, x = w.heap.size + 1 + 1 := ⟨_, rfl⟩
 have L3 := Lib.hid (L2.out.add (q := q3) 28 #[.int .i64 0, .int .u64 0, .int .u64 0, .int .u64 0, .int .u64 0, .slice none 0 0, .int .i64 0, .int .i64 0] (by simp only [World.size_alloc]; exact hq3))
 obtain ⟨V4, hV4, L4⟩ := L3.out.nm
 replace L4 := Lib.hid L4; replace hV4 := Lib.hid hV4
 replace hq := Lib.hid hq
 replace hq2 := Lib.hid hq2
 replace hq3 := Lib.hid hq3
 have HQB : Hid (q < V4.heap.size) := lt_of_block (L4.out.at (q := q) 0 rfl)
 have HQ2B : Hid (q2 < V4.heap.size) := lt_of_block (L4.out.at (q := q2) 1 rfl)
 have HQ3B : Hid (q3 < V4.heap.size) := lt_of_block (L4.out.at (q := q3) 2 rfl)
 have HWB : Hid (w.heap.size ≤ V4.heap.size) := L4.out.1.1.size
 go_enter Try.func29, Try.ntmps29
 go_wp2
 rw [← hV4.out, ← hq3.out, ← hq2.out, ← hq.out]
 go_loopw [6] (fun v wr => ∃ (f : Nat) (acc : List Pat) (rz : rr.R) (ao : Option Addr) (cap : Nat), v = .slice ao acc.length cap ∧ Hid (rr.rowF (kit.bytes S) M f acc rz = (fr, fl)) ∧ rz.p ≤ S.size ∧ 1 ≤ f ∧ Hid (rz.co = 0 → S.size + 1 ≤ f + rz.p) ∧ Hid (rz.co = 0 → szs acc ≤ (g + 1) * rz.p) ∧ Hid (szs acc ≤ (g + 1) * rz.p + 1) ∧ Hid (Lop w wr [(q, 48, #[.string S, .int .i64 ((rz).p : Int), .int .i64 (rz).co]), (q2, 48, #[.string ⟨#[]⟩, .int .i64 0, .int .i64 0]), (q3, 28, #[.int .i64 0, .int .u64 0, .int .u64 0, .int .u64 0, .int .u64 0, .slice none 0 0, .int .i64 0, .int .i64 0])] (fun _ => True)) ∧ Hid (RxO V4.heap.size (d + 1) acc (.slice ao acc.length cap) wr) ∧ Hid (V4.heap.size ≤ wr.heap.size)) (fun _ wr => muR q S.size wr)
 case atStart => exact ⟨S.size + 1, [], r, none, 0, rfl, HFIN.out, hp, by omega, by show _ → _; intro _; omega, by show _ → _; intro _; exact Nat.zero_le _, Nat.zero_le _, L4.out, RxO.nil, Nat.le_refl _⟩
 case round =>
  obtain ⟨f, acc, rz, ao, cap, rfl, HF, hzs, hf1, HPL, HS1, HS2, LR, HO, HBR⟩ := hrel
  obtain ⟨f1, rfl⟩ : ∃ f1, f = f1 + 1 := ⟨f - 1, by omega⟩
  obtain ⟨al, hal⟩ : ∃ n, n = acc.length := ⟨_, rfl⟩
  rw [← hal] at HO ⊢
  have HAL := Lib.hid hal
  have hsz : szs acc ≤ 3000 := by have h1 : (g + 1) * rz.p ≤ 41 * 60 := Nat.mul_le_mul (by omega) (by omega); have h2 : szs acc ≤ (g + 1) * rz.p + 1 := HS2.out; omega
  have hal3 : al ≤ 3000 := by have := szs_len acc; omega
  have HSZ := Lib.hid hsz
  clear hal hsz
  have MU : Hid (muR q S.size wr = if rz.co = 0 then S.size + 1 - rz.p else 0) := muR_at (LR.out.at (q := q) 0 rfl)
  obtain ⟨cb, hcb⟩ : ∃ y, y = rwB (kit.bytes S) rz := ⟨_, rfl⟩
  have HCB := Lib.hid hcb
  clear hcb
  go_upto_region 2 with (fail)
  go_cut [26] (fun v wx => v = .bool cb ∧ Below wr.heap.size wr wx)
  case first =>
   obtain ⟨e5_0, e5_1, e5_2⟩ := box3 (LR.out.at (q := q) 0 rfl)
   go_wp2_with fail
   clear e5_0 e5_1 e5_2
   by_cases h0 : rz.co = 0 ∧ rz.p < S.size
   ·
    obtain ⟨hco, hpl⟩ := h0
    have hpl' : rz.p < (kit.bytes S).length := by rw [HLEN.out]; exact hpl
    have HMO : Hid (∀ W : World, Calls Try.prog 30 #[.agg #[.string S, .int .i64 ((rz).p : Int), .int .i64 (rz).co]] W (fun e w' => e = .returned (.bool true) ∧ Below W.heap.size W w')) := fun W => by have h := rr_more S rz W; rw [more_yes hco hpl'] at h; exact h
    obtain ⟨z, hz⟩ : ∃ z, z = (S[rz.p]'hpl).toNat := ⟨_, rfl⟩
    have hby : (kit.bytes S)[rz.p]? = some z := by rw [byte_at hpl, hz]
    replace hz := hz.symm
    have jl : (rz.p : Int) < (S.size : Int) := by omega
    have HVB : Hid (cb = !(z == 124 || z == 41)) := by show _ = _; rw [HCB.out]; unfold rwB; rw [cur_at hco hby]
    clear hby hco hpl'
    with_reducible refine (HMO.out _).mono ?_
    rintro e wx ⟨rfl, bw⟩
    have L5 := Lib.hid (LR.out.call bw)
    obtain ⟨e6_0, e6_1, e6_2⟩ := box3 (L5.out.at (q := q) 0 rfl)
    by_cases g1 : z = 124
    ·
     have HVC : Hid (cb = false) := by show _ = _; rw [HVB.out, g1]; rfl
     have j1 : ((z : Int) != 124) = false := by rw [g1]; rfl
     clear g1
     go_wp2_with fail
     go_meet
     exact ⟨by rw [HVC.out], bw⟩
    ·
     have j1 : ((z : Int) != 124) = true := by simp; omega
     by_cases g2 : z = 41
     ·
      have HVC : Hid (cb = false) := by show _ = _; rw [HVB.out, g2]; rfl
      have j2 : ((z : Int) != 41) = false := by rw [g2]; rfl
      clear g1 g2
      go_wp2_with fail
      go_meet
      exact ⟨by rw [HVC.out], bw⟩
     ·
      have HVC : Hid (cb = true) := by show _ = _; rw [HVB.out]; simp [g1, g2]
      have j2 : ((z : Int) != 41) = true := by simp; omega
      clear g1 g2
      go_wp2_with fail
      go_meet
      exact ⟨by rw [HVC.out], bw⟩
   ·
    have h0' : ¬ (rz.co = 0 ∧ rz.p < (kit.bytes S).length) := by rw [HLEN.out]; exact h0
    have HMO : Hid (∀ W : World, Calls Try.prog 30 #[.agg #[.string S, .int .i64 ((rz).p : Int), .int .i64 (rz).co]] W (fun e w' => e = .returned (.bool false) ∧ Below W.heap.size W w')) := fun W => by have h := rr_more S rz W; rw [more_no h0'] at h; exact h
    have HVB : Hid (cb = false) := by show _ = _; rw [HCB.out]; unfold rwB; rw [cur_no h0']
    clear h0 h0'
    with_reducible refine (HMO.out _).mono ?_
    rintro e wx ⟨rfl, bw⟩
    have L5 := Lib.hid (LR.out.call bw)
    go_wp2_with fail
    go_meet
    exact ⟨by rw [HVB.out], bw⟩
  case rest =>
   obtain ⟨rfl, bw⟩ := hcut
   have L6 := Lib.hid (LR.out.call bw)
   have O6 := Lib.hid (HO.out.next bw)
   have HB6 : Hid (V4.heap.size ≤ wc.heap.size) := Nat.le_trans HBR.out bw.size
   clear bw LR HO HBR
   cases cb with
   | false =>
    have hst : rr.rowF (kit.bytes S) M (f1 + 1) acc rz = (rz, acc) := rr.rowF_stop _ _ _ _ (by
     have h := HCB.out
     unfold rwB at h
     cases hc : rr.cur (kit.bytes S) rz with
     | none => exact Or.inl rfl
     | some d =>
      rw [hc] at h
      simp at h
      right
      by_cases e : d = 124
      ·
       left; rw [e]
      ·
       right; rw [h e])
    have hx := HF.out
    rw [hst] at hx
    simp only [Prod.mk.injEq] at hx
    obtain ⟨rfl, rfl⟩ := hx
    clear hst
    obtain ⟨gp, hgp⟩ : ∃ y, y = lflat 3 acc := ⟨_, rfl⟩
    have HJ : Hid (∀ W : World, Dr q2 q3 48 28 3 8 wc W → Calls Try.prog 31 #[.int .i64 3, .slice ao al cap] W (fun e w' => ∃ c, e = .returned (.agg (List.toArray c)) ∧ Fre V4.heap.size w' (fun W => rxR (d + 2) W W.heap.size c gp) ∧ Below W.heap.size W w')) := by rw [hgp]; exact fun W hW => rr_joined 3 V4.heap.size d acc _ W (O6.out.dr hW HQ2B.out HQ3B.out) (Nat.le_trans HB6.out hW.2.1) (by have := HSZ.out; omega)
    have HV : Hid (m = (rz, gp)) := by show _ = _; rw [HX.out, hgp]
    clear hgp
    go_wp2_with fail
    have N32 := Lib.hid (L6.out.nq (p := q3) (q := q2) 2 1 rfl rfl (by decide))
    have Y2 := Lib.hid (L6.out.at (q := q) 0 rfl)
    have A2 := Lib.hid (L6.out.nq (p := q) (q := q2) 0 1 rfl rfl (by decide))
    have B2 := Lib.hid (L6.out.nq (p := q) (q := q3) 0 2 rfl rfl (by decide))
    refine wp_flow 5 (fun _ => 1000) (Dr q2 q3 48 28 3 8 _) (Tm 3 4 q2 q3 48 28 #[.string S, .int .i64 ((rz).p : Int), .int .i64 (rz).co] 8) (fun kF vF wF => match kF with | 0 => (vF = .agg #[.string S, .int .i64 ((rz).p : Int), .int .i64 (rz).co]) | 1 => (vF = .slice ao al cap) | 2 => (∃ ko kn kc, vF = .agg #[.int .i64 gp.k, .int .u64 gp.cl.a, .int .u64 gp.cl.b, .int .u64 gp.cl.c, .int .u64 gp.cl.d, .slice ko kn kc, .int .i64 gp.mn, .int .i64 gp.mx] ∧ Fre V4.heap.size wF (fun W => rxR (d + 2) W W.heap.size [.int .i64 gp.k, .int .u64 gp.cl.a, .int .u64 gp.cl.b, .int .u64 gp.cl.c, .int .u64 gp.cl.d, .slice ko kn kc, .int .i64 gp.mn, .int .i64 gp.mx] gp)) | 3 => (wF.heap[q2]? = some (.cells #[.string S, .int .i64 ((rz).p : Int), .int .i64 (rz).co] 48 (0, 0))) | 4 => (∃ ko kn kc, wF.heap[q3]? = some (.cells #[.int .i64 gp.k, .int .u64 gp.cl.a, .int .u64 gp.cl.b, .int .u64 gp.cl.c, .int .u64 gp.cl.d, .slice ko kn kc, .int .i64 gp.mn, .int .i64 gp.mx] 28 (0, 0)) ∧ Fre V4.heap.size wF (fun W => rxR (d + 2) W W.heap.size [.int .i64 gp.k, .int .u64 gp.cl.a, .int .u64 gp.cl.b, .int .u64 gp.cl.c, .int .u64 gp.cl.d, .slice ko kn kc, .int .i64 gp.mn, .int .i64 gp.mx] gp)) | _ => True) (fun _ _ _ _ => True) (by kernel_rfl) (by kernel_rfl) ((Dr.refl (L6.out.at (q := q2) 1 rfl) (L6.out.at (q := q3) 2 rfl) rfl rfl).below (Below.refl _ _).drew) (fun _ _ _ hR hT => Dr.tm N32.out rfl hR hT) ?_ ?_ ?_
    ·
     intro kF hkF iF hiF hne hdd hanc hdan vF wF1 wF2 h hT
     rcases (by omega : kF = 0 ∨ kF = 1 ∨ kF = 2 ∨ kF = 3 ∨ kF = 4) with rfl | rfl | rfl | rfl | rfl
     ·
      exact h
     ·
      exact h
     ·
      obtain ⟨ko, kn, kc, e, hf⟩ := h; exact ⟨ko, kn, kc, e, Tm.fre HQ2B.out HQ3B.out hf hT⟩
     ·
      exact Tm.keep2 N32.out hne h hT
     ·
      obtain ⟨ko, kn, kc, e, hf⟩ := h; exact ⟨ko, kn, kc, Tm.keep3 N32.out hne e hT, Tm.fre HQ2B.out HQ3B.out hf hT⟩
    ·
     generalize hAF : fillOf _ _ _ = AF
     replace hAF := fun x => congrFun hAF x
     simp only [List.take_succ_cons, List.take_zero, fillOf, Act.put, List.setIfInBounds_toArray, List.set_cons_zero, List.set_cons_succ, Nat.reduceAdd, Nat.zero_add] at hAF
     refine FlowAll.cons ?_ (FlowAll.cons ?_ (FlowAll.cons ?_ (FlowAll.cons ?_ (FlowAll.cons ?_ FlowAll.nil))))
     all_goals
      intro xF wz hR hd K hK
      simp only [← hAF, Act.put, List.setIfInBounds_toArray, List.set_cons_zero, List.set_cons_succ] at hK ⊢
      clear hAF
      try simp only [Nat.zero_add] at hK ⊢
      try simp only [Nat.reduceAdd] at hK ⊢
     ·
      clear hd
      obtain ⟨c0, c1, c2⟩ := box3 ((hR.2.2.1 _ (lt_of_block Y2.out) A2.out B2.out).trans Y2.out)
      rw [if_pos (by rfl)]
      go_simp
      exact hK.out _ _ (Tm.no (by decide) (by decide) (Below.refl _ _)) rfl (fun _ _ _ => ⟨trivial, trivial⟩)
     ·
      clear hd
      rw [if_pos (by rfl)]
      go_simp
      exact hK.out _ _ (Tm.no (by decide) (by decide) (Below.refl _ _)) rfl (fun _ _ _ => ⟨trivial, trivial⟩)
     ·
      have dd1 : ((xF 1) = .slice ao al cap) := hd 1 (by kernel_rfl)
      clear hd
      generalize xF 1 = yy1 at *
      obtain rfl := dd1
      rw [if_pos (by rfl)]
      go_simp
      (go_at_call 31; (with_reducible refine (HJ.out _ hR).mono ?_); rintro e wK ⟨cK, rfl, fK, hbK⟩)
      obtain ⟨ko, kn, kc, rfl⟩ := rx_form fK.at
      try go_wp2_with fail
      exact hK.out _ _ (Tm.no (by decide) (by decide) (hbK)) ⟨ko, kn, kc, rfl, fK⟩ (fun _ _ _ => ⟨trivial, trivial⟩)
     ·
      have dd0 : ((xF 0) = .agg #[.string S, .int .i64 ((rz).p : Int), .int .i64 (rz).co]) := hd 0 (by kernel_rfl)
      clear hd
      generalize xF 0 = yy0 at *
      obtain rfl := dd0
      obtain ⟨csO, hcO, hzO⟩ := hR.2.2.2.1
      rw [if_pos (by rfl)]
      refine wp_store_row 48 (.tmp 4) (.tmp 38) rfl q2 #[.string S, .int .i64 ((rz).p : Int), .int .i64 (rz).co] rfl rfl 48 csO hzO rdsize hcO (by simp [Value.oneCell']) ?_
      exact hK.out undef _ (Tm.is2 (by decide) KX.row (setRow_heap _ _ _ _ _ _ hzO)) (setRow_heap _ _ _ _ _ _ hzO) (fun _ _ _ => ⟨trivial, trivial⟩)
     ·
      have dd2 : (∃ ko kn kc, (xF 2) = .agg #[.int .i64 gp.k, .int .u64 gp.cl.a, .int .u64 gp.cl.b, .int .u64 gp.cl.c, .int .u64 gp.cl.d, .slice ko kn kc, .int .i64 gp.mn, .int .i64 gp.mx] ∧ Fre V4.heap.size wz (fun W => rxR (d + 2) W W.heap.size [.int .i64 gp.k, .int .u64 gp.cl.a, .int .u64 gp.cl.b, .int .u64 gp.cl.c, .int .u64 gp.cl.d, .slice ko kn kc, .int .i64 gp.mn, .int .i64 gp.mx] gp)) := hd 2 (by kernel_rfl)
      clear hd
      generalize xF 2 = yy2 at *
      obtain ⟨ko, kn, kc, rfl, hf⟩ := dd2
      obtain ⟨csO, hcO, hzO⟩ := hR.2.2.2.2
      rw [if_pos (by rfl)]
      refine wp_store_row 28 (.tmp 5) (.tmp 40) rfl q3 #[.int .i64 gp.k, .int .u64 gp.cl.a, .int .u64 gp.cl.b, .int .u64 gp.cl.c, .int .u64 gp.cl.d, .slice ko kn kc, .int .i64 gp.mn, .int .i64 gp.mx] rfl rfl 28 csO hzO rsize hcO (by simp [Value.oneCell']) ?_
      exact hK.out undef _ (Tm.is3 KX.row rfl (setRow_heap _ _ _ _ _ _ hzO)) ⟨ko, kn, kc, setRow_heap _ _ _ _ _ _ hzO, Fre.kx hf KX.row HQ3B.out⟩ (fun _ _ _ => ⟨trivial, trivial⟩)
    intro xF wz hR hF hP
    have hh2 : wz.heap[q2]? = some (.cells #[.string S, .int .i64 ((rz).p : Int), .int .i64 (rz).co] 48 (0, 0)) := hF 3 (by omega) (by decide)
    obtain ⟨ko, kn, kc, hh3, hf⟩ : ∃ ko kn kc, wz.heap[q3]? = some (.cells #[.int .i64 gp.k, .int .u64 gp.cl.a, .int .u64 gp.cl.b, .int .u64 gp.cl.c, .int .u64 gp.cl.d, .slice ko kn kc, .int .i64 gp.mn, .int .i64 gp.mx] 28 (0, 0)) ∧ Fre V4.heap.size wz (fun W => rxR (d + 2) W W.heap.size [.int .i64 gp.k, .int .u64 gp.cl.a, .int .u64 gp.cl.b, .int .u64 gp.cl.c, .int .u64 gp.cl.d, .slice ko kn kc, .int .i64 gp.mn, .int .i64 gp.mx] gp) := hF 4 (by omega) (by decide)
    obtain ⟨bb, _⟩ := L6.out.drend (q2 := q2) (q3 := q3) 1 2 rfl rfl (by decide) hR hh2 hh3
    have ff := FreA.low hf HWB.out
    clear hP hF hR hf
    simp only [List.take_succ_cons, List.take_zero, List.drop_succ_cons, List.drop_zero, fillOf, Act.put, List.setIfInBounds_toArray, List.set_cons_zero, List.set_cons_succ, Nat.reduceAdd, Nat.zero_add]
    try generalize xF 0 = yy0
    try generalize xF 1 = yy1
    try generalize xF 2 = yy2
    try generalize xF 3 = yy3
    try generalize xF 4 = yy4
    clear xF
    obtain ⟨k0, k1, k2⟩ := box3 hh2
    obtain ⟨m0, m1, m2, m3, m4, m5, m6, m7⟩ := box8 hh3
    go_wp2_with fail
    refine bodyPost_ret (v := .tuple #[.agg #[.string S, .int .i64 ((rz).p : Int), .int .i64 (rz).co], .agg #[.int .i64 gp.k, .int .u64 gp.cl.a, .int .u64 gp.cl.b, .int .u64 gp.cl.c, .int .u64 gp.cl.d, .slice ko kn kc, .int .i64 gp.mn, .int .i64 gp.mx]]) (by simp [results, Try.results29, go_sem, k0, k1, k2, m0, m1, m2, m3, m4, m5, m6, m7]) rfl ?_
    exact RrA.of HV.out ff bb
   | true =>
    obtain ⟨z, hcu, h1, h2⟩ : ∃ z, rr.cur (kit.bytes S) rz = some z ∧ z ≠ 124 ∧ z ≠ 41 := by
     have h := HCB.out
     unfold rwB at h
     cases hc : rr.cur (kit.bytes S) rz with
     | none => rw [hc] at h; cases h
     | some d => rw [hc] at h; simp at h; exact ⟨d, rfl, h.1, h.2⟩
    obtain ⟨hco, _, hpl0⟩ := rr.cur_some (kit.bytes S) hcu
    have hpl : rz.p < S.size := by rw [← HLEN.out]; exact hpl0
    have hgd := HGD.out rz hpl0 hco
    have hst := rr.rowF_step (kit.bytes S) (M := M) (f := f1) (l := acc) hcu h1 h2
    have HMC := Lib.hid (fun W => HMA.out rz W hco hpl)
    obtain ⟨r1, hr1⟩ : ∃ y, y = (M rz).1 := ⟨_, rfl⟩
    obtain ⟨x, hx⟩ : ∃ y, y = (M rz).2 := ⟨_, rfl⟩
    have hmx : M rz = (r1, x) := by rw [hr1, hx]
    rw [hmx] at HMC hgd hst
    simp only at hgd hst
    rw [HLEN.out] at hgd
    have HFN : Hid (rr.rowF (kit.bytes S) M f1 (acc ++ [x]) r1 = (fr, fl)) := hst.symm.trans HF.out
    have h1S : r1.p ≤ S.size := hgd.2.1
    have HPG : Hid (r1.co = 0 → rz.p < r1.p) := hgd.2.2.1
    have HCO := Lib.hid hco
    have HS3 : Hid (r1.co = 0 → szs (acc ++ [x]) ≤ (g + 1) * r1.p) := by show _ → _; intro h; rw [szs_app]; simp only [szs]; exact row_inv1 (HS1.out hco) hgd.2.2.2 (hgd.2.2.1 h)
    have HS4 : Hid (szs (acc ++ [x]) ≤ (g + 1) * r1.p + 1) := by show _ ≤ _; rw [szs_app]; simp only [szs]; exact row_inv2 (HS1.out hco) hgd.2.2.2 hgd.1
    clear hcu h1 h2 hco hpl0 hgd hst hr1 hx hmx
    obtain ⟨e5_0, e5_1, e5_2⟩ := box3 (L6.out.at (q := q) 0 rfl)
    go_wp2_with fail
    clear e5_0 e5_1 e5_2
    with_reducible refine (HMC.out _).mono ?_
    rintro e V5 ⟨c5, rfl, f5, b5⟩
    obtain ⟨ko, kn, kc, rfl⟩ := rx_form f5.at
    have L7 := Lib.hid (L6.out.call b5)
    obtain ⟨q7, hq7⟩ : ∃ x, x = V5.heap.size := ⟨_, rfl⟩
    have L6 := Lib.hid (L7.out.add (q := q7) 48 #[.string S, .int .i64 ((r1).p : Int), .int .i64 (r1).co] hq7)
    obtain ⟨q8, hq8⟩ : ∃ x, x = V5.heap.size + 1 := ⟨_, rfl⟩
    have L7 := Lib.hid (L6.out.add (q := q8) 28 #[.int .i64 x.k, .int .u64 x.cl.a, .int .u64 x.cl.b, .int .u64 x.cl.c, .int .u64 x.cl.d, .slice ko kn kc, .int .i64 x.mn, .int .i64 x.mx] (by simp only [World.size_alloc]; exact hq8))
    have hqw : q < wc.heap.size := Nat.lt_of_lt_of_le HQB.out HB6.out
    have k7 := (((KX.of (q := q) b5).next (below1 (o := .cells #[.string S, .int .i64 ((r1).p : Int), .int .i64 (r1).co] 48))).next (below1 (o := .cells #[.int .i64 x.k, .int .u64 x.cl.a, .int .u64 x.cl.b, .int .u64 x.cl.c, .int .u64 x.cl.d, .slice ko kn kc, .int .i64 x.mn, .int .i64 x.mx] 28))).trans (KX.row (cs := #[.string S, .int .i64 ((r1).p : Int), .int .i64 (r1).co]))
    have f7 := Fre.kx (FreA.next (FreA.next f5 (below1 (o := .cells #[.string S, .int .i64 ((r1).p : Int), .int .i64 (r1).co] 48))) (below1 (o := .cells #[.int .i64 x.k, .int .u64 x.cl.a, .int .u64 x.cl.b, .int .u64 x.cl.c, .int .u64 x.cl.d, .slice ko kn kc, .int .i64 x.mn, .int .i64 x.mx] 28))) (KX.row (cs := #[.string S, .int .i64 ((r1).p : Int), .int .i64 (r1).co])) hqw
    have z8 := L7.out.at (q := q) 0 rfl
    have L8 := Lib.hid (L7.out.row (q := q) 0 rfl #[.string S, .int .i64 ((r1).p : Int), .int .i64 (r1).co])
    obtain ⟨e0, e1, e2, e3, e4, e5, e6, e7⟩ := box8 (L8.out.at (q := q8) 4 rfl)
    rw [hq8] at e0 e1 e2 e3 e4 e5 e6 e7
    obtain ⟨V7, hV7, L8⟩ := L8.out.nm
    have S7 : Hid (V5.heap.size + 1 + 1 = V7.heap.size) := by show _ = _; rw [hV7, setRow_size, World.size_alloc, World.size_alloc]
    rw [← hV7] at k7 f7
    obtain ⟨cs, g2, SN⟩ := RxO.app O6.out HAL.out k7 HQB.out HB6.out f7 rfl
    have HS7 : Hid (V4.heap.size ≤ V7.heap.size) := Nat.le_trans HB6.out k7.2.1
    have hkb : (al + 1) * 80 ≤ 140737488355328 := by omega
    replace L8 := Lib.hid (L8.take 3); replace hV7 := Lib.hid hV7; have G2 := Lib.hid g2; replace SN := Lib.hid SN
    clear f5 b5 k7 f7 g2 hqw
    go_wp2_with (first | (refine stQ 2 rfl rfl rfl rfl z8 ?_) | (at_builtin; rw [← hV7.out]; refine kit.app1k (V5.heap.size + 1 + 1) S7.out (.tmp 34) (.tmp 36) 26 rfl rfl V4.heap.size Try.underlying26 infoRx rfl (by decide) (by decide) G2.out rfl rfl rfl (by simp [Value.oneCell']) hkb HS7.out ?_))
    intro v9 w9 hO9 hg9 hv9
    obtain ⟨ao9, cap9, rfl⟩ := own_slice hO9
    obtain ⟨o9, b9⟩ := SN.out _ w9 hO9 hg9 (by first | exact hv9 | simpa using hv9)
    have L9 := Lib.hid (L8.out.low b9 HWB.out (by intro p hp; simp at hp; rcases hp with rfl | rfl | rfl; exact HQB.out; exact HQ2B.out; exact HQ3B.out))
    have HB9 : Hid (V4.heap.size ≤ w9.heap.size) := Nat.le_trans HS7.out b9.size
    have O9 := Lib.hid o9
    have HL9 : Hid (al + 1 = (acc ++ [x]).length) := by show _ = _; rw [List.length_append, List.length_singleton, HAL.out]
    have MU2 := Lib.hid (muR_at (r := r1) (N := S.size) (L9.out.at (q := q) 0 rfl))
    clear z8 hO9 hg9 hv9 o9 b9 e0 e1 e2 e3 e4 e5 e6 e7
    go_wp2
    have HPL2 : Hid (r1.co = 0 → S.size + 1 ≤ f1 + r1.p) := by show _ → _; intro h; have := HPG.out h; have := HPL.out HCO.out; omega
    go_roundw
    case rel =>
     first | exact ⟨f1, acc ++ [x], r1, ao9, cap9, by rw [← HL9.out], HFN.out, h1S, by have := HPL.out HCO.out; omega, HPL2.out, HS3.out, HS4.out, L9.out, by rw [← HL9.out]; exact O9.out, HB9.out⟩ | ((repeat apply Exists.intro); exact ⟨⟨f1, acc ++ [x], r1, ao9, cap9, by rw [← HL9.out], HFN.out, h1S, by have := HPL.out HCO.out; omega, HPL2.out, HS3.out, HS4.out, L9.out, by rw [← HL9.out]; exact O9.out, HB9.out⟩, rfl⟩)
    case measure =>
     have hmu := MU.out
     have hmu2 := MU2.out
     rw [if_pos HCO.out] at hmu
     show muR q S.size _ < muR q S.size wr
     rw [hmu, hmu2]
     split
     ·
      rename_i h; have := HPG.out h; omega
     ·
      omega
end Go.Proofs.Ytbccejlemhgioaa
