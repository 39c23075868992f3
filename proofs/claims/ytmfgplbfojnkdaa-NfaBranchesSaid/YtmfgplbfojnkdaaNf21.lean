/- texts put together: RfRow, RfRws. -/
import Derived.Test.YtmfgplbfojnkdaaNf10
import Derived.Test.YtmfgplbfojnkdaaNf20
namespace Go.Proofs.Ytmfgplbfojnkdaa
open Go Go.RowKit Go.ChangeShapes cl rx
open rf
theorem rf_parts_step {s : List Nat} {O : T → Pat × T} {t : T} {f c : Nat} {l : List Pat} (hc : rf.nxt s t = some c) (h1 : c ≠ 124) (h2 : c ≠ 41) (hf : s.length < t.p + f) (hp1 : t.p < (rf.part s O t).2.p) : ∃ f', rf.parts s O f t l = rf.parts s O f' (rf.part s O t).2 (if (rf.part s O t).1.k ≠ 1 then l ++ [(rf.part s O t).1] else l) ∧ s.length < (rf.part s O t).2.p + f' := by
 have := (rf.nxt_some hc).2.2
 obtain ⟨f', rfl⟩ : ∃ f', f = f' + 1 := ⟨f - 1, by omega⟩
 refine ⟨f', ?_, by omega⟩
 rw [rf.parts, hc]
 simp only
 rw [if_neg (fun h => h.elim h1 h2)]
theorem rf_parts_end {s : List Nat} {O : T → Pat × T} {t : T} {f : Nat} {l : List Pat} (h : rf.nxt s t = none ∨ rf.nxt s t = some 124 ∨ rf.nxt s t = some 41) : rf.parts s O f t l = (l, t) := by
 cases f with
 | zero => rfl
 | succ f =>
  rw [rf.parts]
  rcases h with h | h | h <;> rw [h] <;> simp
set_option maxHeartbeats 12800000 in
set_option maxRecDepth 100000 in
theorem rf_row (d a q : Nat) (S : ByteArray) (dp : Int) (O : T → Pat × T) (hO : rf.Good (kit.bytes S) a O) (ha : a ≤ 30) (t : T) (w : World) (h : RdT q S dp t w) (hS : S.size ≤ 60) (hp : t.p ≤ S.size) (HO0 : ∀ (t : T) (W : World), t.p < S.size → RdT q S dp t W → Calls Try.prog 65 #[.pointer (some ⟨q, 0, none⟩)] W (RfA (d + 1) q S dp (O t) W)) : Calls Try.prog 60 #[.pointer (some ⟨q, 0, none⟩)] w (RfA (d + 3) q S dp (rf.row (kit.bytes S) O t) w) := by
 have hlen : (kit.bytes S).length = S.size := by simp [kit.bytes]
 obtain ⟨q1, hq1⟩ : ∃ q1, q1 = w.heap.size := ⟨_, rfl⟩
 have hqq : q < q1 := by rw [hq1]; exact lt_of_block h
 obtain ⟨W3, hW3⟩ : ∃ W, W = w.alloc (.cells #[.int .i64 0, .int .u64 0, .int .u64 0, .int .u64 0, .int .u64 0, .slice none 0 0, .int .i64 0, .int .i64 0] 27) := ⟨_, rfl⟩
 have b3 : Below w.heap.size w W3 := by rw [hW3]; exact below1
 have R3 := Lib.hid (h.next b3)
 have K3 := Lib.hid (KX.of (q := q) b3)
 have Z3 : Hid (W3.heap[q1]? = some (.cells #[.int .i64 0, .int .u64 0, .int .u64 0, .int .u64 0, .int .u64 0, .slice none 0 0, .int .i64 0, .int .i64 0] 27)) := by show _ = _; rw [hW3, hq1]; exact heap_alloc_new _ _
 have HW3 := Lib.hid hW3
 have HQ1 := Lib.hid hq1
 have HQQ := Lib.hid hqq
 have HQ3 : Hid (q < W3.heap.size) := lt_of_block R3.out
 have H13 : Hid (q1 < W3.heap.size) := lt_of_block Z3.out
 have HB3 : Hid (w.heap.size ≤ W3.heap.size) := b3.size
 have HLEN := Lib.hid hlen
 unfold rf.row
 obtain ⟨fl, ft, hfin⟩ : ∃ fl ft, rf.parts (kit.bytes S) O ((kit.bytes S).length + 1) t [] = (fl, ft) := ⟨_, _, rfl⟩
 rw [hfin]
 simp only
 have HFS := Lib.hid hfin
 have HNX := Lib.hid (rf_next q S dp t W3 R3.out hS)
 have HPL := Lib.hid HO0
 have HGO := Lib.hid hO
 clear h hq1 hqq hW3 b3 hlen hfin HO0 hO
 go_enter Try.func60, Try.ntmps60
 go_wp2_with fail
 rw [← HW3.out, ← HQ1.out]
 (with_reducible refine HNX.out.mono ?_)
 rintro e4 w4 ⟨rfl, b4⟩
 have R4 := Lib.hid (R3.out.next b4)
 have K4 := Lib.hid (KX.of (q := q) b4)
 clear b4
 go_wp2
 go_loopw [3, 4, 5] (fun v c o wr => ∃ (f : Nat) (tt : T) (acc : List Pat) (ao : Option Addr) (cap : Nat), v = .slice ao acc.length cap ∧ c = .int .u8 (((rf.nxt (kit.bytes S) tt).getD 0 : Nat) : Int) ∧ o = .bool (rf.nxt (kit.bytes S) tt).isSome ∧ Hid (rf.parts (kit.bytes S) O f tt acc = (fl, ft)) ∧ S.size < tt.p + f ∧ tt.p ≤ S.size ∧ Hid (szs acc ≤ (a + 1) * tt.p) ∧ Hid (RdT q S dp tt wr) ∧ Hid (KX q W3 wr) ∧ Hid (RxO W3.heap.size (d + 2) acc (.slice ao acc.length cap) wr)) (fun _ _ _ wr => S.size + 1 - pOf wr q)
 case atStart => exact ⟨(kit.bytes S).length + 1, t, [], none, 0, rfl, rfl, rfl, HFS.out, by have := HLEN.out; omega, hp, Nat.zero_le _, R4.out, K4.out, RxO.nil⟩
 case round =>
  obtain ⟨f, tt, acc, ao, cap, rfl, rfl, rfl, HF, hf, htp, HK, HR, KR, HO⟩ := hrel
  have KW : Hid (KX q w wr) := K3.out.trans KR.out
  have HSW : Hid (W3.heap.size ≤ wr.heap.size) := KR.out.2.1
  have ZR := Lib.hid ((KR.out.2.2 q1 H13.out (by have := HQQ.out; omega)).trans Z3.out)
  obtain ⟨al, hal⟩ : ∃ n, n = acc.length := ⟨_, rfl⟩
  rw [← hal] at HO ⊢
  have HAL := Lib.hid hal
  have hsz : szs acc ≤ 2000 := by
   have h1 : (a + 1) * tt.p ≤ 31 * 60 := Nat.mul_le_mul (by omega) (by omega)
   have h2 : szs acc ≤ (a + 1) * tt.p := HK.out
   omega
  have hacc' : al ≤ 2000 := by have := szs_len acc; omega
  have HSZ := Lib.hid hsz
  clear hsz
  obtain ⟨o, ho⟩ : ∃ o, o = rf.nxt (kit.bytes S) tt := ⟨_, rfl⟩
  rw [← ho]
  have HNO := Lib.hid ho
  cases o with
  | none =>
   have HFIN0 : rf.parts (kit.bytes S) O f tt acc = (acc, tt) := rf_parts_end (Or.inl ho.symm)
   have HE : Hid (acc = fl ∧ tt = ft) := by rw [HF.out] at HFIN0; simp only [Prod.mk.injEq] at HFIN0; exact ⟨HFIN0.1.symm, HFIN0.2.symm⟩
   clear HFIN0 ho hal
   simp only [Option.getD_none, Option.isSome_none]
   have HGA := Lib.hid (rf_gather 3 W3.heap.size (d + 1) acc _ wr HO.out HSW.out (by have := HSZ.out; omega))
   obtain ⟨gx, hgx⟩ : ∃ g, g = Pat.gather 3 acc := ⟨_, rfl⟩
   rw [← hgx] at HGA
   have HGX := Lib.hid hgx
   clear hgx
   go_wp2_with fail
   (with_reducible refine HGA.out.mono ?_)
   rintro eg wz ⟨cg, rfl, fg, bg⟩
   obtain ⟨ko, kn, kc, rfl⟩ := rx_form fg.at
   have R9 := Lib.hid (HR.out.next bg)
   have K9 := Lib.hid (KW.out.next bg)
   have ZZ := Lib.hid ((bg.block _ (lt_of_block ZR.out)).trans ZR.out)
   have FG := Lib.hid fg
   clear fg bg
   go_wp2_with ((with_reducible show wpList _ _ _ (Oper.mk _ (Op.store 27 (.tmp 2) _) _ _ _ _ :: _) _ _); refine wpList_store_row rfl 27 (.tmp 2) _ rfl (q1) #[.int .i64 gx.k, .int .u64 gx.cl.a, .int .u64 gx.cl.b, .int .u64 gx.cl.c, .int .u64 gx.cl.d, .slice ko kn kc, .int .i64 gx.mn, .int .i64 gx.mx] rfl rfl 27 #[.int .i64 0, .int .u64 0, .int .u64 0, .int .u64 0, .int .u64 0, .slice none 0 0, .int .i64 0, .int .i64 0] ZZ.out rsize rfl (by simp [Value.oneCell']) ?_)
   have cc := setRow_heap _ q1 _ #[.int .i64 gx.k, .int .u64 gx.cl.a, .int .u64 gx.cl.b, .int .u64 gx.cl.c, .int .u64 gx.cl.d, .slice ko kn kc, .int .i64 gx.mn, .int .i64 gx.mx] _ _ ZZ.out
   have rr : RdT q S dp tt (World.setRow wz q1 #[.int .i64 gx.k, .int .u64 gx.cl.a, .int .u64 gx.cl.b, .int .u64 gx.cl.c, .int .u64 gx.cl.d, .slice ko kn kc, .int .i64 gx.mn, .int .i64 gx.mx]) := R9.out.keep KX.row (by have := HQQ.out; omega)
   have kk : KX q w (World.setRow wz q1 #[.int .i64 gx.k, .int .u64 gx.cl.a, .int .u64 gx.cl.b, .int .u64 gx.cl.c, .int .u64 gx.cl.d, .slice ko kn kc, .int .i64 gx.mn, .int .i64 gx.mx]) := K9.out.trans' KX.row (by have := HQ1.out; omega)
   have ff : Fre w.heap.size (World.setRow wz q1 #[.int .i64 gx.k, .int .u64 gx.cl.a, .int .u64 gx.cl.b, .int .u64 gx.cl.c, .int .u64 gx.cl.d, .slice ko kn kc, .int .i64 gx.mn, .int .i64 gx.mx]) (fun W => rxR (d + 3) W W.heap.size [.int .i64 gx.k, .int .u64 gx.cl.a, .int .u64 gx.cl.b, .int .u64 gx.cl.c, .int .u64 gx.cl.d, .slice ko kn kc, .int .i64 gx.mn, .int .i64 gx.mx] gx) := FreA.low (Fre.kx FG.out KX.row H13.out) HB3.out
   obtain ⟨w9, h9⟩ : ∃ W, W = World.setRow wz q1 #[.int .i64 gx.k, .int .u64 gx.cl.a, .int .u64 gx.cl.b, .int .u64 gx.cl.c, .int .u64 gx.cl.d, .slice ko kn kc, .int .i64 gx.mn, .int .i64 gx.mx] := ⟨_, rfl⟩
   rw [← h9] at cc rr kk ff ⊢
   clear h9
   have k0 := boxc cc 0 _ rfl
   have k1 := boxc cc 1 _ rfl
   have k2 := boxc cc 2 _ rfl
   have k3 := boxc cc 3 _ rfl
   have k4 := boxc cc 4 _ rfl
   have k5 := boxc cc 5 _ rfl
   have k6 := boxc cc 6 _ rfl
   have k7 := boxc cc 7 _ rfl
   refine bodyPost_ret (v := .agg #[.int .i64 gx.k, .int .u64 gx.cl.a, .int .u64 gx.cl.b, .int .u64 gx.cl.c, .int .u64 gx.cl.d, .slice ko kn kc, .int .i64 gx.mn, .int .i64 gx.mx]) (by simp [results, Try.results60, go_sem, k0, k1, k2, k3, k4, k5, k6, k7]) rfl ?_
   refine ⟨[.int .i64 gx.k, .int .u64 gx.cl.a, .int .u64 gx.cl.b, .int .u64 gx.cl.c, .int .u64 gx.cl.d, .slice ko kn kc, .int .i64 gx.mn, .int .i64 gx.mx], rfl, ?_, ?_⟩
   ·
    rw [← HE.out.1, ← HGX.out]; exact ff
   ·
    rw [← HE.out.2]; exact ⟨rr, kk⟩
  | some c =>
   obtain ⟨_, _, hc256⟩ := rf_nxt_lt ho.symm
   simp only [Option.getD_some, Option.isSome_some]
   by_cases hce : c = 124 ∨ c = 41
   ·
    have HFIN0 : rf.parts (kit.bytes S) O f tt acc = (acc, tt) := rf_parts_end (by rcases hce with e | e <;> rw [← ho, e] <;> simp)
    have HE : Hid (acc = fl ∧ tt = ft) := by rw [HF.out] at HFIN0; simp only [Prod.mk.injEq] at HFIN0; exact ⟨HFIN0.1.symm, HFIN0.2.symm⟩
    by_cases h1 : c = 124
    ·
     have e1 : ((c : Int) == 124) = true := by simp [h1]
     have e1n : (c : Int) = 124 := by omega
     clear HFIN0 ho hal hce h1 e1
     have HGA := Lib.hid (rf_gather 3 W3.heap.size (d + 1) acc _ wr HO.out HSW.out (by have := HSZ.out; omega))
     obtain ⟨gx, hgx⟩ : ∃ g, g = Pat.gather 3 acc := ⟨_, rfl⟩
     rw [← hgx] at HGA
     have HGX := Lib.hid hgx
     clear hgx
     go_wp2_with fail
     (with_reducible refine HGA.out.mono ?_)
     rintro eg wz ⟨cg, rfl, fg, bg⟩
     obtain ⟨ko, kn, kc, rfl⟩ := rx_form fg.at
     have R9 := Lib.hid (HR.out.next bg)
     have K9 := Lib.hid (KW.out.next bg)
     have ZZ := Lib.hid ((bg.block _ (lt_of_block ZR.out)).trans ZR.out)
     have FG := Lib.hid fg
     clear fg bg
     go_wp2_with ((with_reducible show wpList _ _ _ (Oper.mk _ (Op.store 27 (.tmp 2) _) _ _ _ _ :: _) _ _); refine wpList_store_row rfl 27 (.tmp 2) _ rfl (q1) #[.int .i64 gx.k, .int .u64 gx.cl.a, .int .u64 gx.cl.b, .int .u64 gx.cl.c, .int .u64 gx.cl.d, .slice ko kn kc, .int .i64 gx.mn, .int .i64 gx.mx] rfl rfl 27 #[.int .i64 0, .int .u64 0, .int .u64 0, .int .u64 0, .int .u64 0, .slice none 0 0, .int .i64 0, .int .i64 0] ZZ.out rsize rfl (by simp [Value.oneCell']) ?_)
     have cc := setRow_heap _ q1 _ #[.int .i64 gx.k, .int .u64 gx.cl.a, .int .u64 gx.cl.b, .int .u64 gx.cl.c, .int .u64 gx.cl.d, .slice ko kn kc, .int .i64 gx.mn, .int .i64 gx.mx] _ _ ZZ.out
     have rr : RdT q S dp tt (World.setRow wz q1 #[.int .i64 gx.k, .int .u64 gx.cl.a, .int .u64 gx.cl.b, .int .u64 gx.cl.c, .int .u64 gx.cl.d, .slice ko kn kc, .int .i64 gx.mn, .int .i64 gx.mx]) := R9.out.keep KX.row (by have := HQQ.out; omega)
     have kk : KX q w (World.setRow wz q1 #[.int .i64 gx.k, .int .u64 gx.cl.a, .int .u64 gx.cl.b, .int .u64 gx.cl.c, .int .u64 gx.cl.d, .slice ko kn kc, .int .i64 gx.mn, .int .i64 gx.mx]) := K9.out.trans' KX.row (by have := HQ1.out; omega)
     have ff : Fre w.heap.size (World.setRow wz q1 #[.int .i64 gx.k, .int .u64 gx.cl.a, .int .u64 gx.cl.b, .int .u64 gx.cl.c, .int .u64 gx.cl.d, .slice ko kn kc, .int .i64 gx.mn, .int .i64 gx.mx]) (fun W => rxR (d + 3) W W.heap.size [.int .i64 gx.k, .int .u64 gx.cl.a, .int .u64 gx.cl.b, .int .u64 gx.cl.c, .int .u64 gx.cl.d, .slice ko kn kc, .int .i64 gx.mn, .int .i64 gx.mx] gx) := FreA.low (Fre.kx FG.out KX.row H13.out) HB3.out
     obtain ⟨w9, h9⟩ : ∃ W, W = World.setRow wz q1 #[.int .i64 gx.k, .int .u64 gx.cl.a, .int .u64 gx.cl.b, .int .u64 gx.cl.c, .int .u64 gx.cl.d, .slice ko kn kc, .int .i64 gx.mn, .int .i64 gx.mx] := ⟨_, rfl⟩
     rw [← h9] at cc rr kk ff ⊢
     clear h9
     have k0 := boxc cc 0 _ rfl
     have k1 := boxc cc 1 _ rfl
     have k2 := boxc cc 2 _ rfl
     have k3 := boxc cc 3 _ rfl
     have k4 := boxc cc 4 _ rfl
     have k5 := boxc cc 5 _ rfl
     have k6 := boxc cc 6 _ rfl
     have k7 := boxc cc 7 _ rfl
     refine bodyPost_ret (v := .agg #[.int .i64 gx.k, .int .u64 gx.cl.a, .int .u64 gx.cl.b, .int .u64 gx.cl.c, .int .u64 gx.cl.d, .slice ko kn kc, .int .i64 gx.mn, .int .i64 gx.mx]) (by simp [results, Try.results60, go_sem, k0, k1, k2, k3, k4, k5, k6, k7]) rfl ?_
     refine ⟨[.int .i64 gx.k, .int .u64 gx.cl.a, .int .u64 gx.cl.b, .int .u64 gx.cl.c, .int .u64 gx.cl.d, .slice ko kn kc, .int .i64 gx.mn, .int .i64 gx.mx], rfl, ?_, ?_⟩
     ·
      rw [← HE.out.1, ← HGX.out]; exact ff
     ·
      rw [← HE.out.2]; exact ⟨rr, kk⟩
    ·
     have h2 : c = 41 := by omega
     have e1n : ¬ (c : Int) = 124 := by omega
     have e2n : (c : Int) = 41 := by omega
     clear HFIN0 ho hal hce h1 h2
     have HGA := Lib.hid (rf_gather 3 W3.heap.size (d + 1) acc _ wr HO.out HSW.out (by have := HSZ.out; omega))
     obtain ⟨gx, hgx⟩ : ∃ g, g = Pat.gather 3 acc := ⟨_, rfl⟩
     rw [← hgx] at HGA
     have HGX := Lib.hid hgx
     clear hgx
     go_wp2_with fail
     (with_reducible refine HGA.out.mono ?_)
     rintro eg wz ⟨cg, rfl, fg, bg⟩
     obtain ⟨ko, kn, kc, rfl⟩ := rx_form fg.at
     have R9 := Lib.hid (HR.out.next bg)
     have K9 := Lib.hid (KW.out.next bg)
     have ZZ := Lib.hid ((bg.block _ (lt_of_block ZR.out)).trans ZR.out)
     have FG := Lib.hid fg
     clear fg bg
     go_wp2_with ((with_reducible show wpList _ _ _ (Oper.mk _ (Op.store 27 (.tmp 2) _) _ _ _ _ :: _) _ _); refine wpList_store_row rfl 27 (.tmp 2) _ rfl (q1) #[.int .i64 gx.k, .int .u64 gx.cl.a, .int .u64 gx.cl.b, .int .u64 gx.cl.c, .int .u64 gx.cl.d, .slice ko kn kc, .int .i64 gx.mn, .int .i64 gx.mx] rfl rfl 27 #[.int .i64 0, .int .u64 0, .int .u64 0, .int .u64 0, .int .u64 0, .slice none 0 0, .int .i64 0, .int .i64 0] ZZ.out rsize rfl (by simp [Value.oneCell']) ?_)
     have cc := setRow_heap _ q1 _ #[.int .i64 gx.k, .int .u64 gx.cl.a, .int .u64 gx.cl.b, .int .u64 gx.cl.c, .int .u64 gx.cl.d, .slice ko kn kc, .int .i64 gx.mn, .int .i64 gx.mx] _ _ ZZ.out
     have rr : RdT q S dp tt (World.setRow wz q1 #[.int .i64 gx.k, .int .u64 gx.cl.a, .int .u64 gx.cl.b, .int .u64 gx.cl.c, .int .u64 gx.cl.d, .slice ko kn kc, .int .i64 gx.mn, .int .i64 gx.mx]) := R9.out.keep KX.row (by have := HQQ.out; omega)
     have kk : KX q w (World.setRow wz q1 #[.int .i64 gx.k, .int .u64 gx.cl.a, .int .u64 gx.cl.b, .int .u64 gx.cl.c, .int .u64 gx.cl.d, .slice ko kn kc, .int .i64 gx.mn, .int .i64 gx.mx]) := K9.out.trans' KX.row (by have := HQ1.out; omega)
     have ff : Fre w.heap.size (World.setRow wz q1 #[.int .i64 gx.k, .int .u64 gx.cl.a, .int .u64 gx.cl.b, .int .u64 gx.cl.c, .int .u64 gx.cl.d, .slice ko kn kc, .int .i64 gx.mn, .int .i64 gx.mx]) (fun W => rxR (d + 3) W W.heap.size [.int .i64 gx.k, .int .u64 gx.cl.a, .int .u64 gx.cl.b, .int .u64 gx.cl.c, .int .u64 gx.cl.d, .slice ko kn kc, .int .i64 gx.mn, .int .i64 gx.mx] gx) := FreA.low (Fre.kx FG.out KX.row H13.out) HB3.out
     obtain ⟨w9, h9⟩ : ∃ W, W = World.setRow wz q1 #[.int .i64 gx.k, .int .u64 gx.cl.a, .int .u64 gx.cl.b, .int .u64 gx.cl.c, .int .u64 gx.cl.d, .slice ko kn kc, .int .i64 gx.mn, .int .i64 gx.mx] := ⟨_, rfl⟩
     rw [← h9] at cc rr kk ff ⊢
     clear h9
     have k0 := boxc cc 0 _ rfl
     have k1 := boxc cc 1 _ rfl
     have k2 := boxc cc 2 _ rfl
     have k3 := boxc cc 3 _ rfl
     have k4 := boxc cc 4 _ rfl
     have k5 := boxc cc 5 _ rfl
     have k6 := boxc cc 6 _ rfl
     have k7 := boxc cc 7 _ rfl
     refine bodyPost_ret (v := .agg #[.int .i64 gx.k, .int .u64 gx.cl.a, .int .u64 gx.cl.b, .int .u64 gx.cl.c, .int .u64 gx.cl.d, .slice ko kn kc, .int .i64 gx.mn, .int .i64 gx.mx]) (by simp [results, Try.results60, go_sem, k0, k1, k2, k3, k4, k5, k6, k7]) rfl ?_
     refine ⟨[.int .i64 gx.k, .int .u64 gx.cl.a, .int .u64 gx.cl.b, .int .u64 gx.cl.c, .int .u64 gx.cl.d, .slice ko kn kc, .int .i64 gx.mn, .int .i64 gx.mx], rfl, ?_, ?_⟩
     ·
      rw [← HE.out.1, ← HGX.out]; exact ff
     ·
      rw [← HE.out.2]; exact ⟨rr, kk⟩
   ·
    have h1 : ¬ c = 124 := fun e => hce (Or.inl e)
    have h2 : ¬ c = 41 := fun e => hce (Or.inr e)
    have HPA := Lib.hid (rf_part d q S dp O tt wr HR.out hS (by have := (rf_nxt_lt ho.symm).2.1; omega) (fun t W ht hW => HPL.out t W ht hW))
    have hpg := part_good HGO.out tt (rf.nxt_some ho.symm).2.2
    obtain ⟨f', hst, hf'⟩ := rf_parts_step (s := kit.bytes S) (O := O) (f := f) (l := acc) ho.symm h1 h2 (by have := HLEN.out; omega) hpg.1
    rw [HF.out] at hst
    obtain ⟨x, t2, hr⟩ : ∃ x t2, rf.part (kit.bytes S) O tt = (x, t2) := ⟨_, _, rfl⟩
    rw [hr] at HPA hst hf' hpg
    simp only at hst hf' hpg
    have HST := Lib.hid hst.symm
    have i1 : ¬ (c : Int) = 124 := by omega
    have i2 : ¬ (c : Int) = 41 := by omega
    have ib1 : ((c : Int) == 124) = false := beq_eq_false_iff_ne.2 i1
    have ib2 : ((c : Int) == 41) = false := beq_eq_false_iff_ne.2 i2
    have nb1 : ((c : Int) != 124) = true := by rw [bne, ib1]; rfl
    have nb2 : ((c : Int) != 41) = true := by rw [bne, ib2]; rfl
    obtain ⟨hp1, hp2, hp3⟩ := hpg
    have hl60 := HLEN.out
    have ht2 : t2.p ≤ S.size := by omega
    have hf2 : S.size < t2.p + f' := by omega
    have hlt : tt.p < t2.p := hp1
    have hacc2 : szs acc + sz x ≤ (a + 1) * t2.p := by
     have h0 : szs acc ≤ (a + 1) * tt.p := HK.out
     have e2 : (a + 1) * t2.p = (a + 1) * tt.p + (a + 1) * (t2.p - tt.p) := by rw [← Nat.mul_add]; congr 1; omega
     have e3 : a * (t2.p - tt.p) + 1 ≤ (a + 1) * (t2.p - tt.p) := by rw [Nat.succ_mul]; omega
     omega
    have HA2 := Lib.hid hacc2
    clear ho hal hce hst hf' hp1 hp2 hp3 hl60 hr hacc2
    by_cases hxk : x.k = 1
    ·
     have hx1b : (x.k == 1) = true := beq_iff_eq.2 hxk
     have HST2 : Hid (rf.parts (kit.bytes S) O f' t2 acc = (fl, ft)) := by show _ = _; have h := HST.out; rw [if_neg (by omega)] at h; exact h
     clear HST hxk
     go_wp2_with fail
     (with_reducible refine HPA.out.mono ?_)
     rintro e5 w5 ⟨cx, rfl, f5, r5, k5⟩
     obtain ⟨ko, kn, kc, rfl⟩ := rx_form f5.at
     obtain ⟨W6, hW6⟩ : ∃ W, W = w5.alloc (.cells #[.int .i64 x.k, .int .u64 x.cl.a, .int .u64 x.cl.b, .int .u64 x.cl.c, .int .u64 x.cl.d, .slice ko kn kc, .int .i64 x.mn, .int .i64 x.mx] 27) := ⟨_, rfl⟩
     have b6 : Below w5.heap.size w5 W6 := by rw [hW6]; exact below1
     have x6 : W6.heap[w5.heap.size]? = some (.cells #[.int .i64 x.k, .int .u64 x.cl.a, .int .u64 x.cl.b, .int .u64 x.cl.c, .int .u64 x.cl.d, .slice ko kn kc, .int .i64 x.mn, .int .i64 x.mx] 27) := by rw [hW6]; exact heap_alloc_new _ _
     have R6 := Lib.hid (r5.next b6)
     have hO5 : RxO W3.heap.size (d + 2) acc (.slice ao al cap) wr := HO.out
     have O6 := Lib.hid ((hO5.kx k5 HQ3.out).next b6)
     have K6 : Hid (KX q W3 W6) := KR.out.trans (k5.next b6)
     have HN9 := Lib.hid (rf_next q S dp t2 W6 R6.out hS)
     have HW6 := Lib.hid hW6
     have y0 := boxc x6 0 _ rfl
     rw [hW6] at y0
     clear f5 r5 k5 hW6 b6 x6 hO5
     go_wp2_with fail
     rw [← HW6.out]
     clear y0
     (with_reducible refine HN9.out.mono ?_)
     rintro e7 w7 ⟨rfl, b7⟩
     have R7 := Lib.hid (R6.out.next b7)
     have K7 := Lib.hid (K6.out.next b7)
     have O7 := Lib.hid (O6.out.next b7)
     have HP1 : Hid (pOf wr q = tt.p) := HR.out.pOf
     have HP2 : Hid (pOf w7 q = t2.p) := R7.out.pOf
     clear b7 HN9
     go_wp2
     go_roundw
     case rel =>
      refine ⟨f', t2, acc, ao, cap, by rw [HAL.out], rfl, rfl, HST2, hf2, ht2, by have := HA2.out; show _ ≤ _; omega, R7, K7, ?_⟩
      rw [← HAL.out]; exact O7
     case measure =>
      have h5 := HP1.out
      have h6 := HP2.out
      simp only [h5, h6]
      omega
    have hx1b : (x.k == 1) = false := beq_eq_false_iff_ne.2 hxk
    replace HST : Hid (rf.parts (kit.bytes S) O f' t2 (acc ++ [x]) = (fl, ft)) := by show _ = _; have h := HST.out; rw [if_pos hxk] at h; exact h
    replace HA2 : Hid (szs (acc ++ [x]) ≤ (a + 1) * t2.p) := by show _ ≤ _; rw [szs_app]; have := HA2.out; simp only [szs]; omega
    have hx1 : ¬ x.k = 1 := hxk
    clear hxk
    go_wp2_with fail
    (with_reducible refine HPA.out.mono ?_)
    rintro e5 w5 ⟨cx, rfl, f5, r5, k5⟩
    obtain ⟨ko, kn, kc, rfl⟩ := rx_form f5.at
    obtain ⟨W6, hW6⟩ : ∃ W, W = w5.alloc (.cells #[.int .i64 x.k, .int .u64 x.cl.a, .int .u64 x.cl.b, .int .u64 x.cl.c, .int .u64 x.cl.d, .slice ko kn kc, .int .i64 x.mn, .int .i64 x.mx] 27) := ⟨_, rfl⟩
    have b6 : Below w5.heap.size w5 W6 := by rw [hW6]; exact below1
    have x6 : W6.heap[w5.heap.size]? = some (.cells #[.int .i64 x.k, .int .u64 x.cl.a, .int .u64 x.cl.b, .int .u64 x.cl.c, .int .u64 x.cl.d, .slice ko kn kc, .int .i64 x.mn, .int .i64 x.mx] 27) := by rw [hW6]; exact heap_alloc_new _ _
    have r6 := r5.next b6
    have hO5 : RxO W3.heap.size (d + 2) acc (.slice ao al cap) wr := HO.out
    have hO6 := (hO5.kx k5 HQ3.out).next b6
    have f6 := FreA.next f5 b6
    obtain ⟨cs, g0, g1, g2⟩ := hO6
    have S6 : Hid (w5.heap.size + 1 = W6.heap.size) := by show _ = _; rw [hW6, World.size_alloc]
    have K6 : Hid (KX q W3 W6) := KR.out.trans (k5.next b6)
    have HS6 : Hid (W3.heap.size ≤ W6.heap.size) := K6.out.2.1
    have hwr6 : wr.heap.size ≤ W6.heap.size := Nat.le_trans k5.2.1 b6.size
    have hob : ∀ b, (Value.slice ao al cap).ownBlock = some b → b < wr.heap.size ∨ W6.heap.size ≤ b := by
     obtain ⟨_, _, _, g9⟩ := hO5
     intro b hb
     exact Or.inl (own_lt g9 b hb).2
    rw [← HAL.out] at g2
    have G2 := Lib.hid g2
    have SN : Hid (∀ (v9 : Value) (w9 : World), w9.ownsRow W3.heap.size 27 8 v9 (al + 1) (cs.flatten ++ [.int .i64 x.k, .int .u64 x.cl.a, .int .u64 x.cl.b, .int .u64 x.cl.c, .int .u64 x.cl.d, .slice ko kn kc, .int .i64 x.mn, .int .i64 x.mx]) → (W6.alloc (.cells #[.int .i64 x.k, .int .u64 x.cl.a, .int .u64 x.cl.b, .int .u64 x.cl.c, .int .u64 x.cl.d, .slice ko kn kc, .int .i64 x.mn, .int .i64 x.mx] 27)).grownBy w9 (Value.slice ao al cap).ownBlock → (v9.ownBlock = (Value.slice ao al cap).ownBlock ∨ ∀ b, v9.ownBlock = some b → W6.heap.size + 1 ≤ b) → RxO W3.heap.size (d + 2) (acc ++ [x]) v9 w9 ∧ Below W3.heap.size W6 w9) := by
     intro v9 w9 hO9 hg9 hv9
     exact ⟨RxO.snoc g0 g1 HAL.out f6 rfl HSW.out hob hO9 hg9 (hv9.imp id (fun h b hb => by rw [World.size_alloc]; exact h b hb)), app_below G2.out HS6.out hg9⟩
    have R6 := Lib.hid r6
    have HW6 := Lib.hid hW6
    have hkb : (al + 1) * 80 ≤ 140737488355328 := by omega
    have y0 := boxc x6 0 _ rfl
    have y1 := boxc x6 1 _ rfl
    have y2 := boxc x6 2 _ rfl
    have y3 := boxc x6 3 _ rfl
    have y4 := boxc x6 4 _ rfl
    have y5 := boxc x6 5 _ rfl
    have y6 := boxc x6 6 _ rfl
    have y7 := boxc x6 7 _ rfl
    rw [hW6] at y0 y1 y2 y3 y4 y5 y6 y7
    clear f5 r5 k5 hW6 b6 x6 r6 hO5 f6 g0 g1 g2 hwr6 hob
    go_wp2_with (at_builtin; rw [← HW6.out]; refine kit.app1k (w5.heap.size + 1) S6.out (.tmp 31) (.tmp 33) 25 rfl rfl W3.heap.size Try.underlying25 infoRx rfl (by decide) (by decide) G2.out rfl rfl rfl (by simp [Value.oneCell']) hkb HS6.out ?_)
    intro v9 w9 hO9 hg9 hv9
    obtain ⟨ao9, cap9, rfl⟩ := own_slice hO9
    obtain ⟨o9, b9⟩ := SN.out _ w9 hO9 hg9 (by first | exact hv9 | simpa using hv9)
    have R9 : Hid (RdT q S dp t2 w9) := (b9.block q HQ3.out).trans R6.out
    have K9 : Hid (KX q W3 w9) := K6.out.low b9 rfl
    have O9 := Lib.hid o9
    have HN9 := Lib.hid (rf_next q S dp t2 w9 R9.out hS)
    clear hO9 hg9 hv9 o9 b9 y0 y1 y2 y3 y4 y5 y6 y7
    go_wp2_with fail
    (with_reducible refine HN9.out.mono ?_)
    rintro e7 w7 ⟨rfl, b7⟩
    have R7 := Lib.hid (R9.out.next b7)
    have K7 := Lib.hid (K9.out.next b7)
    have O7 := Lib.hid (O9.out.next b7)
    have HP1 : Hid (pOf wr q = tt.p) := HR.out.pOf
    have HP2 : Hid (pOf w7 q = t2.p) := R7.out.pOf
    have HL9 : Hid (al + 1 = (acc ++ [x]).length) := by show _ = _; rw [List.length_append, List.length_singleton, HAL.out]
    clear b7 HN9
    go_wp2
    go_roundw
    case rel =>
     refine ⟨f', t2, acc ++ [x], ao9, cap9, by rw [HL9.out], rfl, rfl, HST, hf2, ht2, HA2, R7, K7, ?_⟩
     rw [← HL9.out]; exact O7
    case measure =>
     have h5 := HP1.out
     have h6 := HP2.out
     simp only [h5, h6]
     omega
end Go.Proofs.Ytmfgplbfojnkdaa
namespace Go.Proofs.Ytmfgplbfojnkdaa
open Go Go.RowKit Go.ChangeShapes cl rx
open rf
theorem rf_rows_step {s : List Nat} {O : T → Pat × T} {t : T} {f : Nat} {l : List Pat} (hc : rf.nxt s t = some 124) (hf : s.length < t.p + f) (hp1 : t.fwd.p ≤ (rf.row s O t.fwd).2.p) : ∃ f', rf.rowsL s O f t l = rf.rowsL s O f' (rf.row s O t.fwd).2 (l ++ [(rf.row s O t.fwd).1]) ∧ s.length < (rf.row s O t.fwd).2.p + f' := by
 have := (rf.nxt_some hc).2.2
 obtain ⟨f', rfl⟩ : ∃ f', f = f' + 1 := ⟨f - 1, by omega⟩
 have e : t.fwd.p = t.p + 1 := rfl
 refine ⟨f', ?_, by omega⟩
 rw [rf.rowsL]
 have hm : rf.meets s 124 t = (true, t.fwd) := by unfold rf.meets; rw [if_pos hc]
 simp only [hm, if_true]
theorem rf_rows_end {s : List Nat} {O : T → Pat × T} {t : T} {f : Nat} {l : List Pat} (h : ¬ rf.nxt s t = some 124) : rf.rowsL s O f t l = (l, t) := by
 cases f with
 | zero => rfl
 | succ f =>
  rw [rf.rowsL]
  have hm : rf.meets s 124 t = (false, t) := by unfold rf.meets; rw [if_neg h]
  simp only [hm, Bool.false_eq_true, if_false]
set_option maxHeartbeats 12800000 in
set_option maxRecDepth 100000 in
theorem rf_rows (d a q : Nat) (S : ByteArray) (dp : Int) (O : T → Pat × T) (hO : rf.Good (kit.bytes S) a O) (ha : a ≤ 30) (t : T) (w : World) (h : RdT q S dp t w) (hS : S.size ≤ 60) (hp : t.p ≤ S.size) (HO0 : ∀ (t : T) (W : World), t.p < S.size → RdT q S dp t W → Calls Try.prog 65 #[.pointer (some ⟨q, 0, none⟩)] W (RfA (d + 1) q S dp (O t) W)) : Calls Try.prog 54 #[.pointer (some ⟨q, 0, none⟩)] w (RfA (d + 4) q S dp (rf.rows (kit.bytes S) O t) w) := by
 have hlen : (kit.bytes S).length = S.size := by simp [kit.bytes]
 obtain ⟨q1, hq1⟩ : ∃ q1, q1 = w.heap.size := ⟨_, rfl⟩
 have hqq : q < q1 := by rw [hq1]; exact lt_of_block h
 obtain ⟨W3, hW3⟩ : ∃ W, W = w.alloc (.cells #[.int .i64 0, .int .u64 0, .int .u64 0, .int .u64 0, .int .u64 0, .slice none 0 0, .int .i64 0, .int .i64 0] 27) := ⟨_, rfl⟩
 have b3 : Below w.heap.size w W3 := by rw [hW3]; exact below1
 have R3 := Lib.hid (h.next b3)
 have K3 := Lib.hid (KX.of (q := q) b3)
 have Z3 : Hid (W3.heap[q1]? = some (.cells #[.int .i64 0, .int .u64 0, .int .u64 0, .int .u64 0, .int .u64 0, .slice none 0 0, .int .i64 0, .int .i64 0] 27)) := by show _ = _; rw [hW3, hq1]; exact heap_alloc_new _ _
 have HW3 := Lib.hid hW3
 have HQ1 := Lib.hid hq1
 have HQQ := Lib.hid hqq
 have HQ3 : Hid (q < W3.heap.size) := lt_of_block R3.out
 have H13 : Hid (q1 < W3.heap.size) := lt_of_block Z3.out
 have HB3 : Hid (w.heap.size ≤ W3.heap.size) := b3.size
 have HLEN := Lib.hid hlen
 unfold rf.rows
 obtain ⟨x0, t1, hr0⟩ : ∃ x0 t1, rf.row (kit.bytes S) O t = (x0, t1) := ⟨_, _, rfl⟩
 have hr1 := row_good hO t (by omega)
 have HRW := Lib.hid (rf_row d a q S dp O hO ha t W3 R3.out hS hp HO0)
 rw [hr0] at HRW hr1 ⊢
 simp only at hr1 ⊢
 obtain ⟨fl, ft, hfin⟩ : ∃ fl ft, rf.rowsL (kit.bytes S) O ((kit.bytes S).length + 1) t1 [x0] = (fl, ft) := ⟨_, _, rfl⟩
 rw [hfin]
 simp only
 have HFS := Lib.hid hfin
 have HPL := Lib.hid HO0
 have HGO := Lib.hid hO
 obtain ⟨hp1, hp2, hp3⟩ := hr1
 have ht1 : t1.p ≤ S.size := by omega
 have HX4 : Hid (szs [x0] ≤ (a + 1) * t1.p + (t1.p + 1)) := by
  show _ ≤ _
  have : (a + 1) * (t1.p - t.p) ≤ (a + 1) * t1.p := Nat.mul_le_mul_left _ (by omega)
  simp only [szs]; omega
 clear h hq1 hqq hW3 b3 hlen hfin HO0 hO hr0 hp1 hp2 hp3
 go_enter Try.func54, Try.ntmps54
 go_wp2_with fail
 rw [← HW3.out, ← HQ1.out]
 (with_reducible refine HRW.out.mono ?_)
 rintro e4 w4 ⟨c0, rfl, f4, r4, k4⟩
 obtain ⟨ko0, kn0, kc0, rfl⟩ := rx_form f4.at
 obtain ⟨g4, hg4⟩ : ∃ g, g = w4.heap.size := ⟨_, rfl⟩
 obtain ⟨W5, hW5⟩ : ∃ W, W = w4.alloc (.cells #[.int .i64 x0.k, .int .u64 x0.cl.a, .int .u64 x0.cl.b, .int .u64 x0.cl.c, .int .u64 x0.cl.d, .slice ko0 kn0 kc0, .int .i64 x0.mn, .int .i64 x0.mx] 27) := ⟨_, rfl⟩
 have b5 : Below w4.heap.size w4 W5 := by rw [hW5]; exact below1
 have HS4 : Hid (W3.heap.size ≤ w4.heap.size) := k4.2.1
 have O5 : Hid (RxO W3.heap.size (d + 3) [x0] (.slice (some ⟨g4, 0, none⟩) 1 1) W5) := by
  refine ⟨[[.int .i64 x0.k, .int .u64 x0.cl.a, .int .u64 x0.cl.b, .int .u64 x0.cl.c, .int .u64 x0.cl.d, .slice ko0 kn0 kc0, .int .i64 x0.mn, .int .i64 x0.mx]], rfl, fun j c x hc hx => ?_, ?_⟩
  ·
   cases j with
   | zero =>
    simp only [List.getElem?_cons_zero, Option.some.injEq] at hc hx
    subst hc; subst hx
    refine FreA.imp (FreA.next (FreA.off f4 (fun b hb => ?_)) b5) (fun V h => ⟨rfl, h⟩)
    simp only [Value.ownBlock, Option.some.injEq] at hb
    exact Or.inr (by omega)
   | succ j => simp at hc
  ·
   have h1 := own_lit (W := w4) (k := 8) (arr := #[.int .i64 x0.k, .int .u64 x0.cl.a, .int .u64 x0.cl.b, .int .u64 x0.cl.c, .int .u64 x0.cl.d, .slice ko0 kn0 kc0, .int .i64 x0.mn, .int .i64 x0.mx]) (T := 27) rfl
   rw [hW5, hg4]
   refine ⟨h1.1, ?_⟩
   rcases h1.2 with h | ⟨g, cap, cur, e, hb, r⟩
   ·
    exact Or.inl h
   ·
    exact Or.inr ⟨g, cap, cur, e, Nat.le_trans HS4.out hb, r⟩
 have R5 := Lib.hid (r4.next b5)
 have K5 : Hid (KX q W3 W5) := k4.next b5
 have HW5 := Lib.hid hW5
 have HG4 := Lib.hid hg4
 clear f4 r4 k4 b5 hW5 hg4
 go_wp2
 rw [← HW5.out, ← HG4.out]
 go_loopw [3] (fun v wr => ∃ (f : Nat) (tt : T) (acc : List Pat) (ao : Option Addr) (cap : Nat), v = .slice ao acc.length cap ∧ Hid (rf.rowsL (kit.bytes S) O f tt acc = (fl, ft)) ∧ S.size < tt.p + f ∧ tt.p ≤ S.size ∧ Hid (szs acc ≤ (a + 1) * tt.p + (tt.p + 1)) ∧ Hid (RdT q S dp tt wr) ∧ Hid (KX q W3 wr) ∧ Hid (RxO W3.heap.size (d + 3) acc (.slice ao acc.length cap) wr)) (fun _ wr => S.size + 1 - pOf wr q)
 case atStart => exact ⟨(kit.bytes S).length + 1, t1, [x0], some ⟨g4, 0, none⟩, 1, rfl, HFS.out, by have := HLEN.out; omega, ht1, HX4.out, R5, K5, O5.out⟩
 case round =>
  obtain ⟨f, tt, acc, ao, cap, rfl, HF, hf, htp, HK, HR, KR, HO⟩ := hrel
  have KW : Hid (KX q w wr) := K3.out.trans KR.out
  have HSW : Hid (W3.heap.size ≤ wr.heap.size) := KR.out.2.1
  have ZR := Lib.hid ((KR.out.2.2 q1 H13.out (by have := HQQ.out; omega)).trans Z3.out)
  obtain ⟨al, hal⟩ : ∃ n, n = acc.length := ⟨_, rfl⟩
  rw [← hal] at HO ⊢
  have HAL := Lib.hid hal
  have hsz : szs acc ≤ 2000 := by
   have h1 : (a + 1) * tt.p ≤ 31 * 60 := Nat.mul_le_mul (by omega) (by omega)
   have h2 : szs acc ≤ (a + 1) * tt.p + (tt.p + 1) := HK.out
   omega
  have hacc' : al ≤ 2000 := by have := szs_len acc; omega
  have HSZ := Lib.hid hsz
  clear hsz
  have HME : Hid (Calls Try.prog 61 #[.pointer (some ⟨q, 0, none⟩), .int .u8 124] wr (fun e w' => e = .returned (.bool (rf.meets (kit.bytes S) 124 tt).1) ∧ RKT q S dp (rf.meets (kit.bytes S) 124 tt).2 wr w')) := rf_meets q S dp tt 124 wr HR.out hS
  by_cases hc : rf.nxt (kit.bytes S) tt = some 124
  ·
   have hm : rf.meets (kit.bytes S) 124 tt = (true, tt.fwd) := by unfold rf.meets; rw [if_pos hc]
   rw [hm] at HME
   have hpg := row_good HGO.out tt.fwd (by show tt.p + 1 ≤ _; have := (rf_nxt_lt hc).2.1; have := HLEN.out; omega)
   obtain ⟨f', hst, hf'⟩ := rf_rows_step (s := kit.bytes S) (O := O) (f := f) (l := acc) hc (by have := HLEN.out; omega) hpg.1
   rw [HF.out] at hst
   have hpl2 := (rf_nxt_lt hc).2.1
   have hpp := hpg
   clear hpg
   obtain ⟨x, t2, hr⟩ : ∃ x t2, rf.row (kit.bytes S) O tt.fwd = (x, t2) := ⟨_, _, rfl⟩
   have HRX : Hid (∀ W, RdT q S dp tt.fwd W → Calls Try.prog 60 #[.pointer (some ⟨q, 0, none⟩)] W (RfA (d + 3) q S dp (x, t2) W)) := fun W hW => by
    have h := rf_row d a q S dp O HGO.out ha tt.fwd W hW hS (by show tt.p + 1 ≤ _; omega) HPL.out
    rw [hr] at h; exact h
   rw [hr] at hst hf' hpp
   simp only at hst hf' hpp
   have HST := Lib.hid hst.symm
   obtain ⟨hp1, hp2, hp3⟩ := hpp
   have hfw : tt.fwd.p = tt.p + 1 := rfl
   have hl60 := HLEN.out
   have ht2 : t2.p ≤ S.size := by omega
   have hf2 : S.size < t2.p + f' := by omega
   have hlt : tt.p < t2.p := by omega
   have HA2 : Hid (szs (acc ++ [x]) ≤ (a + 1) * t2.p + (t2.p + 1)) := by
    show _ ≤ _
    have h0 : szs acc ≤ (a + 1) * tt.p + (tt.p + 1) := HK.out
    have e2 : (a + 1) * t2.p = (a + 1) * tt.fwd.p + (a + 1) * (t2.p - tt.fwd.p) := by rw [← Nat.mul_add]; congr 1; omega
    have e3 : (a + 1) * tt.p ≤ (a + 1) * tt.fwd.p := Nat.mul_le_mul_left _ (by omega)
    rw [szs_app]
    simp only [szs]
    omega
   clear hal hst hf' hpl2 hp1 hp2 hp3 hl60 hr hc hm hfw
   go_wp2_with fail
   (with_reducible refine HME.out.mono ?_)
   rintro e6 w6 ⟨rfl, r6, k6⟩
   have R6 := Lib.hid r6
   have O6 : Hid (RxO W3.heap.size (d + 3) acc (.slice ao al cap) w6) := by
    have h : RxO W3.heap.size (d + 3) acc (.slice ao al cap) wr := HO.out
    exact h.kx k6 HQ3.out
   have K6 := Lib.hid (KR.out.trans k6)
   have HS6 : Hid (wr.heap.size ≤ w6.heap.size) := k6.2.1
   clear r6 k6 HME
   go_wp2_with fail
   (with_reducible refine (HRX.out _ R6.out).mono ?_)
   rintro e7 w7 ⟨cx, rfl, f7, r7, k7⟩
   obtain ⟨ko, kn, kc, rfl⟩ := rx_form f7.at
   have hO7 := O6.out.kx k7 HQ3.out
   obtain ⟨cs, g0, g1, g2⟩ := hO7
   have hob : ∀ b, (Value.slice ao al cap).ownBlock = some b → b < w6.heap.size ∨ w7.heap.size ≤ b := by
    obtain ⟨_, _, _, g9⟩ := O6.out
    intro b hb
    exact Or.inl (own_lt g9 b hb).2
   have K7 : Hid (KX q W3 w7) := K6.out.trans k7
   have HS7 : Hid (W3.heap.size ≤ w7.heap.size) := K7.out.2.1
   have HS63 : Hid (W3.heap.size ≤ w6.heap.size) := K6.out.2.1
   rw [← HAL.out] at g2
   have G2 := Lib.hid g2
   have SN : Hid (∀ (v9 : Value) (w9 : World), w9.ownsRow W3.heap.size 27 8 v9 (al + 1) (cs.flatten ++ [.int .i64 x.k, .int .u64 x.cl.a, .int .u64 x.cl.b, .int .u64 x.cl.c, .int .u64 x.cl.d, .slice ko kn kc, .int .i64 x.mn, .int .i64 x.mx]) → (w7.alloc (.cells #[.int .i64 x.k, .int .u64 x.cl.a, .int .u64 x.cl.b, .int .u64 x.cl.c, .int .u64 x.cl.d, .slice ko kn kc, .int .i64 x.mn, .int .i64 x.mx] 27)).grownBy w9 (Value.slice ao al cap).ownBlock → (v9.ownBlock = (Value.slice ao al cap).ownBlock ∨ ∀ b, v9.ownBlock = some b → w7.heap.size + 1 ≤ b) → RxO W3.heap.size (d + 3) (acc ++ [x]) v9 w9 ∧ Below W3.heap.size w7 w9) := by
    intro v9 w9 hO9 hg9 hv9
    exact ⟨RxO.snoc g0 g1 HAL.out f7 rfl HS63.out hob hO9 hg9 (hv9.imp id (fun h b hb => by rw [World.size_alloc]; exact h b hb)), app_below G2.out HS7.out hg9⟩
   have R7 := Lib.hid r7
   have hkb : (al + 1) * 80 ≤ 140737488355328 := by omega
   clear f7 r7 k7 g0 g1 g2 hob
   go_wp2_with (at_builtin; refine kit.app1k w7.heap.size rfl (.tmp 9) (.tmp 12) 25 rfl rfl W3.heap.size Try.underlying25 infoRx rfl (by decide) (by decide) G2.out rfl rfl rfl (by simp [Value.oneCell']) hkb HS7.out ?_)
   intro v9 w9 hO9 hg9 hv9
   obtain ⟨ao9, cap9, rfl⟩ := own_slice hO9
   obtain ⟨o9, b9⟩ := SN.out _ w9 hO9 hg9 (by first | exact hv9 | simpa using hv9)
   have R9 : Hid (RdT q S dp t2 w9) := (b9.block q HQ3.out).trans R7.out
   have K9 : Hid (KX q W3 w9) := K7.out.low b9 rfl
   have O9 := Lib.hid o9
   have HP1 : Hid (pOf wr q = tt.p) := HR.out.pOf
   have HP2 : Hid (pOf w9 q = t2.p) := R9.out.pOf
   have HL9 : Hid (al + 1 = (acc ++ [x]).length) := by show _ = _; rw [List.length_append, List.length_singleton, HAL.out]
   clear hO9 hg9 hv9 o9 b9
   go_wp2
   go_roundw
   case rel =>
    refine ⟨f', t2, acc ++ [x], ao9, cap9, by rw [HL9.out], HST, hf2, ht2, HA2, R9, K9, ?_⟩
    rw [← HL9.out]; exact O9
   case measure =>
    have h5 := HP1.out
    have h6 := HP2.out
    simp only [h5, h6]
    omega
  ·
   have hm : rf.meets (kit.bytes S) 124 tt = (false, tt) := by unfold rf.meets; rw [if_neg hc]
   rw [hm] at HME
   have HFIN0 : rf.rowsL (kit.bytes S) O f tt acc = (acc, tt) := rf_rows_end hc
   have HE : Hid (acc = fl ∧ tt = ft) := by rw [HF.out] at HFIN0; simp only [Prod.mk.injEq] at HFIN0; exact ⟨HFIN0.1.symm, HFIN0.2.symm⟩
   clear HFIN0 hal hc hm
   go_wp2_with fail
   (with_reducible refine HME.out.mono ?_)
   rintro e6 w6 ⟨rfl, r6, k6⟩
   have R6 := Lib.hid r6
   have O6 : Hid (RxO W3.heap.size (d + 3) acc (.slice ao al cap) w6) := by
    have h : RxO W3.heap.size (d + 3) acc (.slice ao al cap) wr := HO.out
    exact h.kx k6 HQ3.out
   have K6 := Lib.hid (KW.out.trans k6)
   have HS6 : Hid (W3.heap.size ≤ w6.heap.size) := by have := HSW.out; have := k6.2.1; show _ ≤ _; omega
   have Z6 := Lib.hid ((k6.2.2 q1 (lt_of_block ZR.out) (by have := HQQ.out; omega)).trans ZR.out)
   clear r6 k6 HME HR KR KW HO ZR HSW
   have HR := R6
   have HO := O6
   have KW := K6
   have HSW := HS6
   have ZR := Z6
   have HGA := Lib.hid (rf_gather 4 W3.heap.size (d + 2) acc _ w6 HO.out HSW.out (by have := HSZ.out; omega))
   obtain ⟨gx, hgx⟩ : ∃ g, g = Pat.gather 4 acc := ⟨_, rfl⟩
   rw [← hgx] at HGA
   have HGX := Lib.hid hgx
   clear hgx
   go_wp2_with fail
   (with_reducible refine HGA.out.mono ?_)
   rintro eg wz ⟨cg, rfl, fg, bg⟩
   obtain ⟨ko, kn, kc, rfl⟩ := rx_form fg.at
   have R9 := Lib.hid (HR.out.next bg)
   have K9 := Lib.hid (KW.out.next bg)
   have ZZ := Lib.hid ((bg.block _ (lt_of_block ZR.out)).trans ZR.out)
   have FG := Lib.hid fg
   clear fg bg
   go_wp2_with ((with_reducible show wpList _ _ _ (Oper.mk _ (Op.store 27 (.tmp 2) _) _ _ _ _ :: _) _ _); refine wpList_store_row rfl 27 (.tmp 2) _ rfl (q1) #[.int .i64 gx.k, .int .u64 gx.cl.a, .int .u64 gx.cl.b, .int .u64 gx.cl.c, .int .u64 gx.cl.d, .slice ko kn kc, .int .i64 gx.mn, .int .i64 gx.mx] rfl rfl 27 #[.int .i64 0, .int .u64 0, .int .u64 0, .int .u64 0, .int .u64 0, .slice none 0 0, .int .i64 0, .int .i64 0] ZZ.out rsize rfl (by simp [Value.oneCell']) ?_)
   have cc := setRow_heap _ q1 _ #[.int .i64 gx.k, .int .u64 gx.cl.a, .int .u64 gx.cl.b, .int .u64 gx.cl.c, .int .u64 gx.cl.d, .slice ko kn kc, .int .i64 gx.mn, .int .i64 gx.mx] _ _ ZZ.out
   have rr : RdT q S dp tt (World.setRow wz q1 #[.int .i64 gx.k, .int .u64 gx.cl.a, .int .u64 gx.cl.b, .int .u64 gx.cl.c, .int .u64 gx.cl.d, .slice ko kn kc, .int .i64 gx.mn, .int .i64 gx.mx]) := R9.out.keep KX.row (by have := HQQ.out; omega)
   have kk : KX q w (World.setRow wz q1 #[.int .i64 gx.k, .int .u64 gx.cl.a, .int .u64 gx.cl.b, .int .u64 gx.cl.c, .int .u64 gx.cl.d, .slice ko kn kc, .int .i64 gx.mn, .int .i64 gx.mx]) := K9.out.trans' KX.row (by have := HQ1.out; omega)
   have ff : Fre w.heap.size (World.setRow wz q1 #[.int .i64 gx.k, .int .u64 gx.cl.a, .int .u64 gx.cl.b, .int .u64 gx.cl.c, .int .u64 gx.cl.d, .slice ko kn kc, .int .i64 gx.mn, .int .i64 gx.mx]) (fun W => rxR (d + 4) W W.heap.size [.int .i64 gx.k, .int .u64 gx.cl.a, .int .u64 gx.cl.b, .int .u64 gx.cl.c, .int .u64 gx.cl.d, .slice ko kn kc, .int .i64 gx.mn, .int .i64 gx.mx] gx) := FreA.low (Fre.kx FG.out KX.row H13.out) HB3.out
   obtain ⟨w9, h9⟩ : ∃ W, W = World.setRow wz q1 #[.int .i64 gx.k, .int .u64 gx.cl.a, .int .u64 gx.cl.b, .int .u64 gx.cl.c, .int .u64 gx.cl.d, .slice ko kn kc, .int .i64 gx.mn, .int .i64 gx.mx] := ⟨_, rfl⟩
   rw [← h9] at cc rr kk ff ⊢
   clear h9
   have k0 := boxc cc 0 _ rfl
   have k1 := boxc cc 1 _ rfl
   have k2 := boxc cc 2 _ rfl
   have k3 := boxc cc 3 _ rfl
   have k4 := boxc cc 4 _ rfl
   have k5 := boxc cc 5 _ rfl
   have k6 := boxc cc 6 _ rfl
   have k7 := boxc cc 7 _ rfl
   refine bodyPost_ret (v := .agg #[.int .i64 gx.k, .int .u64 gx.cl.a, .int .u64 gx.cl.b, .int .u64 gx.cl.c, .int .u64 gx.cl.d, .slice ko kn kc, .int .i64 gx.mn, .int .i64 gx.mx]) (by simp [results, Try.results54, go_sem, k0, k1, k2, k3, k4, k5, k6, k7]) rfl ?_
   refine ⟨[.int .i64 gx.k, .int .u64 gx.cl.a, .int .u64 gx.cl.b, .int .u64 gx.cl.c, .int .u64 gx.cl.d, .slice ko kn kc, .int .i64 gx.mn, .int .i64 gx.mx], rfl, ?_, ?_⟩
   ·
    rw [← HE.out.1, ← HGX.out]; exact ff
   ·
    rw [← HE.out.2]; exact ⟨rr, kk⟩
end Go.Proofs.Ytmfgplbfojnkdaa
