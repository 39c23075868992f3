/- the reader: row, rows: of bytes that are no signs of groups, classes, escapes and bounds. -/
import Derived.Test.YtbccejlemhgioaaRxGat
import Derived.Test.YtbccejlemhgioaaRxLem
namespace Go.Proofs.Ytbccejlemhgioaa
open Go Go.RowKit Go.ChangeShapes cl rx
def pOf (w : World) (q : Nat) : Nat := match w.cell? ⟨q, 1, none⟩ with | some (.int _ z) => z.toNat | _ => 0
theorem Rd.pOf {q : Nat} {S : ByteArray} {t : St} {w : World} (h : Rd q S t w) : pOf w q = t.p := by
  unfold Proofs.Ytbccejlemhgioaa.pOf
  rw [boxc h 1 _ rfl]; simp
theorem RxO.snoc {B B2 d n : Nat} {L : List Pat} {v v' : Value} {W W' : World} {c : List Value} {x : Pat} {o : Obj} {cs : List (List Value)} (h0 : cs.length = L.length) (h1 : ∀ (j : Nat) (c : List Value) (x : Pat), cs[j]? = some c → L[j]? = some x → FreA B v.ownBlock W (fun W => c.length = 8 ∧ rxR d W W.heap.size c x)) (hn : n = L.length)
    (hx : Fre B2 W (fun W => rxR d W W.heap.size c x)) (h8 : c.length = 8) (hB2 : B ≤ B2) (hb : ∀ b, v.ownBlock = some b → b < B2 ∨ W.heap.size ≤ b)
    (hO : W'.ownsRow B 28 8 v' (n + 1) (cs.flatten ++ c)) (hg : (W.alloc o).grownBy W' v.ownBlock) (hv : v'.ownBlock = v.ownBlock ∨ ∀ b, v'.ownBlock = some b → (W.alloc o).heap.size ≤ b) : RxO B d (L ++ [x]) v' W' := by
  refine ⟨cs ++ [c], by simp [h0], snoc_fre (Q := fun c x => FreA B v'.ownBlock W' (fun W => c.length = 8 ∧ rxR d W W.heap.size c x)) h0 (fun j c x hc hx => ((h1 j c x hc hx).next below1).grown hg hv) (FreA.grown (FreA.next (FreA.imp (FreA.low (FreA.off hx hb) hB2) (fun V h => ⟨h8, h⟩)) below1) hg hv), ?_⟩
  rw [List.flatten_append, List.length_append, ← hn]
  simpa using hO
theorem KX.low {B q : Nat} {W W' W2 : World} (h : KX q W W') (hb : Below B W' W2) (hB : B = W.heap.size) : KX q W W2 := by
  subst hB
  exact ⟨⟨hb.os.trans h.1.1, hb.tape.trans h.1.2.1, hb.output.trans h.1.2.2⟩, Nat.le_trans h.2.1 hb.size, fun j hj hq => (hb.block j hj).trans (h.2.2 j hj hq)⟩
theorem RxO.up {B d : Nat} {L : List Pat} {v : Value} {W : World} (h : RxO B d L v W) : RxO B (d + 1) L v W := by
  obtain ⟨cs, h0, h1, h2⟩ := h
  exact ⟨cs, h0, fun j c x hc hx => (h1 j c x hc hx).imp (fun W h => ⟨h.1, rxR_up _ _ _ _ _ h.2⟩), h2⟩
set_option maxHeartbeats 12800000 in
set_option maxRecDepth 100000 in
theorem rx_row (q : Nat) (S : ByteArray) (t : St) (w : World) (h : Rd q S t w) (hS : S.size ≤ 60) (hp : t.p ≤ S.size) (hpl : ∀ c ∈ kit.bytes S, plainC c) : Calls Try.prog 26 #[.pointer (some ⟨q, 0, none⟩)] w (RxA 3 q S (rx.row (kit.bytes S) (onceS (kit.bytes S) spB) t) w) := by
  have hlen : (kit.bytes S).length = S.size := by simp [kit.bytes]
  obtain ⟨q1, hq1⟩ : ∃ q1, q1 = w.heap.size := ⟨_, rfl⟩
  have hqq : q < q1 := by rw [hq1]; exact lt_of_block h
  obtain ⟨W3, hW3⟩ : ∃ W, W = w.alloc (.cells #[.int .i64 0, .int .u64 0, .int .u64 0, .int .u64 0, .int .u64 0, .slice none 0 0, .int .i64 0, .int .i64 0] 28) := ⟨_, rfl⟩
  have b3 : Below w.heap.size w W3 := by rw [hW3]; exact below1
  have R3 := Lib.hid (h.next b3)
  have K3 := Lib.hid (KX.of (q := q) b3)
  have Z3 : Hid (W3.heap[q1]? = some (.cells #[.int .i64 0, .int .u64 0, .int .u64 0, .int .u64 0, .int .u64 0, .slice none 0 0, .int .i64 0, .int .i64 0] 28)) := by show _ = _; rw [hW3, hq1]; exact heap_alloc_new _ _
  have HW3 := Lib.hid hW3
  have HQ1 := Lib.hid hq1
  have HQQ := Lib.hid hqq
  have HQ3 : Hid (q < W3.heap.size) := lt_of_block R3.out
  have H13 : Hid (q1 < W3.heap.size) := lt_of_block Z3.out
  have HB3 : Hid (w.heap.size ≤ W3.heap.size) := b3.size
  have HLEN := Lib.hid hlen
  unfold rx.row
  obtain ⟨fl, ft, hfin⟩ : ∃ fl ft, parts (kit.bytes S) (onceS (kit.bytes S) spB) ((kit.bytes S).length + 1) t [] = (fl, ft) := ⟨_, _, rfl⟩
  rw [hfin]
  simp only
  have HFS := Lib.hid hfin
  have HNX := Lib.hid (rx_next q S t W3 R3.out hS)
  have HPL := Lib.hid hpl
  clear h hq1 hqq hW3 b3 hlen hfin hpl
  go_enter Try.func26, Try.ntmps26
  go_wp2_with fail
  rw [← HW3.out, ← HQ1.out]
  (with_reducible refine HNX.out.mono ?_)
  rintro e4 w4 ⟨rfl, b4⟩
  have R4 := Lib.hid (R3.out.next b4)
  have K4 := Lib.hid (KX.of (q := q) b4)
  clear b4
  go_wp2
  go_loopw [3, 4, 5] (fun v c o wr => ∃ (f : Nat) (tt : St) (acc : List Pat) (ao : Option Addr) (cap : Nat), v = .slice ao acc.length cap ∧ c = .int .u8 (((nxt (kit.bytes S) tt).getD 0 : Nat) : Int) ∧ o = .bool (nxt (kit.bytes S) tt).isSome ∧ Hid (parts (kit.bytes S) (onceS (kit.bytes S) spB) f tt acc = (fl, ft)) ∧ S.size < tt.p + f ∧ acc.length ≤ tt.p ∧ tt.p ≤ S.size ∧ Hid (PK acc) ∧ Hid (Rd q S tt wr) ∧ Hid (KX q W3 wr) ∧ Hid (RxO W3.heap.size 2 acc (.slice ao acc.length cap) wr)) (fun _ _ _ wr => S.size + 1 - pOf wr q)
  case atStart => exact ⟨(kit.bytes S).length + 1, t, [], none, 0, rfl, rfl, rfl, HFS.out, by have := HLEN.out; omega, Nat.zero_le _, hp, fun x hx => by simp at hx, R4.out, K4.out, RxO.nil⟩
  case round =>
    obtain ⟨f, tt, acc, ao, cap, rfl, rfl, rfl, HF, hf, hacc, htp, HK, HR, KR, HO⟩ := hrel
    have KW : Hid (KX q w wr) := K3.out.trans KR.out
    have HSW : Hid (W3.heap.size ≤ wr.heap.size) := KR.out.2.1
    have ZR := Lib.hid ((KR.out.2.2 q1 H13.out (by have := HQQ.out; omega)).trans Z3.out)
    obtain ⟨al, hal⟩ : ∃ n, n = acc.length := ⟨_, rfl⟩
    rw [← hal] at HO ⊢
    have HAL := Lib.hid hal
    have hacc' : al ≤ 60 := by omega
    obtain ⟨o, ho⟩ : ∃ o, o = nxt (kit.bytes S) tt := ⟨_, rfl⟩
    rw [← ho]
    have HNO := Lib.hid ho
    cases o with
    | none =>
      have HFIN0 : parts (kit.bytes S) (onceS (kit.bytes S) spB) f tt acc = (acc, tt) := parts_end (Or.inl ho.symm)
      have HE : Hid (acc = fl ∧ tt = ft) := by rw [HF.out] at HFIN0; simp only [Prod.mk.injEq] at HFIN0; exact ⟨HFIN0.1.symm, HFIN0.2.symm⟩
      clear HFIN0 ho hal
      simp only [Option.getD_none, Option.isSome_none]
      have HGA := Lib.hid (rx_gather 3 W3.heap.size 2 acc _ wr HO.out HSW.out (fun x hx => by have := HK.out x hx; omega) (by have := hacc; omega))
      obtain ⟨gx, hgx⟩ : ∃ g, g = Pat.gather 3 acc := ⟨_, rfl⟩
      rw [← hgx] at HGA
      have HGX := Lib.hid hgx
      clear hgx
      go_wp2_with fail
      (with_reducible refine HGA.out.mono ?_)
      rintro eg wz ⟨cg, rfl, fg, bg⟩
      obtain ⟨ko, kn, kc, rfl⟩ := rx_form fg.at
      have R9 := Lib.hid (HR.out.next bg)
      have K9 := Lib.hid (KW.out.next bg)
      have ZZ := Lib.hid ((bg.block _ (lt_of_block ZR.out)).trans ZR.out)
      have FG := Lib.hid fg
      clear fg bg
      go_wp2_with ((with_reducible show wpList _ _ _ (Oper.mk _ (Op.store 28 (.tmp 2) _) _ _ _ _ :: _) _ _); refine wpList_store_row rfl 28 (.tmp 2) _ rfl (q1) #[.int .i64 gx.k, .int .u64 gx.cl.a, .int .u64 gx.cl.b, .int .u64 gx.cl.c, .int .u64 gx.cl.d, .slice ko kn kc, .int .i64 gx.mn, .int .i64 gx.mx] rfl rfl 28 #[.int .i64 0, .int .u64 0, .int .u64 0, .int .u64 0, .int .u64 0, .slice none 0 0, .int .i64 0, .int .i64 0] ZZ.out rsize rfl (by simp [Value.oneCell']) ?_)
      have cc := setRow_heap _ q1 _ #[.int .i64 gx.k, .int .u64 gx.cl.a, .int .u64 gx.cl.b, .int .u64 gx.cl.c, .int .u64 gx.cl.d, .slice ko kn kc, .int .i64 gx.mn, .int .i64 gx.mx] _ _ ZZ.out
      have rr : Rd q S tt (World.setRow wz q1 #[.int .i64 gx.k, .int .u64 gx.cl.a, .int .u64 gx.cl.b, .int .u64 gx.cl.c, .int .u64 gx.cl.d, .slice ko kn kc, .int .i64 gx.mn, .int .i64 gx.mx]) := R9.out.keep KX.row (by have := HQQ.out; omega)
      have kk : KX q w (World.setRow wz q1 #[.int .i64 gx.k, .int .u64 gx.cl.a, .int .u64 gx.cl.b, .int .u64 gx.cl.c, .int .u64 gx.cl.d, .slice ko kn kc, .int .i64 gx.mn, .int .i64 gx.mx]) := K9.out.trans' KX.row (by have := HQ1.out; omega)
      have ff : Fre w.heap.size (World.setRow wz q1 #[.int .i64 gx.k, .int .u64 gx.cl.a, .int .u64 gx.cl.b, .int .u64 gx.cl.c, .int .u64 gx.cl.d, .slice ko kn kc, .int .i64 gx.mn, .int .i64 gx.mx]) (fun W => rxR 3 W W.heap.size [.int .i64 gx.k, .int .u64 gx.cl.a, .int .u64 gx.cl.b, .int .u64 gx.cl.c, .int .u64 gx.cl.d, .slice ko kn kc, .int .i64 gx.mn, .int .i64 gx.mx] gx) := FreA.low (Fre.kx FG.out KX.row H13.out) HB3.out
      obtain ⟨w9, h9⟩ : ∃ W, W = World.setRow wz q1 #[.int .i64 gx.k, .int .u64 gx.cl.a, .int .u64 gx.cl.b, .int .u64 gx.cl.c, .int .u64 gx.cl.d, .slice ko kn kc, .int .i64 gx.mn, .int .i64 gx.mx] := ⟨_, rfl⟩
      rw [← h9] at cc rr kk ff ⊢
      clear h9
      have k0 := boxc cc 0 _ rfl
      have k1 := boxc cc 1 _ rfl
      have k2 := boxc cc 2 _ rfl
      have k3 := boxc cc 3 _ rfl
      have k4 := boxc cc 4 _ rfl
      have k5 := boxc cc 5 _ rfl
      have k6 := boxc cc 6 _ rfl
      have k7 := boxc cc 7 _ rfl
      refine bodyPost_ret (v := .agg #[.int .i64 gx.k, .int .u64 gx.cl.a, .int .u64 gx.cl.b, .int .u64 gx.cl.c, .int .u64 gx.cl.d, .slice ko kn kc, .int .i64 gx.mn, .int .i64 gx.mx]) (by simp [results, Try.results26, go_sem, k0, k1, k2, k3, k4, k5, k6, k7]) rfl ?_
      refine ⟨[.int .i64 gx.k, .int .u64 gx.cl.a, .int .u64 gx.cl.b, .int .u64 gx.cl.c, .int .u64 gx.cl.d, .slice ko kn kc, .int .i64 gx.mn, .int .i64 gx.mx], rfl, ?_, ?_⟩
      · rw [← HE.out.1, ← HGX.out]; exact ff
      · rw [← HE.out.2]; exact ⟨rr, kk⟩
    | some c =>
      obtain ⟨_, _, hc256⟩ := nxt_lt ho.symm
      simp only [Option.getD_some, Option.isSome_some]
      by_cases hce : c = 124 ∨ c = 41
      · have HFIN0 : parts (kit.bytes S) (onceS (kit.bytes S) spB) f tt acc = (acc, tt) := parts_end (by rcases hce with e | e <;> rw [← ho, e] <;> simp)
        have HE : Hid (acc = fl ∧ tt = ft) := by rw [HF.out] at HFIN0; simp only [Prod.mk.injEq] at HFIN0; exact ⟨HFIN0.1.symm, HFIN0.2.symm⟩
        by_cases h1 : c = 124
        · have e1 : ((c : Int) == 124) = true := by simp [h1]
          have e1n : (c : Int) = 124 := by omega
          clear HFIN0 ho hal hce h1 e1
          have HGA := Lib.hid (rx_gather 3 W3.heap.size 2 acc _ wr HO.out HSW.out (fun x hx => by have := HK.out x hx; omega) (by have := hacc; omega))
          obtain ⟨gx, hgx⟩ : ∃ g, g = Pat.gather 3 acc := ⟨_, rfl⟩
          rw [← hgx] at HGA
          have HGX := Lib.hid hgx
          clear hgx
          go_wp2_with fail
          (with_reducible refine HGA.out.mono ?_)
          rintro eg wz ⟨cg, rfl, fg, bg⟩
          obtain ⟨ko, kn, kc, rfl⟩ := rx_form fg.at
          have R9 := Lib.hid (HR.out.next bg)
          have K9 := Lib.hid (KW.out.next bg)
          have ZZ := Lib.hid ((bg.block _ (lt_of_block ZR.out)).trans ZR.out)
          have FG := Lib.hid fg
          clear fg bg
          go_wp2_with ((with_reducible show wpList _ _ _ (Oper.mk _ (Op.store 28 (.tmp 2) _) _ _ _ _ :: _) _ _); refine wpList_store_row rfl 28 (.tmp 2) _ rfl (q1) #[.int .i64 gx.k, .int .u64 gx.cl.a, .int .u64 gx.cl.b, .int .u64 gx.cl.c, .int .u64 gx.cl.d, .slice ko kn kc, .int .i64 gx.mn, .int .i64 gx.mx] rfl rfl 28 #[.int .i64 0, .int .u64 0, .int .u64 0, .int .u64 0, .int .u64 0, .slice none 0 0, .int .i64 0, .int .i64 0] ZZ.out rsize rfl (by simp [Value.oneCell']) ?_)
          have cc := setRow_heap _ q1 _ #[.int .i64 gx.k, .int .u64 gx.cl.a, .int .u64 gx.cl.b, .int .u64 gx.cl.c, .int .u64 gx.cl.d, .slice ko kn kc, .int .i64 gx.mn, .int .i64 gx.mx] _ _ ZZ.out
          have rr : Rd q S tt (World.setRow wz q1 #[.int .i64 gx.k, .int .u64 gx.cl.a, .int .u64 gx.cl.b, .int .u64 gx.cl.c, .int .u64 gx.cl.d, .slice ko kn kc, .int .i64 gx.mn, .int .i64 gx.mx]) := R9.out.keep KX.row (by have := HQQ.out; omega)
          have kk : KX q w (World.setRow wz q1 #[.int .i64 gx.k, .int .u64 gx.cl.a, .int .u64 gx.cl.b, .int .u64 gx.cl.c, .int .u64 gx.cl.d, .slice ko kn kc, .int .i64 gx.mn, .int .i64 gx.mx]) := K9.out.trans' KX.row (by have := HQ1.out; omega)
          have ff : Fre w.heap.size (World.setRow wz q1 #[.int .i64 gx.k, .int .u64 gx.cl.a, .int .u64 gx.cl.b, .int .u64 gx.cl.c, .int .u64 gx.cl.d, .slice ko kn kc, .int .i64 gx.mn, .int .i64 gx.mx]) (fun W => rxR 3 W W.heap.size [.int .i64 gx.k, .int .u64 gx.cl.a, .int .u64 gx.cl.b, .int .u64 gx.cl.c, .int .u64 gx.cl.d, .slice ko kn kc, .int .i64 gx.mn, .int .i64 gx.mx] gx) := FreA.low (Fre.kx FG.out KX.row H13.out) HB3.out
          obtain ⟨w9, h9⟩ : ∃ W, W = World.setRow wz q1 #[.int .i64 gx.k, .int .u64 gx.cl.a, .int .u64 gx.cl.b, .int .u64 gx.cl.c, .int .u64 gx.cl.d, .slice ko kn kc, .int .i64 gx.mn, .int .i64 gx.mx] := ⟨_, rfl⟩
          rw [← h9] at cc rr kk ff ⊢
          clear h9
          have k0 := boxc cc 0 _ rfl
          have k1 := boxc cc 1 _ rfl
          have k2 := boxc cc 2 _ rfl
          have k3 := boxc cc 3 _ rfl
          have k4 := boxc cc 4 _ rfl
          have k5 := boxc cc 5 _ rfl
          have k6 := boxc cc 6 _ rfl
          have k7 := boxc cc 7 _ rfl
          refine bodyPost_ret (v := .agg #[.int .i64 gx.k, .int .u64 gx.cl.a, .int .u64 gx.cl.b, .int .u64 gx.cl.c, .int .u64 gx.cl.d, .slice ko kn kc, .int .i64 gx.mn, .int .i64 gx.mx]) (by simp [results, Try.results26, go_sem, k0, k1, k2, k3, k4, k5, k6, k7]) rfl ?_
          refine ⟨[.int .i64 gx.k, .int .u64 gx.cl.a, .int .u64 gx.cl.b, .int .u64 gx.cl.c, .int .u64 gx.cl.d, .slice ko kn kc, .int .i64 gx.mn, .int .i64 gx.mx], rfl, ?_, ?_⟩
          · rw [← HE.out.1, ← HGX.out]; exact ff
          · rw [← HE.out.2]; exact ⟨rr, kk⟩
        · have h2 : c = 41 := by omega
          have e1n : ¬ (c : Int) = 124 := by omega
          have e2n : (c : Int) = 41 := by omega
          clear HFIN0 ho hal hce h1 h2
          have HGA := Lib.hid (rx_gather 3 W3.heap.size 2 acc _ wr HO.out HSW.out (fun x hx => by have := HK.out x hx; omega) (by have := hacc; omega))
          obtain ⟨gx, hgx⟩ : ∃ g, g = Pat.gather 3 acc := ⟨_, rfl⟩
          rw [← hgx] at HGA
          have HGX := Lib.hid hgx
          clear hgx
          go_wp2_with fail
          (with_reducible refine HGA.out.mono ?_)
          rintro eg wz ⟨cg, rfl, fg, bg⟩
          obtain ⟨ko, kn, kc, rfl⟩ := rx_form fg.at
          have R9 := Lib.hid (HR.out.next bg)
          have K9 := Lib.hid (KW.out.next bg)
          have ZZ := Lib.hid ((bg.block _ (lt_of_block ZR.out)).trans ZR.out)
          have FG := Lib.hid fg
          clear fg bg
          go_wp2_with ((with_reducible show wpList _ _ _ (Oper.mk _ (Op.store 28 (.tmp 2) _) _ _ _ _ :: _) _ _); refine wpList_store_row rfl 28 (.tmp 2) _ rfl (q1) #[.int .i64 gx.k, .int .u64 gx.cl.a, .int .u64 gx.cl.b, .int .u64 gx.cl.c, .int .u64 gx.cl.d, .slice ko kn kc, .int .i64 gx.mn, .int .i64 gx.mx] rfl rfl 28 #[.int .i64 0, .int .u64 0, .int .u64 0, .int .u64 0, .int .u64 0, .slice none 0 0, .int .i64 0, .int .i64 0] ZZ.out rsize rfl (by simp [Value.oneCell']) ?_)
          have cc := setRow_heap _ q1 _ #[.int .i64 gx.k, .int .u64 gx.cl.a, .int .u64 gx.cl.b, .int .u64 gx.cl.c, .int .u64 gx.cl.d, .slice ko kn kc, .int .i64 gx.mn, .int .i64 gx.mx] _ _ ZZ.out
          have rr : Rd q S tt (World.setRow wz q1 #[.int .i64 gx.k, .int .u64 gx.cl.a, .int .u64 gx.cl.b, .int .u64 gx.cl.c, .int .u64 gx.cl.d, .slice ko kn kc, .int .i64 gx.mn, .int .i64 gx.mx]) := R9.out.keep KX.row (by have := HQQ.out; omega)
          have kk : KX q w (World.setRow wz q1 #[.int .i64 gx.k, .int .u64 gx.cl.a, .int .u64 gx.cl.b, .int .u64 gx.cl.c, .int .u64 gx.cl.d, .slice ko kn kc, .int .i64 gx.mn, .int .i64 gx.mx]) := K9.out.trans' KX.row (by have := HQ1.out; omega)
          have ff : Fre w.heap.size (World.setRow wz q1 #[.int .i64 gx.k, .int .u64 gx.cl.a, .int .u64 gx.cl.b, .int .u64 gx.cl.c, .int .u64 gx.cl.d, .slice ko kn kc, .int .i64 gx.mn, .int .i64 gx.mx]) (fun W => rxR 3 W W.heap.size [.int .i64 gx.k, .int .u64 gx.cl.a, .int .u64 gx.cl.b, .int .u64 gx.cl.c, .int .u64 gx.cl.d, .slice ko kn kc, .int .i64 gx.mn, .int .i64 gx.mx] gx) := FreA.low (Fre.kx FG.out KX.row H13.out) HB3.out
          obtain ⟨w9, h9⟩ : ∃ W, W = World.setRow wz q1 #[.int .i64 gx.k, .int .u64 gx.cl.a, .int .u64 gx.cl.b, .int .u64 gx.cl.c, .int .u64 gx.cl.d, .slice ko kn kc, .int .i64 gx.mn, .int .i64 gx.mx] := ⟨_, rfl⟩
          rw [← h9] at cc rr kk ff ⊢
          clear h9
          have k0 := boxc cc 0 _ rfl
          have k1 := boxc cc 1 _ rfl
          have k2 := boxc cc 2 _ rfl
          have k3 := boxc cc 3 _ rfl
          have k4 := boxc cc 4 _ rfl
          have k5 := boxc cc 5 _ rfl
          have k6 := boxc cc 6 _ rfl
          have k7 := boxc cc 7 _ rfl
          refine bodyPost_ret (v := .agg #[.int .i64 gx.k, .int .u64 gx.cl.a, .int .u64 gx.cl.b, .int .u64 gx.cl.c, .int .u64 gx.cl.d, .slice ko kn kc, .int .i64 gx.mn, .int .i64 gx.mx]) (by simp [results, Try.results26, go_sem, k0, k1, k2, k3, k4, k5, k6, k7]) rfl ?_
          refine ⟨[.int .i64 gx.k, .int .u64 gx.cl.a, .int .u64 gx.cl.b, .int .u64 gx.cl.c, .int .u64 gx.cl.d, .slice ko kn kc, .int .i64 gx.mn, .int .i64 gx.mx], rfl, ?_, ?_⟩
          · rw [← HE.out.1, ← HGX.out]; exact ff
          · rw [← HE.out.2]; exact ⟨rr, kk⟩
      · have h1 : ¬ c = 124 := fun e => hce (Or.inl e)
        have h2 : ¬ c = 41 := fun e => hce (Or.inr e)
        obtain ⟨f', hst, hf'⟩ := parts_step (sp := spB) (f := f) (l := acc) ho.symm h1 h2 (by have := HLEN.out; omega)
        rw [HF.out] at hst
        have hpl2 := nxt_len ho.symm
        have hpp := part_p (s := kit.bytes S) (sp := spB) hpl2
        have hpk := part_k (s := kit.bytes S) (sp := spB) (t := tt)
        have HPA := Lib.hid (rx_part q S tt wr HR.out hS (by have := HLEN.out; omega) HPL.out)
        obtain ⟨x, t2, hr⟩ : ∃ x t2, rx.part (kit.bytes S) (onceS (kit.bytes S) spB) tt = (x, t2) := ⟨_, _, rfl⟩
        rw [hr] at HPA hst hf' hpp hpk
        simp only at hst hf' hpp hpk
        have HST := Lib.hid hst.symm
        have hx1 : ¬ x.k = 1 := by omega
        have hx1b : (x.k == 1) = false := beq_eq_false_iff_ne.2 hx1
        have i1 : ¬ (c : Int) = 124 := by omega
        have i2 : ¬ (c : Int) = 41 := by omega
        have ib1 : ((c : Int) == 124) = false := beq_eq_false_iff_ne.2 i1
        have ib2 : ((c : Int) == 41) = false := beq_eq_false_iff_ne.2 i2
        have nb1 : ((c : Int) != 124) = true := by rw [bne, ib1]; rfl
        have nb2 : ((c : Int) != 41) = true := by rw [bne, ib2]; rfl
        have HPK : Hid (PK (acc ++ [x])) := by
          intro y hy
          rcases List.mem_append.1 hy with hy | hy
          · exact HK.out y hy
          · rw [List.mem_singleton.1 hy]; exact hpk
        obtain ⟨hp1, hp2⟩ := hpp
        have hl60 := HLEN.out
        have ht2 : t2.p ≤ S.size := by omega
        have hf2 : S.size < t2.p + f' := by omega
        have hacc2 : (acc ++ [x]).length ≤ t2.p := by rw [List.length_append, List.length_singleton]; omega
        have hlt : tt.p < t2.p := hp1
        have HA2 := Lib.hid hacc2
        clear ho hal hce hst hf' hpl2 hp1 hp2 hl60 hr hpk hacc2
        go_wp2_with fail
        (with_reducible refine HPA.out.mono ?_)
        rintro e5 w5 ⟨cx, rfl, f5, r5, k5⟩
        obtain ⟨ko, kn, kc, rfl⟩ := rx_form f5.at
        obtain ⟨W6, hW6⟩ : ∃ W, W = w5.alloc (.cells #[.int .i64 x.k, .int .u64 x.cl.a, .int .u64 x.cl.b, .int .u64 x.cl.c, .int .u64 x.cl.d, .slice ko kn kc, .int .i64 x.mn, .int .i64 x.mx] 28) := ⟨_, rfl⟩
        have b6 : Below w5.heap.size w5 W6 := by rw [hW6]; exact below1
        have x6 : W6.heap[w5.heap.size]? = some (.cells #[.int .i64 x.k, .int .u64 x.cl.a, .int .u64 x.cl.b, .int .u64 x.cl.c, .int .u64 x.cl.d, .slice ko kn kc, .int .i64 x.mn, .int .i64 x.mx] 28) := by rw [hW6]; exact heap_alloc_new _ _
        have r6 := r5.next b6
        have hO5 : RxO W3.heap.size 2 acc (.slice ao al cap) wr := HO.out
        have hO6 := (hO5.kx k5 HQ3.out).next b6
        have f6 := FreA.next f5 b6
        obtain ⟨cs, g0, g1, g2⟩ := hO6
        have S6 : Hid (w5.heap.size + 1 = W6.heap.size) := by show _ = _; rw [hW6, World.size_alloc]
        have K6 : Hid (KX q W3 W6) := KR.out.trans (k5.next b6)
        have HS6 : Hid (W3.heap.size ≤ W6.heap.size) := K6.out.2.1
        have hwr6 : wr.heap.size ≤ W6.heap.size := Nat.le_trans k5.2.1 b6.size
        have hob : ∀ b, (Value.slice ao al cap).ownBlock = some b → b < wr.heap.size ∨ W6.heap.size ≤ b := by
          obtain ⟨_, _, _, g9⟩ := hO5
          intro b hb
          exact Or.inl (own_lt g9 b hb).2
        rw [← HAL.out] at g2
        have G2 := Lib.hid g2
        have SN : Hid (∀ (v9 : Value) (w9 : World), w9.ownsRow W3.heap.size 28 8 v9 (al + 1) (cs.flatten ++ [.int .i64 x.k, .int .u64 x.cl.a, .int .u64 x.cl.b, .int .u64 x.cl.c, .int .u64 x.cl.d, .slice ko kn kc, .int .i64 x.mn, .int .i64 x.mx]) → (W6.alloc (.cells #[.int .i64 x.k, .int .u64 x.cl.a, .int .u64 x.cl.b, .int .u64 x.cl.c, .int .u64 x.cl.d, .slice ko kn kc, .int .i64 x.mn, .int .i64 x.mx] 28)).grownBy w9 (Value.slice ao al cap).ownBlock → (v9.ownBlock = (Value.slice ao al cap).ownBlock ∨ ∀ b, v9.ownBlock = some b → W6.heap.size + 1 ≤ b) → RxO W3.heap.size 2 (acc ++ [x]) v9 w9 ∧ Below W3.heap.size W6 w9) := by
          intro v9 w9 hO9 hg9 hv9
          exact ⟨RxO.snoc g0 g1 HAL.out f6 rfl HSW.out hob hO9 hg9 (hv9.imp id (fun h b hb => by rw [World.size_alloc]; exact h b hb)), app_below G2.out HS6.out hg9⟩
        have R6 := Lib.hid r6
        have HW6 := Lib.hid hW6
        have hkb : (al + 1) * 80 ≤ 140737488355328 := by omega
        have y0 := boxc x6 0 _ rfl
        have y1 := boxc x6 1 _ rfl
        have y2 := boxc x6 2 _ rfl
        have y3 := boxc x6 3 _ rfl
        have y4 := boxc x6 4 _ rfl
        have y5 := boxc x6 5 _ rfl
        have y6 := boxc x6 6 _ rfl
        have y7 := boxc x6 7 _ rfl
        rw [hW6] at y0 y1 y2 y3 y4 y5 y6 y7
        clear f5 r5 k5 hW6 b6 x6 r6 hO5 f6 g0 g1 g2 hwr6 hob
        go_wp2_with (at_builtin; rw [← HW6.out]; refine kit.app1k (w5.heap.size + 1) S6.out (.tmp 31) (.tmp 33) 26 rfl rfl W3.heap.size Try.underlying26 infoRx rfl (by decide) (by decide) G2.out rfl rfl rfl (by simp [Value.oneCell']) hkb HS6.out ?_)
        intro v9 w9 hO9 hg9 hv9
        obtain ⟨ao9, cap9, rfl⟩ := own_slice hO9
        obtain ⟨o9, b9⟩ := SN.out _ w9 hO9 hg9 (by first | exact hv9 | simpa using hv9)
        have R9 : Hid (Rd q S t2 w9) := (b9.block q HQ3.out).trans R6.out
        have K9 : Hid (KX q W3 w9) := K6.out.low b9 rfl
        have O9 := Lib.hid o9
        have HN9 := Lib.hid (rx_next q S t2 w9 R9.out hS)
        clear hO9 hg9 hv9 o9 b9 y0 y1 y2 y3 y4 y5 y6 y7
        go_wp2_with fail
        (with_reducible refine HN9.out.mono ?_)
        rintro e7 w7 ⟨rfl, b7⟩
        have R7 := Lib.hid (R9.out.next b7)
        have K7 := Lib.hid (K9.out.next b7)
        have O7 := Lib.hid (O9.out.next b7)
        have HP1 : Hid (pOf wr q = tt.p) := HR.out.pOf
        have HP2 : Hid (pOf w7 q = t2.p) := R7.out.pOf
        have HL9 : Hid (al + 1 = (acc ++ [x]).length) := by show _ = _; rw [List.length_append, List.length_singleton, HAL.out]
        clear b7 HN9
        go_wp2
        go_roundw
        case rel =>
          refine ⟨f', t2, acc ++ [x], ao9, cap9, by rw [HL9.out], rfl, rfl, HST, hf2, HA2.out, ht2, HPK, R7, K7, ?_⟩
          rw [← HL9.out]; exact O7
        case measure =>
          have h5 := HP1.out
          have h6 := HP2.out
          simp only [h5, h6]
          omega
end Go.Proofs.Ytbccejlemhgioaa
