/- the reader: rows, of bytes that are no signs of groups, classes, escapes and bounds. -/
import Derived.Test.YtbccejlemhgioaaRxRow
namespace Go.Proofs.Ytbccejlemhgioaa
open Go Go.RowKit Go.ChangeShapes cl rx
set_option maxHeartbeats 12800000 in
set_option maxRecDepth 100000 in
theorem rx_rows (q : Nat) (S : ByteArray) (t : St) (w : World) (h : Rd q S t w) (hS : S.size ≤ 60) (hp : t.p ≤ S.size) (hpl : ∀ c ∈ kit.bytes S, plainC c) : Calls Try.prog 20 #[.pointer (some ⟨q, 0, none⟩)] w (RxA 4 q S (rx.rows (kit.bytes S) (onceS (kit.bytes S) spB) t) w) := by
  have hlen : (kit.bytes S).length = S.size := by simp [kit.bytes]
  obtain ⟨q1, hq1⟩ : ∃ q1, q1 = w.heap.size := ⟨_, rfl⟩
  have hqq : q < q1 := by rw [hq1]; exact lt_of_block h
  obtain ⟨W3, hW3⟩ : ∃ W, W = w.alloc (.cells #[.int .i64 0, .int .u64 0, .int .u64 0, .int .u64 0, .int .u64 0, .slice none 0 0, .int .i64 0, .int .i64 0] 28) := ⟨_, rfl⟩
  have b3 : Below w.heap.size w W3 := by rw [hW3]; exact below1
  have R3 := Lib.hid (h.next b3)
  have K3 := Lib.hid (KX.of (q := q) b3)
  have Z3 : Hid (W3.heap[q1]? = some (.cells #[.int .i64 0, .int .u64 0, .int .u64 0, .int .u64 0, .int .u64 0, .slice none 0 0, .int .i64 0, .int .i64 0] 28)) := by show _ = _; rw [hW3, hq1]; exact heap_alloc_new _ _
  have HW3 := Lib.hid hW3
  have HQ1 := Lib.hid hq1
  have HQQ := Lib.hid hqq
  have HQ3 : Hid (q < W3.heap.size) := lt_of_block R3.out
  have H13 : Hid (q1 < W3.heap.size) := lt_of_block Z3.out
  have HB3 : Hid (w.heap.size ≤ W3.heap.size) := b3.size
  have HLEN := Lib.hid hlen
  unfold rx.rows
  obtain ⟨x0, t1, hr0⟩ : ∃ x0 t1, rx.row (kit.bytes S) (onceS (kit.bytes S) spB) t = (x0, t1) := ⟨_, _, rfl⟩
  have hr1 := row_p (s := kit.bytes S) (sp := spB) (t := t) (by omega)
  have HRW := Lib.hid (rx_row q S t W3 R3.out hS hp hpl)
  rw [hr0] at HRW hr1 ⊢
  simp only at hr1 ⊢
  obtain ⟨fl, ft, hfin⟩ : ∃ fl ft, rowsL (kit.bytes S) (onceS (kit.bytes S) spB) ((kit.bytes S).length + 1) t1 [x0] = (fl, ft) := ⟨_, _, rfl⟩
  rw [hfin]
  simp only
  have HFS := Lib.hid hfin
  have HPL := Lib.hid hpl
  obtain ⟨hp1, hp2, hp3⟩ := hr1
  have ht1 : t1.p ≤ S.size := by omega
  have HX4 : Hid (∀ y ∈ [x0], y.k ≠ 4) := fun y hy => by rw [List.mem_singleton.1 hy]; exact hp3
  clear h hq1 hqq hW3 b3 hlen hfin hpl hr0 hp1 hp2 hp3
  go_enter Try.func20, Try.ntmps20
  go_wp2_with fail
  rw [← HW3.out, ← HQ1.out]
  (with_reducible refine HRW.out.mono ?_)
  rintro e4 w4 ⟨c0, rfl, f4, r4, k4⟩
  obtain ⟨ko0, kn0, kc0, rfl⟩ := rx_form f4.at
  obtain ⟨g4, hg4⟩ : ∃ g, g = w4.heap.size := ⟨_, rfl⟩
  obtain ⟨W5, hW5⟩ : ∃ W, W = w4.alloc (.cells #[.int .i64 x0.k, .int .u64 x0.cl.a, .int .u64 x0.cl.b, .int .u64 x0.cl.c, .int .u64 x0.cl.d, .slice ko0 kn0 kc0, .int .i64 x0.mn, .int .i64 x0.mx] 28) := ⟨_, rfl⟩
  have b5 : Below w4.heap.size w4 W5 := by rw [hW5]; exact below1
  have HS4 : Hid (W3.heap.size ≤ w4.heap.size) := k4.2.1
  have O5 : Hid (RxO W3.heap.size 3 [x0] (.slice (some ⟨g4, 0, none⟩) 1 1) W5) := by
    refine ⟨[[.int .i64 x0.k, .int .u64 x0.cl.a, .int .u64 x0.cl.b, .int .u64 x0.cl.c, .int .u64 x0.cl.d, .slice ko0 kn0 kc0, .int .i64 x0.mn, .int .i64 x0.mx]], rfl, fun j c x hc hx => ?_, ?_⟩
    · cases j with
      | zero =>
        simp only [List.getElem?_cons_zero, Option.some.injEq] at hc hx
        subst hc; subst hx
        refine FreA.imp (FreA.next (FreA.off f4 (fun b hb => ?_)) b5) (fun V h => ⟨rfl, h⟩)
        simp only [Value.ownBlock, Option.some.injEq] at hb
        exact Or.inr (by omega)
      | succ j => simp at hc
    · have h1 := own_lit (W := w4) (k := 8) (arr := #[.int .i64 x0.k, .int .u64 x0.cl.a, .int .u64 x0.cl.b, .int .u64 x0.cl.c, .int .u64 x0.cl.d, .slice ko0 kn0 kc0, .int .i64 x0.mn, .int .i64 x0.mx]) (T := 28) rfl
      rw [hW5, hg4]
      refine ⟨h1.1, ?_⟩
      rcases h1.2 with h | ⟨g, cap, cur, e, hb, r⟩
      · exact Or.inl h
      · exact Or.inr ⟨g, cap, cur, e, Nat.le_trans HS4.out hb, r⟩
  have R5 := Lib.hid (r4.next b5)
  have K5 : Hid (KX q W3 W5) := k4.next b5
  have HW5 := Lib.hid hW5
  have HG4 := Lib.hid hg4
  clear f4 r4 k4 b5 hW5 hg4
  go_wp2
  rw [← HW5.out, ← HG4.out]
  go_loopw [3] (fun v wr => ∃ (f : Nat) (tt : St) (acc : List Pat) (ao : Option Addr) (cap : Nat), v = .slice ao acc.length cap ∧ Hid (rowsL (kit.bytes S) (onceS (kit.bytes S) spB) f tt acc = (fl, ft)) ∧ S.size < tt.p + f ∧ acc.length ≤ tt.p + 1 ∧ tt.p ≤ S.size ∧ Hid (∀ y ∈ acc, y.k ≠ 4) ∧ Hid (Rd q S tt wr) ∧ Hid (KX q W3 wr) ∧ Hid (RxO W3.heap.size 3 acc (.slice ao acc.length cap) wr)) (fun _ wr => S.size + 1 - pOf wr q)
  case atStart => exact ⟨(kit.bytes S).length + 1, t1, [x0], some ⟨g4, 0, none⟩, 1, rfl, HFS.out, by have := HLEN.out; omega, by simp, ht1, HX4.out, R5, K5, O5.out⟩
  case round =>
    obtain ⟨f, tt, acc, ao, cap, rfl, HF, hf, hacc, htp, HK, HR, KR, HO⟩ := hrel
    have KW : Hid (KX q w wr) := K3.out.trans KR.out
    have HSW : Hid (W3.heap.size ≤ wr.heap.size) := KR.out.2.1
    have ZR := Lib.hid ((KR.out.2.2 q1 H13.out (by have := HQQ.out; omega)).trans Z3.out)
    obtain ⟨al, hal⟩ : ∃ n, n = acc.length := ⟨_, rfl⟩
    rw [← hal] at HO ⊢
    have HAL := Lib.hid hal
    have hacc' : al ≤ 61 := by omega
    have HME : Hid (Calls Try.prog 27 #[.pointer (some ⟨q, 0, none⟩), .int .u8 124] wr (fun e w' => e = .returned (.bool (meets (kit.bytes S) 124 tt).1) ∧ RK q S (meets (kit.bytes S) 124 tt).2 wr w')) := rx_meets q S tt 124 wr HR.out hS
    by_cases hc : nxt (kit.bytes S) tt = some 124
    · have hm : meets (kit.bytes S) 124 tt = (true, tt.fwd) := by unfold meets; rw [if_pos hc]
      rw [hm] at HME
      obtain ⟨f', hst, hf'⟩ := rows_step (sp := spB) (f := f) (l := acc) hc (by have := HLEN.out; omega)
      rw [HF.out] at hst
      have hpl2 := nxt_len hc
      have hpp := row_p (s := kit.bytes S) (sp := spB) (t := tt.fwd) (by show tt.p + 1 ≤ _; omega)
      obtain ⟨x, t2, hr⟩ : ∃ x t2, rx.row (kit.bytes S) (onceS (kit.bytes S) spB) tt.fwd = (x, t2) := ⟨_, _, rfl⟩
      have HRX : Hid (∀ W, Rd q S tt.fwd W → Calls Try.prog 26 #[.pointer (some ⟨q, 0, none⟩)] W (RxA 3 q S (x, t2) W)) := fun W hW => by
        have h := rx_row q S tt.fwd W hW hS (by show tt.p + 1 ≤ _; have := HLEN.out; omega) HPL.out
        rw [hr] at h; exact h
      rw [hr] at hst hf' hpp
      simp only at hst hf' hpp
      have HST := Lib.hid hst.symm
      obtain ⟨hp1, hp2, hp3⟩ := hpp
      have hfw : tt.fwd.p = tt.p + 1 := rfl
      have hl60 := HLEN.out
      have HPK : Hid (∀ y ∈ acc ++ [x], y.k ≠ 4) := by
        intro y hy
        rcases List.mem_append.1 hy with hy | hy
        · exact HK.out y hy
        · rw [List.mem_singleton.1 hy]; exact hp3
      have ht2 : t2.p ≤ S.size := by omega
      have hf2 : S.size < t2.p + f' := by omega
      have hlt : tt.p < t2.p := by omega
      have HA2 : Hid ((acc ++ [x]).length ≤ t2.p + 1) := by show _ ≤ _; rw [List.length_append, List.length_singleton]; omega
      clear hal hst hf' hpl2 hp1 hp2 hp3 hl60 hr hc hm hfw
      go_wp2_with fail
      (with_reducible refine HME.out.mono ?_)
      rintro e6 w6 ⟨rfl, r6, k6⟩
      have R6 := Lib.hid r6
      have O6 : Hid (RxO W3.heap.size 3 acc (.slice ao al cap) w6) := by
        have h : RxO W3.heap.size 3 acc (.slice ao al cap) wr := HO.out
        exact h.kx k6 HQ3.out
      have K6 := Lib.hid (KR.out.trans k6)
      have HS6 : Hid (wr.heap.size ≤ w6.heap.size) := k6.2.1
      clear r6 k6 HME
      go_wp2_with fail
      (with_reducible refine (HRX.out _ R6.out).mono ?_)
      rintro e7 w7 ⟨cx, rfl, f7, r7, k7⟩
      obtain ⟨ko, kn, kc, rfl⟩ := rx_form f7.at
      have hO7 := O6.out.kx k7 HQ3.out
      obtain ⟨cs, g0, g1, g2⟩ := hO7
      have hob : ∀ b, (Value.slice ao al cap).ownBlock = some b → b < w6.heap.size ∨ w7.heap.size ≤ b := by
        obtain ⟨_, _, _, g9⟩ := O6.out
        intro b hb
        exact Or.inl (own_lt g9 b hb).2
      have K7 : Hid (KX q W3 w7) := K6.out.trans k7
      have HS7 : Hid (W3.heap.size ≤ w7.heap.size) := K7.out.2.1
      have HS63 : Hid (W3.heap.size ≤ w6.heap.size) := K6.out.2.1
      rw [← HAL.out] at g2
      have G2 := Lib.hid g2
      have SN : Hid (∀ (v9 : Value) (w9 : World), w9.ownsRow W3.heap.size 28 8 v9 (al + 1) (cs.flatten ++ [.int .i64 x.k, .int .u64 x.cl.a, .int .u64 x.cl.b, .int .u64 x.cl.c, .int .u64 x.cl.d, .slice ko kn kc, .int .i64 x.mn, .int .i64 x.mx]) → (w7.alloc (.cells #[.int .i64 x.k, .int .u64 x.cl.a, .int .u64 x.cl.b, .int .u64 x.cl.c, .int .u64 x.cl.d, .slice ko kn kc, .int .i64 x.mn, .int .i64 x.mx] 28)).grownBy w9 (Value.slice ao al cap).ownBlock → (v9.ownBlock = (Value.slice ao al cap).ownBlock ∨ ∀ b, v9.ownBlock = some b → w7.heap.size + 1 ≤ b) → RxO W3.heap.size 3 (acc ++ [x]) v9 w9 ∧ Below W3.heap.size w7 w9) := by
        intro v9 w9 hO9 hg9 hv9
        exact ⟨RxO.snoc g0 g1 HAL.out f7 rfl HS63.out hob hO9 hg9 (hv9.imp id (fun h b hb => by rw [World.size_alloc]; exact h b hb)), app_below G2.out HS7.out hg9⟩
      have R7 := Lib.hid r7
      have hkb : (al + 1) * 80 ≤ 140737488355328 := by omega
      clear f7 r7 k7 g0 g1 g2 hob
      go_wp2_with (at_builtin; refine kit.app1k w7.heap.size rfl (.tmp 9) (.tmp 12) 26 rfl rfl W3.heap.size Try.underlying26 infoRx rfl (by decide) (by decide) G2.out rfl rfl rfl (by simp [Value.oneCell']) hkb HS7.out ?_)
      intro v9 w9 hO9 hg9 hv9
      obtain ⟨ao9, cap9, rfl⟩ := own_slice hO9
      obtain ⟨o9, b9⟩ := SN.out _ w9 hO9 hg9 (by first | exact hv9 | simpa using hv9)
      have R9 : Hid (Rd q S t2 w9) := (b9.block q HQ3.out).trans R7.out
      have K9 : Hid (KX q W3 w9) := K7.out.low b9 rfl
      have O9 := Lib.hid o9
      have HP1 : Hid (pOf wr q = tt.p) := HR.out.pOf
      have HP2 : Hid (pOf w9 q = t2.p) := R9.out.pOf
      have HL9 : Hid (al + 1 = (acc ++ [x]).length) := by show _ = _; rw [List.length_append, List.length_singleton, HAL.out]
      clear hO9 hg9 hv9 o9 b9
      go_wp2
      go_roundw
      case rel =>
        refine ⟨f', t2, acc ++ [x], ao9, cap9, by rw [HL9.out], HST, hf2, HA2.out, ht2, HPK, R9, K9, ?_⟩
        rw [← HL9.out]; exact O9
      case measure =>
        have h5 := HP1.out
        have h6 := HP2.out
        simp only [h5, h6]
        omega
    · have hm : meets (kit.bytes S) 124 tt = (false, tt) := by unfold meets; rw [if_neg hc]
      rw [hm] at HME
      have HFIN0 : rowsL (kit.bytes S) (onceS (kit.bytes S) spB) f tt acc = (acc, tt) := rows_end hc
      have HE : Hid (acc = fl ∧ tt = ft) := by rw [HF.out] at HFIN0; simp only [Prod.mk.injEq] at HFIN0; exact ⟨HFIN0.1.symm, HFIN0.2.symm⟩
      clear HFIN0 hal hc hm
      go_wp2_with fail
      (with_reducible refine HME.out.mono ?_)
      rintro e6 w6 ⟨rfl, r6, k6⟩
      have R6 := Lib.hid r6
      have O6 : Hid (RxO W3.heap.size 3 acc (.slice ao al cap) w6) := by
        have h : RxO W3.heap.size 3 acc (.slice ao al cap) wr := HO.out
        exact h.kx k6 HQ3.out
      have K6 := Lib.hid (KW.out.trans k6)
      have HS6 : Hid (W3.heap.size ≤ w6.heap.size) := by have := HSW.out; have := k6.2.1; show _ ≤ _; omega
      have Z6 := Lib.hid ((k6.2.2 q1 (lt_of_block ZR.out) (by have := HQQ.out; omega)).trans ZR.out)
      clear r6 k6 HME HR KR KW HO ZR HSW
      have HR := R6
      have HO := O6
      have KW := K6
      have HSW := HS6
      have ZR := Z6
      have HGA := Lib.hid (rx_gather 4 W3.heap.size 3 acc _ w6 HO.out HSW.out (HK.out) (by have := hacc; omega))
      obtain ⟨gx, hgx⟩ : ∃ g, g = Pat.gather 4 acc := ⟨_, rfl⟩
      rw [← hgx] at HGA
      have HGX := Lib.hid hgx
      clear hgx
      go_wp2_with fail
      (with_reducible refine HGA.out.mono ?_)
      rintro eg wz ⟨cg, rfl, fg, bg⟩
      obtain ⟨ko, kn, kc, rfl⟩ := rx_form fg.at
      have R9 := Lib.hid (HR.out.next bg)
      have K9 := Lib.hid (KW.out.next bg)
      have ZZ := Lib.hid ((bg.block _ (lt_of_block ZR.out)).trans ZR.out)
      have FG := Lib.hid fg
      clear fg bg
      go_wp2_with ((with_reducible show wpList _ _ _ (Oper.mk _ (Op.store 28 (.tmp 2) _) _ _ _ _ :: _) _ _); refine wpList_store_row rfl 28 (.tmp 2) _ rfl (q1) #[.int .i64 gx.k, .int .u64 gx.cl.a, .int .u64 gx.cl.b, .int .u64 gx.cl.c, .int .u64 gx.cl.d, .slice ko kn kc, .int .i64 gx.mn, .int .i64 gx.mx] rfl rfl 28 #[.int .i64 0, .int .u64 0, .int .u64 0, .int .u64 0, .int .u64 0, .slice none 0 0, .int .i64 0, .int .i64 0] ZZ.out rsize rfl (by simp [Value.oneCell']) ?_)
      have cc := setRow_heap _ q1 _ #[.int .i64 gx.k, .int .u64 gx.cl.a, .int .u64 gx.cl.b, .int .u64 gx.cl.c, .int .u64 gx.cl.d, .slice ko kn kc, .int .i64 gx.mn, .int .i64 gx.mx] _ _ ZZ.out
      have rr : Rd q S tt (World.setRow wz q1 #[.int .i64 gx.k, .int .u64 gx.cl.a, .int .u64 gx.cl.b, .int .u64 gx.cl.c, .int .u64 gx.cl.d, .slice ko kn kc, .int .i64 gx.mn, .int .i64 gx.mx]) := R9.out.keep KX.row (by have := HQQ.out; omega)
      have kk : KX q w (World.setRow wz q1 #[.int .i64 gx.k, .int .u64 gx.cl.a, .int .u64 gx.cl.b, .int .u64 gx.cl.c, .int .u64 gx.cl.d, .slice ko kn kc, .int .i64 gx.mn, .int .i64 gx.mx]) := K9.out.trans' KX.row (by have := HQ1.out; omega)
      have ff : Fre w.heap.size (World.setRow wz q1 #[.int .i64 gx.k, .int .u64 gx.cl.a, .int .u64 gx.cl.b, .int .u64 gx.cl.c, .int .u64 gx.cl.d, .slice ko kn kc, .int .i64 gx.mn, .int .i64 gx.mx]) (fun W => rxR 4 W W.heap.size [.int .i64 gx.k, .int .u64 gx.cl.a, .int .u64 gx.cl.b, .int .u64 gx.cl.c, .int .u64 gx.cl.d, .slice ko kn kc, .int .i64 gx.mn, .int .i64 gx.mx] gx) := FreA.low (Fre.kx FG.out KX.row H13.out) HB3.out
      obtain ⟨w9, h9⟩ : ∃ W, W = World.setRow wz q1 #[.int .i64 gx.k, .int .u64 gx.cl.a, .int .u64 gx.cl.b, .int .u64 gx.cl.c, .int .u64 gx.cl.d, .slice ko kn kc, .int .i64 gx.mn, .int .i64 gx.mx] := ⟨_, rfl⟩
      rw [← h9] at cc rr kk ff ⊢
      clear h9
      have k0 := boxc cc 0 _ rfl
      have k1 := boxc cc 1 _ rfl
      have k2 := boxc cc 2 _ rfl
      have k3 := boxc cc 3 _ rfl
      have k4 := boxc cc 4 _ rfl
      have k5 := boxc cc 5 _ rfl
      have k6 := boxc cc 6 _ rfl
      have k7 := boxc cc 7 _ rfl
      refine bodyPost_ret (v := .agg #[.int .i64 gx.k, .int .u64 gx.cl.a, .int .u64 gx.cl.b, .int .u64 gx.cl.c, .int .u64 gx.cl.d, .slice ko kn kc, .int .i64 gx.mn, .int .i64 gx.mx]) (by simp [results, Try.results20, go_sem, k0, k1, k2, k3, k4, k5, k6, k7]) rfl ?_
      refine ⟨[.int .i64 gx.k, .int .u64 gx.cl.a, .int .u64 gx.cl.b, .int .u64 gx.cl.c, .int .u64 gx.cl.d, .slice ko kn kc, .int .i64 gx.mn, .int .i64 gx.mx], rfl, ?_, ?_⟩
      · rw [← HE.out.1, ← HGX.out]; exact ff
      · rw [← HE.out.2]; exact ⟨rr, kk⟩
end Go.Proofs.Ytbccejlemhgioaa
