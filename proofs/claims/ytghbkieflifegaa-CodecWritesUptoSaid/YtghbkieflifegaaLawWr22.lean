/- codec: the document's writer: messages; CodecWrites. -/
import Derived.Test.YtghbkieflifegaaCdRW4
import Derived.Test.YtghbkieflifegaaCdAwk
import Derived.Test.YtghbkieflifegaaCdFar
import Derived.Test.YtghbkieflifegaaCdArgsB
namespace Go.Proofs.Ytghbkieflifegaa
open Go Go.RowKit Go.ChangeShapes cl
/-- what Write answers, in one form -/
def ansS (t : cd.W) : ByteArray := match t with | some b => kit.str b | none => ⟨#[]⟩
def ansE (t : cd.W) : Int := match t with | some _ => 0 | none => 1
def OneP (t : cd.W) (w : World) (e : Ending) (w' : World) : Prop := e = .returned (.tuple #[.string (ansS t), .int .i64 (ansE t)]) ∧ Below w.heap.size w w'
theorem write_f (m : cd.Msg) (c : List Value) (w : World) (h : msgRel w w.heap.size c m) : Calls Try.prog 10 #[.agg c.toArray] w (OneP (cd.msg m) w) :=
  (write_m m c w h).mono fun e w' ⟨⟨b, h⟩, hb⟩ => by
    rcases h with ⟨ht, rfl⟩ | ⟨ht, rfl⟩
    · refine ⟨?_, hb⟩; rw [ht]; rfl
    · refine ⟨?_, hb⟩; rw [ht]; rfl
theorem Ans.no {t : cd.W} {S : ByteArray} {p : Bool} {w w' : World} (h : Ans t S p) (hp : p = false) (hb : Below w.heap.size w w') : OneP t w (.returned (.tuple #[.string ⟨#[]⟩, .int .i64 1])) w' := by
  obtain ⟨h1, _⟩ := h
  cases t with
  | none => exact ⟨rfl, hb⟩
  | some b => rw [hp] at h1; cases h1
theorem Ans.yes {t : cd.W} {S : ByteArray} {p : Bool} {w w' : World} (h : Ans t S p) (hp : p = true) (hb : Below w.heap.size w w') : OneP t w (.returned (.tuple #[.string S, .int .i64 0])) w' := by
  obtain ⟨h1, h2⟩ := h
  cases t with
  | none => rw [hp] at h1; cases h1
  | some b =>
    obtain rfl := h2 b rfl
    exact ⟨rfl, hb⟩
set_option maxHeartbeats 12800000 in
set_option maxRecDepth 100000 in
theorem rwrite_any (m : cd.Msg) (c : List Value) (w : World) (h : msgRel w w.heap.size c m) (hsm : Small 1048576 m) : Calls Try.prog 11 #[.agg c.toArray] w (OneP (cd.msg m) w) := by
  obtain ⟨ae, ne, ce, aa, na, ca, p1, n1, c1, p2, n2, c2, p3, n3, c3, p4, n4, c4, sa, sn, sc, rfl, he, ha, hdv, hdc, hv, hc, hmn, hmv, hs⟩ := h
  obtain ⟨u1, u2, u3, u4, u5, u6, u7, u8, u9, u10, u11⟩ := hsm
  obtain ⟨W1, hW1⟩ : ∃ W, W = w.alloc (.cells #[.int .i64 m.k, .int .i64 m.f, .int .i64 m.to, .int .i64 m.g, .int .i64 m.n, .slice ae ne ce, .slice aa na ca, .slice p1 n1 c1, .slice p2 n2 c2, .slice p3 n3 c3, .slice p4 n4 c4, .int .i64 m.ki, .string m.mn, .string m.mv, .slice sa sn sc, .int .i64 m.er] 33) := ⟨_, rfl⟩
  have b1 : Below w.heap.size w W1 := by rw [hW1]; exact below1
  have x1 : W1.heap[w.heap.size]? = some (.cells #[.int .i64 m.k, .int .i64 m.f, .int .i64 m.to, .int .i64 m.g, .int .i64 m.n, .slice ae ne ce, .slice aa na ca, .slice p1 n1 c1, .slice p2 n2 c2, .slice p3 n3 c3, .slice p4 n4 c4, .int .i64 m.ki, .string m.mn, .string m.mv, .slice sa sn sc, .int .i64 m.er] 33) := by rw [hW1]; exact heap_alloc_new w _
  have X : Hid (∀ W, Below W1.heap.size W1 W → W.heap[w.heap.size]? = some (.cells #[.int .i64 m.k, .int .i64 m.f, .int .i64 m.to, .int .i64 m.g, .int .i64 m.n, .slice ae ne ce, .slice aa na ca, .slice p1 n1 c1, .slice p2 n2 c2, .slice p3 n3 c3, .slice p4 n4 c4, .int .i64 m.ki, .string m.mn, .string m.mv, .slice sa sn sc, .int .i64 m.er] 33)) := fun W hW => (hW.block _ (lt_of_block x1)).trans x1
  have HW1 := Lib.hid hW1
  have HB1 := Lib.hid b1
  have HCH : Hid (∀ W, Below w.heap.size w W → Calls Try.prog 24 #[.agg #[.slice ae ne ce, .slice aa na ca, .slice p1 n1 c1, .slice p2 n2 c2]] W (RAns (cd.del m.e m.al m.dv m.dc) 30000000000000 W)) :=
    fun W hW => rchange_any m.e m.al m.dv m.dc ae ne ce aa na ca p1 n1 c1 p2 n2 c2 W (he.next entR_steady hW) u1 (fun a h => (u2 a h).2) (ha.next dotR_steady hW) u3 (hdv.next dotR_steady hW) u4 (hdc.next dotR_steady hW) u5
  have HCX : Hid (∀ W, Below w.heap.size w W → Calls Try.prog 25 #[.agg #[.slice p3 n3 c3, .slice p4 n4 c4]] W (RAns (cd.ctx m.v m.c) 26000000 W)) :=
    fun W hW => rctx_any m.v m.c p3 n3 c3 p4 n4 c4 W (hv.next dotR_steady hW) (hc.next dotR_steady hW) u6 u7
  have HTN : Hid (∀ W : World, Calls Try.prog 26 #[.string m.mn] W (RAns (cd.txt m.mn) 4006 W)) := fun W => rtext_ans m.mn W hmn
  have HTV : Hid (∀ W : World, Calls Try.prog 26 #[.string m.mv] W (RAns (cd.txt m.mv) 4006 W)) := fun W => rtext_ans m.mv W hmv
  have HWD : Hid (∀ W, Below w.heap.size w W → Calls Try.prog 27 #[.slice sa sn sc] W (RAns (cd.lst cd.txt m.s) 5000000000 W)) := fun W hW => rwords_any m.s _ W (hs.next strR_steady hW) u10
  -- the first numbers
  obtain ⟨W2, hW2⟩ : ∃ W, W = W1.alloc (.cells #[.int .i64 m.k, .int .i64 m.f, .int .i64 m.to, .int .i64 m.g, .int .i64 m.n] 3) := ⟨_, rfl⟩
  have zx : W2.heap[w.heap.size + 1]? = some (.cells #[.int .i64 m.k, .int .i64 m.f, .int .i64 m.to, .int .i64 m.g, .int .i64 m.n] 3) := by
    have := heap_alloc_new W1 (.cells #[.int .i64 m.k, .int .i64 m.f, .int .i64 m.to, .int .i64 m.g, .int .i64 m.n] 3)
    have e : W1.heap.size = w.heap.size + 1 := by rw [hW1]; simp
    rw [e] at this
    rw [hW2]; exact this
  have b2 : Below W1.heap.size W1 W2 := by rw [hW2]; exact below1
  have C2 := Lib.hid b2
  have HPz := Lib.hid (rnumbers_any [m.k, m.f, m.to, m.g, m.n] (w.heap.size + 1) 5 W2 rfl (by omega) (lt_of_block zx) (fun j hj => by
    rcases (by omega : j = 0 ∨ j = 1 ∨ j = 2 ∨ j = 3 ∨ j = 4) with rfl | rfl | rfl | rfl | rfl
    · exact boxc zx 0 _ rfl
    · exact boxc zx 1 _ rfl
    · exact boxc zx 2 _ rfl
    · exact boxc zx 3 _ rfl
    · exact boxc zx 4 _ rfl))
  have HW2 := Lib.hid hW2
  clear hW1 hW2 b1 b2 x1 zx he ha hdv hdc hv hc hmn hmv hs u1 u2 u3 u4 u5 u6 u7 u8 u9 u10 u11
  go_enter Try.func11, Try.ntmps11
  go_wp2_with fail
  rw [← HW1.out, ← HW2.out]
  (with_reducible refine HPz.out.mono ?_)
  rintro e w2 ⟨S1, o1, rfl, hs1, g1, g2, b⟩
  have A1 : Hid (Ans (cd.each cd.num [m.k, m.f, m.to, m.g, m.n]) S1 o1) := ⟨g1, g2⟩
  have D2 := Lib.hid (C2.out.trans (b.mono C2.out.size))
  clear g1 g2 b HPz
  have E2 := Lib.hid (HB1.out.trans (D2.out.mono HB1.out.size))
  have q5 := boxc (X.out _ D2.out) 5 _ rfl
  have q6 := boxc (X.out _ D2.out) 6 _ rfl
  have q7 := boxc (X.out _ D2.out) 7 _ rfl
  have q8 := boxc (X.out _ D2.out) 8 _ rfl
  go_wp2_with fail
  clear q5 q6 q7 q8
  (with_reducible refine (HCH.out _ E2.out).mono ?_)
  rintro e w3 ⟨S2, o2, rfl, hs2, g1, g2, b⟩
  have A2 : Hid (Ans (cd.del m.e m.al m.dv m.dc) S2 o2) := ⟨g1, g2⟩
  have D3 := Lib.hid (D2.out.trans (b.mono D2.out.size))
  clear g1 g2 b
  have E3 := Lib.hid (HB1.out.trans (D3.out.mono HB1.out.size))
  have q9 := boxc (X.out _ D3.out) 9 _ rfl
  have q10 := boxc (X.out _ D3.out) 10 _ rfl
  go_wp2_with fail
  clear q9 q10
  (with_reducible refine (HCX.out _ E3.out).mono ?_)
  rintro e w4 ⟨S3, o3, rfl, hs3, g1, g2, b⟩
  have A3 : Hid (Ans (cd.ctx m.v m.c) S3 o3) := ⟨g1, g2⟩
  have D4 := Lib.hid (D3.out.trans (b.mono D3.out.size))
  clear g1 g2 b
  have q11 := boxc (X.out _ D4.out) 11 _ rfl
  obtain ⟨V4, hV4⟩ : ∃ W, W = w4.alloc (.cells #[.int .i64 m.ki] 3) := ⟨_, rfl⟩
  have zx : V4.heap[w4.heap.size]? = some (.cells #[.int .i64 m.ki] 3) := by rw [hV4]; exact heap_alloc_new w4 _
  have bv : Below w4.heap.size w4 V4 := by rw [hV4]; exact below1
  have CV4 := Lib.hid (D4.out.trans (bv.mono D4.out.size))
  have HPz := Lib.hid (rnumbers_any [m.ki] w4.heap.size 1 V4 rfl (by omega) (lt_of_block zx) (fun j hj => by
    obtain rfl : j = 0 := by omega
    exact boxc zx 0 _ rfl))
  have HV4 := Lib.hid hV4
  clear zx bv hV4
  go_wp2_with fail
  rw [← HV4.out]
  clear q11
  (with_reducible refine HPz.out.mono ?_)
  rintro e w5 ⟨S4, o4, rfl, hs4, g1, g2, b⟩
  have A4 : Hid (Ans (cd.each cd.num [m.ki]) S4 o4) := ⟨g1, g2⟩
  have D5 := Lib.hid (CV4.out.trans (b.mono CV4.out.size))
  clear g1 g2 b HPz
  have E5 := Lib.hid (HB1.out.trans (D5.out.mono HB1.out.size))
  have q12 := boxc (X.out _ D5.out) 12 _ rfl
  go_wp2_with fail
  clear q12
  (with_reducible refine (HTN.out _).mono ?_)
  rintro e w6 ⟨S5, o5, rfl, hs5, g1, g2, b⟩
  have A5 : Hid (Ans (cd.txt m.mn) S5 o5) := ⟨g1, g2⟩
  have D6 := Lib.hid (D5.out.trans (b.mono D5.out.size))
  clear g1 g2 b
  have E6 := Lib.hid (HB1.out.trans (D6.out.mono HB1.out.size))
  have q13 := boxc (X.out _ D6.out) 13 _ rfl
  go_wp2_with fail
  clear q13
  (with_reducible refine (HTV.out _).mono ?_)
  rintro e w7 ⟨S6, o6, rfl, hs6, g1, g2, b⟩
  have A6 : Hid (Ans (cd.txt m.mv) S6 o6) := ⟨g1, g2⟩
  have D7 := Lib.hid (D6.out.trans (b.mono D6.out.size))
  clear g1 g2 b
  have E7 := Lib.hid (HB1.out.trans (D7.out.mono HB1.out.size))
  have q14 := boxc (X.out _ D7.out) 14 _ rfl
  go_wp2_with fail
  clear q14
  (with_reducible refine (HWD.out _ E7.out).mono ?_)
  rintro e w8 ⟨S7, o7, rfl, hs7, g1, g2, b⟩
  have A7 : Hid (Ans (cd.lst cd.txt m.s) S7 o7) := ⟨g1, g2⟩
  have D8 := Lib.hid (D7.out.trans (b.mono D7.out.size))
  clear g1 g2 b
  have q15 := boxc (X.out _ D8.out) 15 _ rfl
  obtain ⟨V8, hV8⟩ : ∃ W, W = w8.alloc (.cells #[.int .i64 m.er] 3) := ⟨_, rfl⟩
  have zx : V8.heap[w8.heap.size]? = some (.cells #[.int .i64 m.er] 3) := by rw [hV8]; exact heap_alloc_new w8 _
  have bv : Below w8.heap.size w8 V8 := by rw [hV8]; exact below1
  have CV8 := Lib.hid (D8.out.trans (bv.mono D8.out.size))
  have HPz := Lib.hid (rnumbers_any [m.er] w8.heap.size 1 V8 rfl (by omega) (lt_of_block zx) (fun j hj => by
    obtain rfl : j = 0 := by omega
    exact boxc zx 0 _ rfl))
  have HV8 := Lib.hid hV8
  clear zx bv hV8
  go_wp2_with fail
  rw [← HV8.out]
  clear q15
  (with_reducible refine HPz.out.mono ?_)
  rintro e w9 ⟨S8, o8, rfl, hs8, g1, g2, b⟩
  have A8 : Hid (Ans (cd.each cd.num [m.er]) S8 o8) := ⟨g1, g2⟩
  have D9 := Lib.hid (CV8.out.trans (b.mono CV8.out.size))
  clear g1 g2 b HPz
  have HF : Hid (Ans (cd.msg m) (S1 ++ S2 ++ S3 ++ S4 ++ S5 ++ S6 ++ S7 ++ S8) (o1 && o2 && o3 && o4 && o5 && o6 && o7 && o8)) := by
    refine (((((((A1.out.add A2.out).add A3.out).add A4.out).add A5.out).add A6.out).add A7.out).add A8.out).to ?_
    simp only [cd.app_assoc]
    rfl
  have E9 := Lib.hid (HB1.out.trans (D9.out.mono HB1.out.size))
  have z2 : ¬ 9223372036854775807 < S1.size + S2.size := by omega
  have z3 : ¬ 9223372036854775807 < S1.size + S2.size + S3.size := by omega
  have y3 : ¬ 9223372036854775807 < (S1 ++ S2).size + S3.size := by simp only [ByteArray.size_append]; omega
  have z4 : ¬ 9223372036854775807 < S1.size + S2.size + S3.size + S4.size := by omega
  have y4 : ¬ 9223372036854775807 < (S1 ++ S2 ++ S3).size + S4.size := by simp only [ByteArray.size_append]; omega
  have z5 : ¬ 9223372036854775807 < S1.size + S2.size + S3.size + S4.size + S5.size := by omega
  have y5 : ¬ 9223372036854775807 < (S1 ++ S2 ++ S3 ++ S4).size + S5.size := by simp only [ByteArray.size_append]; omega
  have z6 : ¬ 9223372036854775807 < S1.size + S2.size + S3.size + S4.size + S5.size + S6.size := by omega
  have y6 : ¬ 9223372036854775807 < (S1 ++ S2 ++ S3 ++ S4 ++ S5).size + S6.size := by simp only [ByteArray.size_append]; omega
  have z7 : ¬ 9223372036854775807 < S1.size + S2.size + S3.size + S4.size + S5.size + S6.size + S7.size := by omega
  have y7 : ¬ 9223372036854775807 < (S1 ++ S2 ++ S3 ++ S4 ++ S5 ++ S6).size + S7.size := by simp only [ByteArray.size_append]; omega
  have z8 : ¬ 9223372036854775807 < S1.size + S2.size + S3.size + S4.size + S5.size + S6.size + S7.size + S8.size := by omega
  have y8 : ¬ 9223372036854775807 < (S1 ++ S2 ++ S3 ++ S4 ++ S5 ++ S6 ++ S7).size + S8.size := by simp only [ByteArray.size_append]; omega
  cases o1
  · go_wp2
    go_ret2
    exact Ans.no HF.out rfl E9.out
  cases o2
  · go_wp2
    go_ret2
    exact Ans.no HF.out rfl E9.out
  cases o3
  · go_wp2
    go_ret2
    exact Ans.no HF.out rfl E9.out
  cases o4
  · go_wp2
    go_ret2
    exact Ans.no HF.out rfl E9.out
  cases o5
  · go_wp2
    go_ret2
    exact Ans.no HF.out rfl E9.out
  cases o6
  · go_wp2
    go_ret2
    exact Ans.no HF.out rfl E9.out
  cases o7
  · go_wp2
    go_ret2
    exact Ans.no HF.out rfl E9.out
  cases o8
  · go_wp2
    go_ret2
    exact Ans.no HF.out rfl E9.out
  go_wp2
  go_ret2
  exact Ans.yes HF.out rfl E9.out
set_option maxHeartbeats 6400000 in
set_option maxRecDepth 100000 in
theorem writes_any (m : cd.Msg) (c : List Value) (w : World) (h : msgRel w w.heap.size c m) (hsm : Small 1048576 m) : Calls Try.prog 3 #[.agg c.toArray] w (Said true w) := by
  have HR : Hid (∀ W, Below w.heap.size w W → msgRel W W.heap.size c m) := fun W hW => msgRel_steady _ _ _ _ _ _ h hW hW.size
  have HSM := Lib.hid hsm
  obtain ⟨ae, ne, ce, aa, na, ca, p1, n1, c1, p2, n2, c2, p3, n3, c3, p4, n4, c4, sa, sn, sc, rfl, hh⟩ := h
  obtain ⟨W1, hW1⟩ : ∃ W, W = w.alloc (.cells #[.int .i64 m.k, .int .i64 m.f, .int .i64 m.to, .int .i64 m.g, .int .i64 m.n, .slice ae ne ce, .slice aa na ca, .slice p1 n1 c1, .slice p2 n2 c2, .slice p3 n3 c3, .slice p4 n4 c4, .int .i64 m.ki, .string m.mn, .string m.mv, .slice sa sn sc, .int .i64 m.er] 33) := ⟨_, rfl⟩
  have b1 : Below w.heap.size w W1 := by rw [hW1]; exact below1
  have x1 : W1.heap[w.heap.size]? = some (.cells #[.int .i64 m.k, .int .i64 m.f, .int .i64 m.to, .int .i64 m.g, .int .i64 m.n, .slice ae ne ce, .slice aa na ca, .slice p1 n1 c1, .slice p2 n2 c2, .slice p3 n3 c3, .slice p4 n4 c4, .int .i64 m.ki, .string m.mn, .string m.mv, .slice sa sn sc, .int .i64 m.er] 33) := by rw [hW1]; exact heap_alloc_new w _
  have X : Hid (∀ W, Below W1.heap.size W1 W → W.heap[w.heap.size]? = some (.cells #[.int .i64 m.k, .int .i64 m.f, .int .i64 m.to, .int .i64 m.g, .int .i64 m.n, .slice ae ne ce, .slice aa na ca, .slice p1 n1 c1, .slice p2 n2 c2, .slice p3 n3 c3, .slice p4 n4 c4, .int .i64 m.ki, .string m.mn, .string m.mv, .slice sa sn sc, .int .i64 m.er] 33)) := fun W hW => (hW.block _ (lt_of_block x1)).trans x1
  have HF := Lib.hid (far_any m _ W1 (HR.out W1 b1))
  obtain ⟨S0, hS0⟩ : ∃ x, x = ansS (cd.msg m) := ⟨_, rfl⟩
  obtain ⟨E0, hE0⟩ : ∃ x, x = ansE (cd.msg m) := ⟨_, rfl⟩
  have HWR : Hid (∀ W, Below w.heap.size w W → Calls Try.prog 10 #[.agg #[.int .i64 m.k, .int .i64 m.f, .int .i64 m.to, .int .i64 m.g, .int .i64 m.n, .slice ae ne ce, .slice aa na ca, .slice p1 n1 c1, .slice p2 n2 c2, .slice p3 n3 c3, .slice p4 n4 c4, .int .i64 m.ki, .string m.mn, .string m.mv, .slice sa sn sc, .int .i64 m.er]] W fun e w' => e = .returned (.tuple #[.string S0, .int .i64 E0]) ∧ Below W.heap.size W w') := by
    intro W hW; rw [hS0, hE0]; exact write_f m _ W (HR.out W hW)
  have HRW : Hid (∀ W, Below w.heap.size w W → Calls Try.prog 11 #[.agg #[.int .i64 m.k, .int .i64 m.f, .int .i64 m.to, .int .i64 m.g, .int .i64 m.n, .slice ae ne ce, .slice aa na ca, .slice p1 n1 c1, .slice p2 n2 c2, .slice p3 n3 c3, .slice p4 n4 c4, .int .i64 m.ki, .string m.mn, .string m.mv, .slice sa sn sc, .int .i64 m.er]] W fun e w' => e = .returned (.tuple #[.string S0, .int .i64 E0]) ∧ Below W.heap.size W w') := by
    intro W hW; rw [hS0, hE0]; exact rwrite_any m _ W (HR.out W hW) HSM.out
  have HAW : Hid (∀ W, Calls Try.prog 9 #[] W (Said true W)) := awake_any
  have HW1 := Lib.hid hW1
  have HB1 := Lib.hid b1
  clear hh hW1 b1 x1 hS0 hE0 hsm
  go_enter Try.func3, Try.ntmps3
  go_wp2_with fail
  rw [← HW1.out]
  (with_reducible refine HF.out.mono ?_)
  rintro e w2 ⟨⟨r, rfl⟩, b2⟩
  have D2 := Lib.hid b2
  have E2 := Lib.hid (HB1.out.trans (b2.mono HB1.out.size))
  clear b2
  cases r with
  | true =>
    go_wp2_with fail
    (with_reducible refine (HAW.out _).mono ?_)
    rintro e w3 ⟨rfl, b3⟩
    go_wp2
    go_ret
    exact ⟨rfl, E2.out.trans (b3.mono E2.out.size)⟩
  | false =>
    have q0 := boxc (X.out _ D2.out) 0 _ rfl
    have q1 := boxc (X.out _ D2.out) 1 _ rfl
    have q2 := boxc (X.out _ D2.out) 2 _ rfl
    have q3 := boxc (X.out _ D2.out) 3 _ rfl
    have q4 := boxc (X.out _ D2.out) 4 _ rfl
    have q5 := boxc (X.out _ D2.out) 5 _ rfl
    have q6 := boxc (X.out _ D2.out) 6 _ rfl
    have q7 := boxc (X.out _ D2.out) 7 _ rfl
    have q8 := boxc (X.out _ D2.out) 8 _ rfl
    have q9 := boxc (X.out _ D2.out) 9 _ rfl
    have q10 := boxc (X.out _ D2.out) 10 _ rfl
    have q11 := boxc (X.out _ D2.out) 11 _ rfl
    have q12 := boxc (X.out _ D2.out) 12 _ rfl
    have q13 := boxc (X.out _ D2.out) 13 _ rfl
    have q14 := boxc (X.out _ D2.out) 14 _ rfl
    have q15 := boxc (X.out _ D2.out) 15 _ rfl
    go_wp2_with fail
    clear q0 q1 q2 q3 q4 q5 q6 q7 q8 q9 q10 q11 q12 q13 q14 q15
    (with_reducible refine (HWR.out _ E2.out).mono ?_)
    rintro e w3 ⟨rfl, b3⟩
    have D3 := Lib.hid (D2.out.trans (b3.mono D2.out.size))
    have E3 := Lib.hid (E2.out.trans (b3.mono E2.out.size))
    clear b3
    have q0 := boxc (X.out _ D3.out) 0 _ rfl
    have q1 := boxc (X.out _ D3.out) 1 _ rfl
    have q2 := boxc (X.out _ D3.out) 2 _ rfl
    have q3 := boxc (X.out _ D3.out) 3 _ rfl
    have q4 := boxc (X.out _ D3.out) 4 _ rfl
    have q5 := boxc (X.out _ D3.out) 5 _ rfl
    have q6 := boxc (X.out _ D3.out) 6 _ rfl
    have q7 := boxc (X.out _ D3.out) 7 _ rfl
    have q8 := boxc (X.out _ D3.out) 8 _ rfl
    have q9 := boxc (X.out _ D3.out) 9 _ rfl
    have q10 := boxc (X.out _ D3.out) 10 _ rfl
    have q11 := boxc (X.out _ D3.out) 11 _ rfl
    have q12 := boxc (X.out _ D3.out) 12 _ rfl
    have q13 := boxc (X.out _ D3.out) 13 _ rfl
    have q14 := boxc (X.out _ D3.out) 14 _ rfl
    have q15 := boxc (X.out _ D3.out) 15 _ rfl
    go_wp2_with fail
    clear q0 q1 q2 q3 q4 q5 q6 q7 q8 q9 q10 q11 q12 q13 q14 q15
    (with_reducible refine (HRW.out _ E3.out).mono ?_)
    rintro e w4 ⟨rfl, b4⟩
    have E4 := Lib.hid (E3.out.trans (b4.mono E3.out.size))
    clear b4
    go_wp2_with fail
    (with_reducible refine (HAW.out _).mono ?_)
    rintro e w5 ⟨rfl, b5⟩
    go_wp2
    go_ret
    exact ⟨rfl, E4.out.trans (b5.mono E4.out.size)⟩
end Go.Proofs.Ytghbkieflifegaa
