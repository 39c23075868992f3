/- law CodecApart. -/
import Derived.Test.YtghbkieflifegaaCdAwk
import Derived.Test.YtghbkieflifegaaCdSameN
namespace Go.Proofs.Ytghbkieflifegaa
open Go Go.RowKit Go.ChangeShapes cl
set_option maxHeartbeats 12800000 in
set_option maxRecDepth 100000 in
theorem apart_some_some (m mm : cd.Msg) (c c2 : List Value) (w : World) (h : msgRel w w.heap.size c m) (h2 : msgRel w w.heap.size c2 mm) (b : List Nat) (ha : cd.msg m = some b) (b2 : List Nat) (hb : cd.msg mm = some b2) (hm : m ≠ mm) : Calls Try.prog 7 #[.agg c.toArray, .agg c2.toArray] w (Said true w) := by
  have HFR : Hid (∀ (W : World) c, msgRel W W.heap.size c m → Calls Try.prog 8 #[.agg (List.toArray c)] W (Ends W)) := fun W c h => far_any m c W h
  have HWR : Hid (∀ (W : World) c, msgRel W W.heap.size c m → Calls Try.prog 10 #[.agg (List.toArray c)] W (Answer (cd.msg m) W)) := fun W c h => write_m m c W h
  have HAW : Hid (∀ W : World, Calls Try.prog 9 #[] W (Said true W)) := awake_any
  have HFR2 : Hid (∀ (W : World) c, msgRel W W.heap.size c mm → Calls Try.prog 8 #[.agg (List.toArray c)] W (Ends W)) := fun W c h => far_any mm c W h
  have HWR2 : Hid (∀ (W : World) c, msgRel W W.heap.size c mm → Calls Try.prog 10 #[.agg (List.toArray c)] W (Answer (cd.msg mm) W)) := fun W c h => write_m mm c W h
  obtain ⟨ae, ne, ce, aa, na, ca, p1, m1, k1, p2, m2, k2, p3, m3, k3, p4, m4, k4, sa, sn, sc, rfl, g⟩ := h
  have h : msgRel w w.heap.size (#[.int .i64 m.k, .int .i64 m.f, .int .i64 m.to, .int .i64 m.g, .int .i64 m.n, .slice ae ne ce, .slice aa na ca, .slice p1 m1 k1, .slice p2 m2 k2, .slice p3 m3 k3, .slice p4 m4 k4, .int .i64 m.ki, .string m.mn, .string m.mv, .slice sa sn sc, .int .i64 m.er]).toList m := ⟨ae, ne, ce, aa, na, ca, p1, m1, k1, p2, m2, k2, p3, m3, k3, p4, m4, k4, sa, sn, sc, rfl, g⟩
  clear g
  have HM : Hid (∀ W, Below w.heap.size w W → msgRel W W.heap.size (#[.int .i64 m.k, .int .i64 m.f, .int .i64 m.to, .int .i64 m.g, .int .i64 m.n, .slice ae ne ce, .slice aa na ca, .slice p1 m1 k1, .slice p2 m2 k2, .slice p3 m3 k3, .slice p4 m4 k4, .int .i64 m.ki, .string m.mn, .string m.mv, .slice sa sn sc, .int .i64 m.er]).toList m) := fun W hW => msgRel_steady _ _ _ _ _ _ h hW hW.size
  clear h
  obtain ⟨aeq, neq, ceq, aaq, naq, caq, p1q, m1q, k1q, p2q, m2q, k2q, p3q, m3q, k3q, p4q, m4q, k4q, saq, snq, scq, rfl, g⟩ := h2
  have h2 : msgRel w w.heap.size (#[.int .i64 mm.k, .int .i64 mm.f, .int .i64 mm.to, .int .i64 mm.g, .int .i64 mm.n, .slice aeq neq ceq, .slice aaq naq caq, .slice p1q m1q k1q, .slice p2q m2q k2q, .slice p3q m3q k3q, .slice p4q m4q k4q, .int .i64 mm.ki, .string mm.mn, .string mm.mv, .slice saq snq scq, .int .i64 mm.er]).toList mm := ⟨aeq, neq, ceq, aaq, naq, caq, p1q, m1q, k1q, p2q, m2q, k2q, p3q, m3q, k3q, p4q, m4q, k4q, saq, snq, scq, rfl, g⟩
  clear g
  have HMq : Hid (∀ W, Below w.heap.size w W → msgRel W W.heap.size (#[.int .i64 mm.k, .int .i64 mm.f, .int .i64 mm.to, .int .i64 mm.g, .int .i64 mm.n, .slice aeq neq ceq, .slice aaq naq caq, .slice p1q m1q k1q, .slice p2q m2q k2q, .slice p3q m3q k3q, .slice p4q m4q k4q, .int .i64 mm.ki, .string mm.mn, .string mm.mv, .slice saq snq scq, .int .i64 mm.er]).toList mm) := fun W hW => msgRel_steady _ _ _ _ _ _ h2 hW hW.size
  clear h2
  obtain ⟨W2, hW2⟩ : ∃ W, W = ((w.alloc (.cells #[.int .i64 m.k, .int .i64 m.f, .int .i64 m.to, .int .i64 m.g, .int .i64 m.n, .slice ae ne ce, .slice aa na ca, .slice p1 m1 k1, .slice p2 m2 k2, .slice p3 m3 k3, .slice p4 m4 k4, .int .i64 m.ki, .string m.mn, .string m.mv, .slice sa sn sc, .int .i64 m.er] 33)).alloc (.cells #[.int .i64 mm.k, .int .i64 mm.f, .int .i64 mm.to, .int .i64 mm.g, .int .i64 mm.n, .slice aeq neq ceq, .slice aaq naq caq, .slice p1q m1q k1q, .slice p2q m2q k2q, .slice p3q m3q k3q, .slice p4q m4q k4q, .int .i64 mm.ki, .string mm.mn, .string mm.mv, .slice saq snq scq, .int .i64 mm.er] 33)) := ⟨_, rfl⟩
  have b1 : Below w.heap.size w (w.alloc (.cells #[.int .i64 m.k, .int .i64 m.f, .int .i64 m.to, .int .i64 m.g, .int .i64 m.n, .slice ae ne ce, .slice aa na ca, .slice p1 m1 k1, .slice p2 m2 k2, .slice p3 m3 k3, .slice p4 m4 k4, .int .i64 m.ki, .string m.mn, .string m.mv, .slice sa sn sc, .int .i64 m.er] 33)) := below1
  have b2 : Below (w.alloc (.cells #[.int .i64 m.k, .int .i64 m.f, .int .i64 m.to, .int .i64 m.g, .int .i64 m.n, .slice ae ne ce, .slice aa na ca, .slice p1 m1 k1, .slice p2 m2 k2, .slice p3 m3 k3, .slice p4 m4 k4, .int .i64 m.ki, .string m.mn, .string m.mv, .slice sa sn sc, .int .i64 m.er] 33)).heap.size (w.alloc (.cells #[.int .i64 m.k, .int .i64 m.f, .int .i64 m.to, .int .i64 m.g, .int .i64 m.n, .slice ae ne ce, .slice aa na ca, .slice p1 m1 k1, .slice p2 m2 k2, .slice p3 m3 k3, .slice p4 m4 k4, .int .i64 m.ki, .string m.mn, .string m.mv, .slice sa sn sc, .int .i64 m.er] 33)) W2 := by rw [hW2]; exact below1
  have E2 := b1.trans (b2.mono b1.size)
  have x1 : W2.heap[w.heap.size]? = some (.cells #[.int .i64 m.k, .int .i64 m.f, .int .i64 m.to, .int .i64 m.g, .int .i64 m.n, .slice ae ne ce, .slice aa na ca, .slice p1 m1 k1, .slice p2 m2 k2, .slice p3 m3 k3, .slice p4 m4 k4, .int .i64 m.ki, .string m.mn, .string m.mv, .slice sa sn sc, .int .i64 m.er] 33) := (b2.block _ (by simp)).trans (heap_alloc_new w _)
  have x2 : W2.heap[w.heap.size + 1]? = some (.cells #[.int .i64 mm.k, .int .i64 mm.f, .int .i64 mm.to, .int .i64 mm.g, .int .i64 mm.n, .slice aeq neq ceq, .slice aaq naq caq, .slice p1q m1q k1q, .slice p2q m2q k2q, .slice p3q m3q k3q, .slice p4q m4q k4q, .int .i64 mm.ki, .string mm.mn, .string mm.mv, .slice saq snq scq, .int .i64 mm.er] 33) := by
    have := heap_alloc_new (w.alloc (.cells #[.int .i64 m.k, .int .i64 m.f, .int .i64 m.to, .int .i64 m.g, .int .i64 m.n, .slice ae ne ce, .slice aa na ca, .slice p1 m1 k1, .slice p2 m2 k2, .slice p3 m3 k3, .slice p4 m4 k4, .int .i64 m.ki, .string m.mn, .string m.mv, .slice sa sn sc, .int .i64 m.er] 33)) (.cells #[.int .i64 mm.k, .int .i64 mm.f, .int .i64 mm.to, .int .i64 mm.g, .int .i64 mm.n, .slice aeq neq ceq, .slice aaq naq caq, .slice p1q m1q k1q, .slice p2q m2q k2q, .slice p3q m3q k3q, .slice p4q m4q k4q, .int .i64 mm.ki, .string mm.mn, .string mm.mv, .slice saq snq scq, .int .i64 mm.er] 33)
    rw [World.size_alloc] at this
    rw [hW2]; exact this
  have HX : Hid (∀ W, Below W2.heap.size W2 W → W.heap[w.heap.size]? = some (.cells #[.int .i64 m.k, .int .i64 m.f, .int .i64 m.to, .int .i64 m.g, .int .i64 m.n, .slice ae ne ce, .slice aa na ca, .slice p1 m1 k1, .slice p2 m2 k2, .slice p3 m3 k3, .slice p4 m4 k4, .int .i64 m.ki, .string m.mn, .string m.mv, .slice sa sn sc, .int .i64 m.er] 33) ∧ W.heap[w.heap.size + 1]? = some (.cells #[.int .i64 mm.k, .int .i64 mm.f, .int .i64 mm.to, .int .i64 mm.g, .int .i64 mm.n, .slice aeq neq ceq, .slice aaq naq caq, .slice p1q m1q k1q, .slice p2q m2q k2q, .slice p3q m3q k3q, .slice p4q m4q k4q, .int .i64 mm.ki, .string mm.mn, .string mm.mv, .slice saq snq scq, .int .i64 mm.er] 33)) := fun W hW => ⟨(hW.block _ (lt_of_block x1)).trans x1, (hW.block _ (lt_of_block x2)).trans x2⟩
  have HE2 := Lib.hid E2
  have HW2 := Lib.hid hW2
  have HF1 := Lib.hid (HFR.out _ _ (HM.out _ E2))
  clear hW2 b1 b2 E2 x1 x2
  have HSM : Hid (∀ (W : World), Below w.heap.size w W → Calls Try.prog 14 #[.agg #[.int .i64 m.k, .int .i64 m.f, .int .i64 m.to, .int .i64 m.g, .int .i64 m.n, .slice ae ne ce, .slice aa na ca, .slice p1 m1 k1, .slice p2 m2 k2, .slice p3 m3 k3, .slice p4 m4 k4, .int .i64 m.ki, .string m.mn, .string m.mv, .slice sa sn sc, .int .i64 m.er], .agg #[.int .i64 mm.k, .int .i64 mm.f, .int .i64 mm.to, .int .i64 mm.g, .int .i64 mm.n, .slice aeq neq ceq, .slice aaq naq caq, .slice p1q m1q k1q, .slice p2q m2q k2q, .slice p3q m3q k3q, .slice p4q m4q k4q, .int .i64 mm.ki, .string mm.mn, .string mm.mv, .slice saq snq scq, .int .i64 mm.er]] W (Said false W)) := fun W hW => same_ne m mm _ _ W (HM.out W hW) (HMq.out W hW) hm
  have hst : ¬ kit.str b = kit.str b2 := fun q => hm (by
    have q2 := congrArg kit.bytes q
    rw [kit.bytes_str b (msg_byte m b ha), kit.bytes_str b2 (msg_byte mm b2 hb)] at q2
    subst q2
    exact cd.msg_inj ha hb)
  obtain ⟨g1, g2⟩ := neText hst
  rw [ha] at HWR
  rw [hb] at HWR2
  obtain ⟨S, hS⟩ : ∃ S, S = kit.str b := ⟨_, rfl⟩
  obtain ⟨S2, hS2⟩ : ∃ S, S = kit.str b2 := ⟨_, rfl⟩
  rw [← hS, ← hS2] at hst g1 g2
  have HS := Lib.hid hS
  have HS2 := Lib.hid hS2
  clear hS hS2
  clear ha hb hm
  go_enter Try.func7, Try.ntmps7
  go_wp2_with fail
  rw [← HW2.out]
  (with_reducible refine HF1.out.mono ?_)
  rintro e w1 ⟨⟨r, rfl⟩, b1⟩
  cases r
  rotate_left
  · skip
    go_wp2_with fail
    (with_reducible refine (HAW.out _).mono ?_)
    rintro e w9 ⟨rfl, b9⟩
    go_wp2
    go_ret
    exact ⟨rfl, HE2.out.trans ((b1.trans (b9.mono b1.size)).mono HE2.out.size)⟩
  have HF2 := Lib.hid (HFR2.out _ _ (HMq.out _ (HE2.out.trans (b1.mono HE2.out.size))))
  have hxx := HX.out _ b1
  have u0 := boxc hxx.2 0 _ rfl
  have u1 := boxc hxx.2 1 _ rfl
  have u2 := boxc hxx.2 2 _ rfl
  have u3 := boxc hxx.2 3 _ rfl
  have u4 := boxc hxx.2 4 _ rfl
  have u5 := boxc hxx.2 5 _ rfl
  have u6 := boxc hxx.2 6 _ rfl
  have u7 := boxc hxx.2 7 _ rfl
  have u8 := boxc hxx.2 8 _ rfl
  have u9 := boxc hxx.2 9 _ rfl
  have u10 := boxc hxx.2 10 _ rfl
  have u11 := boxc hxx.2 11 _ rfl
  have u12 := boxc hxx.2 12 _ rfl
  have u13 := boxc hxx.2 13 _ rfl
  have u14 := boxc hxx.2 14 _ rfl
  have u15 := boxc hxx.2 15 _ rfl
  clear hxx
  have HB1 := Lib.hid b1
  clear b1 HF1
  go_wp2_with fail
  (with_reducible refine HF2.out.mono ?_)
  rintro e w2 ⟨⟨r, rfl⟩, b2⟩
  have D2 := HB1.out.trans (b2.mono HB1.out.size)
  clear u0 u1 u2 u3 u4 u5 u6 u7 u8 u9 u10 u11 u12 u13 u14 u15
  cases r
  rotate_left
  · skip
    go_wp2_with fail
    (with_reducible refine (HAW.out _).mono ?_)
    rintro e w9 ⟨rfl, b9⟩
    go_wp2
    go_ret
    exact ⟨rfl, HE2.out.trans ((D2.trans (b9.mono D2.size)).mono HE2.out.size)⟩
  as_aux_lemma =>
    have hxx := HX.out _ D2
    have u0 := boxc hxx.1 0 _ rfl
    have u1 := boxc hxx.1 1 _ rfl
    have u2 := boxc hxx.1 2 _ rfl
    have u3 := boxc hxx.1 3 _ rfl
    have u4 := boxc hxx.1 4 _ rfl
    have u5 := boxc hxx.1 5 _ rfl
    have u6 := boxc hxx.1 6 _ rfl
    have u7 := boxc hxx.1 7 _ rfl
    have u8 := boxc hxx.1 8 _ rfl
    have u9 := boxc hxx.1 9 _ rfl
    have u10 := boxc hxx.1 10 _ rfl
    have u11 := boxc hxx.1 11 _ rfl
    have u12 := boxc hxx.1 12 _ rfl
    have u13 := boxc hxx.1 13 _ rfl
    have u14 := boxc hxx.1 14 _ rfl
    have u15 := boxc hxx.1 15 _ rfl
    clear hxx
    have HW1 := Lib.hid (HWR.out _ _ (HM.out _ (HE2.out.trans (D2.mono HE2.out.size))))
    have HD2 := Lib.hid D2
    clear b2 D2 HF2
    go_wp2_with fail
    (with_reducible refine HW1.out.mono ?_)
    rintro e w3 ⟨⟨bq, hb⟩, b3⟩
    have D3 := HD2.out.trans (b3.mono HD2.out.size)
    clear u0 u1 u2 u3 u4 u5 u6 u7 u8 u9 u10 u11 u12 u13 u14 u15
    rcases hb with ⟨hb1, rfl⟩ | ⟨hb1, rfl⟩
    rotate_left
    · cases hb1
    cases hb1
    have hxx := HX.out _ D3
    have u0 := boxc hxx.2 0 _ rfl
    have u1 := boxc hxx.2 1 _ rfl
    have u2 := boxc hxx.2 2 _ rfl
    have u3 := boxc hxx.2 3 _ rfl
    have u4 := boxc hxx.2 4 _ rfl
    have u5 := boxc hxx.2 5 _ rfl
    have u6 := boxc hxx.2 6 _ rfl
    have u7 := boxc hxx.2 7 _ rfl
    have u8 := boxc hxx.2 8 _ rfl
    have u9 := boxc hxx.2 9 _ rfl
    have u10 := boxc hxx.2 10 _ rfl
    have u11 := boxc hxx.2 11 _ rfl
    have u12 := boxc hxx.2 12 _ rfl
    have u13 := boxc hxx.2 13 _ rfl
    have u14 := boxc hxx.2 14 _ rfl
    have u15 := boxc hxx.2 15 _ rfl
    clear hxx
    have HW2' := Lib.hid (HWR2.out _ _ (HMq.out _ (HE2.out.trans (D3.mono HE2.out.size))))
    have HD3 := Lib.hid D3
    clear b3 D3 HW1
    go_wp2_with fail
    (with_reducible refine HW2'.out.mono ?_)
    rintro e w4 ⟨⟨bq, hb⟩, b4⟩
    have D4 := HD3.out.trans (b4.mono HD3.out.size)
    clear u0 u1 u2 u3 u4 u5 u6 u7 u8 u9 u10 u11 u12 u13 u14 u15
    rcases hb with ⟨hb1, rfl⟩ | ⟨hb1, rfl⟩
    rotate_left
    · cases hb1
    cases hb1
    rw [← HS.out, ← HS2.out]
    have hxx := HX.out _ D4
    have u0 := boxc hxx.1 0 _ rfl
    have u1 := boxc hxx.1 1 _ rfl
    have u2 := boxc hxx.1 2 _ rfl
    have u3 := boxc hxx.1 3 _ rfl
    have u4 := boxc hxx.1 4 _ rfl
    have u5 := boxc hxx.1 5 _ rfl
    have u6 := boxc hxx.1 6 _ rfl
    have u7 := boxc hxx.1 7 _ rfl
    have u8 := boxc hxx.1 8 _ rfl
    have u9 := boxc hxx.1 9 _ rfl
    have u10 := boxc hxx.1 10 _ rfl
    have u11 := boxc hxx.1 11 _ rfl
    have u12 := boxc hxx.1 12 _ rfl
    have u13 := boxc hxx.1 13 _ rfl
    have u14 := boxc hxx.1 14 _ rfl
    have u15 := boxc hxx.1 15 _ rfl
    have t0 := boxc hxx.2 0 _ rfl
    have t1 := boxc hxx.2 1 _ rfl
    have t2 := boxc hxx.2 2 _ rfl
    have t3 := boxc hxx.2 3 _ rfl
    have t4 := boxc hxx.2 4 _ rfl
    have t5 := boxc hxx.2 5 _ rfl
    have t6 := boxc hxx.2 6 _ rfl
    have t7 := boxc hxx.2 7 _ rfl
    have t8 := boxc hxx.2 8 _ rfl
    have t9 := boxc hxx.2 9 _ rfl
    have t10 := boxc hxx.2 10 _ rfl
    have t11 := boxc hxx.2 11 _ rfl
    have t12 := boxc hxx.2 12 _ rfl
    have t13 := boxc hxx.2 13 _ rfl
    have t14 := boxc hxx.2 14 _ rfl
    have t15 := boxc hxx.2 15 _ rfl
    clear hxx
    have HS1 := Lib.hid (HSM.out _ (HE2.out.trans (D4.mono HE2.out.size)))
    clear b4 HW2'
    as_aux_lemma =>
      go_wp2_with fail
      (with_reducible refine HS1.out.mono ?_)
      rintro e w5 ⟨rfl, b5⟩
      have D5 := D4.trans (b5.mono D4.size)
      clear u0 u1 u2 u3 u4 u5 u6 u7 u8 u9 u10 u11 u12 u13 u14 u15
      clear t0 t1 t2 t3 t4 t5 t6 t7 t8 t9 t10 t11 t12 t13 t14 t15
      clear b5
      go_wp2_with fail
      (with_reducible refine (HAW.out _).mono ?_)
      rintro e w9 ⟨rfl, b9⟩
      go_wp2
      go_ret
      exact ⟨rfl, HE2.out.trans ((D5.trans (b9.mono D5.size)).mono HE2.out.size)⟩
end Go.Proofs.Ytghbkieflifegaa
