/- net's law: what is under way is not what was handed in. -/
import Derived.Test.YtpgccfgldjeomaaNtAp0
import Derived.Test.YtpgccfgldjeomaaNtAwk
namespace Go.Proofs.Ytpgccfgldjeomaa
open Go Go.RowKit Go.ChangeShapes cl
set_option maxHeartbeats 12800000 in
set_option maxRecDepth 100000 in
theorem apart_any (m : cd.Msg) (c : List Value) (w : World) (h : msgRel w w.heap.size c m) (hsm : Small 1048576 m) : Calls Try.prog 6 #[.agg c.toArray] w (Said true w) := by
  have HAW : Hid (∀ W, Calls Try.prog 8 #[] W (Said true W)) := awake_any
  have HSM := Lib.hid hsm
  obtain ⟨ae, ne, ce, aa, na, ca, p1, n1, c1, p2, n2, c2, p3, n3, c3, p4, n4, c4, sa, sn, sc, rfl, he, ha, hdv, hdc, hv, hc, hmn, hmv, hs⟩ := h
  obtain ⟨W1, hW1⟩ : ∃ W, W = w.alloc (.cells #[.int .i64 m.k, .int .i64 m.f, .int .i64 m.to, .int .i64 m.g, .int .i64 m.n, .slice ae ne ce, .slice aa na ca, .slice p1 n1 c1, .slice p2 n2 c2, .slice p3 n3 c3, .slice p4 n4 c4, .int .i64 m.ki, .string m.mn, .string m.mv, .slice sa sn sc, .int .i64 m.er] 34) := ⟨_, rfl⟩
  have b1 : Below w.heap.size w W1 := by rw [hW1]; exact below1
  have x1 : W1.heap[w.heap.size]? = some (.cells #[.int .i64 m.k, .int .i64 m.f, .int .i64 m.to, .int .i64 m.g, .int .i64 m.n, .slice ae ne ce, .slice aa na ca, .slice p1 n1 c1, .slice p2 n2 c2, .slice p3 n3 c3, .slice p4 n4 c4, .int .i64 m.ki, .string m.mn, .string m.mv, .slice sa sn sc, .int .i64 m.er] 34) := by rw [hW1]; exact heap_alloc_new w _
  obtain ⟨q0, hq0⟩ : ∃ x, x = w.heap.size := ⟨_, rfl⟩
  have HQ0 := Lib.hid hq0
  rw [← hq0] at x1
  have hz1 : q0 < W1.heap.size := lt_of_block x1
  have HM1 : Hid (msgRel W1 W1.heap.size (#[.int .i64 m.k, .int .i64 m.f, .int .i64 m.to, .int .i64 m.g, .int .i64 m.n, .slice ae ne ce, .slice aa na ca, .slice p1 n1 c1, .slice p2 n2 c2, .slice p3 n3 c3, .slice p4 n4 c4, .int .i64 m.ki, .string m.mn, .string m.mv, .slice sa sn sc, .int .i64 m.er] : Array Value).toList m) := msgRel_steady _ _ _ _ _ _ ⟨ae, ne, ce, aa, na, ca, p1, n1, c1, p2, n2, c2, p3, n3, c3, p4, n4, c4, sa, sn, sc, rfl, he, ha, hdv, hdc, hv, hc, hmn, hmv, hs⟩ b1 b1.size
  have HR : Hid (∀ W, Below w.heap.size w W → RowsAt 5 entR W W.heap.size (.slice ae ne ce) m.e ∧ RowsAt 2 dotR W W.heap.size (.slice aa na ca) m.al ∧ RowsAt 2 dotR W W.heap.size (.slice p1 n1 c1) m.dv ∧ RowsAt 2 dotR W W.heap.size (.slice p2 n2 c2) m.dc ∧ RowsAt 2 dotR W W.heap.size (.slice p3 n3 c3) m.v ∧ RowsAt 2 dotR W W.heap.size (.slice p4 n4 c4) m.c ∧ RowsAt 1 strR W W.heap.size (.slice sa sn sc) m.s) :=
    fun W hW => ⟨he.next entR_steady hW, ha.next dotR_steady hW, hdv.next dotR_steady hW, hdc.next dotR_steady hW, hv.next dotR_steady hW, hc.next dotR_steady hW, hs.next strR_steady hW⟩
  have HMX : Hid (m.mn.size ≤ maxLen ∧ m.mv.size ≤ maxLen) := ⟨hmn, hmv⟩
  have LS : Hid (sn = m.s.length ∧ na = m.al.length ∧ n3 = m.v.length) := ⟨(RowsAt.raw hs).1, (RowsAt.raw ha).1, (RowsAt.raw hv).1⟩
  have B1 := Lib.hid b1
  have X1 := Lib.hid x1
  have HW1 := Lib.hid hW1
  -- the list of one, for far
  obtain ⟨W2, hW2⟩ : ∃ W, W = W1.alloc (.cells #[.int .i64 m.k, .int .i64 m.f, .int .i64 m.to, .int .i64 m.g, .int .i64 m.n, .slice ae ne ce, .slice aa na ca, .slice p1 n1 c1, .slice p2 n2 c2, .slice p3 n3 c3, .slice p4 n4 c4, .int .i64 m.ki, .string m.mn, .string m.mv, .slice sa sn sc, .int .i64 m.er] 34) := ⟨_, rfl⟩
  have b2 : Below W1.heap.size W1 W2 := by rw [hW2]; exact below1
  have x2 : W2.heap[W1.heap.size]? = some (.cells #[.int .i64 m.k, .int .i64 m.f, .int .i64 m.to, .int .i64 m.g, .int .i64 m.n, .slice ae ne ce, .slice aa na ca, .slice p1 n1 c1, .slice p2 n2 c2, .slice p3 n3 c3, .slice p4 n4 c4, .int .i64 m.ki, .string m.mn, .string m.mv, .slice sa sn sc, .int .i64 m.er] 34) := by rw [hW2]; exact heap_alloc_new W1 _
  have B2 := Lib.hid (b1.trans (b2.mono b1.size))
  have X2 : Hid (W2.heap[q0]? = some (.cells #[.int .i64 m.k, .int .i64 m.f, .int .i64 m.to, .int .i64 m.g, .int .i64 m.n, .slice ae ne ce, .slice aa na ca, .slice p1 n1 c1, .slice p2 n2 c2, .slice p3 n3 c3, .slice p4 n4 c4, .int .i64 m.ki, .string m.mn, .string m.mv, .slice sa sn sc, .int .i64 m.er] 34)) := (b2.block _ hz1).trans x1
  have hz1' : W1.heap.size = q0 + 1 := by rw [hW1, hq0]; simp
  rw [hz1'] at x2
  have HF := Lib.hid (far_any [m] (.slice (some ⟨q0 + 1, 0, none⟩) 1 1) W2 (rows_box x2 [(#[.int .i64 m.k, .int .i64 m.f, .int .i64 m.to, .int .i64 m.g, .int .i64 m.n, .slice ae ne ce, .slice aa na ca, .slice p1 n1 c1, .slice p2 n2 c2, .slice p3 n3 c3, .slice p4 n4 c4, .int .i64 m.ki, .string m.mn, .string m.mv, .slice sa sn sc, .int .i64 m.er] : Array Value).toList] rfl (one_list ⟨rfl, msgRel_steady _ _ _ _ _ _ HM1.out b2 b2.size⟩) (by simp) rfl (by unfold maxLen; omega)))
  have HZ1 := Lib.hid hz1
  clear b1 b2 x1 x2 he ha hdv hdc hv hc hmn hmv hs hq0 hsm hz1 hz1'
  have HW2 := Lib.hid hW2
  clear hW1 hW2
  go_enter Try.func6, Try.ntmps6
  go_wp2_with fail
  rw [← HW1.out, ← HW2.out, ← HQ0.out]
  (with_reducible refine HF.out.mono ?_)
  rintro e w3 ⟨⟨r, rfl⟩, b3⟩
  have B3 := Lib.hid (B2.out.trans (b3.mono B2.out.size))
  have X3 : Hid (w3.heap[q0]? = some (.cells #[.int .i64 m.k, .int .i64 m.f, .int .i64 m.to, .int .i64 m.g, .int .i64 m.n, .slice ae ne ce, .slice aa na ca, .slice p1 n1 c1, .slice p2 n2 c2, .slice p3 n3 c3, .slice p4 n4 c4, .int .i64 m.ki, .string m.mn, .string m.mv, .slice sa sn sc, .int .i64 m.er] 34)) := (b3.block _ (lt_of_block X2.out)).trans X2.out
  clear b3
  cases r with
  | true =>
    go_wp2_with fail
    (with_reducible refine (HAW.out _).mono ?_)
    rintro e w4 ⟨rfl, b4⟩
    go_wp2
    go_ret
    exact ⟨rfl, B3.out.trans (b4.mono B3.out.size)⟩
  | false =>
    -- copy 0
    have al0 : Below w3.heap.size w3 (w3.alloc (.cells #[] 9)) := below1
    have kc0 := boxc ((al0.block _ (lt_of_block X3.out)).trans X3.out) 14 _ rfl
    have R0 := Lib.hid ((HR.out _ B3.out).2.2.2.2.2.2)
    clear al0
    go_wp2_with (at_builtin; refine copy_str (.tmp 16) (.tmp 18) w3.heap.size rfl rfl rfl R0.out (by have := HSM.out.2.2.2.2.2.2.2.2.2.1; omega) rfl rfl ?_)
    intro os oc v0 hO0 hb0
    have O0 := Lib.hid hO0
    have y0 := (hb0.block _ (lt_of_block X3.out)).trans X3.out
    have y0c0 := boxc y0 0 _ rfl
    have y0f0 := boxf y0 0
    have y0c1 := boxc y0 1 _ rfl
    have y0f1 := boxf y0 1
    have y0c2 := boxc y0 2 _ rfl
    have y0f2 := boxf y0 2
    have y0c3 := boxc y0 3 _ rfl
    have y0f3 := boxf y0 3
    have y0c4 := boxc y0 4 _ rfl
    have y0f4 := boxf y0 4
    have y0c5 := boxc y0 5 _ rfl
    have y0f5 := boxf y0 5
    have y0c6 := boxc y0 6 _ rfl
    have y0f6 := boxf y0 6
    have y0c7 := boxc y0 7 _ rfl
    have y0f7 := boxf y0 7
    have y0c8 := boxc y0 8 _ rfl
    have y0f8 := boxf y0 8
    have y0c9 := boxc y0 9 _ rfl
    have y0f9 := boxf y0 9
    have y0c10 := boxc y0 10 _ rfl
    have y0f10 := boxf y0 10
    have y0c11 := boxc y0 11 _ rfl
    have y0f11 := boxf y0 11
    have y0c12 := boxc y0 12 _ rfl
    have y0f12 := boxf y0 12
    have y0c13 := boxc y0 13 _ rfl
    have y0f13 := boxf y0 13
    have y0c14 := boxc y0 14 _ rfl
    have y0f14 := boxf y0 14
    have y0c15 := boxc y0 15 _ rfl
    have y0f15 := boxf y0 15
    obtain ⟨V0, hV0⟩ : ∃ W, W = v0.setCell ⟨q0, 14, none⟩ (.slice os sn oc) := ⟨_, rfl⟩
    have HS0 := Lib.hid hV0
    have XV0 : Hid (V0.heap[q0]? = some (.cells #[.int .i64 m.k, .int .i64 m.f, .int .i64 m.to, .int .i64 m.g, .int .i64 m.n, .slice ae ne ce, .slice aa na ca, .slice p1 n1 c1, .slice p2 n2 c2, .slice p3 n3 c3, .slice p4 n4 c4, .int .i64 m.ki, .string m.mn, .string m.mv, .slice os sn oc, .int .i64 m.er] 34)) := by show _ = _; rw [hV0]; exact heap_setCell_same v0 q0 14 _ _ _ y0
    have KV0 : Hid (Kt 34 v0 V0) := by rw [hV0]; exact Kt.set y0 _ _
    have BV0 : Hid (Below w.heap.size w V0) := by rw [hV0]; exact (B3.out.trans (hb0.mono B3.out.size)).setCell (by have := HQ0.out; show w.heap.size ≤ q0; omega) _
    have KB0 := Lib.hid hb0
    clear hV0 hO0 hb0 y0
    -- copy 1
    have al1 : Below V0.heap.size V0 (V0.alloc (.cells #[] 57)) := below1
    have kc1 := boxc ((al1.block _ (lt_of_block XV0.out)).trans XV0.out) 6 _ rfl
    have R1 := Lib.hid ((HR.out _ BV0.out).2.1)
    rw [HS0.out] at kc1 R1
    clear al1
    go_wp2_with (at_builtin; refine copy_dot (.tmp 21) (.tmp 24) v0.heap.size (by simp) rfl rfl R1.out (by have := HSM.out.2.2.1; omega) rfl rfl ?_)
    intro oa oac v1 hO1 hb1
    have hO1 : RowsO V0.heap.size 57 2 dotO v1 (.slice oa na oac) m.al := by
      rw [HS0.out]
      first | exact hO1 | (rw [World.size_setCell]; exact hO1)
    have hb1 : Below V0.heap.size V0 v1 := by
      rw [HS0.out]
      first | exact hb1 | (rw [World.size_setCell]; exact hb1)
    have O1 := Lib.hid hO1
    have y1 := (hb1.block _ (lt_of_block XV0.out)).trans XV0.out
    have y1c0 := boxc y1 0 _ rfl
    have y1f0 := boxf y1 0
    have y1c1 := boxc y1 1 _ rfl
    have y1f1 := boxf y1 1
    have y1c2 := boxc y1 2 _ rfl
    have y1f2 := boxf y1 2
    have y1c3 := boxc y1 3 _ rfl
    have y1f3 := boxf y1 3
    have y1c4 := boxc y1 4 _ rfl
    have y1f4 := boxf y1 4
    have y1c5 := boxc y1 5 _ rfl
    have y1f5 := boxf y1 5
    have y1c6 := boxc y1 6 _ rfl
    have y1f6 := boxf y1 6
    have y1c7 := boxc y1 7 _ rfl
    have y1f7 := boxf y1 7
    have y1c8 := boxc y1 8 _ rfl
    have y1f8 := boxf y1 8
    have y1c9 := boxc y1 9 _ rfl
    have y1f9 := boxf y1 9
    have y1c10 := boxc y1 10 _ rfl
    have y1f10 := boxf y1 10
    have y1c11 := boxc y1 11 _ rfl
    have y1f11 := boxf y1 11
    have y1c12 := boxc y1 12 _ rfl
    have y1f12 := boxf y1 12
    have y1c13 := boxc y1 13 _ rfl
    have y1f13 := boxf y1 13
    have y1c14 := boxc y1 14 _ rfl
    have y1f14 := boxf y1 14
    have y1c15 := boxc y1 15 _ rfl
    have y1f15 := boxf y1 15
    obtain ⟨V1, hV1⟩ : ∃ W, W = v1.setCell ⟨q0, 6, none⟩ (.slice oa na oac) := ⟨_, rfl⟩
    have HS1 := Lib.hid hV1
    have XV1 : Hid (V1.heap[q0]? = some (.cells #[.int .i64 m.k, .int .i64 m.f, .int .i64 m.to, .int .i64 m.g, .int .i64 m.n, .slice ae ne ce, .slice oa na oac, .slice p1 n1 c1, .slice p2 n2 c2, .slice p3 n3 c3, .slice p4 n4 c4, .int .i64 m.ki, .string m.mn, .string m.mv, .slice os sn oc, .int .i64 m.er] 34)) := by show _ = _; rw [hV1]; exact heap_setCell_same v1 q0 6 _ _ _ y1
    have KV1 : Hid (Kt 34 v1 V1) := by rw [hV1]; exact Kt.set y1 _ _
    have BV1 : Hid (Below w.heap.size w V1) := by rw [hV1]; exact (BV0.out.trans (hb1.mono BV0.out.size)).setCell (by have := HQ0.out; show w.heap.size ≤ q0; omega) _
    have KB1 := Lib.hid hb1
    clear hV1 hO1 hb1 y1
    -- copy 2
    have al2 : Below V1.heap.size V1 (V1.alloc (.cells #[] 57)) := below1
    have kc2 := boxc ((al2.block _ (lt_of_block XV1.out)).trans XV1.out) 9 _ rfl
    have R2 := Lib.hid ((HR.out _ BV1.out).2.2.2.2.1)
    rw [HS1.out] at kc2 R2
    clear al2
    go_wp2_with (at_builtin; refine copy_dot (.tmp 28) (.tmp 31) v1.heap.size (by simp) rfl rfl R2.out (by have := HSM.out.2.2.2.2.2.1; omega) rfl rfl ?_)
    intro ov ovc v2 hO2 hb2
    have hO2 : RowsO V1.heap.size 57 2 dotO v2 (.slice ov n3 ovc) m.v := by
      rw [HS1.out]
      first | exact hO2 | (rw [World.size_setCell]; exact hO2)
    have hb2 : Below V1.heap.size V1 v2 := by
      rw [HS1.out]
      first | exact hb2 | (rw [World.size_setCell]; exact hb2)
    have O2 := Lib.hid hO2
    have y2 := (hb2.block _ (lt_of_block XV1.out)).trans XV1.out
    have y2c0 := boxc y2 0 _ rfl
    have y2f0 := boxf y2 0
    have y2c1 := boxc y2 1 _ rfl
    have y2f1 := boxf y2 1
    have y2c2 := boxc y2 2 _ rfl
    have y2f2 := boxf y2 2
    have y2c3 := boxc y2 3 _ rfl
    have y2f3 := boxf y2 3
    have y2c4 := boxc y2 4 _ rfl
    have y2f4 := boxf y2 4
    have y2c5 := boxc y2 5 _ rfl
    have y2f5 := boxf y2 5
    have y2c6 := boxc y2 6 _ rfl
    have y2f6 := boxf y2 6
    have y2c7 := boxc y2 7 _ rfl
    have y2f7 := boxf y2 7
    have y2c8 := boxc y2 8 _ rfl
    have y2f8 := boxf y2 8
    have y2c9 := boxc y2 9 _ rfl
    have y2f9 := boxf y2 9
    have y2c10 := boxc y2 10 _ rfl
    have y2f10 := boxf y2 10
    have y2c11 := boxc y2 11 _ rfl
    have y2f11 := boxf y2 11
    have y2c12 := boxc y2 12 _ rfl
    have y2f12 := boxf y2 12
    have y2c13 := boxc y2 13 _ rfl
    have y2f13 := boxf y2 13
    have y2c14 := boxc y2 14 _ rfl
    have y2f14 := boxf y2 14
    have y2c15 := boxc y2 15 _ rfl
    have y2f15 := boxf y2 15
    obtain ⟨V2, hV2⟩ : ∃ W, W = v2.setCell ⟨q0, 9, none⟩ (.slice ov n3 ovc) := ⟨_, rfl⟩
    have HS2 := Lib.hid hV2
    have XV2 : Hid (V2.heap[q0]? = some (.cells #[.int .i64 m.k, .int .i64 m.f, .int .i64 m.to, .int .i64 m.g, .int .i64 m.n, .slice ae ne ce, .slice oa na oac, .slice p1 n1 c1, .slice p2 n2 c2, .slice ov n3 ovc, .slice p4 n4 c4, .int .i64 m.ki, .string m.mn, .string m.mv, .slice os sn oc, .int .i64 m.er] 34)) := by show _ = _; rw [hV2]; exact heap_setCell_same v2 q0 9 _ _ _ y2
    have KV2 : Hid (Kt 34 v2 V2) := by rw [hV2]; exact Kt.set y2 _ _
    have BV2 : Hid (Below w.heap.size w V2) := by rw [hV2]; exact (BV1.out.trans (hb2.mono BV1.out.size)).setCell (by have := HQ0.out; show w.heap.size ≤ q0; omega) _
    have KB2 := Lib.hid hb2
    clear hV2 hO2 hb2 y2
    go_wp2_with fail
    rw [← HS2.out]
    clear y2c0 y2f0 y2c1 y2f1 y2c2 y2f2 y2c3 y2f3 y2c4 y2f4 y2c5 y2f5 y2c6 y2f6 y2c7 y2f7 y2c8 y2f8 y2c9 y2f9 y2c10 y2f10 y2c11 y2f11 y2c12 y2f12 y2c13 y2f13 y2c14 y2f14 y2c15 y2f15
    clear kc2
    have K2 : Kt 34 v2 V2 := KV2.out
    have K1 : Kt 34 v1 V2 := (KV1.out.trans (Kt.of_below KB2.out)).trans K2
    have K0 : Kt 34 v0 V2 := (KV0.out.trans (Kt.of_below KB1.out)).trans K1
    have P0 := RowsO.kt (strO_pst _) (by decide) O0.out K0
    have P1 := RowsO.kt (dotO_pst _) (by decide) O1.out K1
    have P2 := RowsO.kt (dotO_pst _) (by decide) O2.out K2
    have HR3 := HR.out _ BV2.out
    have HMV : Hid (msgRel V2 V2.heap.size (#[.int .i64 m.k, .int .i64 m.f, .int .i64 m.to, .int .i64 m.g, .int .i64 m.n, .slice ae ne ce, .slice oa na oac, .slice p1 n1 c1, .slice p2 n2 c2, .slice ov n3 ovc, .slice p4 n4 c4, .int .i64 m.ki, .string m.mn, .string m.mv, .slice os sn oc, .int .i64 m.er] : Array Value).toList m) := ⟨ae, ne, ce, oa, na, oac, p1, n1, c1, p2, n2, c2, ov, n3, ovc, p4, n4, c4, os, sn, oc, rfl, HR3.1, P1.at (fun _ _ h => h), HR3.2.2.1, HR3.2.2.2.1, P2.at (fun _ _ h => h), HR3.2.2.2.2.2.1, HMX.out.1, HMX.out.2, P0.at (fun _ _ h => h)⟩
    have HWr := Lib.hid (write_f m _ V2 HMV.out)
    obtain ⟨S0, hS0⟩ : ∃ x, x = ansS (cd.msg m) := ⟨_, rfl⟩
    obtain ⟨E0, hE0⟩ : ∃ x, x = ansE (cd.msg m) := ⟨_, rfl⟩
    have HWG : Hid (∀ W c, msgRel W W.heap.size c m → Calls Try.prog 24 #[.agg c.toArray] W fun e w' => e = .returned (.tuple #[.string S0, .int .i64 E0]) ∧ Below W.heap.size W w') := by
      intro W c h; rw [hS0, hE0]; exact write_f m c W h
    rw [← hS0, ← hE0] at HWr
    have TB1 : Hid (∀ a, oa = some a → a.block < V1.heap.size) := by
      obtain ⟨cs, _, _, ho⟩ := RowsO.kt (dotO_pst _) (by decide) O1.out KV1.out
      exact own_lt ho
    have TB0 : Hid (∀ a, os = some a → a.block < V2.heap.size) := by
      obtain ⟨cs, _, _, ho⟩ := P0
      exact own_lt ho
    have TB2 : Hid (∀ a, ov = some a → a.block < V2.heap.size) := by
      obtain ⟨cs, _, _, ho⟩ := P2
      exact own_lt ho
    have TU0 := Lib.hid (turn_str P0 LS.out.1 HSM.out.2.2.2.2.2.2.2.2.2.2)
    have TU1 := Lib.hid (turn_dot P1 LS.out.2.1)
    have TU2 := Lib.hid (turn_dot P2 LS.out.2.2)
    have HV12 : Hid (V0.heap.size ≤ V1.heap.size ∧ V1.heap.size ≤ V2.heap.size ∧ w3.heap.size ≤ V0.heap.size ∧ w.heap.size ≤ w3.heap.size) := ⟨Nat.le_trans KB1.out.size KV1.out.size, Nat.le_trans KB2.out.size KV2.out.size, Nat.le_trans KB0.out.size KV0.out.size, B3.out.size⟩
    clear hS0 hE0 K0 K1 K2 P0 P1 P2 HR3
    (with_reducible refine HWr.out.mono ?_)
    rintro e w4 ⟨rfl, b4⟩
    have X4 := Lib.hid ((b4.block _ (lt_of_block XV2.out)).trans XV2.out)
    have HS4 := Lib.hid (send_one m _ w4 (msgRel_steady _ _ _ _ _ _ HMV.out b4 b4.size) (HSM.out.fit (by omega)))
    have B4 := Lib.hid (BV2.out.trans (b4.mono BV2.out.size))
    have C4 := Lib.hid b4
    have x4 := X4.out
    have xc0 := boxc x4 0 _ rfl
    have xc1 := boxc x4 1 _ rfl
    have xc2 := boxc x4 2 _ rfl
    have xc3 := boxc x4 3 _ rfl
    have xc4 := boxc x4 4 _ rfl
    have xc5 := boxc x4 5 _ rfl
    have xc6 := boxc x4 6 _ rfl
    have xc7 := boxc x4 7 _ rfl
    have xc8 := boxc x4 8 _ rfl
    have xc9 := boxc x4 9 _ rfl
    have xc10 := boxc x4 10 _ rfl
    have xc11 := boxc x4 11 _ rfl
    have xc12 := boxc x4 12 _ rfl
    have xc13 := boxc x4 13 _ rfl
    have xc14 := boxc x4 14 _ rfl
    have xc15 := boxc x4 15 _ rfl
    clear b4 x4 HWr
    go_wp2_with fail
    clear xc0 xc1 xc2 xc3 xc4 xc5 xc6 xc7 xc8 xc9 xc10 xc11 xc12 xc13 xc14 xc15
    (with_reducible refine HS4.out.mono ?_)
    rintro e w5 ⟨gl, capl, c', rfl, hM, ho, b5⟩
    have B5 := Lib.hid (B4.out.trans (b5.mono B4.out.size))
    have C5 := Lib.hid (C4.out.trans (b5.mono C4.out.size))
    have X5 : Hid (w5.heap[q0]? = some (.cells #[.int .i64 m.k, .int .i64 m.f, .int .i64 m.to, .int .i64 m.g, .int .i64 m.n, .slice ae ne ce, .slice oa na oac, .slice p1 n1 c1, .slice p2 n2 c2, .slice ov n3 ovc, .slice p4 n4 c4, .int .i64 m.ki, .string m.mn, .string m.mv, .slice os sn oc, .int .i64 m.er] 34)) := (b5.block _ (lt_of_block X4.out)).trans X4.out
    have HB : Hid (V2.heap.size ≤ w4.heap.size) := C4.out.size
    have HMF := Lib.hid hM
    have HOL := Lib.hid ho
    replace TU0 := Lib.hid (TU0.out.next C5.out)
    replace TU1 := Lib.hid (TU1.out.next C5.out)
    replace TU2 := Lib.hid (TU2.out.next C5.out)
    have hqm : q0 = w.heap.size := HQ0.out
    have HNS : Hid (sn ≤ 1048576 ∧ na ≤ 1048576 ∧ n3 ≤ 1048576) := ⟨by rw [LS.out.1]; exact HSM.out.2.2.2.2.2.2.2.2.2.1, by rw [LS.out.2.1]; exact HSM.out.2.2.1, by rw [LS.out.2.2]; exact HSM.out.2.2.2.2.2.1⟩
    have hns := HNS.out
    have y5 := boxc X5.out 14 _ rfl
    clear hM ho b5 hqm
    go_wp2
    go_loopw [48, 58] (fun i _ wr => ∃ k : Nat, i = .int .i64 k ∧ k ≤ sn ∧ Hid (Fr w 9 w4.heap.size w5 wr) ∧ Hid (Turn (fun u => ∃ s : ByteArray, u = .string s ∧ s.size ≤ 1048576 + k) w3.heap.size 9 1 wr (.slice os sn oc) sn)) (fun i _ _ => sn - (intOf i).toNat)
    case atStart => exact ⟨0, rfl, by omega, Fr.refl _ _ _ _, TU0.out⟩
    case round =>
      obtain ⟨k, rfl, hk, HFR, HTU⟩ := hrel
      have xr : wr.heap[q0]? = some (.cells #[.int .i64 m.k, .int .i64 m.f, .int .i64 m.to, .int .i64 m.g, .int .i64 m.n, .slice ae ne ce, .slice oa na oac, .slice p1 n1 c1, .slice p2 n2 c2, .slice ov n3 ovc, .slice p4 n4 c4, .int .i64 m.ki, .string m.mn, .string m.mv, .slice os sn oc, .int .i64 m.er] 34) := (HFR.out.other q0 (fun cur fr e => by
        rw [X5.out] at e
        simp only [Option.some.injEq, Obj.cells.injEq] at e
        exact absurd e.2.1 (by decide))).trans X5.out
      by_cases hlt : k < sn
      · have hkI : (k : Int) < (sn : Int) := by omega
        have yr := boxc xr 14 _ rfl
        obtain ⟨g, u, cur, e, hgB, hcur, hP, hce, hfz, hset⟩ := HTU.out.cell (i := k) (by omega)
        have hgV : g < w4.heap.size := Nat.lt_of_lt_of_le (TB0.out _ e) HB.out
        have hgw : w.heap.size ≤ g := Nat.le_trans HV12.out.2.2.2 hgB
        subst e
        have HG := Lib.hid (And.intro hgV hgw)
        have HCU := Lib.hid hcur
        have HSE := Lib.hid hset
        obtain ⟨s, rfl, hsz⟩ := hP
        have z1 : ¬ 9223372036854775807 < s.size + 1 := by omega
        have z2 : ¬ 9223372036854775807 < s.size + (⟨#[33]⟩ : ByteArray).size := by show ¬ 9223372036854775807 < s.size + 1; omega
        have HSZ := Lib.hid hsz
        clear hsz
        clear xr hgV hgw hgB hcur hset
        go_wp2
        go_roundw
        case rel => exact ⟨k + 1, by go_num, by omega, HFR.out.set HCU.out HG.out.1 HG.out.2 _ _, HSE.out _ _ (fun u ⟨s, e, h⟩ => ⟨s, e, by omega⟩) ⟨_, rfl, by have := HSZ.out; rw [ByteArray.size_append]; show s.size + 1 ≤ _; omega⟩⟩
        case measure => simp [intOf]; omega
      · rename World => wA
        have XwA := Lib.hid xr
        have FwA := Lib.hid HFR.out
        clear HTU HFR xr
        replace TU1 := Lib.hid (TU1.out.fr FwA.out (Or.inr (by decide)))
        replace TU2 := Lib.hid (TU2.out.fr FwA.out (Or.inr (by decide)))
        replace HMF := Lib.hid (HMF.out.fr FwA.out (Nat.le_refl _) (by decide))
        replace HOL := Lib.hid (own_fr HOL.out FwA.out (Or.inr (by decide)))
        have ya := boxc XwA.out 6 _ rfl
        clear y5
        go_wp2
        clear ya hk hlt
        go_loopw [63, 76] (fun i _ wr => ∃ k : Nat, i = .int .i64 k ∧ k ≤ na ∧ Hid (Fr w 57 V1.heap.size wA wr) ∧ Hid (Turn (fun u => ∃ z : Int, u = .int .i64 z) V0.heap.size 57 2 wr (.slice oa na oac) na)) (fun i _ _ => na - (intOf i).toNat)
        case atStart => exact ⟨0, rfl, by omega, Fr.refl _ _ _ _, TU1.out⟩
        case round =>
          obtain ⟨k, rfl, hk, HFR, HTU⟩ := hrel
          have xr : wr.heap[q0]? = some (.cells #[.int .i64 m.k, .int .i64 m.f, .int .i64 m.to, .int .i64 m.g, .int .i64 m.n, .slice ae ne ce, .slice oa na oac, .slice p1 n1 c1, .slice p2 n2 c2, .slice ov n3 ovc, .slice p4 n4 c4, .int .i64 m.ki, .string m.mn, .string m.mv, .slice os sn oc, .int .i64 m.er] 34) := (HFR.out.other q0 (fun cur fr e => by
            rw [XwA.out] at e
            simp only [Option.some.injEq, Obj.cells.injEq] at e
            exact absurd e.2.1 (by decide))).trans XwA.out
          by_cases hlt : k < na
          · have hkI : (k : Int) < (na : Int) := by omega
            have yr := boxc xr 6 _ rfl
            obtain ⟨g, u, cur, e, hgB, hcur, hP, hce, hfz, hset⟩ := HTU.out.cell (i := k * 2 + 1) (by omega)
            have hgV : g < V1.heap.size := TB1.out _ e
            have hgw : w.heap.size ≤ g := Nat.le_trans (Nat.le_trans HV12.out.2.2.2 HV12.out.2.2.1) hgB
            subst e
            have HG := Lib.hid (And.intro hgV hgw)
            have HCU := Lib.hid hcur
            have HSE := Lib.hid hset
            obtain ⟨z, rfl⟩ := hP
            clear xr hgV hgw hgB hcur hset
            go_wp2
            go_roundw
            case rel => exact ⟨k + 1, by go_num, by omega, HFR.out.set HCU.out HG.out.1 HG.out.2 _ _, HSE.out _ _ (fun u h => h) ⟨_, rfl⟩⟩
            case measure => simp [intOf]; omega
          · rename World => wB
            have XwB := Lib.hid xr
            have FwB := Lib.hid HFR.out
            clear HTU HFR xr
            replace TU2 := Lib.hid (TU2.out.fr FwB.out (Or.inl (Nat.le_refl _)))
            replace HMF := Lib.hid (HMF.out.fr FwB.out (Nat.le_trans HV12.out.2.1 HB.out) (by decide))
            replace HOL := Lib.hid (own_fr HOL.out FwB.out (Or.inr (by decide)))
            have yb := boxc XwB.out 9 _ rfl
            go_wp2
            clear yb hk hlt
            go_loopw [81, 94] (fun i _ wr => ∃ k : Nat, i = .int .i64 k ∧ k ≤ n3 ∧ Hid (Fr w 57 w4.heap.size wB wr) ∧ Hid (Turn (fun u => ∃ z : Int, u = .int .i64 z) V1.heap.size 57 2 wr (.slice ov n3 ovc) n3)) (fun i _ _ => n3 - (intOf i).toNat)
            case atStart => exact ⟨0, rfl, by omega, Fr.refl _ _ _ _, TU2.out⟩
            case round =>
              obtain ⟨k, rfl, hk, HFR, HTU⟩ := hrel
              have xr : wr.heap[q0]? = some (.cells #[.int .i64 m.k, .int .i64 m.f, .int .i64 m.to, .int .i64 m.g, .int .i64 m.n, .slice ae ne ce, .slice oa na oac, .slice p1 n1 c1, .slice p2 n2 c2, .slice ov n3 ovc, .slice p4 n4 c4, .int .i64 m.ki, .string m.mn, .string m.mv, .slice os sn oc, .int .i64 m.er] 34) := (HFR.out.other q0 (fun cur fr e => by
                rw [XwB.out] at e
                simp only [Option.some.injEq, Obj.cells.injEq] at e
                exact absurd e.2.1 (by decide))).trans XwB.out
              by_cases hlt : k < n3
              · have hkI : (k : Int) < (n3 : Int) := by omega
                have yr := boxc xr 9 _ rfl
                obtain ⟨g, u, cur, e, hgB, hcur, hP, hce, hfz, hset⟩ := HTU.out.cell (i := k * 2) (by omega)
                have hgV : g < w4.heap.size := Nat.lt_of_lt_of_le (TB2.out _ e) HB.out
                have hgw : w.heap.size ≤ g := Nat.le_trans (Nat.le_trans (Nat.le_trans HV12.out.2.2.2 HV12.out.2.2.1) HV12.out.1) hgB
                subst e
                have HG := Lib.hid (And.intro hgV hgw)
                have HCU := Lib.hid hcur
                have HSE := Lib.hid hset
                obtain ⟨z, rfl⟩ := hP
                clear xr hgV hgw hgB hcur hset
                go_wp2
                go_roundw
                case rel => exact ⟨k + 1, by go_num, by omega, HFR.out.set HCU.out HG.out.1 HG.out.2 _ _, HSE.out _ _ (fun u h => h) ⟨_, rfl⟩⟩
                case measure => simp [intOf]; omega
              · rename World => wC
                have XwC := Lib.hid xr
                have FwC := Lib.hid HFR.out
                clear HTU HFR xr
                have hM9 := HMF.out.fr FwC.out (Nat.le_refl _) (by decide)
                have ho9 := own_fr HOL.out FwC.out (Or.inr (by decide))
                have BC : Below w.heap.size w wC := ((B5.out.trans FwA.out.below).trans FwB.out.below).trans FwC.out.below
                have BCH := Lib.hid BC
                have hmr := hM9.at
                obtain ⟨aez, nez, cez, aaz, naz, caz, p1z, n1z, c1z, p2z, n2z, c2z, p3z, n3z, c3z, p4z, n4z, c4z, saz, snz, scz, rfl, gz⟩ := hmr
                have HWZ := Lib.hid (HWG.out wC _ hM9.at)
                have lc0 := (own_cell ho9 (j := 0) (by show 0 < 16; omega)).1
                have lc1 := (own_cell ho9 (j := 1) (by show 1 < 16; omega)).1
                have lc2 := (own_cell ho9 (j := 2) (by show 2 < 16; omega)).1
                have lc3 := (own_cell ho9 (j := 3) (by show 3 < 16; omega)).1
                have lc4 := (own_cell ho9 (j := 4) (by show 4 < 16; omega)).1
                have lc5 := (own_cell ho9 (j := 5) (by show 5 < 16; omega)).1
                have lc6 := (own_cell ho9 (j := 6) (by show 6 < 16; omega)).1
                have lc7 := (own_cell ho9 (j := 7) (by show 7 < 16; omega)).1
                have lc8 := (own_cell ho9 (j := 8) (by show 8 < 16; omega)).1
                have lc9 := (own_cell ho9 (j := 9) (by show 9 < 16; omega)).1
                have lc10 := (own_cell ho9 (j := 10) (by show 10 < 16; omega)).1
                have lc11 := (own_cell ho9 (j := 11) (by show 11 < 16; omega)).1
                have lc12 := (own_cell ho9 (j := 12) (by show 12 < 16; omega)).1
                have lc13 := (own_cell ho9 (j := 13) (by show 13 < 16; omega)).1
                have lc14 := (own_cell ho9 (j := 14) (by show 14 < 16; omega)).1
                have lc15 := (own_cell ho9 (j := 15) (by show 15 < 16; omega)).1
                clear hM9 ho9 gz BC
                go_wp2_with fail
                (with_reducible refine HWZ.out.mono ?_)
                rintro e w8 ⟨rfl, b8⟩
                have B8 := Lib.hid (BCH.out.trans (b8.mono BCH.out.size))
                clear b8
                go_wp2_with fail
                (with_reducible refine (HAW.out _).mono ?_)
                rintro e w9 ⟨rfl, b9⟩
                go_wp2
                go_ret
                exact ⟨rfl, B8.out.trans (b9.mono B8.out.size)⟩
end Go.Proofs.Ytpgccfgldjeomaa

