/- law CodecBack. -/
import Derived.Test.YtghbkieflifegaaCdAwk
namespace Go.Proofs.Ytghbkieflifegaa
open Go Go.RowKit Go.ChangeShapes cl
set_option maxHeartbeats 12800000 in
set_option maxRecDepth 100000 in
theorem back_none_err (m : cd.Msg) (c : List Value) (s : ByteArray) (w : World) (h : msgRel w w.heap.size c m) (hs : s.size ≤ maxLen) (ha : cd.msg m = none) (k : Nat) (hk5 : cd.read (kit.bytes s) = .error k) (h9 : ¬ (9000 : Int) < (s.size : Int)) : Calls Try.prog 5 #[.agg c.toArray, .string s] w (Said true w) := by
  have HFR : Hid (∀ (W : World) c, msgRel W W.heap.size c m → Calls Try.prog 8 #[.agg (List.toArray c)] W (Ends W)) := fun W c h => far_any m c W h
  have HWR : Hid (∀ (W : World) c, msgRel W W.heap.size c m → Calls Try.prog 10 #[.agg (List.toArray c)] W (Answer (cd.msg m) W)) := fun W c h => write_m m c W h
  have HAW : Hid (∀ W : World, Calls Try.prog 9 #[] W (Said true W)) := awake_any
  obtain ⟨ae, ne, ce, aa, na, ca, p1, m1, k1, p2, m2, k2, p3, m3, k3, p4, m4, k4, sa, sn, sc, rfl, g⟩ := h
  have h : msgRel w w.heap.size (#[.int .i64 m.k, .int .i64 m.f, .int .i64 m.to, .int .i64 m.g, .int .i64 m.n, .slice ae ne ce, .slice aa na ca, .slice p1 m1 k1, .slice p2 m2 k2, .slice p3 m3 k3, .slice p4 m4 k4, .int .i64 m.ki, .string m.mn, .string m.mv, .slice sa sn sc, .int .i64 m.er]).toList m := ⟨ae, ne, ce, aa, na, ca, p1, m1, k1, p2, m2, k2, p3, m3, k3, p4, m4, k4, sa, sn, sc, rfl, g⟩
  clear g
  have HM : Hid (∀ W, Below w.heap.size w W → msgRel W W.heap.size (#[.int .i64 m.k, .int .i64 m.f, .int .i64 m.to, .int .i64 m.g, .int .i64 m.n, .slice ae ne ce, .slice aa na ca, .slice p1 m1 k1, .slice p2 m2 k2, .slice p3 m3 k3, .slice p4 m4 k4, .int .i64 m.ki, .string m.mn, .string m.mv, .slice sa sn sc, .int .i64 m.er]).toList m) := fun W hW => msgRel_steady _ _ _ _ _ _ h hW hW.size
  clear h
  unfold maxLen at hs
  have b2 : Below w.heap.size w (w.alloc (.cells #[.int .i64 m.k, .int .i64 m.f, .int .i64 m.to, .int .i64 m.g, .int .i64 m.n, .slice ae ne ce, .slice aa na ca, .slice p1 m1 k1, .slice p2 m2 k2, .slice p3 m3 k3, .slice p4 m4 k4, .int .i64 m.ki, .string m.mn, .string m.mv, .slice sa sn sc, .int .i64 m.er] 33)) := below1
  have HX : Hid (∀ W, Below (w.alloc (.cells #[.int .i64 m.k, .int .i64 m.f, .int .i64 m.to, .int .i64 m.g, .int .i64 m.n, .slice ae ne ce, .slice aa na ca, .slice p1 m1 k1, .slice p2 m2 k2, .slice p3 m3 k3, .slice p4 m4 k4, .int .i64 m.ki, .string m.mn, .string m.mv, .slice sa sn sc, .int .i64 m.er] 33)).heap.size (w.alloc (.cells #[.int .i64 m.k, .int .i64 m.f, .int .i64 m.to, .int .i64 m.g, .int .i64 m.n, .slice ae ne ce, .slice aa na ca, .slice p1 m1 k1, .slice p2 m2 k2, .slice p3 m3 k3, .slice p4 m4 k4, .int .i64 m.ki, .string m.mn, .string m.mv, .slice sa sn sc, .int .i64 m.er] 33)) W → W.heap[w.heap.size]? = some (.cells #[.int .i64 m.k, .int .i64 m.f, .int .i64 m.to, .int .i64 m.g, .int .i64 m.n, .slice ae ne ce, .slice aa na ca, .slice p1 m1 k1, .slice p2 m2 k2, .slice p3 m3 k3, .slice p4 m4 k4, .int .i64 m.ki, .string m.mn, .string m.mv, .slice sa sn sc, .int .i64 m.er] 33)) := fun W hW => kept_new _ hW
  have HE2 := Lib.hid b2
  have HF1 := Lib.hid (HFR.out _ _ (HM.out _ b2))
  clear b2
  have HRS : Hid (∀ W : World, Calls Try.prog 12 #[.string s] W (ReadAns (.error k) W)) := fun W => by
    have := read_any s W (by omega)
    rwa [hk5] at this
  clear hk5
  rw [ha] at HWR
  clear ha
  go_enter Try.func5, Try.ntmps5
  go_wp2_with fail
  (with_reducible refine HF1.out.mono ?_)
  rintro e w1 ⟨⟨r, rfl⟩, b1⟩
  have D1 := HE2.out.trans (b1.mono HE2.out.size)
  cases r
  rotate_left
  · skip
    go_wp2_with fail
    (with_reducible refine (HAW.out _).mono ?_)
    rintro e w9 ⟨rfl, b9⟩
    go_wp2
    go_ret
    exact ⟨rfl, D1.trans (b9.mono D1.size)⟩
  have hx := HX.out _ b1
  have u0 := boxc hx 0 _ rfl
  have u1 := boxc hx 1 _ rfl
  have u2 := boxc hx 2 _ rfl
  have u3 := boxc hx 3 _ rfl
  have u4 := boxc hx 4 _ rfl
  have u5 := boxc hx 5 _ rfl
  have u6 := boxc hx 6 _ rfl
  have u7 := boxc hx 7 _ rfl
  have u8 := boxc hx 8 _ rfl
  have u9 := boxc hx 9 _ rfl
  have u10 := boxc hx 10 _ rfl
  have u11 := boxc hx 11 _ rfl
  have u12 := boxc hx 12 _ rfl
  have u13 := boxc hx 13 _ rfl
  have u14 := boxc hx 14 _ rfl
  have u15 := boxc hx 15 _ rfl
  clear hx
  have HX1 := Lib.hid b1
  have HW1 := Lib.hid (HWR.out _ _ (HM.out _ D1))
  clear b1 HWR HFR HF1
  go_wp2_with fail
  (with_reducible refine HW1.out.mono ?_)
  rintro e w2 ⟨⟨bq, hb⟩, b2⟩
  have D2 := D1.trans (b2.mono D1.size)
  have BX2 := HX1.out.trans (b2.mono HX1.out.size)
  clear u0 u1 u2 u3 u4 u5 u6 u7 u8 u9 u10 u11 u12 u13 u14 u15
  rcases hb with ⟨hb1, rfl⟩ | ⟨hb1, rfl⟩
  · cases hb1
  clear b2 hb1 BX2
  go_wp2_with fail
  (with_reducible refine (HRS.out _).mono ?_)
  rintro e w5 ⟨b5, hr⟩
  have D5 := D2.trans (b5.mono D2.size)
  rcases hr with ⟨x', c5, hx5, rfl, hmo⟩ | ⟨k', hk, hk1, rfl⟩
  · cases hx5
  cases hk
  have hk2 : ((k : Int) == 0) = false := by simp; omega
  have hk3 : ¬ (k : Int) = 0 := by omega
  have D6 := D5.trans ((below1 (w := w5) (o := .cells zeroC 33)).mono D5.size)
  clear b5 D5
  go_wp2_with fail
  (with_reducible refine (HAW.out _).mono ?_)
  rintro e w9 ⟨rfl, b9⟩
  go_wp2
  go_ret
  exact ⟨rfl, D6.trans (b9.mono D6.size)⟩
end Go.Proofs.Ytghbkieflifegaa
