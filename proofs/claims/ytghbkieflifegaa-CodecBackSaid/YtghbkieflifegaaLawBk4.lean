/- law CodecBack. -/
import Derived.Test.YtghbkieflifegaaCdAwk
namespace Go.Proofs.Ytghbkieflifegaa
open Go Go.RowKit Go.ChangeShapes cl
set_option maxHeartbeats 12800000 in
set_option maxRecDepth 100000 in
theorem back_long_x (m : cd.Msg) (c : List Value) (s : ByteArray) (w : World) (h : msgRel w w.heap.size c m) (_hs : s.size ≤ maxLen) (h9 : (9000 : Int) < (s.size : Int)) : Calls Try.prog 5 #[.agg c.toArray, .string s] w (Said true w) := by
  have HFR : Hid (∀ (W : World) c, msgRel W W.heap.size c m → Calls Try.prog 8 #[.agg (List.toArray c)] W (Ends W)) := fun W c h => far_any m c W h
  have HWR : Hid (∀ (W : World) c, msgRel W W.heap.size c m → Calls Try.prog 10 #[.agg (List.toArray c)] W (Answer (cd.msg m) W)) := fun W c h => write_m m c W h
  have HAW : Hid (∀ W : World, Calls Try.prog 9 #[] W (Said true W)) := awake_any
  obtain ⟨ae, ne, ce, aa, na, ca, p1, m1, k1, p2, m2, k2, p3, m3, k3, p4, m4, k4, sa, sn, sc, rfl, g⟩ := h
  have h : msgRel w w.heap.size (#[.int .i64 m.k, .int .i64 m.f, .int .i64 m.to, .int .i64 m.g, .int .i64 m.n, .slice ae ne ce, .slice aa na ca, .slice p1 m1 k1, .slice p2 m2 k2, .slice p3 m3 k3, .slice p4 m4 k4, .int .i64 m.ki, .string m.mn, .string m.mv, .slice sa sn sc, .int .i64 m.er]).toList m := ⟨ae, ne, ce, aa, na, ca, p1, m1, k1, p2, m2, k2, p3, m3, k3, p4, m4, k4, sa, sn, sc, rfl, g⟩
  clear g
  have HM : Hid (∀ W, Below w.heap.size w W → msgRel W W.heap.size (#[.int .i64 m.k, .int .i64 m.f, .int .i64 m.to, .int .i64 m.g, .int .i64 m.n, .slice ae ne ce, .slice aa na ca, .slice p1 m1 k1, .slice p2 m2 k2, .slice p3 m3 k3, .slice p4 m4 k4, .int .i64 m.ki, .string m.mn, .string m.mv, .slice sa sn sc, .int .i64 m.er]).toList m) := fun W hW => msgRel_steady _ _ _ _ _ _ h hW hW.size
  clear h
  unfold maxLen at _hs
  have b2 : Below w.heap.size w (w.alloc (.cells #[.int .i64 m.k, .int .i64 m.f, .int .i64 m.to, .int .i64 m.g, .int .i64 m.n, .slice ae ne ce, .slice aa na ca, .slice p1 m1 k1, .slice p2 m2 k2, .slice p3 m3 k3, .slice p4 m4 k4, .int .i64 m.ki, .string m.mn, .string m.mv, .slice sa sn sc, .int .i64 m.er] 33)) := below1
  have HX : Hid (∀ W, Below (w.alloc (.cells #[.int .i64 m.k, .int .i64 m.f, .int .i64 m.to, .int .i64 m.g, .int .i64 m.n, .slice ae ne ce, .slice aa na ca, .slice p1 m1 k1, .slice p2 m2 k2, .slice p3 m3 k3, .slice p4 m4 k4, .int .i64 m.ki, .string m.mn, .string m.mv, .slice sa sn sc, .int .i64 m.er] 33)).heap.size (w.alloc (.cells #[.int .i64 m.k, .int .i64 m.f, .int .i64 m.to, .int .i64 m.g, .int .i64 m.n, .slice ae ne ce, .slice aa na ca, .slice p1 m1 k1, .slice p2 m2 k2, .slice p3 m3 k3, .slice p4 m4 k4, .int .i64 m.ki, .string m.mn, .string m.mv, .slice sa sn sc, .int .i64 m.er] 33)) W → W.heap[w.heap.size]? = some (.cells #[.int .i64 m.k, .int .i64 m.f, .int .i64 m.to, .int .i64 m.g, .int .i64 m.n, .slice ae ne ce, .slice aa na ca, .slice p1 m1 k1, .slice p2 m2 k2, .slice p3 m3 k3, .slice p4 m4 k4, .int .i64 m.ki, .string m.mn, .string m.mv, .slice sa sn sc, .int .i64 m.er] 33)) := fun W hW => kept_new _ hW
  have HE2 := Lib.hid b2
  have HF1 := Lib.hid (HFR.out _ _ (HM.out _ b2))
  clear b2
  go_enter Try.func5, Try.ntmps5
  go_wp2_with fail
  (with_reducible refine HF1.out.mono ?_)
  rintro e w1 ⟨⟨r, rfl⟩, b1⟩
  have D1 := HE2.out.trans (b1.mono HE2.out.size)
  cases r
  rotate_left
  · skip
    go_wp2_with fail
    (with_reducible refine (HAW.out _).mono ?_)
    rintro e w9 ⟨rfl, b9⟩
    go_wp2
    go_ret
    exact ⟨rfl, D1.trans (b9.mono D1.size)⟩
  go_wp2_with fail
  (with_reducible refine (HAW.out _).mono ?_)
  rintro e w9 ⟨rfl, b9⟩
  go_wp2
  go_ret
  exact ⟨rfl, D1.trans (b9.mono D1.size)⟩
end Go.Proofs.Ytghbkieflifegaa
