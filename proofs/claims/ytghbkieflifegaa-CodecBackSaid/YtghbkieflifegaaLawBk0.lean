/- law CodecBack. -/
import Derived.Test.YtghbkieflifegaaCdAwk
namespace Go.Proofs.Ytghbkieflifegaa
open Go Go.RowKit Go.ChangeShapes cl
set_option maxHeartbeats 12800000 in
set_option maxRecDepth 100000 in
theorem back_some_ok (m : cd.Msg) (c : List Value) (s : ByteArray) (w : World) (h : msgRel w w.heap.size c m) (hs : s.size ≤ maxLen) (b : List Nat) (ha : cd.msg m = some b) (x : cd.Msg) (hx5 : cd.read (kit.bytes s) = .ok x) (h9 : ¬ (9000 : Int) < (s.size : Int)) : Calls Try.prog 5 #[.agg c.toArray, .string s] w (Said true w) := by
  have HFR : Hid (∀ (W : World) c, msgRel W W.heap.size c m → Calls Try.prog 8 #[.agg (List.toArray c)] W (Ends W)) := fun W c h => far_any m c W h
  have HWR : Hid (∀ (W : World) c, msgRel W W.heap.size c m → Calls Try.prog 10 #[.agg (List.toArray c)] W (Answer (cd.msg m) W)) := fun W c h => write_m m c W h
  have HAW : Hid (∀ W : World, Calls Try.prog 9 #[] W (Said true W)) := awake_any
  obtain ⟨ae, ne, ce, aa, na, ca, p1, m1, k1, p2, m2, k2, p3, m3, k3, p4, m4, k4, sa, sn, sc, rfl, g⟩ := h
  have h : msgRel w w.heap.size (#[.int .i64 m.k, .int .i64 m.f, .int .i64 m.to, .int .i64 m.g, .int .i64 m.n, .slice ae ne ce, .slice aa na ca, .slice p1 m1 k1, .slice p2 m2 k2, .slice p3 m3 k3, .slice p4 m4 k4, .int .i64 m.ki, .string m.mn, .string m.mv, .slice sa sn sc, .int .i64 m.er]).toList m := ⟨ae, ne, ce, aa, na, ca, p1, m1, k1, p2, m2, k2, p3, m3, k3, p4, m4, k4, sa, sn, sc, rfl, g⟩
  clear g
  have HM : Hid (∀ W, Below w.heap.size w W → msgRel W W.heap.size (#[.int .i64 m.k, .int .i64 m.f, .int .i64 m.to, .int .i64 m.g, .int .i64 m.n, .slice ae ne ce, .slice aa na ca, .slice p1 m1 k1, .slice p2 m2 k2, .slice p3 m3 k3, .slice p4 m4 k4, .int .i64 m.ki, .string m.mn, .string m.mv, .slice sa sn sc, .int .i64 m.er]).toList m) := fun W hW => msgRel_steady _ _ _ _ _ _ h hW hW.size
  clear h
  unfold maxLen at hs
  have b2 : Below w.heap.size w (w.alloc (.cells #[.int .i64 m.k, .int .i64 m.f, .int .i64 m.to, .int .i64 m.g, .int .i64 m.n, .slice ae ne ce, .slice aa na ca, .slice p1 m1 k1, .slice p2 m2 k2, .slice p3 m3 k3, .slice p4 m4 k4, .int .i64 m.ki, .string m.mn, .string m.mv, .slice sa sn sc, .int .i64 m.er] 33)) := below1
  have HX : Hid (∀ W, Below (w.alloc (.cells #[.int .i64 m.k, .int .i64 m.f, .int .i64 m.to, .int .i64 m.g, .int .i64 m.n, .slice ae ne ce, .slice aa na ca, .slice p1 m1 k1, .slice p2 m2 k2, .slice p3 m3 k3, .slice p4 m4 k4, .int .i64 m.ki, .string m.mn, .string m.mv, .slice sa sn sc, .int .i64 m.er] 33)).heap.size (w.alloc (.cells #[.int .i64 m.k, .int .i64 m.f, .int .i64 m.to, .int .i64 m.g, .int .i64 m.n, .slice ae ne ce, .slice aa na ca, .slice p1 m1 k1, .slice p2 m2 k2, .slice p3 m3 k3, .slice p4 m4 k4, .int .i64 m.ki, .string m.mn, .string m.mv, .slice sa sn sc, .int .i64 m.er] 33)) W → W.heap[w.heap.size]? = some (.cells #[.int .i64 m.k, .int .i64 m.f, .int .i64 m.to, .int .i64 m.g, .int .i64 m.n, .slice ae ne ce, .slice aa na ca, .slice p1 m1 k1, .slice p2 m2 k2, .slice p3 m3 k3, .slice p4 m4 k4, .int .i64 m.ki, .string m.mn, .string m.mv, .slice sa sn sc, .int .i64 m.er] 33)) := fun W hW => kept_new _ hW
  have HE2 := Lib.hid b2
  have HF1 := Lib.hid (HFR.out _ _ (HM.out _ b2))
  clear b2
  have HRS : Hid (∀ W : World, Calls Try.prog 12 #[.string s] W (ReadAns (.ok x) W)) := fun W => by
    have := read_any s W (by omega)
    rwa [hx5] at this
  have HMX := Lib.hid (cd.read_forth (kit.bytes_lt s) hx5)
  clear hx5
  have HRD := Lib.hid (fun W : World => read_written ha W)
  have HSM : Hid (∀ (W : World) c c', msgRel W W.heap.size c m → msgRel W W.heap.size c' m → Calls Try.prog 14 #[.agg (List.toArray c), .agg (List.toArray c')] W (Said true W)) := fun W c c' h h' => same_eq m c c' W h h'
  rw [ha] at HWR
  clear ha
  go_enter Try.func5, Try.ntmps5
  go_wp2_with fail
  (with_reducible refine HF1.out.mono ?_)
  rintro e w1 ⟨⟨r, rfl⟩, b1⟩
  have D1 := HE2.out.trans (b1.mono HE2.out.size)
  cases r
  rotate_left
  · skip
    go_wp2_with fail
    (with_reducible refine (HAW.out _).mono ?_)
    rintro e w9 ⟨rfl, b9⟩
    go_wp2
    go_ret
    exact ⟨rfl, D1.trans (b9.mono D1.size)⟩
  have hx := HX.out _ b1
  have u0 := boxc hx 0 _ rfl
  have u1 := boxc hx 1 _ rfl
  have u2 := boxc hx 2 _ rfl
  have u3 := boxc hx 3 _ rfl
  have u4 := boxc hx 4 _ rfl
  have u5 := boxc hx 5 _ rfl
  have u6 := boxc hx 6 _ rfl
  have u7 := boxc hx 7 _ rfl
  have u8 := boxc hx 8 _ rfl
  have u9 := boxc hx 9 _ rfl
  have u10 := boxc hx 10 _ rfl
  have u11 := boxc hx 11 _ rfl
  have u12 := boxc hx 12 _ rfl
  have u13 := boxc hx 13 _ rfl
  have u14 := boxc hx 14 _ rfl
  have u15 := boxc hx 15 _ rfl
  clear hx
  have HX1 := Lib.hid b1
  have HW1 := Lib.hid (HWR.out _ _ (HM.out _ D1))
  clear b1 HWR HFR HF1
  go_wp2_with fail
  (with_reducible refine HW1.out.mono ?_)
  rintro e w2 ⟨⟨bq, hb⟩, b2⟩
  have D2 := D1.trans (b2.mono D1.size)
  have BX2 := HX1.out.trans (b2.mono HX1.out.size)
  clear u0 u1 u2 u3 u4 u5 u6 u7 u8 u9 u10 u11 u12 u13 u14 u15
  rcases hb with ⟨hb1, rfl⟩ | ⟨hb1, rfl⟩
  rotate_left
  · cases hb1
  cases hb1
  have HB2 := Lib.hid BX2
  clear b2 BX2
  go_wp2_with fail
  (with_reducible refine (HRD.out _).mono ?_)
  rintro e w3 ⟨b3, hr⟩
  have D3 := D2.trans (b3.mono D2.size)
  have BX3 := HB2.out.trans (b3.mono HB2.out.size)
  rcases hr with ⟨m', c3, hm, rfl, hmo⟩ | ⟨k, hk, _⟩
  rotate_left
  · cases hk
  cases hm
  have hy := hmo.at
  clear hmo
  obtain ⟨aey, ney, cey, aay, nay, cay, p1y, m1y, k1y, p2y, m2y, k2y, p3y, m3y, k3y, p4y, m4y, k4y, say, sny, scy, rfl, g⟩ := hy
  have hy : msgRel w3 w3.heap.size (#[.int .i64 m.k, .int .i64 m.f, .int .i64 m.to, .int .i64 m.g, .int .i64 m.n, .slice aey ney cey, .slice aay nay cay, .slice p1y m1y k1y, .slice p2y m2y k2y, .slice p3y m3y k3y, .slice p4y m4y k4y, .int .i64 m.ki, .string m.mn, .string m.mv, .slice say sny scy, .int .i64 m.er]).toList m := ⟨aey, ney, cey, aay, nay, cay, p1y, m1y, k1y, p2y, m2y, k2y, p3y, m3y, k3y, p4y, m4y, k4y, say, sny, scy, rfl, g⟩
  clear g
  have b4 : Below w3.heap.size w3 (w3.alloc (.cells #[.int .i64 m.k, .int .i64 m.f, .int .i64 m.to, .int .i64 m.g, .int .i64 m.n, .slice aey ney cey, .slice aay nay cay, .slice p1y m1y k1y, .slice p2y m2y k2y, .slice p3y m3y k3y, .slice p4y m4y k4y, .int .i64 m.ki, .string m.mn, .string m.mv, .slice say sny scy, .int .i64 m.er] 33)) := below1
  have D4 := D3.trans (b4.mono D3.size)
  have BX4 := BX3.trans (b4.mono BX3.size)
  have HS1 := Lib.hid (HSM.out _ _ _ (msgRel_steady _ _ _ _ _ _ hy b4 b4.size) (HM.out _ D4))
  have hxx := HX.out _ BX3
  have u0 := boxc hxx 0 _ rfl
  have u1 := boxc hxx 1 _ rfl
  have u2 := boxc hxx 2 _ rfl
  have u3 := boxc hxx 3 _ rfl
  have u4 := boxc hxx 4 _ rfl
  have u5 := boxc hxx 5 _ rfl
  have u6 := boxc hxx 6 _ rfl
  have u7 := boxc hxx 7 _ rfl
  have u8 := boxc hxx 8 _ rfl
  have u9 := boxc hxx 9 _ rfl
  have u10 := boxc hxx 10 _ rfl
  have u11 := boxc hxx 11 _ rfl
  have u12 := boxc hxx 12 _ rfl
  have u13 := boxc hxx 13 _ rfl
  have u14 := boxc hxx 14 _ rfl
  have u15 := boxc hxx 15 _ rfl
  have hltx := lt_of_block hxx
  clear hxx
  clear hy b4 b3 D3 BX3 BX4
  as_aux_lemma =>
    go_wp2_with fail
    (with_reducible refine HS1.out.mono ?_)
    rintro e w4 ⟨rfl, b4⟩
    have D8 := D4.trans (b4.mono D4.size)
    clear u0 u1 u2 u3 u4 u5 u6 u7 u8 u9 u10 u11 u12 u13 u14 u15
    clear b4 HS1 HSM HRD
    as_aux_lemma =>
      go_wp2_with fail
      (with_reducible refine (HRS.out _).mono ?_)
      rintro e w5 ⟨b5, hr⟩
      have D5 := D8.trans (b5.mono D8.size)
      rcases hr with ⟨x', c5, hx5, rfl, hmo⟩ | ⟨k', hk, hk1, rfl⟩
      rotate_left
      · cases hk
      cases hx5
      have hx := hmo.at
      clear hmo
      obtain ⟨aex, nex, cex, aax, nax, cax, p1x, m1x, k1x, p2x, m2x, k2x, p3x, m3x, k3x, p4x, m4x, k4x, sax, snx, scx, rfl, g⟩ := hx
      have hx : msgRel w5 w5.heap.size (#[.int .i64 x.k, .int .i64 x.f, .int .i64 x.to, .int .i64 x.g, .int .i64 x.n, .slice aex nex cex, .slice aax nax cax, .slice p1x m1x k1x, .slice p2x m2x k2x, .slice p3x m3x k3x, .slice p4x m4x k4x, .int .i64 x.ki, .string x.mn, .string x.mv, .slice sax snx scx, .int .i64 x.er]).toList x := ⟨aex, nex, cex, aax, nax, cax, p1x, m1x, k1x, p2x, m2x, k2x, p3x, m3x, k3x, p4x, m4x, k4x, sax, snx, scx, rfl, g⟩
      clear g
      have b6 : Below w5.heap.size w5 (w5.alloc (.cells #[.int .i64 x.k, .int .i64 x.f, .int .i64 x.to, .int .i64 x.g, .int .i64 x.n, .slice aex nex cex, .slice aax nax cax, .slice p1x m1x k1x, .slice p2x m2x k2x, .slice p3x m3x k3x, .slice p4x m4x k4x, .int .i64 x.ki, .string x.mn, .string x.mv, .slice sax snx scx, .int .i64 x.er] 33)) := below1
      have HWX := Lib.hid (write_m x _ _ (msgRel_steady _ _ _ _ _ _ hx b6 b6.size))
      have D6 := D5.trans (b6.mono D5.size)
      clear hx b6 b5 D5
      go_wp2_with fail
      (with_reducible refine HWX.out.mono ?_)
      rintro e w7 ⟨⟨bb, hb⟩, b7⟩
      have D7 := D6.trans (b7.mono D6.size)
      rcases hb with ⟨hb1, rfl⟩ | ⟨hb1, rfl⟩
      rotate_left
      · rw [HMX.out] at hb1; cases hb1
      obtain rfl : kit.bytes s = bb := by rw [HMX.out] at hb1; exact Option.some.inj hb1
      rw [kit.str_bytes]
      clear hb1 b7
      go_wp2_with fail
      (with_reducible refine (HAW.out _).mono ?_)
      rintro e w9 ⟨rfl, b9⟩
      go_wp2
      go_ret
      exact ⟨rfl, D7.trans (b9.mono D7.size)⟩
end Go.Proofs.Ytghbkieflifegaa
