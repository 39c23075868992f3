/- law CodecCuts. -/
import Derived.Test.YtghbkieflifegaaCdAwk
namespace Go.Proofs.Ytghbkieflifegaa
open Go Go.RowKit Go.ChangeShapes cl
theorem msg_pos {m : cd.Msg} {b : List Nat} (h : cd.msg m = some b) : 0 < b.length := by
  obtain ⟨b1, r1, h1, g1, rfl⟩ := cd.app_eq h
  obtain ⟨b2, r2, h2, g2, rfl⟩ := cd.app_eq h1
  obtain ⟨n, _, _, rfl⟩ := cd.num_inv h2
  have := vm.enc_pos n
  simp only [List.length_append]; omega
set_option maxHeartbeats 12800000 in
set_option maxRecDepth 100000 in
theorem cuts_any (m : cd.Msg) (c : List Value) (at_ : Int) (ch : Int) (hch : 0 ≤ ch ∧ ch < 256) (w : World) (h : msgRel w w.heap.size c m) : Calls Try.prog 6 #[.agg c.toArray, .int .i64 at_, .int .u8 ch] w (Said true w) := by
  have HFR : Hid (∀ (W : World) c, msgRel W W.heap.size c m → Calls Try.prog 8 #[.agg (List.toArray c)] W (Ends W)) := fun W c h => far_any m c W h
  have HWR : Hid (∀ (W : World) c, msgRel W W.heap.size c m → Calls Try.prog 10 #[.agg (List.toArray c)] W (Answer (cd.msg m) W)) := fun W c h => write_m m c W h
  have HAW : Hid (∀ W : World, Calls Try.prog 9 #[] W (Said true W)) := awake_any
  obtain ⟨ae, ne, ce, aa, na, ca, p1, m1, k1, p2, m2, k2, p3, m3, k3, p4, m4, k4, sa, sn, sc, rfl, g⟩ := h
  have h : msgRel w w.heap.size (#[.int .i64 m.k, .int .i64 m.f, .int .i64 m.to, .int .i64 m.g, .int .i64 m.n, .slice ae ne ce, .slice aa na ca, .slice p1 m1 k1, .slice p2 m2 k2, .slice p3 m3 k3, .slice p4 m4 k4, .int .i64 m.ki, .string m.mn, .string m.mv, .slice sa sn sc, .int .i64 m.er]).toList m := ⟨ae, ne, ce, aa, na, ca, p1, m1, k1, p2, m2, k2, p3, m3, k3, p4, m4, k4, sa, sn, sc, rfl, g⟩
  clear g
  have HM : Hid (∀ W, Below w.heap.size w W → msgRel W W.heap.size (#[.int .i64 m.k, .int .i64 m.f, .int .i64 m.to, .int .i64 m.g, .int .i64 m.n, .slice ae ne ce, .slice aa na ca, .slice p1 m1 k1, .slice p2 m2 k2, .slice p3 m3 k3, .slice p4 m4 k4, .int .i64 m.ki, .string m.mn, .string m.mv, .slice sa sn sc, .int .i64 m.er]).toList m) := fun W hW => msgRel_steady _ _ _ _ _ _ h hW hW.size
  clear h
  have HSZ : Hid (∀ (W : World), Calls Try.prog 14 #[.agg zeroC, .agg zeroC] W (Said true W)) := fun W => same_eq zeroM zeroC.toList zeroC.toList W (zero_at W _) (zero_at W _)
  have b2 : Below w.heap.size w (w.alloc (.cells #[.int .i64 m.k, .int .i64 m.f, .int .i64 m.to, .int .i64 m.g, .int .i64 m.n, .slice ae ne ce, .slice aa na ca, .slice p1 m1 k1, .slice p2 m2 k2, .slice p3 m3 k3, .slice p4 m4 k4, .int .i64 m.ki, .string m.mn, .string m.mv, .slice sa sn sc, .int .i64 m.er] 33)) := below1
  have HX : Hid (∀ W, Below (w.alloc (.cells #[.int .i64 m.k, .int .i64 m.f, .int .i64 m.to, .int .i64 m.g, .int .i64 m.n, .slice ae ne ce, .slice aa na ca, .slice p1 m1 k1, .slice p2 m2 k2, .slice p3 m3 k3, .slice p4 m4 k4, .int .i64 m.ki, .string m.mn, .string m.mv, .slice sa sn sc, .int .i64 m.er] 33)).heap.size (w.alloc (.cells #[.int .i64 m.k, .int .i64 m.f, .int .i64 m.to, .int .i64 m.g, .int .i64 m.n, .slice ae ne ce, .slice aa na ca, .slice p1 m1 k1, .slice p2 m2 k2, .slice p3 m3 k3, .slice p4 m4 k4, .int .i64 m.ki, .string m.mn, .string m.mv, .slice sa sn sc, .int .i64 m.er] 33)) W → W.heap[w.heap.size]? = some (.cells #[.int .i64 m.k, .int .i64 m.f, .int .i64 m.to, .int .i64 m.g, .int .i64 m.n, .slice ae ne ce, .slice aa na ca, .slice p1 m1 k1, .slice p2 m2 k2, .slice p3 m3 k3, .slice p4 m4 k4, .int .i64 m.ki, .string m.mn, .string m.mv, .slice sa sn sc, .int .i64 m.er] 33)) := fun W hW => kept_new _ hW
  have HE2 := Lib.hid b2
  have HF1 := Lib.hid (HFR.out _ _ (HM.out _ b2))
  clear b2
  go_enter Try.func6, Try.ntmps6
  go_wp2_with fail
  (with_reducible refine HF1.out.mono ?_)
  rintro e w1 ⟨⟨r, rfl⟩, b1⟩
  have D1 := HE2.out.trans (b1.mono HE2.out.size)
  cases r
  rotate_left
  · skip
    go_wp2_with fail
    (with_reducible refine (HAW.out _).mono ?_)
    rintro e w9 ⟨rfl, b9⟩
    go_wp2
    go_ret
    exact ⟨rfl, D1.trans (b9.mono D1.size)⟩
  have hx := HX.out _ b1
  have u0 := boxc hx 0 _ rfl
  have u1 := boxc hx 1 _ rfl
  have u2 := boxc hx 2 _ rfl
  have u3 := boxc hx 3 _ rfl
  have u4 := boxc hx 4 _ rfl
  have u5 := boxc hx 5 _ rfl
  have u6 := boxc hx 6 _ rfl
  have u7 := boxc hx 7 _ rfl
  have u8 := boxc hx 8 _ rfl
  have u9 := boxc hx 9 _ rfl
  have u10 := boxc hx 10 _ rfl
  have u11 := boxc hx 11 _ rfl
  have u12 := boxc hx 12 _ rfl
  have u13 := boxc hx 13 _ rfl
  have u14 := boxc hx 14 _ rfl
  have u15 := boxc hx 15 _ rfl
  clear hx
  have HX1 := Lib.hid b1
  have HW1 := Lib.hid (HWR.out _ _ (HM.out _ D1))
  clear b1
  go_wp2_with fail
  (with_reducible refine HW1.out.mono ?_)
  rintro e w2 ⟨⟨b, hb⟩, b2⟩
  have D2 := D1.trans (b2.mono D1.size)
  clear u0 u1 u2 u3 u4 u5 u6 u7 u8 u9 u10 u11 u12 u13 u14 u15
  rcases hb with ⟨hb1, rfl⟩ | ⟨hb1, rfl⟩
  rotate_left
  · skip
    go_wp2_with fail
    (with_reducible refine (HAW.out _).mono ?_)
    rintro e w9 ⟨rfl, b9⟩
    go_wp2
    go_ret
    exact ⟨rfl, D2.trans (b9.mono D2.size)⟩
  obtain ⟨S, hS⟩ : ∃ S, S = kit.str b := ⟨_, rfl⟩
  have hpos : 0 < S.size := by rw [hS, kit.str_size]; exact msg_pos hb1
  have hsmall : S.size ≤ 400000000 := by rw [hS, kit.str_size]; exact msg_small hb1
  have hbS : kit.bytes S = b := by rw [hS, kit.bytes_str b (msg_byte m b hb1)]
  obtain ⟨z1, z2, z3⟩ := kit.ne_empty hpos
  obtain ⟨j, hj, hmod⟩ := kit.umod at_ hpos
  obtain ⟨x, rfl⟩ : ∃ x : Nat, ch = (x : Int) := ⟨ch.toNat, by omega⟩
  have hR1 : ∀ W : World, Calls Try.prog 12 #[.string (S.extract 0 j)] W (ReadAns (.error 2) W) := fun W => by
    have h1 := read_any (S.extract 0 j) W (by rw [ByteArray.size_extract]; omega)
    have h2 : kit.bytes (S.extract 0 j) = b.take j := by
      rw [← hbS]
      simp only [kit.bytes, ByteArray.data_extract, Array.toList_extract, List.extract_eq_take_drop, List.map_take, List.drop_zero, Nat.sub_zero]
    rw [h2, cd.read_cut hb1 (by rw [← kit.str_size, ← hS]; exact hj)] at h1
    exact h1
  have hR2 : ∀ W : World, Calls Try.prog 12 #[.string (S ++ kit.str [x])] W (ReadAns (.error 3) W) := fun W => by
    have h1 := read_any (S ++ kit.str [x]) W (by rw [ByteArray.size_append, kit.str_size]; simp only [List.length_cons, List.length_nil]; omega)
    have h2 : kit.bytes (S ++ kit.str [x]) = b ++ [x] := by
      rw [kit.bytes_app, hbS, kit.bytes_str [x] (by intro y hy; simp at hy; omega)]
    rw [h2, cd.read_beyond hb1 x] at h1
    exact h1
  have HR1 := Lib.hid hR1
  have HR2 := Lib.hid hR2
  have hx1 : (kit.str [x]).size = 1 := by rw [kit.str_size]; rfl
  obtain ⟨X, hX⟩ : ∃ X, X = kit.str [x] := ⟨_, rfl⟩
  rw [← hX] at hx1 HR2
  have y1 : ¬ 9223372036854775807 < S.size + 1 := by omega
  have y2 : ¬ 9223372036854775807 < S.size + X.size := by omega
  have hjn : (j : Int) ≤ (S.size : Int) := by omega
  rw [← hS]
  have HXX := Lib.hid hX
  clear hb1 hS b2 hR1 hR2 hbS hX
  go_wp2_with fail
  (with_reducible refine (HR1.out _).mono ?_)
  rintro e w3 ⟨b3, hr⟩
  have D3 := D2.trans (b3.mono D2.size)
  rcases hr with ⟨m', c3, hm, _⟩ | ⟨k, hk, _, rfl⟩
  · cases hm
  cases hk
  have b4 : Below w3.heap.size w3 (w3.alloc (.cells zeroC 33)) := below1
  have D4 := D3.trans (b4.mono D3.size)
  have HXZ := Lib.hid (heap_alloc_new w3 (.cells zeroC 33))
  have hconv := kit.run_one (P := Try.prog) (w := w3.alloc (.cells zeroC 33)) (x := (x : Int)) x (t := 5) rfl Try.underlying44 Try.underlying5 Try.underlying9
  rw [World.size_alloc] at hconv
  rw [← HXX.out] at hconv
  have D5 := D4.trans ((below1 (w := w3.alloc (.cells zeroC 33)) (o := .cells #[.int .u8 (x : Int)] 5)).mono D4.size)
  clear b3 b4
  go_wp2_with fail
  (with_reducible refine (HR2.out _).mono ?_)
  rintro e w5 ⟨b5, hr⟩
  have D6 := D5.trans (b5.mono D5.size)
  rcases hr with ⟨m', c3, hm, _⟩ | ⟨k, hk, _, rfl⟩
  · cases hm
  cases hk
  have x6 := kept_new (w := w3) _ (((below1 (w := w3.alloc (.cells zeroC 33)) (o := .cells #[.int .u8 (x : Int)] 5))).trans (b5.mono (by simp)))
  have q0 := boxc x6 0 _ rfl
  have q1 := boxc x6 1 _ rfl
  have q2 := boxc x6 2 _ rfl
  have q3 := boxc x6 3 _ rfl
  have q4 := boxc x6 4 _ rfl
  have q5 := boxc x6 5 _ rfl
  have q6 := boxc x6 6 _ rfl
  have q7 := boxc x6 7 _ rfl
  have q8 := boxc x6 8 _ rfl
  have q9 := boxc x6 9 _ rfl
  have q10 := boxc x6 10 _ rfl
  have q11 := boxc x6 11 _ rfl
  have q12 := boxc x6 12 _ rfl
  have q13 := boxc x6 13 _ rfl
  have q14 := boxc x6 14 _ rfl
  have q15 := boxc x6 15 _ rfl
  have hlx := lt_of_block x6
  have D7 := D6.trans ((below1 (w := w5) (o := .cells zeroC 33)).mono D6.size)
  clear b5 x6
  go_wp2_with fail
  (with_reducible refine (HSZ.out _).mono ?_)
  rintro e w6 ⟨rfl, b6⟩
  have D8 := D7.trans (b6.mono D7.size)
  clear q0 q1 q2 q3 q4 q5 q6 q7 q8 q9 q10 q11 q12 q13 q14 q15
  go_wp2_with fail
  (with_reducible refine (HAW.out _).mono ?_)
  rintro e w9 ⟨rfl, b9⟩
  go_wp2
  go_ret
  exact ⟨rfl, D8.trans (b9.mono D8.size)⟩
end Go.Proofs.Ytghbkieflifegaa
