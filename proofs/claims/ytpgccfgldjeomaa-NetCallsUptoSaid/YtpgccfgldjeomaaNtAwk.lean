/- net's law: what it calls, in short; awake. -/
import Derived.Test.YtpgccfgldjeomaaNtLose
import Derived.Test.YtpgccfgldjeomaaNtMes
import Derived.Test.YtpgccfgldjeomaaFlow
namespace Go.Proofs.Ytpgccfgldjeomaa
open Go Go.RowKit Go.ChangeShapes cl
/-- an answer of messages, with the code 0 -/
def LstP (L : List cd.Msg) (w : World) (e : Ending) (w' : World) : Prop :=
  ∃ ao n cap, e = .returned (.tuple #[.slice ao n cap, .int .i64 0]) ∧ RowsAt 16 msgRel w' w'.heap.size (.slice ao n cap) L ∧ n = L.length ∧ Below w.heap.size w w'
theorem send_short (L : List cd.Msg) (m : cd.Msg) (v : Value) (c : List Value) (w : World) (hL : RowsAt 16 msgRel w w.heap.size v L) (hm : msgRel w w.heap.size c m) (hf : Fit m) (hl : L.length < 600) :
    Calls Try.prog 9 #[v, .agg c.toArray] w (LstP (L ++ [m]) w) :=
  (send_any L m v c w hL hm hf hl).mono fun e w' h => by
    obtain ⟨ao, n, cap, he, hr, hn, hb⟩ := SendP.rows h hl
    exact ⟨ao, n, cap, he, hr, by rw [hn, List.length_append]; rfl, hb⟩
theorem twice_short (L : List cd.Msg) (v : Value) (k : Nat) (w : World) (hL : RowsAt 16 msgRel w w.heap.size v L) (hf : ∀ x ∈ L, Fit x) (hk : k < L.length) (hl : L.length < 600) :
    Calls Try.prog 15 #[v, .int .i64 (k : Int)] w (LstP (L ++ [L.getD k default]) w) :=
  (twice_any L v k w hL hf).mono fun e w' h => by
    rcases h with ⟨h, _⟩ | ⟨j, hj, hjl, h⟩
    · omega
    · obtain rfl : j = k := by omega
      obtain ⟨ao, n, cap, he, hr, hn, hb⟩ := SendP.rows h hl
      exact ⟨ao, n, cap, he, hr, by rw [hn, List.length_append]; rfl, hb⟩
theorem twice_out (L : List cd.Msg) (v : Value) (k : Int) (w : World) (hL : RowsAt 16 msgRel w w.heap.size v L) (hf : ∀ x ∈ L, Fit x) (hk : ¬ (0 ≤ k ∧ k < (L.length : Int))) :
    Calls Try.prog 15 #[v, .int .i64 k] w (fun e w' => e = .returned (.tuple #[v, .int .i64 5]) ∧ w' = w) :=
  (twice_any L v k w hL hf).mono fun e w' h => by
    rcases h with ⟨_, he, hw⟩ | ⟨j, hj, hjl, h⟩
    · exact ⟨he, hw⟩
    · exact absurd ⟨by omega, by omega⟩ hk
/-- what Take answers where there is such a message -/
def TkP (L : List cd.Msg) (k : Nat) (w : World) (e : Ending) (w' : World) : Prop :=
  ∃ ao n cap c', e = .returned (.tuple #[.slice ao n cap, .agg (List.toArray c'), .int .i64 0]) ∧ n = L.length - 1 ∧ RowsAt 16 msgRel w' w'.heap.size (.slice ao n cap) (L.take k ++ L.drop (k + 1)) ∧ msgRel w' w'.heap.size c' (L.getD k default) ∧ Below w.heap.size w w'
theorem take_short (L : List cd.Msg) (v : Value) (k : Nat) (w : World) (hL : RowsAt 16 msgRel w w.heap.size v L) (hl : L.length ≤ 600) (hf : ∀ x ∈ L, Fit x) (hk : k < L.length) :
    Calls Try.prog 11 #[v, .int .i64 (k : Int)] w (TkP L k w) :=
  (take_any L v k w hL hl hf).mono fun e w' h => by
    obtain ⟨hb, ⟨h, _⟩ | ⟨j, hj, hjl, ao, n, cap, c', he, hn, hr, hm⟩⟩ := h
    · omega
    · obtain rfl : j = k := by omega
      exact ⟨ao, n, cap, c', he, hn, hr, hm, hb⟩
/-- where one such message lies -/
theorem rows_cells {L : List cd.Msg} {w : World} {ao : Option Addr} {n cap j : Nat} (h : RowsAt 16 msgRel w w.heap.size (.slice ao n cap) L) (hn : n = L.length) (hj : j < n) {m : cd.Msg} (hm : L.getD j default = m) :
    ∃ b off c, ao = some ⟨b, off, none⟩ ∧ msgRel w w.heap.size c m ∧ ∀ W, Below w.heap.size w W → ∀ (i : Nat) u, c[i]? = some u → W.cell? ⟨b, off + j * 16 + i, none⟩ = some u := by
  obtain ⟨b, off, c, rfl, hB, hcl, hR, hc⟩ := h.get hn hj default
  subst hm
  exact ⟨b, off, c, rfl, hR, fun W hW i u hu => (hW.cell hB).trans (hc i u hu)⟩
set_option maxHeartbeats 6400000 in
set_option maxRecDepth 100000 in
theorem awake_any (w : World) : Calls Try.prog 8 #[] w (Said true w) := by
  obtain ⟨m1, hm1⟩ : ∃ x, x = msgN 1 := ⟨_, rfl⟩
  obtain ⟨m2, hm2⟩ : ∃ x, x = msgN 2 := ⟨_, rfl⟩
  have HM1 : Hid (∀ W : World, Calls Try.prog 23 #[.int .i64 1] W fun e w' => ∃ c, e = .returned (.agg (List.toArray c)) ∧ msgRel w' w'.heap.size c m1 ∧ Below W.heap.size W w') := by
    intro W; rw [hm1]; exact message_any 1 W (by decide) (by decide)
  have F1 : Hid (Fit m1) := by show Fit _; rw [hm1]; exact fit_msgN 1
  have HS1 : Hid (∀ (W : World) (c c' : List Value), msgRel W W.heap.size c m1 → msgRel W W.heap.size c' m1 → Calls Try.prog 18 #[.agg c.toArray, .agg c'.toArray] W (Said true W)) := fun W c c' => same_eq m1 c c' W
  have HM2 : Hid (∀ W : World, Calls Try.prog 23 #[.int .i64 2] W fun e w' => ∃ c, e = .returned (.agg (List.toArray c)) ∧ msgRel w' w'.heap.size c m2 ∧ Below W.heap.size W w') := by
    intro W; rw [hm2]; exact message_any 2 W (by decide) (by decide)
  have F2 : Hid (Fit m2) := by show Fit _; rw [hm2]; exact fit_msgN 2
  have HS2 : Hid (∀ (W : World) (c c' : List Value), msgRel W W.heap.size c m2 → msgRel W W.heap.size c' m2 → Calls Try.prog 18 #[.agg c.toArray, .agg c'.toArray] W (Said true W)) := fun W c c' => same_eq m2 c c' W
  have FA : Hid (∀ x ∈ ([m1] ++ [m2]) ++ [m1], Fit x) := by
    intro x hx
    simp only [List.cons_append, List.nil_append, List.mem_cons, List.not_mem_nil, or_false] at hx
    rcases hx with rfl | rfl | rfl
    · exact F1.out
    · exact F2.out
    · exact F1.out
  have FB : Hid (∀ x ∈ [m1] ++ [m2], Fit x) := by
    intro x hx
    simp only [List.cons_append, List.nil_append, List.mem_cons, List.not_mem_nil, or_false] at hx
    rcases hx with rfl | rfl
    · exact F1.out
    · exact F2.out
  clear hm1 hm2
  go_enter Try.func8, Try.ntmps8
  go_wp2_with fail
  (with_reducible refine (HM1.out _).mono ?_)
  rintro e w1 ⟨c1, rfl, h1, b1⟩
  have B1 := Lib.hid b1
  have H1 : Hid (Calls Try.prog 9 #[.slice none 0 0, .agg c1.toArray] w1 (LstP [m1] w1)) := send_short [] m1 _ c1 w1 (RowsAt.nil _ _) h1 F1.out (by simp)
  clear h1 b1
  go_wp2_with fail
  (with_reducible refine H1.out.mono ?_)
  rintro e w2 ⟨a2, n2, q2, rfl, h2, hn2, b2⟩
  have B2 := Lib.hid (B1.out.trans (b2.mono B1.out.size))
  have R2 := Lib.hid h2
  clear h2 b2 hn2
  go_wp2_with fail
  (with_reducible refine (HM2.out _).mono ?_)
  rintro e w3 ⟨c3, rfl, h3, b3⟩
  have B3 := Lib.hid (B2.out.trans (b3.mono B2.out.size))
  have H3 := Lib.hid (send_short [m1] m2 (.slice a2 n2 q2) c3 w3 (R2.out.next msgRel_steady b3) h3 F2.out (by simp))
  clear h3 b3
  go_wp2_with fail
  (with_reducible refine H3.out.mono ?_)
  rintro e w4 ⟨a4, n4, q4, rfl, h4, hn4, b4⟩
  have B4 := Lib.hid (B3.out.trans (b4.mono B3.out.size))
  have H4 : Hid (Calls Try.prog 15 #[.slice a4 n4 q4, .int .i64 0] w4 (LstP (([m1] ++ [m2]) ++ [m1]) w4)) := twice_short ([m1] ++ [m2]) _ 0 w4 h4 FB.out (by simp) (by simp)
  clear h4 b4 hn4
  go_wp2_with fail
  (with_reducible refine H4.out.mono ?_)
  rintro e w5 ⟨a5, n5, q5, rfl, h5, hn5, b5⟩
  have B5 := Lib.hid (B4.out.trans (b5.mono B4.out.size))
  have H5 : Hid (Calls Try.prog 11 #[.slice a5 n5 q5, .int .i64 1] w5 (TkP (([m1] ++ [m2]) ++ [m1]) 1 w5)) := take_short (([m1] ++ [m2]) ++ [m1]) _ 1 w5 h5 (by simp) FA.out (by simp)
  clear h5 b5 hn5
  go_wp2_with fail
  (with_reducible refine H5.out.mono ?_)
  rintro e w6 ⟨a6, n6, q6, c6, rfl, hn6, h6, hm6, b6⟩
  obtain rfl : n6 = 2 := hn6
  have hm6 : msgRel w6 w6.heap.size c6 m2 := hm6
  have h6 : RowsAt 16 msgRel w6 w6.heap.size (.slice a6 2 q6) [m1, m1] := h6
  have B6 := Lib.hid (B5.out.trans (b6.mono B5.out.size))
  obtain ⟨ae, ne, ce, aa, na, ca, p1, n1, c1, p2, n2, c2, p3, n3, c3, p4, n4, c4, sa, sn, sc, rfl, g⟩ := hm6
  have hm6 : msgRel w6 w6.heap.size (#[.int .i64 m2.k, .int .i64 m2.f, .int .i64 m2.to, .int .i64 m2.g, .int .i64 m2.n, .slice ae ne ce, .slice aa na ca, .slice p1 n1 c1, .slice p2 n2 c2, .slice p3 n3 c3, .slice p4 n4 c4, .int .i64 m2.ki, .string m2.mn, .string m2.mv, .slice sa sn sc, .int .i64 m2.er]).toList m2 := ⟨ae, ne, ce, aa, na, ca, p1, n1, c1, p2, n2, c2, p3, n3, c3, p4, n4, c4, sa, sn, sc, rfl, g⟩
  clear g b6
  obtain ⟨w7, hw7⟩ : ∃ W, W = w6.alloc (.cells #[.int .i64 m2.k, .int .i64 m2.f, .int .i64 m2.to, .int .i64 m2.g, .int .i64 m2.n, .slice ae ne ce, .slice aa na ca, .slice p1 n1 c1, .slice p2 n2 c2, .slice p3 n3 c3, .slice p4 n4 c4, .int .i64 m2.ki, .string m2.mn, .string m2.mv, .slice sa sn sc, .int .i64 m2.er] 34) := ⟨_, rfl⟩
  have b7 : Below w6.heap.size w6 w7 := by rw [hw7]; exact below1
  have x7 : w7.heap[w6.heap.size]? = some (.cells #[.int .i64 m2.k, .int .i64 m2.f, .int .i64 m2.to, .int .i64 m2.g, .int .i64 m2.n, .slice ae ne ce, .slice aa na ca, .slice p1 n1 c1, .slice p2 n2 c2, .slice p3 n3 c3, .slice p4 n4 c4, .int .i64 m2.ki, .string m2.mn, .string m2.mv, .slice sa sn sc, .int .i64 m2.er] 34) := by rw [hw7]; exact heap_alloc_new w6 _
  have B7 := Lib.hid (B6.out.trans (b7.mono B6.out.size))
  have M7 := msgRel_steady _ _ _ _ _ _ hm6 b7 b7.size
  have HX : Hid (∀ W, Below w7.heap.size w7 W → W.heap[w6.heap.size]? = some (.cells #[.int .i64 m2.k, .int .i64 m2.f, .int .i64 m2.to, .int .i64 m2.g, .int .i64 m2.n, .slice ae ne ce, .slice aa na ca, .slice p1 n1 c1, .slice p2 n2 c2, .slice p3 n3 c3, .slice p4 n4 c4, .int .i64 m2.ki, .string m2.mn, .string m2.mv, .slice sa sn sc, .int .i64 m2.er] 34) ∧ msgRel W W.heap.size (#[.int .i64 m2.k, .int .i64 m2.f, .int .i64 m2.to, .int .i64 m2.g, .int .i64 m2.n, .slice ae ne ce, .slice aa na ca, .slice p1 n1 c1, .slice p2 n2 c2, .slice p3 n3 c3, .slice p4 n4 c4, .int .i64 m2.ki, .string m2.mn, .string m2.mv, .slice sa sn sc, .int .i64 m2.er]).toList m2) := fun W hW => ⟨(hW.block _ (lt_of_block x7)).trans x7, msgRel_steady _ _ _ _ _ _ M7 hW hW.size⟩
  have R7 := h6.next msgRel_steady b7
  obtain ⟨bb, off, cc, rfl, hR, hC⟩ := rows_cells R7 rfl (j := 1) (by omega) (m := m1) rfl
  obtain ⟨aex, nex, cex, aax, nax, cax, p1x, n1x, c1x, p2x, n2x, c2x, p3x, n3x, c3x, p4x, n4x, c4x, sax, snx, scx, rfl, g⟩ := hR
  have hR : msgRel w7 w7.heap.size (#[.int .i64 m1.k, .int .i64 m1.f, .int .i64 m1.to, .int .i64 m1.g, .int .i64 m1.n, .slice aex nex cex, .slice aax nax cax, .slice p1x n1x c1x, .slice p2x n2x c2x, .slice p3x n3x c3x, .slice p4x n4x c4x, .int .i64 m1.ki, .string m1.mn, .string m1.mv, .slice sax snx scx, .int .i64 m1.er]).toList m1 := ⟨aex, nex, cex, aax, nax, cax, p1x, n1x, c1x, p2x, n2x, c2x, p3x, n3x, c3x, p4x, n4x, c4x, sax, snx, scx, rfl, g⟩
  have HC := Lib.hid hC
  have HR : Hid (∀ W, Below w7.heap.size w7 W → msgRel W W.heap.size (#[.int .i64 m1.k, .int .i64 m1.f, .int .i64 m1.to, .int .i64 m1.g, .int .i64 m1.n, .slice aex nex cex, .slice aax nax cax, .slice p1x n1x c1x, .slice p2x n2x c2x, .slice p3x n3x c3x, .slice p4x n4x c4x, .int .i64 m1.ki, .string m1.mn, .string m1.mv, .slice sax snx scx, .int .i64 m1.er]).toList m1) := fun W hW => msgRel_steady _ _ _ _ _ _ hR hW hW.size
  clear g h6 hm6 b7 x7 M7 R7 hR hC
  go_wp2_with fail
  rw [← hw7]
  clear hw7
  refine wp_flow 31 (fun _ => 1000) (fun ww => RowKit.Below w7.heap.size w7 ww) (fun _ w w' => (fun (w w' : World) => RowKit.Below w.heap.size w w') w w') (fun kF vF wF => match kF with | 0 => (vF = .int .i64 0) | 1 => (vF = .bool true) | 2 => (vF = .bool true) | 3 => (vF = .int .i64 0) | 4 => (vF = .bool true) | 5 => (vF = .bool true) | 6 => (vF = .bool true) | 7 => (vF = .int .i64 0) | 8 => (vF = .bool true) | 9 => (vF = .bool true) | 10 => (vF = .bool true) | 11 => (vF = .int .i64 0) | 12 => (vF = .bool true) | 13 => (vF = .bool true) | 14 => (vF = .bool true) | 15 => (vF = .agg #[.int .i64 m2.k, .int .i64 m2.f, .int .i64 m2.to, .int .i64 m2.g, .int .i64 m2.n, .slice ae ne ce, .slice aa na ca, .slice p1 n1 c1, .slice p2 n2 c2, .slice p3 n3 c3, .slice p4 n4 c4, .int .i64 m2.ki, .string m2.mn, .string m2.mv, .slice sa sn sc, .int .i64 m2.er]) | 16 => (∃ c, vF = .agg (List.toArray c) ∧ msgRel wF wF.heap.size c m2) | 17 => (vF = .bool true) | 18 => (vF = .bool true) | 19 => (vF = .bool true) | 20 => (vF = .slice (some ⟨bb, off, none⟩) 2 q6) | 21 => (vF = .int .i64 2) | 22 => (vF = .bool true) | 23 => (vF = .bool true) | 24 => (vF = .bool true) | 25 => (vF = .slice (some ⟨bb, off, none⟩) 2 q6) | 26 => (vF = .pointer (some ⟨bb, off + 16, none⟩)) | 27 => (vF = .agg #[.int .i64 m1.k, .int .i64 m1.f, .int .i64 m1.to, .int .i64 m1.g, .int .i64 m1.n, .slice aex nex cex, .slice aax nax cax, .slice p1x n1x c1x, .slice p2x n2x c2x, .slice p3x n3x c3x, .slice p4x n4x c4x, .int .i64 m1.ki, .string m1.mn, .string m1.mv, .slice sax snx scx, .int .i64 m1.er]) | 28 => (∃ c, vF = .agg (List.toArray c) ∧ msgRel wF wF.heap.size c m1) | 29 => (vF = .bool true) | 30 => (vF = .bool true) | _ => True) (fun _ _ _ _ => True) (by kernel_rfl) (by kernel_rfl) ?_ ?_ ?_ ?_ ?_
  · exact (Below.refl _ _).drew
  · intro iF wF1 wF2 hR hT; exact hR.trans (hT.mono hR.size)
  · intro kF hkF iF hiF hne hdd hanc hdan vF wF1 wF2 h hT
    rcases (by omega : kF = 0 ∨ kF = 1 ∨ kF = 2 ∨ kF = 3 ∨ kF = 4 ∨ kF = 5 ∨ kF = 6 ∨ kF = 7 ∨ kF = 8 ∨ kF = 9 ∨ kF = 10 ∨ kF = 11 ∨ kF = 12 ∨ kF = 13 ∨ kF = 14 ∨ kF = 15 ∨ kF = 16 ∨ kF = 17 ∨ kF = 18 ∨ kF = 19 ∨ kF = 20 ∨ kF = 21 ∨ kF = 22 ∨ kF = 23 ∨ kF = 24 ∨ kF = 25 ∨ kF = 26 ∨ kF = 27 ∨ kF = 28 ∨ kF = 29 ∨ kF = 30) with rfl | rfl | rfl | rfl | rfl | rfl | rfl | rfl | rfl | rfl | rfl | rfl | rfl | rfl | rfl | rfl | rfl | rfl | rfl | rfl | rfl | rfl | rfl | rfl | rfl | rfl | rfl | rfl | rfl | rfl | rfl
    · exact h
    · exact h
    · exact h
    · exact h
    · exact h
    · exact h
    · exact h
    · exact h
    · exact h
    · exact h
    · exact h
    · exact h
    · exact h
    · exact h
    · exact h
    · exact h
    · have h : (∃ c, vF = .agg (List.toArray c) ∧ msgRel wF1 wF1.heap.size c m2) := h
      show (∃ c, vF = .agg (List.toArray c) ∧ msgRel wF2 wF2.heap.size c m2)
      have hT : (fun (w w' : World) => RowKit.Below w.heap.size w w') wF1 wF2 := hT
      simp only at hT
      obtain ⟨c, e, hr⟩ := h
      exact ⟨c, e, msgRel_steady _ _ _ _ _ _ hr hT hT.size⟩
    · exact h
    · exact h
    · exact h
    · exact h
    · exact h
    · exact h
    · exact h
    · exact h
    · exact h
    · exact h
    · exact h
    · have h : (∃ c, vF = .agg (List.toArray c) ∧ msgRel wF1 wF1.heap.size c m1) := h
      show (∃ c, vF = .agg (List.toArray c) ∧ msgRel wF2 wF2.heap.size c m1)
      have hT : (fun (w w' : World) => RowKit.Below w.heap.size w w') wF1 wF2 := hT
      simp only at hT
      obtain ⟨c, e, hr⟩ := h
      exact ⟨c, e, msgRel_steady _ _ _ _ _ _ hr hT hT.size⟩
    · exact h
    · exact h
  · refine FlowAll.cons ?_ ?_
    · intro xF ww hR hd K hK
      clear hd
      simp only [List.take_succ_cons, List.take_zero, fillOf, Act.put, List.setIfInBounds_toArray, List.set_cons_zero, List.set_cons_succ, Nat.reduceAdd, Nat.zero_add] at hK ⊢
      obtain hbR := id hR
      rw [if_pos (by rfl)]
      go_simp
      exact hK.out _ _ (Below.refl _ _) (rfl) (fun _ _ _ => ⟨trivial, trivial⟩)
    refine FlowAll.cons ?_ ?_
    · intro xF ww hR hd K hK
      have dd0 : ((xF 0) = .int .i64 0) := hd 0 (by kernel_rfl)
      clear hd
      simp only [List.take_succ_cons, List.take_zero, fillOf, Act.put, List.setIfInBounds_toArray, List.set_cons_zero, List.set_cons_succ, Nat.reduceAdd, Nat.zero_add] at hK ⊢
      try generalize xF 0 = yy0 at *
      obtain rfl := dd0
      obtain hbR := id hR
      rw [if_pos (by rfl)]
      go_simp
      exact hK.out _ _ (Below.refl _ _) (rfl) (fun _ _ _ => ⟨trivial, trivial⟩)
    refine FlowAll.cons ?_ ?_
    · intro xF ww hR hd K hK
      have dd1 : ((xF 1) = .bool true) := hd 1 (by kernel_rfl)
      clear hd
      simp only [List.take_succ_cons, List.take_zero, fillOf, Act.put, List.setIfInBounds_toArray, List.set_cons_zero, List.set_cons_succ, Nat.reduceAdd, Nat.zero_add] at hK ⊢
      try generalize xF 1 = yy1 at *
      obtain rfl := dd1
      obtain hbR := id hR
      rw [if_pos (by rfl)]
      go_simp
      exact hK.out _ _ (Below.refl _ _) (rfl) (fun _ _ _ => ⟨trivial, trivial⟩)
    refine FlowAll.cons ?_ ?_
    · intro xF ww hR hd K hK
      have dd2 : ((xF 2) = .bool true) := hd 2 (by kernel_rfl)
      clear hd
      simp only [List.take_succ_cons, List.take_zero, fillOf, Act.put, List.setIfInBounds_toArray, List.set_cons_zero, List.set_cons_succ, Nat.reduceAdd, Nat.zero_add] at hK ⊢
      try generalize xF 2 = yy2 at *
      obtain rfl := dd2
      obtain hbR := id hR
      rw [if_pos (by rfl)]
      go_simp
      exact hK.out _ _ (Below.refl _ _) (rfl) (fun _ _ _ => ⟨trivial, trivial⟩)
    refine FlowAll.cons ?_ ?_
    · intro xF ww hR hd K hK
      have dd2 : ((xF 2) = .bool true) := hd 2 (by kernel_rfl)
      have dd3 : ((xF 3) = .int .i64 0) := hd 3 (by kernel_rfl)
      clear hd
      simp only [List.take_succ_cons, List.take_zero, fillOf, Act.put, List.setIfInBounds_toArray, List.set_cons_zero, List.set_cons_succ, Nat.reduceAdd, Nat.zero_add] at hK ⊢
      try generalize xF 2 = yy2 at *
      try generalize xF 3 = yy3 at *
      obtain rfl := dd2
      obtain rfl := dd3
      obtain hbR := id hR
      rw [if_pos (by rfl)]
      go_simp
      exact hK.out _ _ (Below.refl _ _) (rfl) (fun _ _ _ => ⟨trivial, trivial⟩)
    refine FlowAll.cons ?_ ?_
    · intro xF ww hR hd K hK
      have dd2 : ((xF 2) = .bool true) := hd 2 (by kernel_rfl)
      have dd4 : ((xF 4) = .bool true) := hd 4 (by kernel_rfl)
      clear hd
      simp only [List.take_succ_cons, List.take_zero, fillOf, Act.put, List.setIfInBounds_toArray, List.set_cons_zero, List.set_cons_succ, Nat.reduceAdd, Nat.zero_add] at hK ⊢
      try generalize xF 2 = yy2 at *
      try generalize xF 4 = yy4 at *
      obtain rfl := dd2
      obtain rfl := dd4
      obtain hbR := id hR
      rw [if_pos (by rfl)]
      go_simp
      exact hK.out _ _ (Below.refl _ _) (rfl) (fun _ _ _ => ⟨trivial, trivial⟩)
    refine FlowAll.cons ?_ ?_
    · intro xF ww hR hd K hK
      have dd5 : ((xF 5) = .bool true) := hd 5 (by kernel_rfl)
      clear hd
      simp only [List.take_succ_cons, List.take_zero, fillOf, Act.put, List.setIfInBounds_toArray, List.set_cons_zero, List.set_cons_succ, Nat.reduceAdd, Nat.zero_add] at hK ⊢
      try generalize xF 5 = yy5 at *
      obtain rfl := dd5
      obtain hbR := id hR
      rw [if_pos (by rfl)]
      go_simp
      exact hK.out _ _ (Below.refl _ _) (rfl) (fun _ _ _ => ⟨trivial, trivial⟩)
    refine FlowAll.cons ?_ ?_
    · intro xF ww hR hd K hK
      have dd6 : ((xF 6) = .bool true) := hd 6 (by kernel_rfl)
      clear hd
      simp only [List.take_succ_cons, List.take_zero, fillOf, Act.put, List.setIfInBounds_toArray, List.set_cons_zero, List.set_cons_succ, Nat.reduceAdd, Nat.zero_add] at hK ⊢
      try generalize xF 6 = yy6 at *
      obtain rfl := dd6
      obtain hbR := id hR
      rw [if_pos (by rfl)]
      go_simp
      exact hK.out _ _ (Below.refl _ _) (rfl) (fun _ _ _ => ⟨trivial, trivial⟩)
    refine FlowAll.cons ?_ ?_
    · intro xF ww hR hd K hK
      have dd6 : ((xF 6) = .bool true) := hd 6 (by kernel_rfl)
      have dd7 : ((xF 7) = .int .i64 0) := hd 7 (by kernel_rfl)
      clear hd
      simp only [List.take_succ_cons, List.take_zero, fillOf, Act.put, List.setIfInBounds_toArray, List.set_cons_zero, List.set_cons_succ, Nat.reduceAdd, Nat.zero_add] at hK ⊢
      try generalize xF 6 = yy6 at *
      try generalize xF 7 = yy7 at *
      obtain rfl := dd6
      obtain rfl := dd7
      obtain hbR := id hR
      rw [if_pos (by rfl)]
      go_simp
      exact hK.out _ _ (Below.refl _ _) (rfl) (fun _ _ _ => ⟨trivial, trivial⟩)
    refine FlowAll.cons ?_ ?_
    · intro xF ww hR hd K hK
      have dd6 : ((xF 6) = .bool true) := hd 6 (by kernel_rfl)
      have dd8 : ((xF 8) = .bool true) := hd 8 (by kernel_rfl)
      clear hd
      simp only [List.take_succ_cons, List.take_zero, fillOf, Act.put, List.setIfInBounds_toArray, List.set_cons_zero, List.set_cons_succ, Nat.reduceAdd, Nat.zero_add] at hK ⊢
      try generalize xF 6 = yy6 at *
      try generalize xF 8 = yy8 at *
      obtain rfl := dd6
      obtain rfl := dd8
      obtain hbR := id hR
      rw [if_pos (by rfl)]
      go_simp
      exact hK.out _ _ (Below.refl _ _) (rfl) (fun _ _ _ => ⟨trivial, trivial⟩)
    refine FlowAll.cons ?_ ?_
    · intro xF ww hR hd K hK
      have dd9 : ((xF 9) = .bool true) := hd 9 (by kernel_rfl)
      clear hd
      simp only [List.take_succ_cons, List.take_zero, fillOf, Act.put, List.setIfInBounds_toArray, List.set_cons_zero, List.set_cons_succ, Nat.reduceAdd, Nat.zero_add] at hK ⊢
      try generalize xF 9 = yy9 at *
      obtain rfl := dd9
      obtain hbR := id hR
      rw [if_pos (by rfl)]
      go_simp
      exact hK.out _ _ (Below.refl _ _) (rfl) (fun _ _ _ => ⟨trivial, trivial⟩)
    refine FlowAll.cons ?_ ?_
    · intro xF ww hR hd K hK
      have dd10 : ((xF 10) = .bool true) := hd 10 (by kernel_rfl)
      clear hd
      simp only [List.take_succ_cons, List.take_zero, fillOf, Act.put, List.setIfInBounds_toArray, List.set_cons_zero, List.set_cons_succ, Nat.reduceAdd, Nat.zero_add] at hK ⊢
      try generalize xF 10 = yy10 at *
      obtain rfl := dd10
      obtain hbR := id hR
      rw [if_pos (by rfl)]
      go_simp
      exact hK.out _ _ (Below.refl _ _) (rfl) (fun _ _ _ => ⟨trivial, trivial⟩)
    refine FlowAll.cons ?_ ?_
    · intro xF ww hR hd K hK
      have dd10 : ((xF 10) = .bool true) := hd 10 (by kernel_rfl)
      have dd11 : ((xF 11) = .int .i64 0) := hd 11 (by kernel_rfl)
      clear hd
      simp only [List.take_succ_cons, List.take_zero, fillOf, Act.put, List.setIfInBounds_toArray, List.set_cons_zero, List.set_cons_succ, Nat.reduceAdd, Nat.zero_add] at hK ⊢
      try generalize xF 10 = yy10 at *
      try generalize xF 11 = yy11 at *
      obtain rfl := dd10
      obtain rfl := dd11
      obtain hbR := id hR
      rw [if_pos (by rfl)]
      go_simp
      exact hK.out _ _ (Below.refl _ _) (rfl) (fun _ _ _ => ⟨trivial, trivial⟩)
    refine FlowAll.cons ?_ ?_
    · intro xF ww hR hd K hK
      have dd10 : ((xF 10) = .bool true) := hd 10 (by kernel_rfl)
      have dd12 : ((xF 12) = .bool true) := hd 12 (by kernel_rfl)
      clear hd
      simp only [List.take_succ_cons, List.take_zero, fillOf, Act.put, List.setIfInBounds_toArray, List.set_cons_zero, List.set_cons_succ, Nat.reduceAdd, Nat.zero_add] at hK ⊢
      try generalize xF 10 = yy10 at *
      try generalize xF 12 = yy12 at *
      obtain rfl := dd10
      obtain rfl := dd12
      obtain hbR := id hR
      rw [if_pos (by rfl)]
      go_simp
      exact hK.out _ _ (Below.refl _ _) (rfl) (fun _ _ _ => ⟨trivial, trivial⟩)
    refine FlowAll.cons ?_ ?_
    · intro xF ww hR hd K hK
      have dd13 : ((xF 13) = .bool true) := hd 13 (by kernel_rfl)
      clear hd
      simp only [List.take_succ_cons, List.take_zero, fillOf, Act.put, List.setIfInBounds_toArray, List.set_cons_zero, List.set_cons_succ, Nat.reduceAdd, Nat.zero_add] at hK ⊢
      try generalize xF 13 = yy13 at *
      obtain rfl := dd13
      obtain hbR := id hR
      rw [if_pos (by rfl)]
      go_simp
      exact hK.out _ _ (Below.refl _ _) (rfl) (fun _ _ _ => ⟨trivial, trivial⟩)
    refine FlowAll.cons ?_ ?_
    · intro xF ww hR hd K hK
      have dd14 : ((xF 14) = .bool true) := hd 14 (by kernel_rfl)
      clear hd
      simp only [List.take_succ_cons, List.take_zero, fillOf, Act.put, List.setIfInBounds_toArray, List.set_cons_zero, List.set_cons_succ, Nat.reduceAdd, Nat.zero_add] at hK ⊢
      try generalize xF 14 = yy14 at *
      obtain rfl := dd14
      obtain hbR := id hR
      have hxa := (HX.out _ hR).1
      have q0 := boxc hxa 0 _ rfl
      have q1 := boxc hxa 1 _ rfl
      have q2 := boxc hxa 2 _ rfl
      have q3 := boxc hxa 3 _ rfl
      have q4 := boxc hxa 4 _ rfl
      have q5 := boxc hxa 5 _ rfl
      have q6 := boxc hxa 6 _ rfl
      have q7 := boxc hxa 7 _ rfl
      have q8 := boxc hxa 8 _ rfl
      have q9 := boxc hxa 9 _ rfl
      have q10 := boxc hxa 10 _ rfl
      have q11 := boxc hxa 11 _ rfl
      have q12 := boxc hxa 12 _ rfl
      have q13 := boxc hxa 13 _ rfl
      have q14 := boxc hxa 14 _ rfl
      have q15 := boxc hxa 15 _ rfl
      clear hxa
      rw [if_pos (by rfl)]
      go_simp
      exact hK.out _ _ (Below.refl _ _) (rfl) (fun _ _ _ => ⟨trivial, trivial⟩)
    refine FlowAll.cons ?_ ?_
    · intro xF ww hR hd K hK
      have dd14 : ((xF 14) = .bool true) := hd 14 (by kernel_rfl)
      clear hd
      simp only [List.take_succ_cons, List.take_zero, fillOf, Act.put, List.setIfInBounds_toArray, List.set_cons_zero, List.set_cons_succ, Nat.reduceAdd, Nat.zero_add] at hK ⊢
      try generalize xF 14 = yy14 at *
      obtain rfl := dd14
      obtain hbR := id hR
      rw [if_pos (by rfl)]
      go_simp
      (go_at_call 23; (with_reducible refine (HM2.out _).mono ?_); rintro e wK ⟨cK, rfl, hrK, hbK⟩)
      try go_wp2_with fail
      exact hK.out _ _ (hbK) (⟨cK, rfl, hrK⟩) (fun _ _ _ => ⟨trivial, trivial⟩)
    refine FlowAll.cons ?_ ?_
    · intro xF ww hR hd K hK
      have dd14 : ((xF 14) = .bool true) := hd 14 (by kernel_rfl)
      have dd15 : ((xF 15) = .agg #[.int .i64 m2.k, .int .i64 m2.f, .int .i64 m2.to, .int .i64 m2.g, .int .i64 m2.n, .slice ae ne ce, .slice aa na ca, .slice p1 n1 c1, .slice p2 n2 c2, .slice p3 n3 c3, .slice p4 n4 c4, .int .i64 m2.ki, .string m2.mn, .string m2.mv, .slice sa sn sc, .int .i64 m2.er]) := hd 15 (by kernel_rfl)
      have dd16 : (∃ c, (xF 16) = .agg (List.toArray c) ∧ msgRel ww ww.heap.size c m2) := hd 16 (by kernel_rfl)
      clear hd
      simp only [List.take_succ_cons, List.take_zero, fillOf, Act.put, List.setIfInBounds_toArray, List.set_cons_zero, List.set_cons_succ, Nat.reduceAdd, Nat.zero_add] at hK ⊢
      try generalize xF 14 = yy14 at *
      try generalize xF 15 = yy15 at *
      try generalize xF 16 = yy16 at *
      obtain rfl := dd14
      obtain rfl := dd15
      obtain ⟨c16, rfl, hr16⟩ := dd16
      obtain hbR := id hR
      rw [if_pos (by rfl)]
      go_simp
      (go_at_call 18; (with_reducible refine (HS2.out _ (#[.int .i64 m2.k, .int .i64 m2.f, .int .i64 m2.to, .int .i64 m2.g, .int .i64 m2.n, .slice ae ne ce, .slice aa na ca, .slice p1 n1 c1, .slice p2 n2 c2, .slice p3 n3 c3, .slice p4 n4 c4, .int .i64 m2.ki, .string m2.mn, .string m2.mv, .slice sa sn sc, .int .i64 m2.er]).toList c16 (HX.out _ hR).2 hr16).mono ?_); rintro e wK ⟨rfl, hbK⟩)
      try go_wp2_with fail
      exact hK.out _ _ (hbK) (rfl) (fun _ _ _ => ⟨trivial, trivial⟩)
    refine FlowAll.cons ?_ ?_
    · intro xF ww hR hd K hK
      have dd14 : ((xF 14) = .bool true) := hd 14 (by kernel_rfl)
      have dd17 : ((xF 17) = .bool true) := hd 17 (by kernel_rfl)
      clear hd
      simp only [List.take_succ_cons, List.take_zero, fillOf, Act.put, List.setIfInBounds_toArray, List.set_cons_zero, List.set_cons_succ, Nat.reduceAdd, Nat.zero_add] at hK ⊢
      try generalize xF 14 = yy14 at *
      try generalize xF 17 = yy17 at *
      obtain rfl := dd14
      obtain rfl := dd17
      obtain hbR := id hR
      rw [if_pos (by rfl)]
      go_simp
      exact hK.out _ _ (Below.refl _ _) (rfl) (fun _ _ _ => ⟨trivial, trivial⟩)
    refine FlowAll.cons ?_ ?_
    · intro xF ww hR hd K hK
      have dd18 : ((xF 18) = .bool true) := hd 18 (by kernel_rfl)
      clear hd
      simp only [List.take_succ_cons, List.take_zero, fillOf, Act.put, List.setIfInBounds_toArray, List.set_cons_zero, List.set_cons_succ, Nat.reduceAdd, Nat.zero_add] at hK ⊢
      try generalize xF 18 = yy18 at *
      obtain rfl := dd18
      obtain hbR := id hR
      rw [if_pos (by rfl)]
      go_simp
      exact hK.out _ _ (Below.refl _ _) (rfl) (fun _ _ _ => ⟨trivial, trivial⟩)
    refine FlowAll.cons ?_ ?_
    · intro xF ww hR hd K hK
      have dd19 : ((xF 19) = .bool true) := hd 19 (by kernel_rfl)
      clear hd
      simp only [List.take_succ_cons, List.take_zero, fillOf, Act.put, List.setIfInBounds_toArray, List.set_cons_zero, List.set_cons_succ, Nat.reduceAdd, Nat.zero_add] at hK ⊢
      try generalize xF 19 = yy19 at *
      obtain rfl := dd19
      obtain hbR := id hR
      rw [if_pos (by rfl)]
      go_simp
      exact hK.out _ _ (Below.refl _ _) (rfl) (fun _ _ _ => ⟨trivial, trivial⟩)
    refine FlowAll.cons ?_ ?_
    · intro xF ww hR hd K hK
      have dd19 : ((xF 19) = .bool true) := hd 19 (by kernel_rfl)
      have dd20 : ((xF 20) = .slice (some ⟨bb, off, none⟩) 2 q6) := hd 20 (by kernel_rfl)
      clear hd
      simp only [List.take_succ_cons, List.take_zero, fillOf, Act.put, List.setIfInBounds_toArray, List.set_cons_zero, List.set_cons_succ, Nat.reduceAdd, Nat.zero_add] at hK ⊢
      try generalize xF 19 = yy19 at *
      try generalize xF 20 = yy20 at *
      obtain rfl := dd19
      obtain rfl := dd20
      obtain hbR := id hR
      rw [if_pos (by rfl)]
      go_simp
      exact hK.out _ _ (Below.refl _ _) (rfl) (fun _ _ _ => ⟨trivial, trivial⟩)
    refine FlowAll.cons ?_ ?_
    · intro xF ww hR hd K hK
      have dd19 : ((xF 19) = .bool true) := hd 19 (by kernel_rfl)
      have dd21 : ((xF 21) = .int .i64 2) := hd 21 (by kernel_rfl)
      clear hd
      simp only [List.take_succ_cons, List.take_zero, fillOf, Act.put, List.setIfInBounds_toArray, List.set_cons_zero, List.set_cons_succ, Nat.reduceAdd, Nat.zero_add] at hK ⊢
      try generalize xF 19 = yy19 at *
      try generalize xF 21 = yy21 at *
      obtain rfl := dd19
      obtain rfl := dd21
      obtain hbR := id hR
      rw [if_pos (by rfl)]
      go_simp
      exact hK.out _ _ (Below.refl _ _) (rfl) (fun _ _ _ => ⟨trivial, trivial⟩)
    refine FlowAll.cons ?_ ?_
    · intro xF ww hR hd K hK
      have dd19 : ((xF 19) = .bool true) := hd 19 (by kernel_rfl)
      have dd22 : ((xF 22) = .bool true) := hd 22 (by kernel_rfl)
      clear hd
      simp only [List.take_succ_cons, List.take_zero, fillOf, Act.put, List.setIfInBounds_toArray, List.set_cons_zero, List.set_cons_succ, Nat.reduceAdd, Nat.zero_add] at hK ⊢
      try generalize xF 19 = yy19 at *
      try generalize xF 22 = yy22 at *
      obtain rfl := dd19
      obtain rfl := dd22
      obtain hbR := id hR
      rw [if_pos (by rfl)]
      go_simp
      exact hK.out _ _ (Below.refl _ _) (rfl) (fun _ _ _ => ⟨trivial, trivial⟩)
    refine FlowAll.cons ?_ ?_
    · intro xF ww hR hd K hK
      have dd23 : ((xF 23) = .bool true) := hd 23 (by kernel_rfl)
      clear hd
      simp only [List.take_succ_cons, List.take_zero, fillOf, Act.put, List.setIfInBounds_toArray, List.set_cons_zero, List.set_cons_succ, Nat.reduceAdd, Nat.zero_add] at hK ⊢
      try generalize xF 23 = yy23 at *
      obtain rfl := dd23
      obtain hbR := id hR
      rw [if_pos (by rfl)]
      go_simp
      exact hK.out _ _ (Below.refl _ _) (rfl) (fun _ _ _ => ⟨trivial, trivial⟩)
    refine FlowAll.cons ?_ ?_
    · intro xF ww hR hd K hK
      have dd24 : ((xF 24) = .bool true) := hd 24 (by kernel_rfl)
      clear hd
      simp only [List.take_succ_cons, List.take_zero, fillOf, Act.put, List.setIfInBounds_toArray, List.set_cons_zero, List.set_cons_succ, Nat.reduceAdd, Nat.zero_add] at hK ⊢
      try generalize xF 24 = yy24 at *
      obtain rfl := dd24
      obtain hbR := id hR
      rw [if_pos (by rfl)]
      go_simp
      exact hK.out _ _ (Below.refl _ _) (rfl) (fun _ _ _ => ⟨trivial, trivial⟩)
    refine FlowAll.cons ?_ ?_
    · intro xF ww hR hd K hK
      have dd24 : ((xF 24) = .bool true) := hd 24 (by kernel_rfl)
      have dd25 : ((xF 25) = .slice (some ⟨bb, off, none⟩) 2 q6) := hd 25 (by kernel_rfl)
      clear hd
      simp only [List.take_succ_cons, List.take_zero, fillOf, Act.put, List.setIfInBounds_toArray, List.set_cons_zero, List.set_cons_succ, Nat.reduceAdd, Nat.zero_add] at hK ⊢
      try generalize xF 24 = yy24 at *
      try generalize xF 25 = yy25 at *
      obtain rfl := dd24
      obtain rfl := dd25
      obtain hbR := id hR
      rw [if_pos (by rfl)]
      go_simp
      exact hK.out _ _ (Below.refl _ _) (rfl) (fun _ _ _ => ⟨trivial, trivial⟩)
    refine FlowAll.cons ?_ ?_
    · intro xF ww hR hd K hK
      have dd24 : ((xF 24) = .bool true) := hd 24 (by kernel_rfl)
      have dd26 : ((xF 26) = .pointer (some ⟨bb, off + 16, none⟩)) := hd 26 (by kernel_rfl)
      clear hd
      simp only [List.take_succ_cons, List.take_zero, fillOf, Act.put, List.setIfInBounds_toArray, List.set_cons_zero, List.set_cons_succ, Nat.reduceAdd, Nat.zero_add] at hK ⊢
      try generalize xF 24 = yy24 at *
      try generalize xF 26 = yy26 at *
      obtain rfl := dd24
      obtain rfl := dd26
      obtain hbR := id hR
      have hC : ∀ (i : Nat) u, ((#[.int .i64 m1.k, .int .i64 m1.f, .int .i64 m1.to, .int .i64 m1.g, .int .i64 m1.n, .slice aex nex cex, .slice aax nax cax, .slice p1x n1x c1x, .slice p2x n2x c2x, .slice p3x n3x c3x, .slice p4x n4x c4x, .int .i64 m1.ki, .string m1.mn, .string m1.mv, .slice sax snx scx, .int .i64 m1.er]).toList)[i]? = some u → ww.cell? ⟨bb, off + 16 + i, none⟩ = some u := HC.out _ hR
      have q0 : ww.cell? ⟨bb, off + 16, none⟩ = _ := hC 0 _ rfl
      have q1 := hC 1 _ rfl
      have q2 := hC 2 _ rfl
      have q3 := hC 3 _ rfl
      have q4 := hC 4 _ rfl
      have q5 := hC 5 _ rfl
      have q6 := hC 6 _ rfl
      have q7 := hC 7 _ rfl
      have q8 := hC 8 _ rfl
      have q9 := hC 9 _ rfl
      have q10 := hC 10 _ rfl
      have q11 := hC 11 _ rfl
      have q12 := hC 12 _ rfl
      have q13 := hC 13 _ rfl
      have q14 := hC 14 _ rfl
      have q15 := hC 15 _ rfl
      clear hC
      rw [if_pos (by rfl)]
      go_simp
      exact hK.out _ _ (Below.refl _ _) (rfl) (fun _ _ _ => ⟨trivial, trivial⟩)
    refine FlowAll.cons ?_ ?_
    · intro xF ww hR hd K hK
      have dd24 : ((xF 24) = .bool true) := hd 24 (by kernel_rfl)
      clear hd
      simp only [List.take_succ_cons, List.take_zero, fillOf, Act.put, List.setIfInBounds_toArray, List.set_cons_zero, List.set_cons_succ, Nat.reduceAdd, Nat.zero_add] at hK ⊢
      try generalize xF 24 = yy24 at *
      obtain rfl := dd24
      obtain hbR := id hR
      rw [if_pos (by rfl)]
      go_simp
      (go_at_call 23; (with_reducible refine (HM1.out _).mono ?_); rintro e wK ⟨cK, rfl, hrK, hbK⟩)
      try go_wp2_with fail
      exact hK.out _ _ (hbK) (⟨cK, rfl, hrK⟩) (fun _ _ _ => ⟨trivial, trivial⟩)
    refine FlowAll.cons ?_ ?_
    · intro xF ww hR hd K hK
      have dd24 : ((xF 24) = .bool true) := hd 24 (by kernel_rfl)
      have dd27 : ((xF 27) = .agg #[.int .i64 m1.k, .int .i64 m1.f, .int .i64 m1.to, .int .i64 m1.g, .int .i64 m1.n, .slice aex nex cex, .slice aax nax cax, .slice p1x n1x c1x, .slice p2x n2x c2x, .slice p3x n3x c3x, .slice p4x n4x c4x, .int .i64 m1.ki, .string m1.mn, .string m1.mv, .slice sax snx scx, .int .i64 m1.er]) := hd 27 (by kernel_rfl)
      have dd28 : (∃ c, (xF 28) = .agg (List.toArray c) ∧ msgRel ww ww.heap.size c m1) := hd 28 (by kernel_rfl)
      clear hd
      simp only [List.take_succ_cons, List.take_zero, fillOf, Act.put, List.setIfInBounds_toArray, List.set_cons_zero, List.set_cons_succ, Nat.reduceAdd, Nat.zero_add] at hK ⊢
      try generalize xF 24 = yy24 at *
      try generalize xF 27 = yy27 at *
      try generalize xF 28 = yy28 at *
      obtain rfl := dd24
      obtain rfl := dd27
      obtain ⟨c28, rfl, hr28⟩ := dd28
      obtain hbR := id hR
      rw [if_pos (by rfl)]
      go_simp
      (go_at_call 18; (with_reducible refine (HS1.out _ (#[.int .i64 m1.k, .int .i64 m1.f, .int .i64 m1.to, .int .i64 m1.g, .int .i64 m1.n, .slice aex nex cex, .slice aax nax cax, .slice p1x n1x c1x, .slice p2x n2x c2x, .slice p3x n3x c3x, .slice p4x n4x c4x, .int .i64 m1.ki, .string m1.mn, .string m1.mv, .slice sax snx scx, .int .i64 m1.er]).toList c28 (HR.out _ hR) hr28).mono ?_); rintro e wK ⟨rfl, hbK⟩)
      try go_wp2_with fail
      exact hK.out _ _ (hbK) (rfl) (fun _ _ _ => ⟨trivial, trivial⟩)
    refine FlowAll.cons ?_ ?_
    · intro xF ww hR hd K hK
      have dd24 : ((xF 24) = .bool true) := hd 24 (by kernel_rfl)
      have dd29 : ((xF 29) = .bool true) := hd 29 (by kernel_rfl)
      clear hd
      simp only [List.take_succ_cons, List.take_zero, fillOf, Act.put, List.setIfInBounds_toArray, List.set_cons_zero, List.set_cons_succ, Nat.reduceAdd, Nat.zero_add] at hK ⊢
      try generalize xF 24 = yy24 at *
      try generalize xF 29 = yy29 at *
      obtain rfl := dd24
      obtain rfl := dd29
      obtain hbR := id hR
      rw [if_pos (by rfl)]
      go_simp
      exact hK.out _ _ (Below.refl _ _) (rfl) (fun _ _ _ => ⟨trivial, trivial⟩)
    exact FlowAll.nil
  intro xF ww hR hF hP
  clear hP
  have dd0 : ((xF 0) = .int .i64 0) := hF 0 (by omega) (by decide)
  have dd1 : ((xF 1) = .bool true) := hF 1 (by omega) (by decide)
  have dd2 : ((xF 2) = .bool true) := hF 2 (by omega) (by decide)
  have dd3 : ((xF 3) = .int .i64 0) := hF 3 (by omega) (by decide)
  have dd4 : ((xF 4) = .bool true) := hF 4 (by omega) (by decide)
  have dd5 : ((xF 5) = .bool true) := hF 5 (by omega) (by decide)
  have dd6 : ((xF 6) = .bool true) := hF 6 (by omega) (by decide)
  have dd7 : ((xF 7) = .int .i64 0) := hF 7 (by omega) (by decide)
  have dd8 : ((xF 8) = .bool true) := hF 8 (by omega) (by decide)
  have dd9 : ((xF 9) = .bool true) := hF 9 (by omega) (by decide)
  have dd10 : ((xF 10) = .bool true) := hF 10 (by omega) (by decide)
  have dd11 : ((xF 11) = .int .i64 0) := hF 11 (by omega) (by decide)
  have dd12 : ((xF 12) = .bool true) := hF 12 (by omega) (by decide)
  have dd13 : ((xF 13) = .bool true) := hF 13 (by omega) (by decide)
  have dd14 : ((xF 14) = .bool true) := hF 14 (by omega) (by decide)
  have dd15 : ((xF 15) = .agg #[.int .i64 m2.k, .int .i64 m2.f, .int .i64 m2.to, .int .i64 m2.g, .int .i64 m2.n, .slice ae ne ce, .slice aa na ca, .slice p1 n1 c1, .slice p2 n2 c2, .slice p3 n3 c3, .slice p4 n4 c4, .int .i64 m2.ki, .string m2.mn, .string m2.mv, .slice sa sn sc, .int .i64 m2.er]) := hF 15 (by omega) (by decide)
  have dd16 : (∃ c, (xF 16) = .agg (List.toArray c) ∧ msgRel ww ww.heap.size c m2) := hF 16 (by omega) (by decide)
  have dd17 : ((xF 17) = .bool true) := hF 17 (by omega) (by decide)
  have dd18 : ((xF 18) = .bool true) := hF 18 (by omega) (by decide)
  have dd19 : ((xF 19) = .bool true) := hF 19 (by omega) (by decide)
  have dd20 : ((xF 20) = .slice (some ⟨bb, off, none⟩) 2 q6) := hF 20 (by omega) (by decide)
  have dd21 : ((xF 21) = .int .i64 2) := hF 21 (by omega) (by decide)
  have dd22 : ((xF 22) = .bool true) := hF 22 (by omega) (by decide)
  have dd23 : ((xF 23) = .bool true) := hF 23 (by omega) (by decide)
  have dd24 : ((xF 24) = .bool true) := hF 24 (by omega) (by decide)
  have dd25 : ((xF 25) = .slice (some ⟨bb, off, none⟩) 2 q6) := hF 25 (by omega) (by decide)
  have dd26 : ((xF 26) = .pointer (some ⟨bb, off + 16, none⟩)) := hF 26 (by omega) (by decide)
  have dd27 : ((xF 27) = .agg #[.int .i64 m1.k, .int .i64 m1.f, .int .i64 m1.to, .int .i64 m1.g, .int .i64 m1.n, .slice aex nex cex, .slice aax nax cax, .slice p1x n1x c1x, .slice p2x n2x c2x, .slice p3x n3x c3x, .slice p4x n4x c4x, .int .i64 m1.ki, .string m1.mn, .string m1.mv, .slice sax snx scx, .int .i64 m1.er]) := hF 27 (by omega) (by decide)
  have dd28 : (∃ c, (xF 28) = .agg (List.toArray c) ∧ msgRel ww ww.heap.size c m1) := hF 28 (by omega) (by decide)
  have dd29 : ((xF 29) = .bool true) := hF 29 (by omega) (by decide)
  have dd30 : ((xF 30) = .bool true) := hF 30 (by omega) (by decide)
  clear hF
  simp only [List.take_succ_cons, List.take_zero, List.drop_succ_cons, List.drop_zero, fillOf, Act.put, List.setIfInBounds_toArray, List.set_cons_zero, List.set_cons_succ, Nat.reduceAdd, Nat.zero_add]
  try generalize xF 0 = yy0 at *
  try generalize xF 1 = yy1 at *
  try generalize xF 2 = yy2 at *
  try generalize xF 3 = yy3 at *
  try generalize xF 4 = yy4 at *
  try generalize xF 5 = yy5 at *
  try generalize xF 6 = yy6 at *
  try generalize xF 7 = yy7 at *
  try generalize xF 8 = yy8 at *
  try generalize xF 9 = yy9 at *
  try generalize xF 10 = yy10 at *
  try generalize xF 11 = yy11 at *
  try generalize xF 12 = yy12 at *
  try generalize xF 13 = yy13 at *
  try generalize xF 14 = yy14 at *
  try generalize xF 15 = yy15 at *
  try generalize xF 16 = yy16 at *
  try generalize xF 17 = yy17 at *
  try generalize xF 18 = yy18 at *
  try generalize xF 19 = yy19 at *
  try generalize xF 20 = yy20 at *
  try generalize xF 21 = yy21 at *
  try generalize xF 22 = yy22 at *
  try generalize xF 23 = yy23 at *
  try generalize xF 24 = yy24 at *
  try generalize xF 25 = yy25 at *
  try generalize xF 26 = yy26 at *
  try generalize xF 27 = yy27 at *
  try generalize xF 28 = yy28 at *
  try generalize xF 29 = yy29 at *
  try generalize xF 30 = yy30 at *
  clear xF
  obtain rfl := dd0
  obtain rfl := dd1
  obtain rfl := dd2
  obtain rfl := dd3
  obtain rfl := dd4
  obtain rfl := dd5
  obtain rfl := dd6
  obtain rfl := dd7
  obtain rfl := dd8
  obtain rfl := dd9
  obtain rfl := dd10
  obtain rfl := dd11
  obtain rfl := dd12
  obtain rfl := dd13
  obtain rfl := dd14
  obtain rfl := dd15
  obtain ⟨c16, rfl, hr16⟩ := dd16
  obtain rfl := dd17
  obtain rfl := dd18
  obtain rfl := dd19
  obtain rfl := dd20
  obtain rfl := dd21
  obtain rfl := dd22
  obtain rfl := dd23
  obtain rfl := dd24
  obtain rfl := dd25
  obtain rfl := dd26
  obtain rfl := dd27
  obtain ⟨c28, rfl, hr28⟩ := dd28
  obtain rfl := dd29
  obtain rfl := dd30
  have hRE := Lib.hid hR
  clear hR
  go_wp2
  go_ret
  exact ⟨rfl, B7.out.trans (hRE.out.mono B7.out.size)⟩
end Go.Proofs.Ytpgccfgldjeomaa
