/- net's law: two lists of the same messages. -/
import Derived.Test.YtpgccfgldjeomaaNtAwk
namespace Go.Proofs.Ytpgccfgldjeomaa
open Go Go.RowKit Go.ChangeShapes cl
set_option maxHeartbeats 6400000 in
set_option maxRecDepth 100000 in
theorem lists_eq (L : List cd.Msg) (va vb : Value) (w : World) (ha : RowsAt 16 msgRel w w.heap.size va L) (hb : RowsAt 16 msgRel w w.heap.size vb L) :
    Calls Try.prog 17 #[va, vb] w (Said true w) := by
  obtain ⟨n, hn⟩ : ∃ n, n = L.length := ⟨_, rfl⟩
  obtain ⟨ao, ca, rfl, _, hla⟩ := ha.form' hn
  obtain ⟨bo, cb, rfl, _, hlb⟩ := hb.form' hn
  unfold maxLen at hla
  have HA := Lib.hid ha
  have HB := Lib.hid hb
  have HN := Lib.hid hn
  clear ha hb hlb hn
  go_enter Try.func17, Try.ntmps17
  go_wp2
  go_loopw [13, 26] (fun i _ wr => ∃ k : Nat, i = .int .i64 k ∧ k ≤ n ∧ Below w.heap.size w wr) (fun i _ _ => n - (intOf i).toNat)
  case atStart => exact ⟨0, rfl, by omega, Below.refl _ _⟩
  case round =>
    obtain ⟨k, rfl, hk, hbl⟩ := hrel
    by_cases hlt : k < n
    · have hkI : (k : Int) < (n : Int) := by omega
      obtain ⟨m, hm⟩ : ∃ x, x = L.getD k default := ⟨_, rfl⟩
      obtain ⟨ba, oa, c, rfl, hR, hC⟩ := rows_cells (HA.out.next msgRel_steady hbl) HN.out hlt hm.symm
      obtain ⟨bb, ob, c', rfl, hR', hC'⟩ := rows_cells (HB.out.next msgRel_steady hbl) HN.out hlt hm.symm
      obtain ⟨aex, nex, cex, aax, nax, cax, p1x, n1x, c1x, p2x, n2x, c2x, p3x, n3x, c3x, p4x, n4x, c4x, sax, snx, scx, rfl, g⟩ := hR
      obtain ⟨aey, ney, cey, aay, nay, cay, p1y, n1y, c1y, p2y, n2y, c2y, p3y, n3y, c3y, p4y, n4y, c4y, say, sny, scy, rfl, g'⟩ := hR'
      have hR : msgRel wr wr.heap.size (#[.int .i64 m.k, .int .i64 m.f, .int .i64 m.to, .int .i64 m.g, .int .i64 m.n, .slice aex nex cex, .slice aax nax cax, .slice p1x n1x c1x, .slice p2x n2x c2x, .slice p3x n3x c3x, .slice p4x n4x c4x, .int .i64 m.ki, .string m.mn, .string m.mv, .slice sax snx scx, .int .i64 m.er]).toList m := ⟨aex, nex, cex, aax, nax, cax, p1x, n1x, c1x, p2x, n2x, c2x, p3x, n3x, c3x, p4x, n4x, c4x, sax, snx, scx, rfl, g⟩
      have hR' : msgRel wr wr.heap.size (#[.int .i64 m.k, .int .i64 m.f, .int .i64 m.to, .int .i64 m.g, .int .i64 m.n, .slice aey ney cey, .slice aay nay cay, .slice p1y n1y c1y, .slice p2y n2y c2y, .slice p3y n3y c3y, .slice p4y n4y c4y, .int .i64 m.ki, .string m.mn, .string m.mv, .slice say sny scy, .int .i64 m.er]).toList m := ⟨aey, ney, cey, aay, nay, cay, p1y, n1y, c1y, p2y, n2y, c2y, p3y, n3y, c3y, p4y, n4y, c4y, say, sny, scy, rfl, g'⟩
      have HC := Lib.hid hC
      have HC' := Lib.hid hC'
      have HS : Hid (∀ W, Below wr.heap.size wr W → Calls Try.prog 18 #[.agg #[.int .i64 m.k, .int .i64 m.f, .int .i64 m.to, .int .i64 m.g, .int .i64 m.n, .slice aex nex cex, .slice aax nax cax, .slice p1x n1x c1x, .slice p2x n2x c2x, .slice p3x n3x c3x, .slice p4x n4x c4x, .int .i64 m.ki, .string m.mn, .string m.mv, .slice sax snx scx, .int .i64 m.er], .agg #[.int .i64 m.k, .int .i64 m.f, .int .i64 m.to, .int .i64 m.g, .int .i64 m.n, .slice aey ney cey, .slice aay nay cay, .slice p1y n1y c1y, .slice p2y n2y c2y, .slice p3y n3y c3y, .slice p4y n4y c4y, .int .i64 m.ki, .string m.mn, .string m.mv, .slice say sny scy, .int .i64 m.er]] W (Said true W)) := fun W hW => same_eq m _ _ W (msgRel_steady _ _ _ _ _ _ hR hW hW.size) (msgRel_steady _ _ _ _ _ _ hR' hW hW.size)
      clear g g' hR hR' hC hC' hm
      go_wp2
      refine wp_flow 10 (fun _ => 1000) (fun ww => RowKit.Below wr.heap.size wr ww) (fun _ w w' => (fun (w w' : World) => RowKit.Below w.heap.size w w') w w') (fun kF vF wF => match kF with | 0 => (vF = .slice (some ⟨ba, oa, none⟩) n ca) | 1 => (vF = .int .i64 (k : Int)) | 2 => (vF = .pointer (some ⟨ba, oa + k * 16, none⟩)) | 3 => (vF = .agg #[.int .i64 m.k, .int .i64 m.f, .int .i64 m.to, .int .i64 m.g, .int .i64 m.n, .slice aex nex cex, .slice aax nax cax, .slice p1x n1x c1x, .slice p2x n2x c2x, .slice p3x n3x c3x, .slice p4x n4x c4x, .int .i64 m.ki, .string m.mn, .string m.mv, .slice sax snx scx, .int .i64 m.er]) | 4 => (vF = .slice (some ⟨bb, ob, none⟩) n cb) | 5 => (vF = .int .i64 (k : Int)) | 6 => (vF = .pointer (some ⟨bb, ob + k * 16, none⟩)) | 7 => (vF = .agg #[.int .i64 m.k, .int .i64 m.f, .int .i64 m.to, .int .i64 m.g, .int .i64 m.n, .slice aey ney cey, .slice aay nay cay, .slice p1y n1y c1y, .slice p2y n2y c2y, .slice p3y n3y c3y, .slice p4y n4y c4y, .int .i64 m.ki, .string m.mn, .string m.mv, .slice say sny scy, .int .i64 m.er]) | 8 => (vF = .bool true) | 9 => (vF = .bool false) | _ => True) (fun _ _ _ _ => True) (by kernel_rfl) (by kernel_rfl) ?_ ?_ ?_ ?_ ?_
      · exact (Below.refl _ _).drew
      · intro iF wF1 wF2 hR hT; exact hR.trans (hT.mono hR.size)
      · intro kF hkF iF hiF hne hdd hanc hdan vF wF1 wF2 h hT
        rcases (by omega : kF = 0 ∨ kF = 1 ∨ kF = 2 ∨ kF = 3 ∨ kF = 4 ∨ kF = 5 ∨ kF = 6 ∨ kF = 7 ∨ kF = 8 ∨ kF = 9) with rfl | rfl | rfl | rfl | rfl | rfl | rfl | rfl | rfl | rfl
        · exact h
        · exact h
        · exact h
        · exact h
        · exact h
        · exact h
        · exact h
        · exact h
        · exact h
        · exact h
      · refine FlowAll.cons ?_ ?_
        · intro xF ww hR hd K hK
          clear hd
          simp only [List.take_succ_cons, List.take_zero, fillOf, Act.put, List.setIfInBounds_toArray, List.set_cons_zero, List.set_cons_succ, Nat.reduceAdd, Nat.zero_add] at hK ⊢
          obtain hbR := id hR
          rw [if_pos (by rfl)]
          go_simp
          exact hK.out _ _ (Below.refl _ _) (rfl) (fun _ _ _ => ⟨trivial, trivial⟩)
        refine FlowAll.cons ?_ ?_
        · intro xF ww hR hd K hK
          clear hd
          simp only [List.take_succ_cons, List.take_zero, fillOf, Act.put, List.setIfInBounds_toArray, List.set_cons_zero, List.set_cons_succ, Nat.reduceAdd, Nat.zero_add] at hK ⊢
          obtain hbR := id hR
          rw [if_pos (by rfl)]
          go_simp
          exact hK.out _ _ (Below.refl _ _) (rfl) (fun _ _ _ => ⟨trivial, trivial⟩)
        refine FlowAll.cons ?_ ?_
        · intro xF ww hR hd K hK
          have dd0 : ((xF 0) = .slice (some ⟨ba, oa, none⟩) n ca) := hd 0 (by kernel_rfl)
          have dd1 : ((xF 1) = .int .i64 (k : Int)) := hd 1 (by kernel_rfl)
          clear hd
          simp only [List.take_succ_cons, List.take_zero, fillOf, Act.put, List.setIfInBounds_toArray, List.set_cons_zero, List.set_cons_succ, Nat.reduceAdd, Nat.zero_add] at hK ⊢
          try generalize xF 0 = yy0 at *
          try generalize xF 1 = yy1 at *
          obtain rfl := dd0
          obtain rfl := dd1
          obtain hbR := id hR
          rw [if_pos (by rfl)]
          go_simp
          exact hK.out _ _ (Below.refl _ _) (rfl) (fun _ _ _ => ⟨trivial, trivial⟩)
        refine FlowAll.cons ?_ ?_
        · intro xF ww hR hd K hK
          have dd2 : ((xF 2) = .pointer (some ⟨ba, oa + k * 16, none⟩)) := hd 2 (by kernel_rfl)
          clear hd
          simp only [List.take_succ_cons, List.take_zero, fillOf, Act.put, List.setIfInBounds_toArray, List.set_cons_zero, List.set_cons_succ, Nat.reduceAdd, Nat.zero_add] at hK ⊢
          try generalize xF 2 = yy2 at *
          obtain rfl := dd2
          obtain hbR := id hR
          have q0 : ww.cell? ⟨ba, oa + k * 16, none⟩ = _ := HC.out _ hR 0 _ rfl
          have q1 := HC.out _ hR 1 _ rfl
          have q2 := HC.out _ hR 2 _ rfl
          have q3 := HC.out _ hR 3 _ rfl
          have q4 := HC.out _ hR 4 _ rfl
          have q5 := HC.out _ hR 5 _ rfl
          have q6 := HC.out _ hR 6 _ rfl
          have q7 := HC.out _ hR 7 _ rfl
          have q8 := HC.out _ hR 8 _ rfl
          have q9 := HC.out _ hR 9 _ rfl
          have q10 := HC.out _ hR 10 _ rfl
          have q11 := HC.out _ hR 11 _ rfl
          have q12 := HC.out _ hR 12 _ rfl
          have q13 := HC.out _ hR 13 _ rfl
          have q14 := HC.out _ hR 14 _ rfl
          have q15 := HC.out _ hR 15 _ rfl
          rw [if_pos (by rfl)]
          go_simp
          exact hK.out _ _ (Below.refl _ _) (rfl) (fun _ _ _ => ⟨trivial, trivial⟩)
        refine FlowAll.cons ?_ ?_
        · intro xF ww hR hd K hK
          clear hd
          simp only [List.take_succ_cons, List.take_zero, fillOf, Act.put, List.setIfInBounds_toArray, List.set_cons_zero, List.set_cons_succ, Nat.reduceAdd, Nat.zero_add] at hK ⊢
          obtain hbR := id hR
          rw [if_pos (by rfl)]
          go_simp
          exact hK.out _ _ (Below.refl _ _) (rfl) (fun _ _ _ => ⟨trivial, trivial⟩)
        refine FlowAll.cons ?_ ?_
        · intro xF ww hR hd K hK
          clear hd
          simp only [List.take_succ_cons, List.take_zero, fillOf, Act.put, List.setIfInBounds_toArray, List.set_cons_zero, List.set_cons_succ, Nat.reduceAdd, Nat.zero_add] at hK ⊢
          obtain hbR := id hR
          rw [if_pos (by rfl)]
          go_simp
          exact hK.out _ _ (Below.refl _ _) (rfl) (fun _ _ _ => ⟨trivial, trivial⟩)
        refine FlowAll.cons ?_ ?_
        · intro xF ww hR hd K hK
          have dd4 : ((xF 4) = .slice (some ⟨bb, ob, none⟩) n cb) := hd 4 (by kernel_rfl)
          have dd5 : ((xF 5) = .int .i64 (k : Int)) := hd 5 (by kernel_rfl)
          clear hd
          simp only [List.take_succ_cons, List.take_zero, fillOf, Act.put, List.setIfInBounds_toArray, List.set_cons_zero, List.set_cons_succ, Nat.reduceAdd, Nat.zero_add] at hK ⊢
          try generalize xF 4 = yy4 at *
          try generalize xF 5 = yy5 at *
          obtain rfl := dd4
          obtain rfl := dd5
          obtain hbR := id hR
          rw [if_pos (by rfl)]
          go_simp
          exact hK.out _ _ (Below.refl _ _) (rfl) (fun _ _ _ => ⟨trivial, trivial⟩)
        refine FlowAll.cons ?_ ?_
        · intro xF ww hR hd K hK
          have dd6 : ((xF 6) = .pointer (some ⟨bb, ob + k * 16, none⟩)) := hd 6 (by kernel_rfl)
          clear hd
          simp only [List.take_succ_cons, List.take_zero, fillOf, Act.put, List.setIfInBounds_toArray, List.set_cons_zero, List.set_cons_succ, Nat.reduceAdd, Nat.zero_add] at hK ⊢
          try generalize xF 6 = yy6 at *
          obtain rfl := dd6
          obtain hbR := id hR
          have q0 : ww.cell? ⟨bb, ob + k * 16, none⟩ = _ := HC'.out _ hR 0 _ rfl
          have q1 := HC'.out _ hR 1 _ rfl
          have q2 := HC'.out _ hR 2 _ rfl
          have q3 := HC'.out _ hR 3 _ rfl
          have q4 := HC'.out _ hR 4 _ rfl
          have q5 := HC'.out _ hR 5 _ rfl
          have q6 := HC'.out _ hR 6 _ rfl
          have q7 := HC'.out _ hR 7 _ rfl
          have q8 := HC'.out _ hR 8 _ rfl
          have q9 := HC'.out _ hR 9 _ rfl
          have q10 := HC'.out _ hR 10 _ rfl
          have q11 := HC'.out _ hR 11 _ rfl
          have q12 := HC'.out _ hR 12 _ rfl
          have q13 := HC'.out _ hR 13 _ rfl
          have q14 := HC'.out _ hR 14 _ rfl
          have q15 := HC'.out _ hR 15 _ rfl
          rw [if_pos (by rfl)]
          go_simp
          exact hK.out _ _ (Below.refl _ _) (rfl) (fun _ _ _ => ⟨trivial, trivial⟩)
        refine FlowAll.cons ?_ ?_
        · intro xF ww hR hd K hK
          have dd3 : ((xF 3) = .agg #[.int .i64 m.k, .int .i64 m.f, .int .i64 m.to, .int .i64 m.g, .int .i64 m.n, .slice aex nex cex, .slice aax nax cax, .slice p1x n1x c1x, .slice p2x n2x c2x, .slice p3x n3x c3x, .slice p4x n4x c4x, .int .i64 m.ki, .string m.mn, .string m.mv, .slice sax snx scx, .int .i64 m.er]) := hd 3 (by kernel_rfl)
          have dd7 : ((xF 7) = .agg #[.int .i64 m.k, .int .i64 m.f, .int .i64 m.to, .int .i64 m.g, .int .i64 m.n, .slice aey ney cey, .slice aay nay cay, .slice p1y n1y c1y, .slice p2y n2y c2y, .slice p3y n3y c3y, .slice p4y n4y c4y, .int .i64 m.ki, .string m.mn, .string m.mv, .slice say sny scy, .int .i64 m.er]) := hd 7 (by kernel_rfl)
          clear hd
          simp only [List.take_succ_cons, List.take_zero, fillOf, Act.put, List.setIfInBounds_toArray, List.set_cons_zero, List.set_cons_succ, Nat.reduceAdd, Nat.zero_add] at hK ⊢
          try generalize xF 3 = yy3 at *
          try generalize xF 7 = yy7 at *
          obtain rfl := dd3
          obtain rfl := dd7
          obtain hbR := id hR
          rw [if_pos (by rfl)]
          go_simp
          (go_at_call 18; (with_reducible refine (HS.out _ hR).mono ?_); rintro e wK ⟨rfl, hbK⟩)
          try go_wp2_with fail
          exact hK.out _ _ (hbK) (rfl) (fun _ _ _ => ⟨trivial, trivial⟩)
        refine FlowAll.cons ?_ ?_
        · intro xF ww hR hd K hK
          have dd8 : ((xF 8) = .bool true) := hd 8 (by kernel_rfl)
          clear hd
          simp only [List.take_succ_cons, List.take_zero, fillOf, Act.put, List.setIfInBounds_toArray, List.set_cons_zero, List.set_cons_succ, Nat.reduceAdd, Nat.zero_add] at hK ⊢
          try generalize xF 8 = yy8 at *
          obtain rfl := dd8
          obtain hbR := id hR
          rw [if_pos (by rfl)]
          go_simp
          exact hK.out _ _ (Below.refl _ _) (rfl) (fun _ _ _ => ⟨trivial, trivial⟩)
        exact FlowAll.nil
      intro xF ww hR hF hP
      clear hP
      have dd0 : ((xF 0) = .slice (some ⟨ba, oa, none⟩) n ca) := hF 0 (by omega) (by decide)
      have dd1 : ((xF 1) = .int .i64 (k : Int)) := hF 1 (by omega) (by decide)
      have dd2 : ((xF 2) = .pointer (some ⟨ba, oa + k * 16, none⟩)) := hF 2 (by omega) (by decide)
      have dd3 : ((xF 3) = .agg #[.int .i64 m.k, .int .i64 m.f, .int .i64 m.to, .int .i64 m.g, .int .i64 m.n, .slice aex nex cex, .slice aax nax cax, .slice p1x n1x c1x, .slice p2x n2x c2x, .slice p3x n3x c3x, .slice p4x n4x c4x, .int .i64 m.ki, .string m.mn, .string m.mv, .slice sax snx scx, .int .i64 m.er]) := hF 3 (by omega) (by decide)
      have dd4 : ((xF 4) = .slice (some ⟨bb, ob, none⟩) n cb) := hF 4 (by omega) (by decide)
      have dd5 : ((xF 5) = .int .i64 (k : Int)) := hF 5 (by omega) (by decide)
      have dd6 : ((xF 6) = .pointer (some ⟨bb, ob + k * 16, none⟩)) := hF 6 (by omega) (by decide)
      have dd7 : ((xF 7) = .agg #[.int .i64 m.k, .int .i64 m.f, .int .i64 m.to, .int .i64 m.g, .int .i64 m.n, .slice aey ney cey, .slice aay nay cay, .slice p1y n1y c1y, .slice p2y n2y c2y, .slice p3y n3y c3y, .slice p4y n4y c4y, .int .i64 m.ki, .string m.mn, .string m.mv, .slice say sny scy, .int .i64 m.er]) := hF 7 (by omega) (by decide)
      have dd8 : ((xF 8) = .bool true) := hF 8 (by omega) (by decide)
      have dd9 : ((xF 9) = .bool false) := hF 9 (by omega) (by decide)
      clear hF
      simp only [List.take_succ_cons, List.take_zero, List.drop_succ_cons, List.drop_zero, fillOf, Act.put, List.setIfInBounds_toArray, List.set_cons_zero, List.set_cons_succ, Nat.reduceAdd, Nat.zero_add]
      try generalize xF 0 = yy0 at *
      try generalize xF 1 = yy1 at *
      try generalize xF 2 = yy2 at *
      try generalize xF 3 = yy3 at *
      try generalize xF 4 = yy4 at *
      try generalize xF 5 = yy5 at *
      try generalize xF 6 = yy6 at *
      try generalize xF 7 = yy7 at *
      try generalize xF 8 = yy8 at *
      try generalize xF 9 = yy9 at *
      clear xF
      obtain rfl := dd0
      obtain rfl := dd1
      obtain rfl := dd2
      obtain rfl := dd3
      obtain rfl := dd4
      obtain rfl := dd5
      obtain rfl := dd6
      obtain rfl := dd7
      obtain rfl := dd8
      obtain rfl := dd9
      have hRE := Lib.hid hR
      clear hR
      go_wp2
      go_roundw
      case rel => exact ⟨k + 1, by go_num, by omega, hbl.trans (hRE.out.mono hbl.size)⟩
      case measure => simp [intOf]; omega
    · go_wp2
      go_ret
      exact ⟨rfl, hbl⟩
end Go.Proofs.Ytpgccfgldjeomaa
