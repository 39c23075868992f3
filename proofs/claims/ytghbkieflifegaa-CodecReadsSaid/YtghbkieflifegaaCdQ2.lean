/- codec: the document's reader: size, word, dot. -/
import Derived.Test.YtghbkieflifegaaCdQ1
namespace Go.Proofs.Ytghbkieflifegaa
open Go.RowKit Go.ChangeShapes cl
theorem Qd.siz1 {s : ByteArray} {L : List Nat} {a c x b k : Nat} (h : Qd s (onR c (cd.numR L a)) x b k) (hk : k = 0) (hx : x ≤ 4000) : Qd s (onR c (sizR L a)) x b k := by
  subst hk
  refine Qd.seq h ?_
  rcases h.inv with ⟨_, _, hb⟩ | ⟨h0, _⟩
  · exact Qd.ok (by rw [onR_zero, if_neg (by omega)]) hb
  · omega
theorem Qd.siz2 {s : ByteArray} {L : List Nat} {a c x b k : Nat} (h : Qd s (onR c (cd.numR L a)) x b k) (hk : k = 0) (hx : 4000 < x) : Qd s (onR c (sizR L a)) 0 b 4 := by
  subst hk
  refine Qd.seq h ?_
  exact Qd.bad (by rw [onR_zero, if_pos hx]) (by omega)
theorem Qd.siz3 {s : ByteArray} {L : List Nat} {a c x b k : Nat} (h : Qd s (onR c (cd.numR L a)) x b k) (hk : k ≠ 0) : Qd s (onR c (sizR L a)) 0 b k := by
  refine Qd.seq h ?_
  exact Qd.bad (onR_err _ (by omega)) (by omega)
set_option maxHeartbeats 1600000 in
set_option maxRecDepth 100000 in
theorem qsiz (s : ByteArray) (a c : Nat) (w : World) (hs : s.size ≤ 100000) :
    Calls Try.prog 39 #[.agg #[.string s, .int .i64 (a : Int), .int .i64 (c : Int)]] w (QA s (onR c (sizR (kit.bytes s) a)) (fun _ v n => v = .int .i64 (n : Int) ∧ n ≤ 4000) w) := by
  obtain ⟨W2, hW2⟩ : ∃ W, W = ((w.alloc (.cells #[.string s, .int .i64 (a : Int), .int .i64 (c : Int)] 79)).alloc (.cells #[.string ⟨#[]⟩, .int .i64 0, .int .i64 0] 79)) := ⟨_, rfl⟩
  have HB := Lib.hid (show Bxs w W2 [(w.heap.size + 1, 79, [.string ⟨#[]⟩, .int .i64 0, .int .i64 0]), (w.heap.size, 79, [.string s, .int .i64 (a : Int), .int .i64 (c : Int)])] by rw [hW2]; exact ((Bxs.nil w).add 79 [.string s, .int .i64 (a : Int), .int .i64 (c : Int)] rfl).add 79 [.string ⟨#[]⟩, .int .i64 0, .int .i64 0] (by simp))
  obtain ⟨p, hp⟩ : ∃ p, p = w.heap.size := ⟨_, rfl⟩
  rw [← hp] at HB
  have HN := Lib.hid (qnum s a c W2 hs)
  go_enter Try.func39, Try.ntmps39
  go_wp2_with fail
  rw [← hp, ← hW2]
  clear hW2
  (with_reducible refine HN.out.mono ?_)
  rintro e w1 ⟨b, k, v, x, rfl, rfl, hq, hb⟩
  replace HB := Lib.hid (HB.out.call hb)
  have HQ := Lib.hid hq
  have x0 := HB.out.at 0 rfl
  have c0_0 := boxc x0 0 (.string ⟨#[]⟩) rfl
  have f0_0 := boxf x0 0
  have c0_1 := boxc x0 1 (.int .i64 0) rfl
  have f0_1 := boxf x0 1
  have c0_2 := boxc x0 2 (.int .i64 0) rfl
  have f0_2 := boxf x0 2
  have x1 := HB.out.at 1 rfl
  have c1_0 := boxc x1 0 (.string s) rfl
  have f1_0 := boxf x1 0
  have c1_1 := boxc x1 1 (.int .i64 (a : Int)) rfl
  have f1_1 := boxf x1 1
  have c1_2 := boxc x1 2 (.int .i64 (c : Int)) rfl
  have f1_2 := boxf x1 2
  clear x0 x1
  clear hp hb hq HN
  by_cases hk : k = 0
  · have hc0 : ((k : Int) == 0) = true := by subst hk; rfl
    have hc1 : ((k : Int) != 0) = false := by subst hk; rfl
    by_cases h4 : 4000 < x
    · have h4i : (4000 : Int) < (x : Int) := by omega
      have HS := Lib.hid (HQ.out.siz2 hk h4)
      clear hk h4
      have HB2 := ((HB.out.set1 0 (.string s)).set1 1 (.int .i64 (b : Int))).set1 2 (.int .i64 (k : Int))
      have y2 := boxc (HB2.at 1 rfl) 2 (.int .i64 (k : Int)) rfl
      have yf := boxf (HB2.at 1 rfl) 2
      have HB3 := HB2.set1 2 (.int .i64 4)
      have z0 := boxc (HB3.at 1 rfl) 0 (.string s) rfl
      have z1 := boxc (HB3.at 1 rfl) 1 (.int .i64 (b : Int)) rfl
      have z2 := boxc (HB3.at 1 rfl) 2 (.int .i64 4) rfl
      clear HB2 HB3
      go_wp2
      -- HERE
      have HF := ((((((HB.out.set1 0 (.string s)).set1 1 (.int .i64 (b : Int))).set1 2 (.int .i64 (k : Int))).set1 2 (.int .i64 4)).set0 0 (.string s)).set0 1 (.int .i64 (b : Int))).set0 2 (.int .i64 4)
      have d0 := boxc (HF.at 0 rfl) 0 (.string s) rfl
      have d1 := boxc (HF.at 0 rfl) 1 (.int .i64 (b : Int)) rfl
      have d2 := boxc (HF.at 0 rfl) 2 (.int .i64 4) rfl
      refine bodyPost_ret (v := .tuple #[.agg #[.string s, .int .i64 (b : Int), .int .i64 4], .int .i64 0]) (by simp [results, Try.results39, go_sem, d0, d1, d2]) rfl ?_
      exact ⟨b, _, _, 0, rfl, ⟨rfl, Nat.zero_le _⟩, HS.out, HF.1⟩
    · have h4i : ¬ (4000 : Int) < (x : Int) := by omega
      have HS := Lib.hid (HQ.out.siz1 hk (by omega))
      clear hk
      go_wp2
      have HF := (((((HB.out.set1 0 (.string s)).set1 1 (.int .i64 (b : Int))).set1 2 (.int .i64 (k : Int))).set0 0 (.string s)).set0 1 (.int .i64 (b : Int))).set0 2 (.int .i64 (k : Int))
      have d0 := boxc (HF.at 0 rfl) 0 (.string s) rfl
      have d1 := boxc (HF.at 0 rfl) 1 (.int .i64 (b : Int)) rfl
      have d2 := boxc (HF.at 0 rfl) 2 (.int .i64 (k : Int)) rfl
      refine bodyPost_ret (v := .tuple #[.agg #[.string s, .int .i64 (b : Int), .int .i64 (k : Int)], .int .i64 (x : Int)]) (by simp [results, Try.results39, go_sem, d0, d1, d2]) rfl ?_
      exact ⟨b, _, _, x, rfl, ⟨rfl, by omega⟩, HS.out, HF.1⟩
  · have hc0 : ((k : Int) == 0) = false := beq_eq_false_iff_ne.2 (by omega)
    have hc1 : ((k : Int) != 0) = true := by simp [bne, hc0]
    have HS := Lib.hid (HQ.out.siz3 hk)
    clear hk
    go_wp2
    have HF := (((((HB.out.set1 0 (.string s)).set1 1 (.int .i64 (b : Int))).set1 2 (.int .i64 (k : Int))).set0 0 (.string s)).set0 1 (.int .i64 (b : Int))).set0 2 (.int .i64 (k : Int))
    have d0 := boxc (HF.at 0 rfl) 0 (.string s) rfl
    have d1 := boxc (HF.at 0 rfl) 1 (.int .i64 (b : Int)) rfl
    have d2 := boxc (HF.at 0 rfl) 2 (.int .i64 (k : Int)) rfl
    refine bodyPost_ret (v := .tuple #[.agg #[.string s, .int .i64 (b : Int), .int .i64 (k : Int)], .int .i64 0]) (by simp [results, Try.results39, go_sem, d0, d1, d2]) rfl ?_
    exact ⟨b, _, _, 0, rfl, ⟨rfl, Nat.zero_le _⟩, HS.out, HF.1⟩
set_option maxHeartbeats 1600000 in
set_option maxRecDepth 100000 in
theorem qdot (s : ByteArray) (a c : Nat) (w : World) (hs : s.size ≤ 100000) :
    Calls Try.prog 68 #[.agg #[.string s, .int .i64 (a : Int), .int .i64 (c : Int)]] w (QA s (onR c (cd.dotR (kit.bytes s) a)) (fun _ v x => v = .agg #[.int .i64 x.1, .int .i64 x.2]) w) := by
  obtain ⟨W2, hW2⟩ : ∃ W, W = (((w.alloc (.cells #[.string s, .int .i64 (a : Int), .int .i64 (c : Int)] 79)).alloc (.cells #[.string ⟨#[]⟩, .int .i64 0, .int .i64 0] 79)).alloc (.cells #[.int .i64 0, .int .i64 0] 47)) := ⟨_, rfl⟩
  have HB := Lib.hid (show Bxs w W2 [(w.heap.size + 2, 47, [.int .i64 0, .int .i64 0]), (w.heap.size + 1, 79, [.string ⟨#[]⟩, .int .i64 0, .int .i64 0]), (w.heap.size, 79, [.string s, .int .i64 (a : Int), .int .i64 (c : Int)])] by rw [hW2]; exact (((Bxs.nil w).add 79 [.string s, .int .i64 (a : Int), .int .i64 (c : Int)] rfl).add 79 [.string ⟨#[]⟩, .int .i64 0, .int .i64 0] (by simp)).add 47 [.int .i64 0, .int .i64 0] (by simp))
  obtain ⟨p, hp⟩ : ∃ p, p = w.heap.size := ⟨_, rfl⟩
  rw [← hp] at HB
  have HN := Lib.hid (qnum s a c W2 hs)
  go_enter Try.func68, Try.ntmps68
  go_wp2_with fail
  rw [← hp, ← hW2]
  clear hW2
  (with_reducible refine HN.out.mono ?_)
  rintro e w1 ⟨b, k, v, x, rfl, rfl, hq, hb⟩
  replace HB := Lib.hid (HB.out.call hb)
  have HQ := Lib.hid hq
  have x0 := HB.out.at 0 rfl
  have c0_0 := boxc x0 0 (.int .i64 0) rfl
  have f0_0 := boxf x0 0
  have c0_1 := boxc x0 1 (.int .i64 0) rfl
  have f0_1 := boxf x0 1
  have x1 := HB.out.at 1 rfl
  have c1_0 := boxc x1 0 (.string ⟨#[]⟩) rfl
  have f1_0 := boxf x1 0
  have c1_1 := boxc x1 1 (.int .i64 0) rfl
  have f1_1 := boxf x1 1
  have c1_2 := boxc x1 2 (.int .i64 0) rfl
  have f1_2 := boxf x1 2
  have x2 := HB.out.at 2 rfl
  have c2_0 := boxc x2 0 (.string s) rfl
  have f2_0 := boxf x2 0
  have c2_1 := boxc x2 1 (.int .i64 (a : Int)) rfl
  have f2_1 := boxf x2 1
  have c2_2 := boxc x2 2 (.int .i64 (c : Int)) rfl
  have f2_2 := boxf x2 2
  clear x0 x1 x2
  clear hp hb hq HN
  replace HB := Lib.hid (((HB.out.set2 0 (.string s)).set2 1 (.int .i64 (b : Int))).set2 2 (.int .i64 (k : Int)))
  go_wp2_with fail
  (with_reducible refine (qnum s b k _ hs).mono ?_)
  rintro e w2 ⟨b2, k2, v, y, rfl, rfl, hq, hb⟩
  clear c0_0 f0_0 c0_1 f0_1 c1_0 f1_0 c1_1 f1_1 c1_2 f1_2 c2_0 f2_0 c2_1 f2_1 c2_2 f2_2
  replace HB := Lib.hid (HB.out.call hb)
  have HQ2 := Lib.hid hq
  have x0 := HB.out.at 0 rfl
  have c0_0 := boxc x0 0 (.int .i64 0) rfl
  have f0_0 := boxf x0 0
  have c0_1 := boxc x0 1 (.int .i64 0) rfl
  have f0_1 := boxf x0 1
  have x1 := HB.out.at 1 rfl
  have c1_0 := boxc x1 0 (.string ⟨#[]⟩) rfl
  have f1_0 := boxf x1 0
  have c1_1 := boxc x1 1 (.int .i64 0) rfl
  have f1_1 := boxf x1 1
  have c1_2 := boxc x1 2 (.int .i64 0) rfl
  have f1_2 := boxf x1 2
  have x2 := HB.out.at 2 rfl
  have c2_0 := boxc x2 0 (.string s) rfl
  have f2_0 := boxf x2 0
  have c2_1 := boxc x2 1 (.int .i64 (b : Int)) rfl
  have f2_1 := boxf x2 1
  have c2_2 := boxc x2 2 (.int .i64 (k : Int)) rfl
  have f2_2 := boxf x2 2
  clear x0 x1 x2
  clear hb hq
  go_wp2
  have HF := (((((((HB.out.set2 0 (.string s)).set2 1 (.int .i64 (b2 : Int))).set2 2 (.int .i64 (k2 : Int))).set1 0 (.string s)).set1 1 (.int .i64 (b2 : Int))).set1 2 (.int .i64 (k2 : Int))).set0 0 (.int .i64 (x : Int))).set0 1 (.int .i64 (y : Int))
  have d0 := boxc (HF.at 1 rfl) 0 (.string s) rfl
  have d1 := boxc (HF.at 1 rfl) 1 (.int .i64 (b2 : Int)) rfl
  have d2 := boxc (HF.at 1 rfl) 2 (.int .i64 (k2 : Int)) rfl
  have e0 := boxc (HF.at 0 rfl) 0 (.int .i64 (x : Int)) rfl
  have e1 := boxc (HF.at 0 rfl) 1 (.int .i64 (y : Int)) rfl
  refine bodyPost_ret (v := .tuple #[.agg #[.string s, .int .i64 (b2 : Int), .int .i64 (k2 : Int)], .agg #[.int .i64 (x : Int), .int .i64 (y : Int)]]) (by simp [results, Try.results68, go_sem, d0, d1, d2, e0, e1]) rfl ?_
  refine ⟨b2, k2, _, ((x : Int), (y : Int)), rfl, rfl, ?_, HF.1⟩
  exact Qd.seq HQ.out (Qd.map (g := fun y => ((x : Int), ((y : Nat) : Int))) HQ2.out)
set_option maxHeartbeats 1600000 in
set_option maxRecDepth 100000 in
theorem qword (s : ByteArray) (a c : Nat) (w : World) (hs : s.size ≤ 100000) :
    Calls Try.prog 38 #[.agg #[.string s, .int .i64 (a : Int), .int .i64 (c : Int)]] w (QA s (onR c (cd.txtR (kit.bytes s) a)) (fun _ v t => v = .string t ∧ t.size ≤ 4000) w) := by
  obtain ⟨W2, hW2⟩ : ∃ W, W = (w.alloc (.cells #[.string s, .int .i64 (a : Int), .int .i64 (c : Int)] 79)).alloc (.cells #[.string ⟨#[]⟩, .int .i64 0, .int .i64 0] 79) := ⟨_, rfl⟩
  have B2 : Bxs w W2 [(w.heap.size + 1, 79, rdr0), (w.heap.size, 79, rdrC s a c)] := by rw [hW2]; exact Bxs.two w _ _ _ _
  have HB := Lib.hid B2
  obtain ⟨p, hp⟩ : ∃ p, p = w.heap.size := ⟨_, rfl⟩
  rw [← hp] at HB
  have HP := Lib.hid hp
  have x1 : W2.heap[p]? = some (.cells #[.string s, .int .i64 (a : Int), .int .i64 (c : Int)] 79 (0, 0)) := HB.out.at 1 rfl
  have x0 : W2.heap[p + 1]? = some (.cells #[.string ⟨#[]⟩, .int .i64 0, .int .i64 0] 79 (0, 0)) := HB.out.at 0 rfl
  have p0 := boxc x1 0 (.string s) rfl
  have p1 := boxc x1 1 (.int .i64 (a : Int)) rfl
  have p2 := boxc x1 2 (.int .i64 (c : Int)) rfl
  have f1 := boxf x1 1
  have f2 := boxf x1 2
  have r0 := boxc x0 0 (.string ⟨#[]⟩) rfl
  have r1 := boxc x0 1 (.int .i64 0) rfl
  have r2 := boxc x0 2 (.int .i64 0) rfl
  have g0 := boxf x0 0
  have g1 := boxf x0 1
  have g2 := boxf x0 2
  clear x1 x0 B2
  by_cases hc : c = 0
  · have hc0 : ((c : Int) == 0) = true := by subst hc; rfl
    have hc1 : ((c : Int) != 0) = false := by subst hc; rfl
    obtain ⟨X, x, b, k, hg, hX, hx4, hq⟩ : ∃ (X : ByteArray) (x : List Nat) (b k : Nat), vm.getText (kit.bytes s) (a : Int) = (x, b, k) ∧ X = kit.str x ∧ X.size ≤ 4000 ∧ Hid (Qd s (onR c (cd.txtR (kit.bytes s) a)) X b k) := by
      subst hc
      rcases cd.txtR_cases (kit.bytes s) a (kit.bytes_lt s) with ⟨e, hg, h1, hr⟩ | ⟨t, n, b, _, hn, ht, hg, hl, _, hr⟩
      · exact ⟨_, _, _, _, hg, rfl, by rw [kit.str_size]; exact Nat.zero_le _, Lib.hid (Qd.bad (by rw [onR_zero]; exact hr) h1)⟩
      · exact ⟨_, _, _, _, hg, rfl, by rw [kit.str_size, ht, List.length_take]; omega, Lib.hid (Qd.ok (by rw [onR_zero]; exact hr) (by rw [← kit.bytes_len]; exact hl))⟩
    have HG : Hid (∀ W : World, Calls Try.prog 62 #[.string s, .int .i64 (a : Int)] W fun e w' => e = .returned (.tuple #[.string X, .int .i64 (b : Int), .int .i64 (k : Int)]) ∧ w' = W) := fun W => by
      have := rgetText_any s a W hs
      unfold TripT at this
      rw [hg] at this
      rw [hX]
      exact this.mono fun e w' ⟨h1, h2⟩ => ⟨h1, h2.symm⟩
    have HX4 := Lib.hid hx4
    clear hX hx4
    clear hg hc
    go_enter Try.func38, Try.ntmps38
    go_wp2_with fail
    rw [← hp, ← hW2]
    clear hW2
    (with_reducible refine (HG.out _).mono ?_)
    rintro e w1 ⟨rfl, rfl⟩
    clear hp
    go_wp2
    have HF := ((((HB.out.set1 1 (.int .i64 (b : Int))).set1 2 (.int .i64 (k : Int))).set0 0 (.string s)).set0 1 (.int .i64 (b : Int))).set0 2 (.int .i64 (k : Int))
    have c0 := boxc (HF.at 0 rfl) 0 (.string s) rfl
    have c1 := boxc (HF.at 0 rfl) 1 (.int .i64 (b : Int)) rfl
    have c2 := boxc (HF.at 0 rfl) 2 (.int .i64 (k : Int)) rfl
    refine bodyPost_ret (v := .tuple #[.agg #[.string s, .int .i64 (b : Int), .int .i64 (k : Int)], .string X]) (by simp [results, Try.results38, go_sem, c0, c1, c2]) rfl ?_
    exact ⟨b, k, _, X, rfl, ⟨rfl, HX4.out⟩, hq.out, HF.1⟩
  · have hc0 : ((c : Int) == 0) = false := beq_eq_false_iff_ne.2 (by omega)
    have hc1 : ((c : Int) != 0) = true := by simp [bne, hc0]
    have hq : Hid (Qd s (onR c (cd.txtR (kit.bytes s) a)) (⟨#[]⟩ : ByteArray) a c) := Lib.hid (Qd.bad (onR_err _ (by omega)) (by omega))
    clear hc
    go_enter Try.func38, Try.ntmps38
    go_wp2
    have HF := Bxs.two w 79 79 (rdrC s a c) (rdrC s a c)
    refine bodyPost_ret (v := .tuple #[.agg #[.string s, .int .i64 (a : Int), .int .i64 (c : Int)], .string ⟨#[]⟩]) (by simp [results, Try.results38, go_sem]) rfl ?_
    exact ⟨a, c, _, ⟨#[]⟩, rfl, ⟨rfl, Nat.zero_le _⟩, hq.out, HF.1⟩
end Go.Proofs.Ytghbkieflifegaa
