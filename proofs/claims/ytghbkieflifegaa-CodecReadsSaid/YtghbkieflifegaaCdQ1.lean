/- codec: the document's reader: number. -/
import Derived.Test.YtghbkieflifegaaCdQ
namespace Go.Proofs.Ytghbkieflifegaa
open Go.RowKit Go.ChangeShapes cl
abbrev rdrC (s : ByteArray) (b k : Nat) : List Value := [.string s, .int .i64 (b : Int), .int .i64 (k : Int)]
abbrev rdr0 : List Value := [.string ⟨#[]⟩, .int .i64 0, .int .i64 0]
theorem Bxs.two (w : World) (T0 T1 : TypeId) (c0 c1 : List Value) : Bxs w ((w.alloc (.cells c0.toArray T0)).alloc (.cells c1.toArray T1)) [(w.heap.size + 1, T1, c1), (w.heap.size, T0, c0)] :=
  ((Bxs.nil w).add T0 c0 rfl).add T1 c1 (by rw [World.size_alloc])
set_option maxHeartbeats 1600000 in
set_option maxRecDepth 100000 in
theorem qnum (s : ByteArray) (a c : Nat) (w : World) (hs : s.size ≤ 100000) :
    Calls Try.prog 35 #[.agg #[.string s, .int .i64 (a : Int), .int .i64 (c : Int)]] w (QA s (onR c (cd.numR (kit.bytes s) a)) (fun _ v n => v = .int .i64 (n : Int)) w) := by
  obtain ⟨W2, hW2⟩ : ∃ W, W = (w.alloc (.cells #[.string s, .int .i64 (a : Int), .int .i64 (c : Int)] 79)).alloc (.cells #[.string ⟨#[]⟩, .int .i64 0, .int .i64 0] 79) := ⟨_, rfl⟩
  have B2 : Bxs w W2 [(w.heap.size + 1, 79, rdr0), (w.heap.size, 79, rdrC s a c)] := by rw [hW2]; exact Bxs.two w _ _ _ _
  have HB := Lib.hid B2
  obtain ⟨p, hp⟩ : ∃ p, p = w.heap.size := ⟨_, rfl⟩
  rw [← hp] at HB
  have HP := Lib.hid hp
  have x1 : W2.heap[p]? = some (.cells #[.string s, .int .i64 (a : Int), .int .i64 (c : Int)] 79 (0, 0)) := HB.out.at 1 rfl
  have x0 : W2.heap[p + 1]? = some (.cells #[.string ⟨#[]⟩, .int .i64 0, .int .i64 0] 79 (0, 0)) := HB.out.at 0 rfl
  have p0 := boxc x1 0 (.string s) rfl
  have p1 := boxc x1 1 (.int .i64 (a : Int)) rfl
  have p2 := boxc x1 2 (.int .i64 (c : Int)) rfl
  have f1 := boxf x1 1
  have f2 := boxf x1 2
  have r0 := boxc x0 0 (.string ⟨#[]⟩) rfl
  have r1 := boxc x0 1 (.int .i64 0) rfl
  have r2 := boxc x0 2 (.int .i64 0) rfl
  have g0 := boxf x0 0
  have g1 := boxf x0 1
  have g2 := boxf x0 2
  clear x1 x0 B2
  by_cases hc : c = 0
  · have hc0 : ((c : Int) == 0) = true := by subst hc; rfl
    have hc1 : ((c : Int) != 0) = false := by subst hc; rfl
    obtain ⟨x, b, k, hg, hq⟩ : ∃ x b k : Nat, vm.get (kit.bytes s) (a : Int) = (x, b, k) ∧ Hid (Qd s (onR c (cd.numR (kit.bytes s) a)) x b k) := by
      subst hc
      rcases cd.numR_cases (kit.bytes s) a (kit.bytes_lt s) with ⟨e, hg, h1, hr⟩ | ⟨n, k, hg, hn, hk, _, hl, hr⟩
      · exact ⟨_, _, _, hg, Lib.hid (Qd.bad (by rw [onR_zero]; exact hr) h1)⟩
      · exact ⟨_, _, _, hg, Lib.hid (Qd.ok (by rw [onR_zero]; exact hr) (by rw [← kit.bytes_len]; exact hl))⟩
    have HG : Hid (∀ W : World, Calls Try.prog 59 #[.string s, .int .i64 (a : Int)] W fun e w' => e = .returned (.tuple #[.int .i64 (x : Int), .int .i64 (b : Int), .int .i64 (k : Int)]) ∧ w' = W) := fun W => by
      have := rget_any s a W hs
      rw [hg] at this
      exact this.mono fun e w' ⟨h1, h2⟩ => ⟨h1, h2.symm⟩
    clear hg hc
    go_enter Try.func35, Try.ntmps35
    go_wp2_with fail
    rw [← hp, ← hW2]
    clear hW2
    (with_reducible refine (HG.out _).mono ?_)
    rintro e w1 ⟨rfl, rfl⟩
    clear hp
    go_wp2
    have HF := ((((HB.out.set1 1 (.int .i64 (b : Int))).set1 2 (.int .i64 (k : Int))).set0 0 (.string s)).set0 1 (.int .i64 (b : Int))).set0 2 (.int .i64 (k : Int))
    have c0 := boxc (HF.at 0 rfl) 0 (.string s) rfl
    have c1 := boxc (HF.at 0 rfl) 1 (.int .i64 (b : Int)) rfl
    have c2 := boxc (HF.at 0 rfl) 2 (.int .i64 (k : Int)) rfl
    refine bodyPost_ret (v := .tuple #[.agg #[.string s, .int .i64 (b : Int), .int .i64 (k : Int)], .int .i64 (x : Int)]) (by simp [results, Try.results35, go_sem, c0, c1, c2]) rfl ?_
    exact ⟨b, k, _, x, rfl, rfl, hq.out, HF.1⟩
  · have hc0 : ((c : Int) == 0) = false := beq_eq_false_iff_ne.2 (by omega)
    have hc1 : ((c : Int) != 0) = true := by simp [bne, hc0]
    have hq : Hid (Qd s (onR c (cd.numR (kit.bytes s) a)) 0 a c) := Lib.hid (Qd.bad (onR_err _ (by omega)) (by omega))
    clear hc
    go_enter Try.func35, Try.ntmps35
    go_wp2
    have HF := Bxs.two w 79 79 (rdrC s a c) (rdrC s a c)
    refine bodyPost_ret (v := .tuple #[.agg #[.string s, .int .i64 (a : Int), .int .i64 (c : Int)], .int .i64 0]) (by simp [results, Try.results35, go_sem]) rfl ?_
    exact ⟨a, c, _, 0, rfl, rfl, hq.out, HF.1⟩
end Go.Proofs.Ytghbkieflifegaa
