/- codec: the document's reader: contexts. -/
import Derived.Test.YtghbkieflifegaaCdQ3
import Derived.Test.YtghbkieflifegaaCdRead
namespace Go.Proofs.Ytghbkieflifegaa
open Go.RowKit Go.ChangeShapes cl
def lsets : List Value → Nat → List Value → List Value
  | cs, _, [] => cs
  | cs, i, u :: us => lsets (cs.set i u) (i + 1) us
theorem Bxs.wsets {w : World} {q : Nat} {T : TypeId} (l1 l2 : List (Nat × TypeId × List Value)) : ∀ (us : List Value) (i : Nat) (W : World) (cs : List Value), Bxs w W (l1 ++ (q, T, cs) :: l2) → Bxs w (wset W q i us) (l1 ++ (q, T, lsets cs i us) :: l2) := by
  intro us
  induction us with
  | nil => intro i W cs h; exact h
  | cons u us ih => intro i W cs h; exact ih (i + 1) _ _ (h.set l1 l2 i u)
theorem Bxs.w0 {w W : World} {l : List (Nat × TypeId × List Value)} {q : Nat} {T : TypeId} {cs : List Value} (h : Bxs w W ((q, T, cs) :: l)) (i : Nat) (us : List Value) : Bxs w (wset W q i us) ((q, T, lsets cs i us) :: l) := Bxs.wsets [] l us i W cs h
theorem Bxs.w1 {w W : World} {l : List (Nat × TypeId × List Value)} {x0 : Nat × TypeId × List Value} {q : Nat} {T : TypeId} {cs : List Value} (h : Bxs w W (x0 :: (q, T, cs) :: l)) (i : Nat) (us : List Value) : Bxs w (wset W q i us) (x0 :: (q, T, lsets cs i us) :: l) := Bxs.wsets [x0] l us i W cs h
theorem Bxs.w2 {w W : World} {l : List (Nat × TypeId × List Value)} {x0 x1 : Nat × TypeId × List Value} {q : Nat} {T : TypeId} {cs : List Value} (h : Bxs w W (x0 :: x1 :: (q, T, cs) :: l)) (i : Nat) (us : List Value) : Bxs w (wset W q i us) (x0 :: x1 :: (q, T, lsets cs i us) :: l) := Bxs.wsets [x0, x1] l us i W cs h
theorem Bxs.w3 {w W : World} {l : List (Nat × TypeId × List Value)} {x0 x1 x2 : Nat × TypeId × List Value} {q : Nat} {T : TypeId} {cs : List Value} (h : Bxs w W (x0 :: x1 :: x2 :: (q, T, cs) :: l)) (i : Nat) (us : List Value) : Bxs w (wset W q i us) (x0 :: x1 :: x2 :: (q, T, lsets cs i us) :: l) := Bxs.wsets [x0, x1, x2] l us i W cs h
theorem Bxs.w4 {w W : World} {l : List (Nat × TypeId × List Value)} {x0 x1 x2 x3 : Nat × TypeId × List Value} {q : Nat} {T : TypeId} {cs : List Value} (h : Bxs w W (x0 :: x1 :: x2 :: x3 :: (q, T, cs) :: l)) (i : Nat) (us : List Value) : Bxs w (wset W q i us) (x0 :: x1 :: x2 :: x3 :: (q, T, lsets cs i us) :: l) := Bxs.wsets [x0, x1, x2, x3] l us i W cs h
theorem Bxs.w5 {w W : World} {l : List (Nat × TypeId × List Value)} {x0 x1 x2 x3 x4 : Nat × TypeId × List Value} {q : Nat} {T : TypeId} {cs : List Value} (h : Bxs w W (x0 :: x1 :: x2 :: x3 :: x4 :: (q, T, cs) :: l)) (i : Nat) (us : List Value) : Bxs w (wset W q i us) (x0 :: x1 :: x2 :: x3 :: x4 :: (q, T, lsets cs i us) :: l) := Bxs.wsets [x0, x1, x2, x3, x4] l us i W cs h
theorem Bxs.w6 {w W : World} {l : List (Nat × TypeId × List Value)} {x0 x1 x2 x3 x4 x5 : Nat × TypeId × List Value} {q : Nat} {T : TypeId} {cs : List Value} (h : Bxs w W (x0 :: x1 :: x2 :: x3 :: x4 :: x5 :: (q, T, cs) :: l)) (i : Nat) (us : List Value) : Bxs w (wset W q i us) (x0 :: x1 :: x2 :: x3 :: x4 :: x5 :: (q, T, lsets cs i us) :: l) := Bxs.wsets [x0, x1, x2, x3, x4, x5] l us i W cs h
def CtxQ (B : Nat) (w' : World) (v : Value) (x : List cd.D × List cd.D) : Prop := ∃ a1 n1 c1 a2 n2 c2, v = .agg #[.slice a1 n1 c1, .slice a2 n2 c2] ∧ RowsO B 47 2 dotO w' (.slice a1 n1 c1) x.1 ∧ RowsO B 47 2 dotO w' (.slice a2 n2 c2) x.2
set_option maxHeartbeats 1600000 in
set_option maxRecDepth 100000 in
theorem qctx (s : ByteArray) (a c : Nat) (w : World) (hs : s.size ≤ 100000) :
    Calls Try.prog 37 #[.agg #[.string s, .int .i64 (a : Int), .int .i64 (c : Int)]] w (QA s (onR c (cd.ctxR (kit.bytes s) a)) (CtxQ w.heap.size) w) := by
  obtain ⟨W2, hW2⟩ : ∃ W, W = (((w.alloc (.cells #[.string s, .int .i64 (a : Int), .int .i64 (c : Int)] 79)).alloc (.cells #[.string ⟨#[]⟩, .int .i64 0, .int .i64 0] 79)).alloc (.cells #[.slice none 0 0, .slice none 0 0] 25)) := ⟨_, rfl⟩
  have HB := Lib.hid (show Bxs w W2 [(w.heap.size + 2, 25, [.slice none 0 0, .slice none 0 0]), (w.heap.size + 1, 79, [.string ⟨#[]⟩, .int .i64 0, .int .i64 0]), (w.heap.size, 79, [.string s, .int .i64 (a : Int), .int .i64 (c : Int)])] by rw [hW2]; exact (((Bxs.nil w).add 79 [.string s, .int .i64 (a : Int), .int .i64 (c : Int)] rfl).add 79 [.string ⟨#[]⟩, .int .i64 0, .int .i64 0] (by simp)).add 25 [.slice none 0 0, .slice none 0 0] (by simp))
  obtain ⟨p, hp⟩ : ∃ p, p = w.heap.size := ⟨_, rfl⟩
  rw [← hp] at HB
  have HN := Lib.hid (qdots s a c W2 hs)
  go_enter Try.func37, Try.ntmps37
  go_wp2_with fail
  rw [← hp, ← hW2]
  clear hW2
  (with_reducible refine HN.out.mono ?_)
  rintro e w1 ⟨b, k, v, x, rfl, hE, hq, hb⟩
  obtain ⟨a1, n1, c1, rfl⟩ := hE.form
  have HO1 := Lib.hid (hE.low HB.out.1.size)
  replace HB := Lib.hid (HB.out.call hb)
  have HQ := Lib.hid hq
  have x0 := HB.out.at 0 rfl
  have c0_0 := boxc x0 0 (.slice none 0 0) rfl
  have f0_0 := boxf x0 0
  have c0_1 := boxc x0 1 (.slice none 0 0) rfl
  have f0_1 := boxf x0 1
  have x1 := HB.out.at 1 rfl
  have c1_0 := boxc x1 0 (.string ⟨#[]⟩) rfl
  have f1_0 := boxf x1 0
  have c1_1 := boxc x1 1 (.int .i64 0) rfl
  have f1_1 := boxf x1 1
  have c1_2 := boxc x1 2 (.int .i64 0) rfl
  have f1_2 := boxf x1 2
  have x2 := HB.out.at 2 rfl
  have c2_0 := boxc x2 0 (.string s) rfl
  have f2_0 := boxf x2 0
  have c2_1 := boxc x2 1 (.int .i64 (a : Int)) rfl
  have f2_1 := boxf x2 1
  have c2_2 := boxc x2 2 (.int .i64 (c : Int)) rfl
  have f2_2 := boxf x2 2
  clear x0 x1 x2
  replace HO1 := Lib.hid (RowsO.kt (dotO_pst _) (show (47 : TypeId) ≠ 79 by decide) HO1.out (wset_kt [.string s, .int .i64 (b : Int), .int .i64 (k : Int)] _ _ 0 _ _ (HB.out.at 2 rfl)))
  clear hp hb hq HN hE
  replace HB := Lib.hid (HB.out.w2 0 (rdrC s b k))
  go_wp2_with fail
  (with_reducible refine (qdots s b k _ hs).mono ?_)
  rintro e w2 ⟨b2, k2, v, y, rfl, hE, hq, hb⟩
  clear c0_0 f0_0 c0_1 f0_1 c1_0 f1_0 c1_1 f1_1 c1_2 f1_2 c2_0 f2_0 c2_1 f2_1 c2_2 f2_2
  obtain ⟨a2, n2, c2, rfl⟩ := hE.form
  have HO2 := Lib.hid (hE.low HB.out.1.size)
  replace HO1 := Lib.hid (RowsO.kt (dotO_pst _) (show (47 : TypeId) ≠ 79 by decide) HO1.out (Kt.of_below hb))
  replace HB := Lib.hid (HB.out.call hb)
  have HQ2 := Lib.hid hq
  have x0 := HB.out.at 0 rfl
  have c0_0 := boxc x0 0 (.slice none 0 0) rfl
  have f0_0 := boxf x0 0
  have c0_1 := boxc x0 1 (.slice none 0 0) rfl
  have f0_1 := boxf x0 1
  have x1 := HB.out.at 1 rfl
  have c1_0 := boxc x1 0 (.string ⟨#[]⟩) rfl
  have f1_0 := boxf x1 0
  have c1_1 := boxc x1 1 (.int .i64 0) rfl
  have f1_1 := boxf x1 1
  have c1_2 := boxc x1 2 (.int .i64 0) rfl
  have f1_2 := boxf x1 2
  have x2 := HB.out.at 2 rfl
  have c2_0 := boxc x2 0 (.string s) rfl
  have f2_0 := boxf x2 0
  have c2_1 := boxc x2 1 (.int .i64 (b : Int)) rfl
  have f2_1 := boxf x2 1
  have c2_2 := boxc x2 2 (.int .i64 (k : Int)) rfl
  have f2_2 := boxf x2 2
  clear x0 x1 x2
  clear hb hq hE
  go_wp2
  have HF1 := HB.out.w2 0 (rdrC s b2 k2)
  have HF2 := HF1.w1 0 (rdrC s b2 k2)
  have HF := HF2.w0 0 [.slice a1 n1 c1, .slice a2 n2 c2]
  have kA := wset_kt (rdrC s b2 k2) _ p 0 _ 79 (HB.out.at 2 rfl)
  have kB := wset_kt (rdrC s b2 k2) _ (p + 1) 0 _ 79 (HF1.at 1 rfl)
  have K1 := kA.trans kB
  have K2 := wset_kt [.slice a1 n1 c1, .slice a2 n2 c2] _ _ 0 _ _ (HF2.at 0 rfl)
  have d0 := boxc (HF.at 1 rfl) 0 (.string s) rfl
  have d1 := boxc (HF.at 1 rfl) 1 (.int .i64 (b2 : Int)) rfl
  have d2 := boxc (HF.at 1 rfl) 2 (.int .i64 (k2 : Int)) rfl
  have e0 := boxc (HF.at 0 rfl) 0 (.slice a1 n1 c1) rfl
  have e1 := boxc (HF.at 0 rfl) 1 (.slice a2 n2 c2) rfl
  simp only [wset] at d0 d1 d2 e0 e1
  refine bodyPost_ret (v := .tuple #[.agg #[.string s, .int .i64 (b2 : Int), .int .i64 (k2 : Int)], .agg #[.slice a1 n1 c1, .slice a2 n2 c2]]) (by simp [results, Try.results37, go_sem, d0, d1, d2, e0, e1]) rfl ?_
  refine ⟨b2, k2, _, (x, y), rfl, ⟨a1, n1, c1, a2, n2, c2, rfl, ?_, ?_⟩, ?_, HF.1⟩
  · exact RowsO.kt (dotO_pst _) (show (47 : TypeId) ≠ 25 by decide) (RowsO.kt (dotO_pst _) (show (47 : TypeId) ≠ 79 by decide) HO1.out K1) K2
  · exact RowsO.kt (dotO_pst _) (show (47 : TypeId) ≠ 25 by decide) (RowsO.kt (dotO_pst _) (show (47 : TypeId) ≠ 79 by decide) HO2.out K1) K2
  · exact Qd.seq HQ.out (Qd.map (g := fun y => (x, y)) HQ2.out)
end Go.Proofs.Ytghbkieflifegaa
