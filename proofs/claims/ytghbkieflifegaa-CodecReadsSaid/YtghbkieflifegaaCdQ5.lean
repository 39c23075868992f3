/- codec: the document's reader: entries. -/
import Derived.Test.YtghbkieflifegaaCdQ4
namespace Go.Proofs.Ytghbkieflifegaa
open Go.RowKit Go.ChangeShapes cl
theorem Bxs.drew {w W : World} {l : List (Nat × TypeId × List Value)} (h : Bxs w W l) (n : Nat) : Bxs w (W.drewN n) l := h.call (drew_below n)
set_option maxHeartbeats 3200000 in
set_option maxRecDepth 100000 in
theorem qent (s : ByteArray) (a c : Nat) (w : World) (hs : s.size ≤ 100000) :
    Calls Try.prog 60 #[.agg #[.string s, .int .i64 (a : Int), .int .i64 (c : Int)]] w (QA s (onR c (cd.entR (kit.bytes s) a)) (fun w' v x => ∃ c, v = .agg (List.toArray c) ∧ entO w' c x) w) := by
  obtain ⟨W2, hW2⟩ : ∃ W, W = ((((w.alloc (.cells #[.string s, .int .i64 (a : Int), .int .i64 (c : Int)] 79)).alloc (.cells #[.string ⟨#[]⟩, .int .i64 0, .int .i64 0] 79)).alloc (.cells #[.string ⟨#[]⟩, .int .i64 0, .int .i64 0, .int .i64 0, .slice none 0 0] 50)).alloc (.cells #[.string ⟨#[]⟩, .int .i64 0, .int .i64 0, .int .i64 0, .slice none 0 0] 50)) := ⟨_, rfl⟩
  have HB := Lib.hid (show Bxs w W2 [(w.heap.size + 3, 50, [.string ⟨#[]⟩, .int .i64 0, .int .i64 0, .int .i64 0, .slice none 0 0]), (w.heap.size + 2, 50, [.string ⟨#[]⟩, .int .i64 0, .int .i64 0, .int .i64 0, .slice none 0 0]), (w.heap.size + 1, 79, [.string ⟨#[]⟩, .int .i64 0, .int .i64 0]), (w.heap.size, 79, [.string s, .int .i64 (a : Int), .int .i64 (c : Int)])] by rw [hW2]; exact ((((Bxs.nil w).add 79 [.string s, .int .i64 (a : Int), .int .i64 (c : Int)] rfl).add 79 [.string ⟨#[]⟩, .int .i64 0, .int .i64 0] (by simp)).add 50 [.string ⟨#[]⟩, .int .i64 0, .int .i64 0, .int .i64 0, .slice none 0 0] (by simp)).add 50 [.string ⟨#[]⟩, .int .i64 0, .int .i64 0, .int .i64 0, .slice none 0 0] (by simp))
  obtain ⟨p, hp⟩ : ∃ p, p = w.heap.size := ⟨_, rfl⟩
  rw [← hp] at HB
  have HN := Lib.hid (qword s a c W2 hs)
  go_enter Try.func60, Try.ntmps60
  go_wp2_with fail
  rw [← hp, ← hW2]
  clear hW2
  (with_reducible refine HN.out.mono ?_)
  rintro e w1 ⟨b, k, v, x, rfl, ⟨rfl, hx4⟩, hq, hb⟩
  have HP := Lib.hid hp
  replace HB := Lib.hid (HB.out.call hb)
  have HQ1 := Lib.hid hq
  have x0 := HB.out.at 0 rfl
  have c0_0 := boxc x0 0 (.string ⟨#[]⟩) rfl
  have f0_0 := boxf x0 0
  have c0_1 := boxc x0 1 (.int .i64 0) rfl
  have f0_1 := boxf x0 1
  have c0_2 := boxc x0 2 (.int .i64 0) rfl
  have f0_2 := boxf x0 2
  have c0_3 := boxc x0 3 (.int .i64 0) rfl
  have f0_3 := boxf x0 3
  have c0_4 := boxc x0 4 (.slice none 0 0) rfl
  have f0_4 := boxf x0 4
  have x1 := HB.out.at 1 rfl
  have c1_0 := boxc x1 0 (.string ⟨#[]⟩) rfl
  have f1_0 := boxf x1 0
  have c1_1 := boxc x1 1 (.int .i64 0) rfl
  have f1_1 := boxf x1 1
  have c1_2 := boxc x1 2 (.int .i64 0) rfl
  have f1_2 := boxf x1 2
  have c1_3 := boxc x1 3 (.int .i64 0) rfl
  have f1_3 := boxf x1 3
  have c1_4 := boxc x1 4 (.slice none 0 0) rfl
  have f1_4 := boxf x1 4
  have x2 := HB.out.at 2 rfl
  have c2_0 := boxc x2 0 (.string ⟨#[]⟩) rfl
  have f2_0 := boxf x2 0
  have c2_1 := boxc x2 1 (.int .i64 0) rfl
  have f2_1 := boxf x2 1
  have c2_2 := boxc x2 2 (.int .i64 0) rfl
  have f2_2 := boxf x2 2
  have x3 := HB.out.at 3 rfl
  have c3_0 := boxc x3 0 (.string s) rfl
  have f3_0 := boxf x3 0
  have c3_1 := boxc x3 1 (.int .i64 (a : Int)) rfl
  have f3_1 := boxf x3 1
  have c3_2 := boxc x3 2 (.int .i64 (c : Int)) rfl
  have f3_2 := boxf x3 2
  clear x0 x1 x2 x3
  clear hp hb hq HN
  replace HB := Lib.hid ((HB.out.w3 0 (rdrC s b k)).w0 0 [.string x])
  go_wp2_with fail
  (with_reducible refine (qdot s b k _ hs).mono ?_)
  rintro e w2 ⟨b2, k2, v, d, rfl, rfl, hq, hb⟩
  clear c0_0 f0_0 c0_1 f0_1 c0_2 f0_2 c0_3 f0_3 c0_4 f0_4 c1_0 f1_0 c1_1 f1_1 c1_2 f1_2 c1_3 f1_3 c1_4 f1_4 c2_0 f2_0 c2_1 f2_1 c2_2 f2_2 c3_0 f3_0 c3_1 f3_1 c3_2 f3_2
  replace HB := Lib.hid (HB.out.call hb)
  have HQ2 := Lib.hid hq
  have x0 := HB.out.at 0 rfl
  have c0_0 := boxc x0 0 (.string x) rfl
  have f0_0 := boxf x0 0
  have c0_1 := boxc x0 1 (.int .i64 0) rfl
  have f0_1 := boxf x0 1
  have c0_2 := boxc x0 2 (.int .i64 0) rfl
  have f0_2 := boxf x0 2
  have c0_3 := boxc x0 3 (.int .i64 0) rfl
  have f0_3 := boxf x0 3
  have c0_4 := boxc x0 4 (.slice none 0 0) rfl
  have f0_4 := boxf x0 4
  have x1 := HB.out.at 1 rfl
  have c1_0 := boxc x1 0 (.string ⟨#[]⟩) rfl
  have f1_0 := boxf x1 0
  have c1_1 := boxc x1 1 (.int .i64 0) rfl
  have f1_1 := boxf x1 1
  have c1_2 := boxc x1 2 (.int .i64 0) rfl
  have f1_2 := boxf x1 2
  have c1_3 := boxc x1 3 (.int .i64 0) rfl
  have f1_3 := boxf x1 3
  have c1_4 := boxc x1 4 (.slice none 0 0) rfl
  have f1_4 := boxf x1 4
  have x2 := HB.out.at 2 rfl
  have c2_0 := boxc x2 0 (.string ⟨#[]⟩) rfl
  have f2_0 := boxf x2 0
  have c2_1 := boxc x2 1 (.int .i64 0) rfl
  have f2_1 := boxf x2 1
  have c2_2 := boxc x2 2 (.int .i64 0) rfl
  have f2_2 := boxf x2 2
  have x3 := HB.out.at 3 rfl
  have c3_0 := boxc x3 0 (.string s) rfl
  have f3_0 := boxf x3 0
  have c3_1 := boxc x3 1 (.int .i64 (b : Int)) rfl
  have f3_1 := boxf x3 1
  have c3_2 := boxc x3 2 (.int .i64 (k : Int)) rfl
  have f3_2 := boxf x3 2
  clear x0 x1 x2 x3
  clear hb hq
  replace HB := Lib.hid ((HB.out.w3 0 (rdrC s b2 k2)).w0 1 [.int .i64 d.1, .int .i64 d.2])
  go_wp2_with fail
  (with_reducible refine (qnum s b2 k2 _ hs).mono ?_)
  rintro e w3 ⟨b3, k3, v, t, rfl, rfl, hq, hb⟩
  clear c0_0 f0_0 c0_1 f0_1 c0_2 f0_2 c0_3 f0_3 c0_4 f0_4 c1_0 f1_0 c1_1 f1_1 c1_2 f1_2 c1_3 f1_3 c1_4 f1_4 c2_0 f2_0 c2_1 f2_1 c2_2 f2_2 c3_0 f3_0 c3_1 f3_1 c3_2 f3_2
  replace HB := Lib.hid (HB.out.call hb)
  have HQ3 := Lib.hid hq
  have x0 := HB.out.at 0 rfl
  have c0_0 := boxc x0 0 (.string x) rfl
  have f0_0 := boxf x0 0
  have c0_1 := boxc x0 1 (.int .i64 d.1) rfl
  have f0_1 := boxf x0 1
  have c0_2 := boxc x0 2 (.int .i64 d.2) rfl
  have f0_2 := boxf x0 2
  have c0_3 := boxc x0 3 (.int .i64 0) rfl
  have f0_3 := boxf x0 3
  have c0_4 := boxc x0 4 (.slice none 0 0) rfl
  have f0_4 := boxf x0 4
  have x1 := HB.out.at 1 rfl
  have c1_0 := boxc x1 0 (.string ⟨#[]⟩) rfl
  have f1_0 := boxf x1 0
  have c1_1 := boxc x1 1 (.int .i64 0) rfl
  have f1_1 := boxf x1 1
  have c1_2 := boxc x1 2 (.int .i64 0) rfl
  have f1_2 := boxf x1 2
  have c1_3 := boxc x1 3 (.int .i64 0) rfl
  have f1_3 := boxf x1 3
  have c1_4 := boxc x1 4 (.slice none 0 0) rfl
  have f1_4 := boxf x1 4
  have x2 := HB.out.at 2 rfl
  have c2_0 := boxc x2 0 (.string ⟨#[]⟩) rfl
  have f2_0 := boxf x2 0
  have c2_1 := boxc x2 1 (.int .i64 0) rfl
  have f2_1 := boxf x2 1
  have c2_2 := boxc x2 2 (.int .i64 0) rfl
  have f2_2 := boxf x2 2
  have x3 := HB.out.at 3 rfl
  have c3_0 := boxc x3 0 (.string s) rfl
  have f3_0 := boxf x3 0
  have c3_1 := boxc x3 1 (.int .i64 (b2 : Int)) rfl
  have f3_1 := boxf x3 1
  have c3_2 := boxc x3 2 (.int .i64 (k2 : Int)) rfl
  have f3_2 := boxf x3 2
  clear x0 x1 x2 x3
  clear hb hq
  replace HB := Lib.hid ((HB.out.w3 0 (rdrC s b3 k3)).w0 3 [.int .i64 (t : Int)])
  go_wp2_with fail
  (with_reducible refine (qsiz s b3 k3 _ hs).mono ?_)
  rintro e w4 ⟨b1, k1, v, n, rfl, ⟨rfl, hn⟩, hq, hb⟩
  clear c0_0 f0_0 c0_1 f0_1 c0_2 f0_2 c0_3 f0_3 c0_4 f0_4 c1_0 f1_0 c1_1 f1_1 c1_2 f1_2 c1_3 f1_3 c1_4 f1_4 c2_0 f2_0 c2_1 f2_1 c2_2 f2_2 c3_0 f3_0 c3_1 f3_1 c3_2 f3_2
  replace HB := Lib.hid (HB.out.call hb)
  have HQ4 := Lib.hid hq
  have x0 := HB.out.at 0 rfl
  have c0_0 := boxc x0 0 (.string x) rfl
  have f0_0 := boxf x0 0
  have c0_1 := boxc x0 1 (.int .i64 d.1) rfl
  have f0_1 := boxf x0 1
  have c0_2 := boxc x0 2 (.int .i64 d.2) rfl
  have f0_2 := boxf x0 2
  have c0_3 := boxc x0 3 (.int .i64 (t : Int)) rfl
  have f0_3 := boxf x0 3
  have c0_4 := boxc x0 4 (.slice none 0 0) rfl
  have f0_4 := boxf x0 4
  have x1 := HB.out.at 1 rfl
  have c1_0 := boxc x1 0 (.string ⟨#[]⟩) rfl
  have f1_0 := boxf x1 0
  have c1_1 := boxc x1 1 (.int .i64 0) rfl
  have f1_1 := boxf x1 1
  have c1_2 := boxc x1 2 (.int .i64 0) rfl
  have f1_2 := boxf x1 2
  have c1_3 := boxc x1 3 (.int .i64 0) rfl
  have f1_3 := boxf x1 3
  have c1_4 := boxc x1 4 (.slice none 0 0) rfl
  have f1_4 := boxf x1 4
  have x2 := HB.out.at 2 rfl
  have c2_0 := boxc x2 0 (.string ⟨#[]⟩) rfl
  have f2_0 := boxf x2 0
  have c2_1 := boxc x2 1 (.int .i64 0) rfl
  have f2_1 := boxf x2 1
  have c2_2 := boxc x2 2 (.int .i64 0) rfl
  have f2_2 := boxf x2 2
  have x3 := HB.out.at 3 rfl
  have c3_0 := boxc x3 0 (.string s) rfl
  have f3_0 := boxf x3 0
  have c3_1 := boxc x3 1 (.int .i64 (b3 : Int)) rfl
  have f3_1 := boxf x3 1
  have c3_2 := boxc x3 2 (.int .i64 (k3 : Int)) rfl
  have f3_2 := boxf x3 2
  clear x0 x1 x2 x3
  clear hb hq
  have HB1 := Lib.hid (HB.out.w3 0 (rdrC s b1 k1))
  go_wp2
  go_loopw [6, 43] (fun i _ wr => ∃ (j b k : Nat) (l : List cd.Lk) (ao : Option Addr) (m cap : Nat), i = .int .i64 j ∧ j ≤ n ∧ Hid (Qd s (onR k1 (cd.repR (cd.lnkR (kit.bytes s)) j b1)) l b k) ∧ Hid (Bxs w wr [(p + 3, 50, [.string x, .int .i64 d.1, .int .i64 d.2, .int .i64 (t : Int), .slice ao m cap]), (p + 2, 50, [.string ⟨#[]⟩, .int .i64 0, .int .i64 0, .int .i64 0, .slice none 0 0]), (p + 1, 79, rdr0), (p, 79, rdrC s b k)]) ∧ Hid (RowsO w.heap.size 91 3 lnkO wr (.slice ao m cap) l)) (fun i _ _ => n - (intOf i).toNat)
  case atStart => exact ⟨0, b1, k1, [], none, 0, 0, rfl, Nat.zero_le _, Qd.rep0 (fun h0 => by rcases HQ4.out.inv with ⟨_, _, hb⟩ | ⟨h1, _⟩; exact hb; omega), HB1.out, RowsO.nil _⟩
  case round =>
    obtain ⟨j, b5, k5, l, ao, m, cap, rfl, hj, HQr, HBr, HO⟩ := hrel
    clear HB HB1
    clear c0_0 f0_0 c0_1 f0_1 c0_2 f0_2 c0_3 f0_3 c0_4 f0_4 c1_0 f1_0 c1_1 f1_1 c1_2 f1_2 c1_3 f1_3 c1_4 f1_4 c2_0 f2_0 c2_1 f2_1 c2_2 f2_2 c3_0 f3_0 c3_1 f3_1 c3_2 f3_2
    by_cases hk : k5 = 0
    · subst hk
      have x0 := HBr.out.at 0 rfl
      have c0_0 := boxc x0 0 (.string x) rfl
      have f0_0 := boxf x0 0
      have c0_1 := boxc x0 1 (.int .i64 d.1) rfl
      have f0_1 := boxf x0 1
      have c0_2 := boxc x0 2 (.int .i64 d.2) rfl
      have f0_2 := boxf x0 2
      have c0_3 := boxc x0 3 (.int .i64 (t : Int)) rfl
      have f0_3 := boxf x0 3
      have c0_4 := boxc x0 4 (.slice ao m cap) rfl
      have f0_4 := boxf x0 4
      have x1 := HBr.out.at 1 rfl
      have c1_0 := boxc x1 0 (.string ⟨#[]⟩) rfl
      have f1_0 := boxf x1 0
      have c1_1 := boxc x1 1 (.int .i64 0) rfl
      have f1_1 := boxf x1 1
      have c1_2 := boxc x1 2 (.int .i64 0) rfl
      have f1_2 := boxf x1 2
      have c1_3 := boxc x1 3 (.int .i64 0) rfl
      have f1_3 := boxf x1 3
      have c1_4 := boxc x1 4 (.slice none 0 0) rfl
      have f1_4 := boxf x1 4
      have x2 := HBr.out.at 2 rfl
      have c2_0 := boxc x2 0 (.string ⟨#[]⟩) rfl
      have f2_0 := boxf x2 0
      have c2_1 := boxc x2 1 (.int .i64 0) rfl
      have f2_1 := boxf x2 1
      have c2_2 := boxc x2 2 (.int .i64 0) rfl
      have f2_2 := boxf x2 2
      have x3 := HBr.out.at 3 rfl
      have c3_0 := boxc x3 0 (.string s) rfl
      have f3_0 := boxf x3 0
      have c3_1 := boxc x3 1 (.int .i64 (b5 : Int)) rfl
      have f3_1 := boxf x3 1
      have c3_2 := boxc x3 2 (.int .i64 0) rfl
      have f3_2 := boxf x3 2
      clear x0 x1 x2 x3
      by_cases hlt : j < n
      · have hjI : (j : Int) < (n : Int) := by omega
        have HC : Hid (∀ W : World, Calls Try.prog 35 #[.agg #[.string s, .int .i64 (b5 : Int), .int .i64 0]] W (QA s (onR 0 (cd.numR (kit.bytes s) b5)) (fun _ v n => v = .int .i64 (n : Int)) W)) := fun W => qnum s b5 0 W hs
        go_wp2_with fail
        (with_reducible refine (HC.out _).mono ?_)
        rintro e w5 ⟨b6, k6, v, g, rfl, rfl, hq, hb⟩
        clear c0_0 f0_0 c0_1 f0_1 c0_2 f0_2 c0_3 f0_3 c0_4 f0_4 c1_0 f1_0 c1_1 f1_1 c1_2 f1_2 c1_3 f1_3 c1_4 f1_4 c2_0 f2_0 c2_1 f2_1 c2_2 f2_2 c3_0 f3_0 c3_1 f3_1 c3_2 f3_2
        have HB5 := Lib.hid ((HBr.out.call hb).add 79 (rdrC s b6 k6) rfl)
        have HQ5 := Lib.hid hq
        have HO5 := Lib.hid (RowsO.kt (lnkO_pst _) (show (91 : TypeId) ≠ 79 by decide) HO.out (Kt.of_below (T := 79) (hb.trans ((below1 (o := .cells (rdrC s b6 k6).toArray 79)).mono hb.size))))
        clear hb hq
        have x0 := HB5.out.at 0 rfl
        have c0_0 := boxc x0 0 (.string s) rfl
        have f0_0 := boxf x0 0
        have c0_1 := boxc x0 1 (.int .i64 (b6 : Int)) rfl
        have f0_1 := boxf x0 1
        have c0_2 := boxc x0 2 (.int .i64 (k6 : Int)) rfl
        have f0_2 := boxf x0 2
        have x1 := HB5.out.at 1 rfl
        have c1_0 := boxc x1 0 (.string x) rfl
        have f1_0 := boxf x1 0
        have c1_1 := boxc x1 1 (.int .i64 d.1) rfl
        have f1_1 := boxf x1 1
        have c1_2 := boxc x1 2 (.int .i64 d.2) rfl
        have f1_2 := boxf x1 2
        have c1_3 := boxc x1 3 (.int .i64 (t : Int)) rfl
        have f1_3 := boxf x1 3
        have c1_4 := boxc x1 4 (.slice ao m cap) rfl
        have f1_4 := boxf x1 4
        have x2 := HB5.out.at 2 rfl
        have c2_0 := boxc x2 0 (.string ⟨#[]⟩) rfl
        have f2_0 := boxf x2 0
        have c2_1 := boxc x2 1 (.int .i64 0) rfl
        have f2_1 := boxf x2 1
        have c2_2 := boxc x2 2 (.int .i64 0) rfl
        have f2_2 := boxf x2 2
        have c2_3 := boxc x2 3 (.int .i64 0) rfl
        have f2_3 := boxf x2 3
        have c2_4 := boxc x2 4 (.slice none 0 0) rfl
        have f2_4 := boxf x2 4
        have x3 := HB5.out.at 3 rfl
        have c3_0 := boxc x3 0 (.string ⟨#[]⟩) rfl
        have f3_0 := boxf x3 0
        have c3_1 := boxc x3 1 (.int .i64 0) rfl
        have f3_1 := boxf x3 1
        have c3_2 := boxc x3 2 (.int .i64 0) rfl
        have f3_2 := boxf x3 2
        have x4 := HB5.out.at 4 rfl
        have c4_0 := boxc x4 0 (.string s) rfl
        have f4_0 := boxf x4 0
        have c4_1 := boxc x4 1 (.int .i64 (b5 : Int)) rfl
        have f4_1 := boxf x4 1
        have c4_2 := boxc x4 2 (.int .i64 0) rfl
        have f4_2 := boxf x4 2
        clear x0 x1 x2 x3 x4
        go_wp2_with fail
        (with_reducible refine (qdot s b6 k6 _ hs).mono ?_)
        rintro e w6 ⟨b7, k7, v, y, rfl, rfl, hq, hb⟩
        clear c0_0 f0_0 c0_1 f0_1 c0_2 f0_2 c1_0 f1_0 c1_1 f1_1 c1_2 f1_2 c1_3 f1_3 c1_4 f1_4 c2_0 f2_0 c2_1 f2_1 c2_2 f2_2 c2_3 f2_3 c2_4 f2_4 c3_0 f3_0 c3_1 f3_1 c3_2 f3_2 c4_0 f4_0 c4_1 f4_1 c4_2 f4_2
        have HB6 := Lib.hid (((HB5.out.call hb).add 79 (rdrC s b7 k7) rfl).add 47 [.int .i64 y.1, .int .i64 y.2] (q := w6.heap.size + 1) (by simp))
        have HQ6 := Lib.hid hq
        have HO6 := Lib.hid (RowsO.kt (lnkO_pst _) (show (91 : TypeId) ≠ 79 by decide) HO5.out (Kt.of_below (T := 79) hb))
        clear hb hq HB5 HO5
        have x0 := HB6.out.at 0 rfl
        have c0_0 := boxc x0 0 (.int .i64 y.1) rfl
        have f0_0 := boxf x0 0
        have c0_1 := boxc x0 1 (.int .i64 y.2) rfl
        have f0_1 := boxf x0 1
        have x1 := HB6.out.at 1 rfl
        have c1_0 := boxc x1 0 (.string s) rfl
        have f1_0 := boxf x1 0
        have c1_1 := boxc x1 1 (.int .i64 (b7 : Int)) rfl
        have f1_1 := boxf x1 1
        have c1_2 := boxc x1 2 (.int .i64 (k7 : Int)) rfl
        have f1_2 := boxf x1 2
        have x2 := HB6.out.at 2 rfl
        have c2_0 := boxc x2 0 (.string s) rfl
        have f2_0 := boxf x2 0
        have c2_1 := boxc x2 1 (.int .i64 (b6 : Int)) rfl
        have f2_1 := boxf x2 1
        have c2_2 := boxc x2 2 (.int .i64 (k6 : Int)) rfl
        have f2_2 := boxf x2 2
        have x3 := HB6.out.at 3 rfl
        have c3_0 := boxc x3 0 (.string x) rfl
        have f3_0 := boxf x3 0
        have c3_1 := boxc x3 1 (.int .i64 d.1) rfl
        have f3_1 := boxf x3 1
        have c3_2 := boxc x3 2 (.int .i64 d.2) rfl
        have f3_2 := boxf x3 2
        have c3_3 := boxc x3 3 (.int .i64 (t : Int)) rfl
        have f3_3 := boxf x3 3
        have c3_4 := boxc x3 4 (.slice ao m cap) rfl
        have f3_4 := boxf x3 4
        have x4 := HB6.out.at 4 rfl
        have c4_0 := boxc x4 0 (.string ⟨#[]⟩) rfl
        have f4_0 := boxf x4 0
        have c4_1 := boxc x4 1 (.int .i64 0) rfl
        have f4_1 := boxf x4 1
        have c4_2 := boxc x4 2 (.int .i64 0) rfl
        have f4_2 := boxf x4 2
        have c4_3 := boxc x4 3 (.int .i64 0) rfl
        have f4_3 := boxf x4 3
        have c4_4 := boxc x4 4 (.slice none 0 0) rfl
        have f4_4 := boxf x4 4
        have x5 := HB6.out.at 5 rfl
        have c5_0 := boxc x5 0 (.string ⟨#[]⟩) rfl
        have f5_0 := boxf x5 0
        have c5_1 := boxc x5 1 (.int .i64 0) rfl
        have f5_1 := boxf x5 1
        have c5_2 := boxc x5 2 (.int .i64 0) rfl
        have f5_2 := boxf x5 2
        have x6 := HB6.out.at 6 rfl
        have c6_0 := boxc x6 0 (.string s) rfl
        have f6_0 := boxf x6 0
        have c6_1 := boxc x6 1 (.int .i64 (b5 : Int)) rfl
        have f6_1 := boxf x6 1
        have c6_2 := boxc x6 2 (.int .i64 0) rfl
        have f6_2 := boxf x6 2
        clear x0 x1 x2 x3 x4 x5 x6
        obtain ⟨X, hX⟩ : ∃ X, X = (((((w6.alloc (.cells #[.string s, .int .i64 (b7 : Int), .int .i64 (k7 : Int)] 79)).alloc (.cells #[.int .i64 y.1, .int .i64 y.2] 47)).setCell ⟨p, 0, none⟩ (.string s)).setCell ⟨p, 1, none⟩ (.int .i64 (b7 : Int))).setCell ⟨p, 2, none⟩ (.int .i64 (k7 : Int))) := ⟨_, rfl⟩
        have HB7 : Hid (Bxs w X [(w6.heap.size + 1, 47, [.int .i64 y.1, .int .i64 y.2]), (w6.heap.size, 79, [.string s, .int .i64 (b7 : Int), .int .i64 (k7 : Int)]), (w5.heap.size, 79, [.string s, .int .i64 (b6 : Int), .int .i64 (k6 : Int)]), (p + 3, 50, [.string x, .int .i64 d.1, .int .i64 d.2, .int .i64 (t : Int), .slice ao m cap]), (p + 2, 50, [.string ⟨#[]⟩, .int .i64 0, .int .i64 0, .int .i64 0, .slice none 0 0]), (p + 1, 79, [.string ⟨#[]⟩, .int .i64 0, .int .i64 0]), (p, 79, [.string s, .int .i64 (b7 : Int), .int .i64 (k7 : Int)])]) := by rw [hX]; exact HB6.out.w6 0 (rdrC s b7 k7)
        have hkx : Kt 79 w6 X := by rw [hX]; exact (Kt.of_below (below1.trans (below1.mono (by simp)))).trans (wset_kt (rdrC s b7 k7) _ p 0 _ 79 (HB6.out.at 6 rfl))
        obtain ⟨cs, e0, e1, hown⟩ := RowsO.kt (lnkO_pst _) (show (91 : TypeId) ≠ 79 by decide) HO6.out hkx
        have hz : w6.heap.size + 1 + 1 = X.heap.size := by rw [hX]; simp
        have y0 := boxc (HB7.out.at 0 rfl) 0 (.int .i64 y.1) rfl
        have y1 := boxc (HB7.out.at 0 rfl) 1 (.int .i64 y.2) rfl
        have y2 := boxc (HB7.out.at 3 rfl) 4 (.slice ao m cap) rfl
        rw [hX] at y0 y1 y2
        have hl : l.length ≤ 4000 := by have := HQr.out.len; omega
        have hz2 : w.heap.size ≤ X.heap.size := HB7.out.1.size
        have HZ := Lib.hid hz
        have HX := Lib.hid hX
        have HE0 := Lib.hid e0
        have HE1 := Lib.hid e1
        clear hz hX e0 e1 hkx
        go_wp2_with (at_builtin; rw [← HX.out]; refine app1gB (w6.heap.size + 1 + 1) HZ.out (.tmp 56) (.tmp 60) 48 rfl rfl w.heap.size Try.underlying48 info_lnk rfl (by decide) (by decide) hown rfl rfl rfl (by intro u hu; simp at hu; rcases hu with rfl | rfl | rfl <;> rfl) (by omega) hz2 ?_)
        intro v' w7 hown' hg3
        have HO' : Hid (RowsO w.heap.size 91 3 lnkO w7 v' (l ++ [((g : Int), y)])) := RowsO.snoc (c := [.int .i64 (g : Int), .int .i64 y.1, .int .i64 y.2]) HE0.out HE1.out (app_kt hown hg3) (lnkO_pst _) rfl rfl (by simpa using hown')
        have HB8 := Lib.hid (HB7.out.tail.tail.tail.kt (app_kt hown hg3) (HB7.out.1.trans (app_below hown hz2 hg3)) (by intro z hz; simp only [List.mem_cons, List.not_mem_nil, or_false] at hz; rcases hz with rfl | rfl | rfl | rfl <;> first | (show (50 : TypeId) ≠ 91; decide) | (show (79 : TypeId) ≠ 91; decide)))
        obtain ⟨o3, m3, c3, rfl⟩ := own_slice hown'
        clear hown' hown hg3 y0 y1 y2
        clear c0_0 f0_0 c0_1 f0_1 c1_0 f1_0 c1_1 f1_1 c1_2 f1_2 c2_0 f2_0 c2_1 f2_1 c2_2 f2_2 c3_0 f3_0 c3_1 f3_1 c3_2 f3_2 c3_3 f3_3 c3_4 f3_4 c4_0 f4_0 c4_1 f4_1 c4_2 f4_2 c4_3 f4_3 c4_4 f4_4 c5_0 f5_0 c5_1 f5_1 c5_2 f5_2 c6_0 f6_0 c6_1 f6_1 c6_2 f6_2
        have x0 := HB8.out.at 0 rfl
        have c0_0 := boxc x0 0 (.string x) rfl
        have f0_0 := boxf x0 0
        have c0_1 := boxc x0 1 (.int .i64 d.1) rfl
        have f0_1 := boxf x0 1
        have c0_2 := boxc x0 2 (.int .i64 d.2) rfl
        have f0_2 := boxf x0 2
        have c0_3 := boxc x0 3 (.int .i64 (t : Int)) rfl
        have f0_3 := boxf x0 3
        have c0_4 := boxc x0 4 (.slice ao m cap) rfl
        have f0_4 := boxf x0 4
        have x1 := HB8.out.at 1 rfl
        have c1_0 := boxc x1 0 (.string ⟨#[]⟩) rfl
        have f1_0 := boxf x1 0
        have c1_1 := boxc x1 1 (.int .i64 0) rfl
        have f1_1 := boxf x1 1
        have c1_2 := boxc x1 2 (.int .i64 0) rfl
        have f1_2 := boxf x1 2
        have c1_3 := boxc x1 3 (.int .i64 0) rfl
        have f1_3 := boxf x1 3
        have c1_4 := boxc x1 4 (.slice none 0 0) rfl
        have f1_4 := boxf x1 4
        have x2 := HB8.out.at 2 rfl
        have c2_0 := boxc x2 0 (.string ⟨#[]⟩) rfl
        have f2_0 := boxf x2 0
        have c2_1 := boxc x2 1 (.int .i64 0) rfl
        have f2_1 := boxf x2 1
        have c2_2 := boxc x2 2 (.int .i64 0) rfl
        have f2_2 := boxf x2 2
        have x3 := HB8.out.at 3 rfl
        have c3_0 := boxc x3 0 (.string s) rfl
        have f3_0 := boxf x3 0
        have c3_1 := boxc x3 1 (.int .i64 (b7 : Int)) rfl
        have f3_1 := boxf x3 1
        have c3_2 := boxc x3 2 (.int .i64 (k7 : Int)) rfl
        have f3_2 := boxf x3 2
        clear x0 x1 x2 x3
        replace HO' := Lib.hid (RowsO.kt (lnkO_pst _) (show (91 : TypeId) ≠ 50 by decide) HO'.out (Kt.set (HB8.out.at 0 rfl) 4 (.slice o3 m3 c3)))
        replace HB8 := Lib.hid (HB8.out.set0 4 (.slice o3 m3 c3))
        go_wp2
        go_roundw
        case rel => exact ⟨j + 1, b7, k7, l ++ [((g : Int), y)], o3, m3, c3, by go_num, by omega, HQr.out.rep1 (Qd.seq HQ5.out (Qd.map (g := fun y => ((g : Int), y)) HQ6.out)), HB8.out, HO'.out⟩
        case measure => simp [intOf]; omega
      · obtain rfl : j = n := by omega
        go_wp2
        -- HERE
        go_region
        all_goals
          have HF1 := HBr.out.w2 0 [.string s, .int .i64 (b5 : Int), .int .i64 0]
          have HF0 := HF1.w1 0 [.string x, .int .i64 d.1, .int .i64 d.2, .int .i64 (t : Int), .slice ao m cap]
          have HF := HF0.call (Below.refl _ _).drew
          have KA := wset_kt [.string s, .int .i64 (b5 : Int), .int .i64 0] _ (p + 1) 0 _ 79 (HBr.out.at 2 rfl)
          have KB := wset_kt [.string x, .int .i64 d.1, .int .i64 d.2, .int .i64 (t : Int), .slice ao m cap] _ (p + 2) 0 _ 50 (HF1.at 1 rfl)
          have HO' := (RowsO.kt (lnkO_pst _) (show (91 : TypeId) ≠ 79 by decide) (RowsO.kt (lnkO_pst _) (show (91 : TypeId) ≠ 50 by decide) (RowsO.kt (lnkO_pst _) (show (91 : TypeId) ≠ 79 by decide) HO.out KA) KB) (Kt.of_below (T := 79) (Below.refl _ _).drew)).base
          have d0 := boxc (HF.at 2 rfl) 0 (.string s) rfl
          have d1 := boxc (HF.at 2 rfl) 1 (.int .i64 (b5 : Int)) rfl
          have d2 := boxc (HF.at 2 rfl) 2 (.int .i64 0) rfl
          have e0 := boxc (HF.at 1 rfl) 0 (.string x) rfl
          have e1 := boxc (HF.at 1 rfl) 1 (.int .i64 d.1) rfl
          have e2 := boxc (HF.at 1 rfl) 2 (.int .i64 d.2) rfl
          have e3 := boxc (HF.at 1 rfl) 3 (.int .i64 (t : Int)) rfl
          have e4 := boxc (HF.at 1 rfl) 4 (.slice ao m cap) rfl
          simp only [wset] at d0 d1 d2 e0 e1 e2 e3 e4
          go_wp2
          -- HERE2
          refine bodyPost_ret (v := .tuple #[.agg #[.string s, .int .i64 (b5 : Int), .int .i64 0], .agg #[.string x, .int .i64 d.1, .int .i64 d.2, .int .i64 (t : Int), .slice ao m cap]]) (by simp [results, Try.results60, go_sem, d0, d1, d2, e0, e1, e2, e3, e4]) rfl ?_
          refine ⟨b5, _, _, ⟨x, d, (t : Int), l⟩, rfl, ⟨[.string x, .int .i64 d.1, .int .i64 d.2, .int .i64 (t : Int), .slice ao m cap], rfl, _, _, _, rfl, Nat.le_trans hx4 (by unfold maxLen; omega), HO'⟩, ?_, HF.1⟩
          exact Qd.seq HQ1.out (Qd.seq HQ2.out (Qd.seq HQ3.out (Qd.map (g := fun l => (⟨x, d, (t : Int), l⟩ : cd.Ent)) (by rw [lst_siz]; exact Qd.seq HQ4.out HQr.out))))
    · have hc0 : ((k5 : Int) == 0) = false := beq_eq_false_iff_ne.2 (by omega)
      have x0 := HBr.out.at 0 rfl
      have c0_0 := boxc x0 0 (.string x) rfl
      have f0_0 := boxf x0 0
      have c0_1 := boxc x0 1 (.int .i64 d.1) rfl
      have f0_1 := boxf x0 1
      have c0_2 := boxc x0 2 (.int .i64 d.2) rfl
      have f0_2 := boxf x0 2
      have c0_3 := boxc x0 3 (.int .i64 (t : Int)) rfl
      have f0_3 := boxf x0 3
      have c0_4 := boxc x0 4 (.slice ao m cap) rfl
      have f0_4 := boxf x0 4
      have x1 := HBr.out.at 1 rfl
      have c1_0 := boxc x1 0 (.string ⟨#[]⟩) rfl
      have f1_0 := boxf x1 0
      have c1_1 := boxc x1 1 (.int .i64 0) rfl
      have f1_1 := boxf x1 1
      have c1_2 := boxc x1 2 (.int .i64 0) rfl
      have f1_2 := boxf x1 2
      have c1_3 := boxc x1 3 (.int .i64 0) rfl
      have f1_3 := boxf x1 3
      have c1_4 := boxc x1 4 (.slice none 0 0) rfl
      have f1_4 := boxf x1 4
      have x2 := HBr.out.at 2 rfl
      have c2_0 := boxc x2 0 (.string ⟨#[]⟩) rfl
      have f2_0 := boxf x2 0
      have c2_1 := boxc x2 1 (.int .i64 0) rfl
      have f2_1 := boxf x2 1
      have c2_2 := boxc x2 2 (.int .i64 0) rfl
      have f2_2 := boxf x2 2
      have x3 := HBr.out.at 3 rfl
      have c3_0 := boxc x3 0 (.string s) rfl
      have f3_0 := boxf x3 0
      have c3_1 := boxc x3 1 (.int .i64 (b5 : Int)) rfl
      have f3_1 := boxf x3 1
      have c3_2 := boxc x3 2 (.int .i64 (k5 : Int)) rfl
      have f3_2 := boxf x3 2
      clear x0 x1 x2 x3
      have HE := Lib.hid (HQr.out.repE hk hj)
      clear hk
      by_cases hlt : j < n
      · have hjI : (j : Int) < (n : Int) := by omega
        go_wp2
        -- HERE
        go_region
        all_goals
          have HF1 := HBr.out.w2 0 [.string s, .int .i64 (b5 : Int), .int .i64 (k5 : Int)]
          have HF0 := HF1.w1 0 [.string x, .int .i64 d.1, .int .i64 d.2, .int .i64 (t : Int), .slice ao m cap]
          have HF := HF0.call (Below.refl _ _).drew
          have KA := wset_kt [.string s, .int .i64 (b5 : Int), .int .i64 (k5 : Int)] _ (p + 1) 0 _ 79 (HBr.out.at 2 rfl)
          have KB := wset_kt [.string x, .int .i64 d.1, .int .i64 d.2, .int .i64 (t : Int), .slice ao m cap] _ (p + 2) 0 _ 50 (HF1.at 1 rfl)
          have HO' := (RowsO.kt (lnkO_pst _) (show (91 : TypeId) ≠ 79 by decide) (RowsO.kt (lnkO_pst _) (show (91 : TypeId) ≠ 50 by decide) (RowsO.kt (lnkO_pst _) (show (91 : TypeId) ≠ 79 by decide) HO.out KA) KB) (Kt.of_below (T := 79) (Below.refl _ _).drew)).base
          have d0 := boxc (HF.at 2 rfl) 0 (.string s) rfl
          have d1 := boxc (HF.at 2 rfl) 1 (.int .i64 (b5 : Int)) rfl
          have d2 := boxc (HF.at 2 rfl) 2 (.int .i64 (k5 : Int)) rfl
          have e0 := boxc (HF.at 1 rfl) 0 (.string x) rfl
          have e1 := boxc (HF.at 1 rfl) 1 (.int .i64 d.1) rfl
          have e2 := boxc (HF.at 1 rfl) 2 (.int .i64 d.2) rfl
          have e3 := boxc (HF.at 1 rfl) 3 (.int .i64 (t : Int)) rfl
          have e4 := boxc (HF.at 1 rfl) 4 (.slice ao m cap) rfl
          simp only [wset] at d0 d1 d2 e0 e1 e2 e3 e4
          go_wp2
          -- HERE2
          refine bodyPost_ret (v := .tuple #[.agg #[.string s, .int .i64 (b5 : Int), .int .i64 (k5 : Int)], .agg #[.string x, .int .i64 d.1, .int .i64 d.2, .int .i64 (t : Int), .slice ao m cap]]) (by simp [results, Try.results60, go_sem, d0, d1, d2, e0, e1, e2, e3, e4]) rfl ?_
          refine ⟨b5, _, _, ⟨x, d, (t : Int), l⟩, rfl, ⟨[.string x, .int .i64 d.1, .int .i64 d.2, .int .i64 (t : Int), .slice ao m cap], rfl, _, _, _, rfl, Nat.le_trans hx4 (by unfold maxLen; omega), HO'⟩, ?_, HF.1⟩
          exact Qd.seq HQ1.out (Qd.seq HQ2.out (Qd.seq HQ3.out (Qd.map (g := fun l => (⟨x, d, (t : Int), l⟩ : cd.Ent)) (by rw [lst_siz]; exact Qd.seq HQ4.out HE.out))))
      · have hjI : ¬ (j : Int) < (n : Int) := by omega
        go_wp2
        -- HERE
        go_region
        all_goals
          have HF1 := HBr.out.w2 0 [.string s, .int .i64 (b5 : Int), .int .i64 (k5 : Int)]
          have HF0 := HF1.w1 0 [.string x, .int .i64 d.1, .int .i64 d.2, .int .i64 (t : Int), .slice ao m cap]
          have HF := HF0.call (Below.refl _ _).drew
          have KA := wset_kt [.string s, .int .i64 (b5 : Int), .int .i64 (k5 : Int)] _ (p + 1) 0 _ 79 (HBr.out.at 2 rfl)
          have KB := wset_kt [.string x, .int .i64 d.1, .int .i64 d.2, .int .i64 (t : Int), .slice ao m cap] _ (p + 2) 0 _ 50 (HF1.at 1 rfl)
          have HO' := (RowsO.kt (lnkO_pst _) (show (91 : TypeId) ≠ 79 by decide) (RowsO.kt (lnkO_pst _) (show (91 : TypeId) ≠ 50 by decide) (RowsO.kt (lnkO_pst _) (show (91 : TypeId) ≠ 79 by decide) HO.out KA) KB) (Kt.of_below (T := 79) (Below.refl _ _).drew)).base
          have d0 := boxc (HF.at 2 rfl) 0 (.string s) rfl
          have d1 := boxc (HF.at 2 rfl) 1 (.int .i64 (b5 : Int)) rfl
          have d2 := boxc (HF.at 2 rfl) 2 (.int .i64 (k5 : Int)) rfl
          have e0 := boxc (HF.at 1 rfl) 0 (.string x) rfl
          have e1 := boxc (HF.at 1 rfl) 1 (.int .i64 d.1) rfl
          have e2 := boxc (HF.at 1 rfl) 2 (.int .i64 d.2) rfl
          have e3 := boxc (HF.at 1 rfl) 3 (.int .i64 (t : Int)) rfl
          have e4 := boxc (HF.at 1 rfl) 4 (.slice ao m cap) rfl
          simp only [wset] at d0 d1 d2 e0 e1 e2 e3 e4
          go_wp2
          -- HERE2
          refine bodyPost_ret (v := .tuple #[.agg #[.string s, .int .i64 (b5 : Int), .int .i64 (k5 : Int)], .agg #[.string x, .int .i64 d.1, .int .i64 d.2, .int .i64 (t : Int), .slice ao m cap]]) (by simp [results, Try.results60, go_sem, d0, d1, d2, e0, e1, e2, e3, e4]) rfl ?_
          refine ⟨b5, _, _, ⟨x, d, (t : Int), l⟩, rfl, ⟨[.string x, .int .i64 d.1, .int .i64 d.2, .int .i64 (t : Int), .slice ao m cap], rfl, _, _, _, rfl, Nat.le_trans hx4 (by unfold maxLen; omega), HO'⟩, ?_, HF.1⟩
          exact Qd.seq HQ1.out (Qd.seq HQ2.out (Qd.seq HQ3.out (Qd.map (g := fun l => (⟨x, d, (t : Int), l⟩ : cd.Ent)) (by rw [lst_siz]; exact Qd.seq HQ4.out HE.out))))
end Go.Proofs.Ytghbkieflifegaa
