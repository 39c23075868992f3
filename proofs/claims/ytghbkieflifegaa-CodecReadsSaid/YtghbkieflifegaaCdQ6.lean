/- codec: the document's reader: changes. -/
import Derived.Test.YtghbkieflifegaaCdQ5
namespace Go.Proofs.Ytghbkieflifegaa
open Go.RowKit Go.ChangeShapes cl
def DelQ (w' : World) (v : Value) (x : List cd.Ent × List cd.D × List cd.D × List cd.D) : Prop := ∃ a3 n3 c3 a4 n4 c4 a1 n1 c1 a2 n2 c2, v = .agg #[.slice a3 n3 c3, .slice a4 n4 c4, .slice a1 n1 c1, .slice a2 n2 c2] ∧ RowsO 0 50 5 entO w' (.slice a3 n3 c3) x.1 ∧ RowsO 0 47 2 dotO w' (.slice a4 n4 c4) x.2.1 ∧ RowsO 0 47 2 dotO w' (.slice a1 n1 c1) x.2.2.1 ∧ RowsO 0 47 2 dotO w' (.slice a2 n2 c2) x.2.2.2
set_option maxHeartbeats 25600000 in
set_option maxRecDepth 100000 in
theorem qchg (s : ByteArray) (a c : Nat) (w : World) (hs : s.size ≤ 100000) :
    Calls Try.prog 36 #[.agg #[.string s, .int .i64 (a : Int), .int .i64 (c : Int)]] w (QA s (onR c (cd.delR (kit.bytes s) a)) DelQ w) := by
  obtain ⟨W2, hW2⟩ : ∃ W, W = ((((w.alloc (.cells #[.string s, .int .i64 (a : Int), .int .i64 (c : Int)] 79)).alloc (.cells #[.string ⟨#[]⟩, .int .i64 0, .int .i64 0] 79)).alloc (.cells #[.slice none 0 0, .slice none 0 0, .slice none 0 0, .slice none 0 0] 27)).alloc (.cells #[.slice none 0 0, .slice none 0 0, .slice none 0 0, .slice none 0 0] 27)) := ⟨_, rfl⟩
  have HB := Lib.hid (show Bxs w W2 [(w.heap.size + 3, 27, [.slice none 0 0, .slice none 0 0, .slice none 0 0, .slice none 0 0]), (w.heap.size + 2, 27, [.slice none 0 0, .slice none 0 0, .slice none 0 0, .slice none 0 0]), (w.heap.size + 1, 79, [.string ⟨#[]⟩, .int .i64 0, .int .i64 0]), (w.heap.size, 79, [.string s, .int .i64 (a : Int), .int .i64 (c : Int)])] by rw [hW2]; exact ((((Bxs.nil w).add 79 [.string s, .int .i64 (a : Int), .int .i64 (c : Int)] rfl).add 79 [.string ⟨#[]⟩, .int .i64 0, .int .i64 0] (by simp)).add 27 [.slice none 0 0, .slice none 0 0, .slice none 0 0, .slice none 0 0] (by simp)).add 27 [.slice none 0 0, .slice none 0 0, .slice none 0 0, .slice none 0 0] (by simp))
  obtain ⟨p, hp⟩ : ∃ p, p = w.heap.size := ⟨_, rfl⟩
  rw [← hp] at HB
  have HN := Lib.hid (qsiz s a c W2 hs)
  go_enter Try.func36, Try.ntmps36
  go_wp2_with fail
  rw [← hp, ← hW2]
  clear hW2
  (with_reducible refine HN.out.mono ?_)
  rintro e w1 ⟨b1, k1, v, n, rfl, ⟨rfl, hn⟩, hq, hb⟩
  have HP := Lib.hid hp
  replace HB := Lib.hid (HB.out.call hb)
  have HQ1 := Lib.hid hq
  have x0 := HB.out.at 0 rfl
  have c0_0 := boxc x0 0 (.slice none 0 0) rfl
  have f0_0 := boxf x0 0
  have c0_1 := boxc x0 1 (.slice none 0 0) rfl
  have f0_1 := boxf x0 1
  have c0_2 := boxc x0 2 (.slice none 0 0) rfl
  have f0_2 := boxf x0 2
  have c0_3 := boxc x0 3 (.slice none 0 0) rfl
  have f0_3 := boxf x0 3
  have x1 := HB.out.at 1 rfl
  have c1_0 := boxc x1 0 (.slice none 0 0) rfl
  have f1_0 := boxf x1 0
  have c1_1 := boxc x1 1 (.slice none 0 0) rfl
  have f1_1 := boxf x1 1
  have c1_2 := boxc x1 2 (.slice none 0 0) rfl
  have f1_2 := boxf x1 2
  have c1_3 := boxc x1 3 (.slice none 0 0) rfl
  have f1_3 := boxf x1 3
  have x2 := HB.out.at 2 rfl
  have c2_0 := boxc x2 0 (.string ⟨#[]⟩) rfl
  have f2_0 := boxf x2 0
  have c2_1 := boxc x2 1 (.int .i64 0) rfl
  have f2_1 := boxf x2 1
  have c2_2 := boxc x2 2 (.int .i64 0) rfl
  have f2_2 := boxf x2 2
  have x3 := HB.out.at 3 rfl
  have c3_0 := boxc x3 0 (.string s) rfl
  have f3_0 := boxf x3 0
  have c3_1 := boxc x3 1 (.int .i64 (a : Int)) rfl
  have f3_1 := boxf x3 1
  have c3_2 := boxc x3 2 (.int .i64 (c : Int)) rfl
  have f3_2 := boxf x3 2
  clear x0 x1 x2 x3
  clear hp hb hq HN
  have HB1 := Lib.hid (HB.out.w3 0 (rdrC s b1 k1))
  go_wp2
  go_loopw [6, 23] (fun i _ wr => ∃ (j b k : Nat) (l : List cd.Ent) (ao : Option Addr) (m cap : Nat), i = .int .i64 j ∧ j ≤ n ∧ Hid (Qd s (onR k1 (cd.repR (cd.entR (kit.bytes s)) j b1)) l b k) ∧ Hid (Bxs w wr [(p + 3, 27, [.slice ao m cap, .slice none 0 0, .slice none 0 0, .slice none 0 0]), (p + 2, 27, [.slice none 0 0, .slice none 0 0, .slice none 0 0, .slice none 0 0]), (p + 1, 79, rdr0), (p, 79, rdrC s b k)]) ∧ Hid (RowsO w.heap.size 50 5 entO wr (.slice ao m cap) l)) (fun i _ _ => n - (intOf i).toNat)
  case atStart => exact ⟨0, b1, k1, [], none, 0, 0, rfl, Nat.zero_le _, Qd.rep0 (fun h0 => by rcases HQ1.out.inv with ⟨_, _, hb⟩ | ⟨h1, _⟩; exact hb; omega), HB1.out, RowsO.nil _⟩
  case round =>
    obtain ⟨j, b5, k5, l, ao, m, cap, rfl, hj, HQr, HBr, HO⟩ := hrel
    clear HB HB1
    clear c0_0 f0_0 c0_1 f0_1 c0_2 f0_2 c0_3 f0_3 c1_0 f1_0 c1_1 f1_1 c1_2 f1_2 c1_3 f1_3 c2_0 f2_0 c2_1 f2_1 c2_2 f2_2 c3_0 f3_0 c3_1 f3_1 c3_2 f3_2
    by_cases hk : k5 = 0
    · subst hk
      have x0 := HBr.out.at 0 rfl
      have c0_0 := boxc x0 0 (.slice ao m cap) rfl
      have f0_0 := boxf x0 0
      have c0_1 := boxc x0 1 (.slice none 0 0) rfl
      have f0_1 := boxf x0 1
      have c0_2 := boxc x0 2 (.slice none 0 0) rfl
      have f0_2 := boxf x0 2
      have c0_3 := boxc x0 3 (.slice none 0 0) rfl
      have f0_3 := boxf x0 3
      have x1 := HBr.out.at 1 rfl
      have c1_0 := boxc x1 0 (.slice none 0 0) rfl
      have f1_0 := boxf x1 0
      have c1_1 := boxc x1 1 (.slice none 0 0) rfl
      have f1_1 := boxf x1 1
      have c1_2 := boxc x1 2 (.slice none 0 0) rfl
      have f1_2 := boxf x1 2
      have c1_3 := boxc x1 3 (.slice none 0 0) rfl
      have f1_3 := boxf x1 3
      have x2 := HBr.out.at 2 rfl
      have c2_0 := boxc x2 0 (.string ⟨#[]⟩) rfl
      have f2_0 := boxf x2 0
      have c2_1 := boxc x2 1 (.int .i64 0) rfl
      have f2_1 := boxf x2 1
      have c2_2 := boxc x2 2 (.int .i64 0) rfl
      have f2_2 := boxf x2 2
      have x3 := HBr.out.at 3 rfl
      have c3_0 := boxc x3 0 (.string s) rfl
      have f3_0 := boxf x3 0
      have c3_1 := boxc x3 1 (.int .i64 (b5 : Int)) rfl
      have f3_1 := boxf x3 1
      have c3_2 := boxc x3 2 (.int .i64 0) rfl
      have f3_2 := boxf x3 2
      clear x0 x1 x2 x3
      by_cases hlt : j < n
      · have hjI : (j : Int) < (n : Int) := by omega
        have HC : Hid (∀ W : World, Calls Try.prog 60 #[.agg #[.string s, .int .i64 (b5 : Int), .int .i64 0]] W (QA s (onR 0 (cd.entR (kit.bytes s) b5)) (fun w' v x => ∃ c, v = .agg (List.toArray c) ∧ entO w' c x) W)) := fun W => qent s b5 0 W hs
        go_wp2_with fail
        (with_reducible refine (HC.out _).mono ?_)
        rintro e w6 ⟨b7, k7, v, y, rfl, ⟨ce, rfl, oe, me, ke, rfl, hys, hyl⟩, hq, hb⟩
        clear c0_0 f0_0 c0_1 f0_1 c0_2 f0_2 c0_3 f0_3 c1_0 f1_0 c1_1 f1_1 c1_2 f1_2 c1_3 f1_3 c2_0 f2_0 c2_1 f2_1 c2_2 f2_2 c3_0 f3_0 c3_1 f3_1 c3_2 f3_2
        have HB6 := Lib.hid (((HBr.out.call hb).add 79 (rdrC s b7 k7) rfl).add 50 [.string y.s, .int .i64 y.d.1, .int .i64 y.d.2, .int .i64 y.t, .slice oe me ke] (q := w6.heap.size + 1) (by simp))
        have HQ6 := Lib.hid hq
        have HO6 := Lib.hid (RowsO.kt (entO_pst (T := 79) (show (91 : TypeId) ≠ 79 by decide)) (show (50 : TypeId) ≠ 79 by decide) HO.out (Kt.of_below (T := 79) hb))
        have HY6 : Hid (entO w6 [.string y.s, .int .i64 y.d.1, .int .i64 y.d.2, .int .i64 y.t, .slice oe me ke] y) := ⟨oe, me, ke, rfl, hys, hyl⟩
        clear hb hq hys hyl HC
        have x0 := HB6.out.at 0 rfl
        have c0_0 := boxc x0 0 (.string y.s) rfl
        have f0_0 := boxf x0 0
        have c0_1 := boxc x0 1 (.int .i64 y.d.1) rfl
        have f0_1 := boxf x0 1
        have c0_2 := boxc x0 2 (.int .i64 y.d.2) rfl
        have f0_2 := boxf x0 2
        have c0_3 := boxc x0 3 (.int .i64 y.t) rfl
        have f0_3 := boxf x0 3
        have c0_4 := boxc x0 4 (.slice oe me ke) rfl
        have f0_4 := boxf x0 4
        have x1 := HB6.out.at 1 rfl
        have c1_0 := boxc x1 0 (.string s) rfl
        have f1_0 := boxf x1 0
        have c1_1 := boxc x1 1 (.int .i64 (b7 : Int)) rfl
        have f1_1 := boxf x1 1
        have c1_2 := boxc x1 2 (.int .i64 (k7 : Int)) rfl
        have f1_2 := boxf x1 2
        have x2 := HB6.out.at 2 rfl
        have c2_0 := boxc x2 0 (.slice ao m cap) rfl
        have f2_0 := boxf x2 0
        have c2_1 := boxc x2 1 (.slice none 0 0) rfl
        have f2_1 := boxf x2 1
        have c2_2 := boxc x2 2 (.slice none 0 0) rfl
        have f2_2 := boxf x2 2
        have c2_3 := boxc x2 3 (.slice none 0 0) rfl
        have f2_3 := boxf x2 3
        have x3 := HB6.out.at 3 rfl
        have c3_0 := boxc x3 0 (.slice none 0 0) rfl
        have f3_0 := boxf x3 0
        have c3_1 := boxc x3 1 (.slice none 0 0) rfl
        have f3_1 := boxf x3 1
        have c3_2 := boxc x3 2 (.slice none 0 0) rfl
        have f3_2 := boxf x3 2
        have c3_3 := boxc x3 3 (.slice none 0 0) rfl
        have f3_3 := boxf x3 3
        have x4 := HB6.out.at 4 rfl
        have c4_0 := boxc x4 0 (.string ⟨#[]⟩) rfl
        have f4_0 := boxf x4 0
        have c4_1 := boxc x4 1 (.int .i64 0) rfl
        have f4_1 := boxf x4 1
        have c4_2 := boxc x4 2 (.int .i64 0) rfl
        have f4_2 := boxf x4 2
        have x5 := HB6.out.at 5 rfl
        have c5_0 := boxc x5 0 (.string s) rfl
        have f5_0 := boxf x5 0
        have c5_1 := boxc x5 1 (.int .i64 (b5 : Int)) rfl
        have f5_1 := boxf x5 1
        have c5_2 := boxc x5 2 (.int .i64 0) rfl
        have f5_2 := boxf x5 2
        clear x0 x1 x2 x3 x4 x5
        obtain ⟨X, hX⟩ : ∃ X, X = (((((w6.alloc (.cells #[.string s, .int .i64 (b7 : Int), .int .i64 (k7 : Int)] 79)).alloc (.cells #[.string y.s, .int .i64 y.d.1, .int .i64 y.d.2, .int .i64 y.t, .slice oe me ke] 50)).setCell ⟨p, 0, none⟩ (.string s)).setCell ⟨p, 1, none⟩ (.int .i64 (b7 : Int))).setCell ⟨p, 2, none⟩ (.int .i64 (k7 : Int))) := ⟨_, rfl⟩
        have HB7 : Hid (Bxs w X [(w6.heap.size + 1, 50, [.string y.s, .int .i64 y.d.1, .int .i64 y.d.2, .int .i64 y.t, .slice oe me ke]), (w6.heap.size, 79, [.string s, .int .i64 (b7 : Int), .int .i64 (k7 : Int)]), (p + 3, 27, [.slice ao m cap, .slice none 0 0, .slice none 0 0, .slice none 0 0]), (p + 2, 27, [.slice none 0 0, .slice none 0 0, .slice none 0 0, .slice none 0 0]), (p + 1, 79, [.string ⟨#[]⟩, .int .i64 0, .int .i64 0]), (p, 79, [.string s, .int .i64 (b7 : Int), .int .i64 (k7 : Int)])]) := by rw [hX]; exact HB6.out.w5 0 (rdrC s b7 k7)
        have hkx : Kt 79 w6 X := by rw [hX]; exact (Kt.of_below (below1.trans (below1.mono (by simp)))).trans (wset_kt (rdrC s b7 k7) _ p 0 _ 79 (HB6.out.at 5 rfl))
        obtain ⟨cs, e0, e1, hown⟩ := RowsO.kt (entO_pst (T := 79) (show (91 : TypeId) ≠ 79 by decide)) (show (50 : TypeId) ≠ 79 by decide) HO6.out hkx
        have hyx : entO X [.string y.s, .int .i64 y.d.1, .int .i64 y.d.2, .int .i64 y.t, .slice oe me ke] y := (entO_pst (T := 79) (show (91 : TypeId) ≠ 79 by decide)) _ _ _ _ HY6.out hkx
        have hz : w6.heap.size + 1 + 1 = X.heap.size := by rw [hX]; simp
        have y0 := boxc (HB7.out.at 0 rfl) 0 (.string y.s) rfl
        have y1 := boxc (HB7.out.at 0 rfl) 1 (.int .i64 y.d.1) rfl
        have y2 := boxc (HB7.out.at 0 rfl) 2 (.int .i64 y.d.2) rfl
        have y3 := boxc (HB7.out.at 0 rfl) 3 (.int .i64 y.t) rfl
        have y4 := boxc (HB7.out.at 0 rfl) 4 (.slice oe me ke) rfl
        have y5 := boxc (HB7.out.at 2 rfl) 0 (.slice ao m cap) rfl
        rw [hX] at y0 y1 y2 y3 y4 y5
        have hl : l.length ≤ 4000 := by have := HQr.out.len; omega
        have hz2 : w.heap.size ≤ X.heap.size := HB7.out.1.size
        have HZ := Lib.hid hz
        have HX := Lib.hid hX
        have HE0 := Lib.hid e0
        have HE1 := Lib.hid e1
        have HYX := Lib.hid hyx
        clear hz hX e0 e1 hkx hyx
        go_wp2_with (at_builtin; rw [← HX.out]; refine app1gB (w6.heap.size + 1 + 1) HZ.out (.tmp 31) (.tmp 33) 22 rfl rfl w.heap.size Try.underlying22 info_ent rfl (by decide) (by decide) hown rfl rfl rfl (by intro u hu; simp at hu; rcases hu with rfl | rfl | rfl | rfl | rfl <;> rfl) (by omega) hz2 ?_)
        intro v' w7 hown' hg3
        have HO' : Hid (RowsO w.heap.size 50 5 entO w7 v' (l ++ [y])) := RowsO.snoc (c := [.string y.s, .int .i64 y.d.1, .int .i64 y.d.2, .int .i64 y.t, .slice oe me ke]) HE0.out HE1.out (app_kt hown hg3) (entO_pst (T := 50) (show (91 : TypeId) ≠ 50 by decide)) rfl HYX.out (by simpa using hown')
        have HB8 := Lib.hid (HB7.out.tail.tail.kt (app_kt hown hg3) (HB7.out.1.trans (app_below hown hz2 hg3)) (by intro z hz; simp only [List.mem_cons, List.not_mem_nil, or_false] at hz; rcases hz with rfl | rfl | rfl | rfl <;> first | (show (27 : TypeId) ≠ 50; decide) | (show (79 : TypeId) ≠ 50; decide)))
        obtain ⟨o3, m3, c3, rfl⟩ := own_slice hown'
        clear hown' hown hg3 y0 y1 y2 y3 y4 y5
        clear c0_0 f0_0 c0_1 f0_1 c0_2 f0_2 c0_3 f0_3 c0_4 f0_4 c1_0 f1_0 c1_1 f1_1 c1_2 f1_2 c2_0 f2_0 c2_1 f2_1 c2_2 f2_2 c2_3 f2_3 c3_0 f3_0 c3_1 f3_1 c3_2 f3_2 c3_3 f3_3 c4_0 f4_0 c4_1 f4_1 c4_2 f4_2 c5_0 f5_0 c5_1 f5_1 c5_2 f5_2
        have x0 := HB8.out.at 0 rfl
        have c0_0 := boxc x0 0 (.slice ao m cap) rfl
        have f0_0 := boxf x0 0
        have c0_1 := boxc x0 1 (.slice none 0 0) rfl
        have f0_1 := boxf x0 1
        have c0_2 := boxc x0 2 (.slice none 0 0) rfl
        have f0_2 := boxf x0 2
        have c0_3 := boxc x0 3 (.slice none 0 0) rfl
        have f0_3 := boxf x0 3
        have x1 := HB8.out.at 1 rfl
        have c1_0 := boxc x1 0 (.slice none 0 0) rfl
        have f1_0 := boxf x1 0
        have c1_1 := boxc x1 1 (.slice none 0 0) rfl
        have f1_1 := boxf x1 1
        have c1_2 := boxc x1 2 (.slice none 0 0) rfl
        have f1_2 := boxf x1 2
        have c1_3 := boxc x1 3 (.slice none 0 0) rfl
        have f1_3 := boxf x1 3
        have x2 := HB8.out.at 2 rfl
        have c2_0 := boxc x2 0 (.string ⟨#[]⟩) rfl
        have f2_0 := boxf x2 0
        have c2_1 := boxc x2 1 (.int .i64 0) rfl
        have f2_1 := boxf x2 1
        have c2_2 := boxc x2 2 (.int .i64 0) rfl
        have f2_2 := boxf x2 2
        have x3 := HB8.out.at 3 rfl
        have c3_0 := boxc x3 0 (.string s) rfl
        have f3_0 := boxf x3 0
        have c3_1 := boxc x3 1 (.int .i64 (b7 : Int)) rfl
        have f3_1 := boxf x3 1
        have c3_2 := boxc x3 2 (.int .i64 (k7 : Int)) rfl
        have f3_2 := boxf x3 2
        clear x0 x1 x2 x3
        replace HO' := Lib.hid (RowsO.kt (entO_pst (T := 27) (show (91 : TypeId) ≠ 27 by decide)) (show (50 : TypeId) ≠ 27 by decide) HO'.out (Kt.set (HB8.out.at 0 rfl) 0 (.slice o3 m3 c3)))
        replace HB8 := Lib.hid (HB8.out.set0 0 (.slice o3 m3 c3))
        go_wp2
        go_roundw
        case rel => exact ⟨j + 1, b7, k7, l ++ [y], o3, m3, c3, by go_num, by omega, HQr.out.rep1 HQ6.out, HB8.out, HO'.out⟩
        case measure => simp [intOf]; omega
      · obtain rfl : j = n := by omega
        -- MFIN
        have HO1 := Lib.hid HO.out.base
        have HC : Hid (∀ W : World, Calls Try.prog 61 #[.agg #[.string s, .int .i64 (b5 : Int), .int .i64 0]] W (QA s (onR 0 (cd.lstR (kit.bytes s) (cd.dotR (kit.bytes s)) b5)) (fun w' v l => RowsO W.heap.size 47 2 dotO w' v l) W)) := fun W => qdots s b5 0 W hs
        go_wp2_with fail
        (with_reducible refine (HC.out _).mono ?_)
        rintro e w6 ⟨b6, k6, v, al, rfl, hE, hq, hb⟩
        obtain ⟨oa, na, ca, rfl⟩ := hE.form
        clear c0_0 f0_0 c0_1 f0_1 c0_2 f0_2 c0_3 f0_3 c1_0 f1_0 c1_1 f1_1 c1_2 f1_2 c1_3 f1_3 c2_0 f2_0 c2_1 f2_1 c2_2 f2_2 c3_0 f3_0 c3_1 f3_1 c3_2 f3_2
        replace HBr := Lib.hid (HBr.out.call hb)
        have HQ6 := Lib.hid hq
        have HO2 := Lib.hid hE.base
        replace HO1 := Lib.hid (RowsO.kt (entO_pst (T := 79) (show (91 : TypeId) ≠ 79 by decide)) (show (50 : TypeId) ≠ 79 by decide) HO1.out (Kt.of_below (T := 79) hb))
        have x0 := HBr.out.at 0 rfl
        have c0_0 := boxc x0 0 (.slice ao m cap) rfl
        have f0_0 := boxf x0 0
        have c0_1 := boxc x0 1 (.slice none 0 0) rfl
        have f0_1 := boxf x0 1
        have c0_2 := boxc x0 2 (.slice none 0 0) rfl
        have f0_2 := boxf x0 2
        have c0_3 := boxc x0 3 (.slice none 0 0) rfl
        have f0_3 := boxf x0 3
        have x1 := HBr.out.at 1 rfl
        have c1_0 := boxc x1 0 (.slice none 0 0) rfl
        have f1_0 := boxf x1 0
        have c1_1 := boxc x1 1 (.slice none 0 0) rfl
        have f1_1 := boxf x1 1
        have c1_2 := boxc x1 2 (.slice none 0 0) rfl
        have f1_2 := boxf x1 2
        have c1_3 := boxc x1 3 (.slice none 0 0) rfl
        have f1_3 := boxf x1 3
        have x2 := HBr.out.at 2 rfl
        have c2_0 := boxc x2 0 (.string ⟨#[]⟩) rfl
        have f2_0 := boxf x2 0
        have c2_1 := boxc x2 1 (.int .i64 0) rfl
        have f2_1 := boxf x2 1
        have c2_2 := boxc x2 2 (.int .i64 0) rfl
        have f2_2 := boxf x2 2
        have x3 := HBr.out.at 3 rfl
        have c3_0 := boxc x3 0 (.string s) rfl
        have f3_0 := boxf x3 0
        have c3_1 := boxc x3 1 (.int .i64 (b5 : Int)) rfl
        have f3_1 := boxf x3 1
        have c3_2 := boxc x3 2 (.int .i64 0) rfl
        have f3_2 := boxf x3 2
        clear x0 x1 x2 x3
        have KA := wset_kt (rdrC s b6 k6) _ p 0 _ 79 (HBr.out.at 3 rfl)
        have HBx := HBr.out.w3 0 (rdrC s b6 k6)
        have KB := Kt.set (HBx.at 0 rfl) 1 (.slice oa na ca)
        replace HO1 := Lib.hid (RowsO.kt (entO_pst (T := 27) (show (91 : TypeId) ≠ 27 by decide)) (show (50 : TypeId) ≠ 27 by decide) (RowsO.kt (entO_pst (T := 79) (show (91 : TypeId) ≠ 79 by decide)) (show (50 : TypeId) ≠ 79 by decide) HO1.out KA) KB)
        replace HO2 := Lib.hid (RowsO.kt (dotO_pst _) (show (47 : TypeId) ≠ 27 by decide) (RowsO.kt (dotO_pst _) (show (47 : TypeId) ≠ 79 by decide) HO2.out KA) KB)
        replace HBr := Lib.hid (HBx.set0 1 (.slice oa na ca))
        clear hb hq hE HBx KA KB
        go_wp2_with fail
        (with_reducible refine (qctx s b6 k6 _ hs).mono ?_)
        rintro e w7 ⟨b7, k7, v, cx, rfl, ⟨ov, nv, cv, oc, nc, cc, rfl, hE1, hE2⟩, hq, hb⟩
        clear c0_0 f0_0 c0_1 f0_1 c0_2 f0_2 c0_3 f0_3 c1_0 f1_0 c1_1 f1_1 c1_2 f1_2 c1_3 f1_3 c2_0 f2_0 c2_1 f2_1 c2_2 f2_2 c3_0 f3_0 c3_1 f3_1 c3_2 f3_2
        replace HBr := Lib.hid (HBr.out.call hb)
        have HQ7 := Lib.hid hq
        have HO3 := Lib.hid hE1.base
        have HO4 := Lib.hid hE2.base
        replace HO1 := Lib.hid (RowsO.kt (entO_pst (T := 79) (show (91 : TypeId) ≠ 79 by decide)) (show (50 : TypeId) ≠ 79 by decide) HO1.out (Kt.of_below (T := 79) hb))
        replace HO2 := Lib.hid (RowsO.kt (dotO_pst _) (show (47 : TypeId) ≠ 79 by decide) HO2.out (Kt.of_below (T := 79) hb))
        have x0 := HBr.out.at 0 rfl
        have c0_0 := boxc x0 0 (.slice ao m cap) rfl
        have f0_0 := boxf x0 0
        have c0_1 := boxc x0 1 (.slice oa na ca) rfl
        have f0_1 := boxf x0 1
        have c0_2 := boxc x0 2 (.slice none 0 0) rfl
        have f0_2 := boxf x0 2
        have c0_3 := boxc x0 3 (.slice none 0 0) rfl
        have f0_3 := boxf x0 3
        have x1 := HBr.out.at 1 rfl
        have c1_0 := boxc x1 0 (.slice none 0 0) rfl
        have f1_0 := boxf x1 0
        have c1_1 := boxc x1 1 (.slice none 0 0) rfl
        have f1_1 := boxf x1 1
        have c1_2 := boxc x1 2 (.slice none 0 0) rfl
        have f1_2 := boxf x1 2
        have c1_3 := boxc x1 3 (.slice none 0 0) rfl
        have f1_3 := boxf x1 3
        have x2 := HBr.out.at 2 rfl
        have c2_0 := boxc x2 0 (.string ⟨#[]⟩) rfl
        have f2_0 := boxf x2 0
        have c2_1 := boxc x2 1 (.int .i64 0) rfl
        have f2_1 := boxf x2 1
        have c2_2 := boxc x2 2 (.int .i64 0) rfl
        have f2_2 := boxf x2 2
        have x3 := HBr.out.at 3 rfl
        have c3_0 := boxc x3 0 (.string s) rfl
        have f3_0 := boxf x3 0
        have c3_1 := boxc x3 1 (.int .i64 (b6 : Int)) rfl
        have f3_1 := boxf x3 1
        have c3_2 := boxc x3 2 (.int .i64 (k6 : Int)) rfl
        have f3_2 := boxf x3 2
        clear x0 x1 x2 x3
        have KA := wset_kt (rdrC s b7 k7) _ p 0 _ 79 (HBr.out.at 3 rfl)
        have HBx := HBr.out.w3 0 (rdrC s b7 k7)
        have KB := wset_kt [.slice ov nv cv, .slice oc nc cc] _ (p + 3) 2 _ 27 (HBx.at 0 rfl)
        replace HO1 := Lib.hid (RowsO.kt (entO_pst (T := 27) (show (91 : TypeId) ≠ 27 by decide)) (show (50 : TypeId) ≠ 27 by decide) (RowsO.kt (entO_pst (T := 79) (show (91 : TypeId) ≠ 79 by decide)) (show (50 : TypeId) ≠ 79 by decide) HO1.out KA) KB)
        replace HO2 := Lib.hid (RowsO.kt (dotO_pst _) (show (47 : TypeId) ≠ 27 by decide) (RowsO.kt (dotO_pst _) (show (47 : TypeId) ≠ 79 by decide) HO2.out KA) KB)
        replace HO3 := Lib.hid (RowsO.kt (dotO_pst _) (show (47 : TypeId) ≠ 27 by decide) (RowsO.kt (dotO_pst _) (show (47 : TypeId) ≠ 79 by decide) HO3.out KA) KB)
        replace HO4 := Lib.hid (RowsO.kt (dotO_pst _) (show (47 : TypeId) ≠ 27 by decide) (RowsO.kt (dotO_pst _) (show (47 : TypeId) ≠ 79 by decide) HO4.out KA) KB)
        have HBy := HBx.w0 2 [.slice ov nv cv, .slice oc nc cc]
        have HBz := Lib.hid HBy
        clear hb hq hE1 hE2
        clear c0_0 f0_0 c0_1 f0_1 c0_2 f0_2 c0_3 f0_3 c1_0 f1_0 c1_1 f1_1 c1_2 f1_2 c1_3 f1_3 c2_0 f2_0 c2_1 f2_1 c2_2 f2_2 c3_0 f3_0 c3_1 f3_1 c3_2 f3_2
        have x0 := HBr.out.at 0 rfl
        have c0_0 := boxc x0 0 (.slice ao m cap) rfl
        have f0_0 := boxf x0 0
        have c0_1 := boxc x0 1 (.slice oa na ca) rfl
        have f0_1 := boxf x0 1
        have c0_2 := boxc x0 2 (.slice none 0 0) rfl
        have f0_2 := boxf x0 2
        have c0_3 := boxc x0 3 (.slice none 0 0) rfl
        have f0_3 := boxf x0 3
        have x1 := HBr.out.at 1 rfl
        have c1_0 := boxc x1 0 (.slice none 0 0) rfl
        have f1_0 := boxf x1 0
        have c1_1 := boxc x1 1 (.slice none 0 0) rfl
        have f1_1 := boxf x1 1
        have c1_2 := boxc x1 2 (.slice none 0 0) rfl
        have f1_2 := boxf x1 2
        have c1_3 := boxc x1 3 (.slice none 0 0) rfl
        have f1_3 := boxf x1 3
        have x2 := HBr.out.at 2 rfl
        have c2_0 := boxc x2 0 (.string ⟨#[]⟩) rfl
        have f2_0 := boxf x2 0
        have c2_1 := boxc x2 1 (.int .i64 0) rfl
        have f2_1 := boxf x2 1
        have c2_2 := boxc x2 2 (.int .i64 0) rfl
        have f2_2 := boxf x2 2
        have x3 := HBr.out.at 3 rfl
        have c3_0 := boxc x3 0 (.string s) rfl
        have f3_0 := boxf x3 0
        have c3_1 := boxc x3 1 (.int .i64 (b6 : Int)) rfl
        have f3_1 := boxf x3 1
        have c3_2 := boxc x3 2 (.int .i64 (k6 : Int)) rfl
        have f3_2 := boxf x3 2
        clear x0 x1 x2 x3
        clear HBx HBy KA KB
        have g0_0 := boxc (HBz.out.at 0 rfl) 0 (.slice ao m cap) rfl
        have h0_0 := boxf (HBz.out.at 0 rfl) 0
        have g0_1 := boxc (HBz.out.at 0 rfl) 1 (.slice oa na ca) rfl
        have h0_1 := boxf (HBz.out.at 0 rfl) 1
        have g0_2 := boxc (HBz.out.at 0 rfl) 2 (.slice ov nv cv) rfl
        have h0_2 := boxf (HBz.out.at 0 rfl) 2
        have g0_3 := boxc (HBz.out.at 0 rfl) 3 (.slice oc nc cc) rfl
        have h0_3 := boxf (HBz.out.at 0 rfl) 3
        have g1_0 := boxc (HBz.out.at 1 rfl) 0 (.slice none 0 0) rfl
        have h1_0 := boxf (HBz.out.at 1 rfl) 0
        have g1_1 := boxc (HBz.out.at 1 rfl) 1 (.slice none 0 0) rfl
        have h1_1 := boxf (HBz.out.at 1 rfl) 1
        have g1_2 := boxc (HBz.out.at 1 rfl) 2 (.slice none 0 0) rfl
        have h1_2 := boxf (HBz.out.at 1 rfl) 2
        have g1_3 := boxc (HBz.out.at 1 rfl) 3 (.slice none 0 0) rfl
        have h1_3 := boxf (HBz.out.at 1 rfl) 3
        have g2_0 := boxc (HBz.out.at 2 rfl) 0 (.string ⟨#[]⟩) rfl
        have h2_0 := boxf (HBz.out.at 2 rfl) 0
        have g2_1 := boxc (HBz.out.at 2 rfl) 1 (.int .i64 0) rfl
        have h2_1 := boxf (HBz.out.at 2 rfl) 1
        have g2_2 := boxc (HBz.out.at 2 rfl) 2 (.int .i64 0) rfl
        have h2_2 := boxf (HBz.out.at 2 rfl) 2
        have g3_0 := boxc (HBz.out.at 3 rfl) 0 (.string s) rfl
        have h3_0 := boxf (HBz.out.at 3 rfl) 0
        have g3_1 := boxc (HBz.out.at 3 rfl) 1 (.int .i64 (b7 : Int)) rfl
        have h3_1 := boxf (HBz.out.at 3 rfl) 1
        have g3_2 := boxc (HBz.out.at 3 rfl) 2 (.int .i64 (k7 : Int)) rfl
        have h3_2 := boxf (HBz.out.at 3 rfl) 2
        simp only [wset] at g0_0 h0_0 g0_1 h0_1 g0_2 h0_2 g0_3 h0_3 g1_0 h1_0 g1_1 h1_1 g1_2 h1_2 g1_3 h1_3 g2_0 h2_0 g2_1 h2_1 g2_2 h2_2 g3_0 h3_0 g3_1 h3_1 g3_2 h3_2
        -- MB
        go_wp2
        -- HERE
        go_region
        all_goals
          -- MC
          have HF1 := HBz.out.w2 0 (rdrC s b7 k7)
          have HF0 := HF1.w1 0 [.slice ao m cap, .slice oa na ca, .slice ov nv cv, .slice oc nc cc]
          have HF := HF0.call (Below.refl _ _).drew
          have zA := HBz.out.at 2 rfl
          have zB := HF1.at 1 rfl
          have KA := wset_kt (rdrC s b7 k7) _ _ 0 _ _ zA
          have KB := wset_kt [.slice ao m cap, .slice oa na ca, .slice ov nv cv, .slice oc nc cc] _ _ 0 _ _ zB
          clear zA zB
          have HO1' := RowsO.kt (entO_pst (T := 79) (show (91 : TypeId) ≠ 79 by decide)) (show (50 : TypeId) ≠ 79 by decide) (RowsO.kt (entO_pst (T := 27) (show (91 : TypeId) ≠ 27 by decide)) (show (50 : TypeId) ≠ 27 by decide) (RowsO.kt (entO_pst (T := 79) (show (91 : TypeId) ≠ 79 by decide)) (show (50 : TypeId) ≠ 79 by decide) HO1.out KA) KB) (Kt.of_below (T := 79) (Below.refl _ _).drew)
          have HO2' := RowsO.kt (dotO_pst _) (show (47 : TypeId) ≠ 79 by decide) (RowsO.kt (dotO_pst _) (show (47 : TypeId) ≠ 27 by decide) (RowsO.kt (dotO_pst _) (show (47 : TypeId) ≠ 79 by decide) HO2.out KA) KB) (Kt.of_below (T := 79) (Below.refl _ _).drew)
          have HO3' := RowsO.kt (dotO_pst _) (show (47 : TypeId) ≠ 79 by decide) (RowsO.kt (dotO_pst _) (show (47 : TypeId) ≠ 27 by decide) (RowsO.kt (dotO_pst _) (show (47 : TypeId) ≠ 79 by decide) HO3.out KA) KB) (Kt.of_below (T := 79) (Below.refl _ _).drew)
          have HO4' := RowsO.kt (dotO_pst _) (show (47 : TypeId) ≠ 79 by decide) (RowsO.kt (dotO_pst _) (show (47 : TypeId) ≠ 27 by decide) (RowsO.kt (dotO_pst _) (show (47 : TypeId) ≠ 79 by decide) HO4.out KA) KB) (Kt.of_below (T := 79) (Below.refl _ _).drew)
          -- MD
          have d0 := boxc (HF.at 2 rfl) 0 (.string s) rfl
          have d1 := boxc (HF.at 2 rfl) 1 (.int .i64 (b7 : Int)) rfl
          have d2 := boxc (HF.at 2 rfl) 2 (.int .i64 (k7 : Int)) rfl
          have e0 := boxc (HF.at 1 rfl) 0 (.slice ao m cap) rfl
          have e1 := boxc (HF.at 1 rfl) 1 (.slice oa na ca) rfl
          have e2 := boxc (HF.at 1 rfl) 2 (.slice ov nv cv) rfl
          have e3 := boxc (HF.at 1 rfl) 3 (.slice oc nc cc) rfl
          simp only [wset] at d0 d1 d2 e0 e1 e2 e3
          go_wp2
          -- HERE2
          refine bodyPost_ret (v := .tuple #[.agg #[.string s, .int .i64 (b7 : Int), .int .i64 (k7 : Int)], .agg #[.slice ao m cap, .slice oa na ca, .slice ov nv cv, .slice oc nc cc]]) (by simp [results, Try.results36, go_sem, d0, d1, d2, e0, e1, e2, e3]) rfl ?_
          refine ⟨b7, _, _, (l, al, cx.1, cx.2), rfl, ⟨_, _, _, _, _, _, _, _, _, _, _, _, rfl, HO1', HO2', HO3', HO4'⟩, ?_, HF.1⟩
          unfold cd.delR
          rw [lst_siz]
          exact Qd.seq (Qd.seq HQ1.out HQr.out) (Qd.seq HQ6.out (Qd.map (g := fun c : List cd.D × List cd.D => (l, al, c.1, c.2)) HQ7.out))
    · have hc0 : ((k5 : Int) == 0) = false := beq_eq_false_iff_ne.2 (by omega)
      have x0 := HBr.out.at 0 rfl
      have c0_0 := boxc x0 0 (.slice ao m cap) rfl
      have f0_0 := boxf x0 0
      have c0_1 := boxc x0 1 (.slice none 0 0) rfl
      have f0_1 := boxf x0 1
      have c0_2 := boxc x0 2 (.slice none 0 0) rfl
      have f0_2 := boxf x0 2
      have c0_3 := boxc x0 3 (.slice none 0 0) rfl
      have f0_3 := boxf x0 3
      have x1 := HBr.out.at 1 rfl
      have c1_0 := boxc x1 0 (.slice none 0 0) rfl
      have f1_0 := boxf x1 0
      have c1_1 := boxc x1 1 (.slice none 0 0) rfl
      have f1_1 := boxf x1 1
      have c1_2 := boxc x1 2 (.slice none 0 0) rfl
      have f1_2 := boxf x1 2
      have c1_3 := boxc x1 3 (.slice none 0 0) rfl
      have f1_3 := boxf x1 3
      have x2 := HBr.out.at 2 rfl
      have c2_0 := boxc x2 0 (.string ⟨#[]⟩) rfl
      have f2_0 := boxf x2 0
      have c2_1 := boxc x2 1 (.int .i64 0) rfl
      have f2_1 := boxf x2 1
      have c2_2 := boxc x2 2 (.int .i64 0) rfl
      have f2_2 := boxf x2 2
      have x3 := HBr.out.at 3 rfl
      have c3_0 := boxc x3 0 (.string s) rfl
      have f3_0 := boxf x3 0
      have c3_1 := boxc x3 1 (.int .i64 (b5 : Int)) rfl
      have f3_1 := boxf x3 1
      have c3_2 := boxc x3 2 (.int .i64 (k5 : Int)) rfl
      have f3_2 := boxf x3 2
      clear x0 x1 x2 x3
      have HE := Lib.hid (HQr.out.repE hk hj)
      clear hk
      by_cases hlt : j < n
      · have hjI : (j : Int) < (n : Int) := by omega
        -- MFIN
        have HO1 := Lib.hid HO.out.base
        go_wp2_with fail
        (with_reducible refine (qdots s b5 k5 _ hs).mono ?_)
        rintro e w6 ⟨b6, k6, v, al, rfl, hE, hq, hb⟩
        obtain ⟨oa, na, ca, rfl⟩ := hE.form
        clear c0_0 f0_0 c0_1 f0_1 c0_2 f0_2 c0_3 f0_3 c1_0 f1_0 c1_1 f1_1 c1_2 f1_2 c1_3 f1_3 c2_0 f2_0 c2_1 f2_1 c2_2 f2_2 c3_0 f3_0 c3_1 f3_1 c3_2 f3_2
        replace HBr := Lib.hid (HBr.out.call hb)
        have HQ6 := Lib.hid hq
        have HO2 := Lib.hid hE.base
        replace HO1 := Lib.hid (RowsO.kt (entO_pst (T := 79) (show (91 : TypeId) ≠ 79 by decide)) (show (50 : TypeId) ≠ 79 by decide) HO1.out (Kt.of_below (T := 79) hb))
        have x0 := HBr.out.at 0 rfl
        have c0_0 := boxc x0 0 (.slice ao m cap) rfl
        have f0_0 := boxf x0 0
        have c0_1 := boxc x0 1 (.slice none 0 0) rfl
        have f0_1 := boxf x0 1
        have c0_2 := boxc x0 2 (.slice none 0 0) rfl
        have f0_2 := boxf x0 2
        have c0_3 := boxc x0 3 (.slice none 0 0) rfl
        have f0_3 := boxf x0 3
        have x1 := HBr.out.at 1 rfl
        have c1_0 := boxc x1 0 (.slice none 0 0) rfl
        have f1_0 := boxf x1 0
        have c1_1 := boxc x1 1 (.slice none 0 0) rfl
        have f1_1 := boxf x1 1
        have c1_2 := boxc x1 2 (.slice none 0 0) rfl
        have f1_2 := boxf x1 2
        have c1_3 := boxc x1 3 (.slice none 0 0) rfl
        have f1_3 := boxf x1 3
        have x2 := HBr.out.at 2 rfl
        have c2_0 := boxc x2 0 (.string ⟨#[]⟩) rfl
        have f2_0 := boxf x2 0
        have c2_1 := boxc x2 1 (.int .i64 0) rfl
        have f2_1 := boxf x2 1
        have c2_2 := boxc x2 2 (.int .i64 0) rfl
        have f2_2 := boxf x2 2
        have x3 := HBr.out.at 3 rfl
        have c3_0 := boxc x3 0 (.string s) rfl
        have f3_0 := boxf x3 0
        have c3_1 := boxc x3 1 (.int .i64 (b5 : Int)) rfl
        have f3_1 := boxf x3 1
        have c3_2 := boxc x3 2 (.int .i64 (k5 : Int)) rfl
        have f3_2 := boxf x3 2
        clear x0 x1 x2 x3
        have KA := wset_kt (rdrC s b6 k6) _ p 0 _ 79 (HBr.out.at 3 rfl)
        have HBx := HBr.out.w3 0 (rdrC s b6 k6)
        have KB := Kt.set (HBx.at 0 rfl) 1 (.slice oa na ca)
        replace HO1 := Lib.hid (RowsO.kt (entO_pst (T := 27) (show (91 : TypeId) ≠ 27 by decide)) (show (50 : TypeId) ≠ 27 by decide) (RowsO.kt (entO_pst (T := 79) (show (91 : TypeId) ≠ 79 by decide)) (show (50 : TypeId) ≠ 79 by decide) HO1.out KA) KB)
        replace HO2 := Lib.hid (RowsO.kt (dotO_pst _) (show (47 : TypeId) ≠ 27 by decide) (RowsO.kt (dotO_pst _) (show (47 : TypeId) ≠ 79 by decide) HO2.out KA) KB)
        replace HBr := Lib.hid (HBx.set0 1 (.slice oa na ca))
        clear hb hq hE HBx KA KB
        go_wp2_with fail
        (with_reducible refine (qctx s b6 k6 _ hs).mono ?_)
        rintro e w7 ⟨b7, k7, v, cx, rfl, ⟨ov, nv, cv, oc, nc, cc, rfl, hE1, hE2⟩, hq, hb⟩
        clear c0_0 f0_0 c0_1 f0_1 c0_2 f0_2 c0_3 f0_3 c1_0 f1_0 c1_1 f1_1 c1_2 f1_2 c1_3 f1_3 c2_0 f2_0 c2_1 f2_1 c2_2 f2_2 c3_0 f3_0 c3_1 f3_1 c3_2 f3_2
        replace HBr := Lib.hid (HBr.out.call hb)
        have HQ7 := Lib.hid hq
        have HO3 := Lib.hid hE1.base
        have HO4 := Lib.hid hE2.base
        replace HO1 := Lib.hid (RowsO.kt (entO_pst (T := 79) (show (91 : TypeId) ≠ 79 by decide)) (show (50 : TypeId) ≠ 79 by decide) HO1.out (Kt.of_below (T := 79) hb))
        replace HO2 := Lib.hid (RowsO.kt (dotO_pst _) (show (47 : TypeId) ≠ 79 by decide) HO2.out (Kt.of_below (T := 79) hb))
        have x0 := HBr.out.at 0 rfl
        have c0_0 := boxc x0 0 (.slice ao m cap) rfl
        have f0_0 := boxf x0 0
        have c0_1 := boxc x0 1 (.slice oa na ca) rfl
        have f0_1 := boxf x0 1
        have c0_2 := boxc x0 2 (.slice none 0 0) rfl
        have f0_2 := boxf x0 2
        have c0_3 := boxc x0 3 (.slice none 0 0) rfl
        have f0_3 := boxf x0 3
        have x1 := HBr.out.at 1 rfl
        have c1_0 := boxc x1 0 (.slice none 0 0) rfl
        have f1_0 := boxf x1 0
        have c1_1 := boxc x1 1 (.slice none 0 0) rfl
        have f1_1 := boxf x1 1
        have c1_2 := boxc x1 2 (.slice none 0 0) rfl
        have f1_2 := boxf x1 2
        have c1_3 := boxc x1 3 (.slice none 0 0) rfl
        have f1_3 := boxf x1 3
        have x2 := HBr.out.at 2 rfl
        have c2_0 := boxc x2 0 (.string ⟨#[]⟩) rfl
        have f2_0 := boxf x2 0
        have c2_1 := boxc x2 1 (.int .i64 0) rfl
        have f2_1 := boxf x2 1
        have c2_2 := boxc x2 2 (.int .i64 0) rfl
        have f2_2 := boxf x2 2
        have x3 := HBr.out.at 3 rfl
        have c3_0 := boxc x3 0 (.string s) rfl
        have f3_0 := boxf x3 0
        have c3_1 := boxc x3 1 (.int .i64 (b6 : Int)) rfl
        have f3_1 := boxf x3 1
        have c3_2 := boxc x3 2 (.int .i64 (k6 : Int)) rfl
        have f3_2 := boxf x3 2
        clear x0 x1 x2 x3
        have KA := wset_kt (rdrC s b7 k7) _ p 0 _ 79 (HBr.out.at 3 rfl)
        have HBx := HBr.out.w3 0 (rdrC s b7 k7)
        have KB := wset_kt [.slice ov nv cv, .slice oc nc cc] _ (p + 3) 2 _ 27 (HBx.at 0 rfl)
        replace HO1 := Lib.hid (RowsO.kt (entO_pst (T := 27) (show (91 : TypeId) ≠ 27 by decide)) (show (50 : TypeId) ≠ 27 by decide) (RowsO.kt (entO_pst (T := 79) (show (91 : TypeId) ≠ 79 by decide)) (show (50 : TypeId) ≠ 79 by decide) HO1.out KA) KB)
        replace HO2 := Lib.hid (RowsO.kt (dotO_pst _) (show (47 : TypeId) ≠ 27 by decide) (RowsO.kt (dotO_pst _) (show (47 : TypeId) ≠ 79 by decide) HO2.out KA) KB)
        replace HO3 := Lib.hid (RowsO.kt (dotO_pst _) (show (47 : TypeId) ≠ 27 by decide) (RowsO.kt (dotO_pst _) (show (47 : TypeId) ≠ 79 by decide) HO3.out KA) KB)
        replace HO4 := Lib.hid (RowsO.kt (dotO_pst _) (show (47 : TypeId) ≠ 27 by decide) (RowsO.kt (dotO_pst _) (show (47 : TypeId) ≠ 79 by decide) HO4.out KA) KB)
        have HBy := HBx.w0 2 [.slice ov nv cv, .slice oc nc cc]
        have HBz := Lib.hid HBy
        clear hb hq hE1 hE2
        clear c0_0 f0_0 c0_1 f0_1 c0_2 f0_2 c0_3 f0_3 c1_0 f1_0 c1_1 f1_1 c1_2 f1_2 c1_3 f1_3 c2_0 f2_0 c2_1 f2_1 c2_2 f2_2 c3_0 f3_0 c3_1 f3_1 c3_2 f3_2
        have x0 := HBr.out.at 0 rfl
        have c0_0 := boxc x0 0 (.slice ao m cap) rfl
        have f0_0 := boxf x0 0
        have c0_1 := boxc x0 1 (.slice oa na ca) rfl
        have f0_1 := boxf x0 1
        have c0_2 := boxc x0 2 (.slice none 0 0) rfl
        have f0_2 := boxf x0 2
        have c0_3 := boxc x0 3 (.slice none 0 0) rfl
        have f0_3 := boxf x0 3
        have x1 := HBr.out.at 1 rfl
        have c1_0 := boxc x1 0 (.slice none 0 0) rfl
        have f1_0 := boxf x1 0
        have c1_1 := boxc x1 1 (.slice none 0 0) rfl
        have f1_1 := boxf x1 1
        have c1_2 := boxc x1 2 (.slice none 0 0) rfl
        have f1_2 := boxf x1 2
        have c1_3 := boxc x1 3 (.slice none 0 0) rfl
        have f1_3 := boxf x1 3
        have x2 := HBr.out.at 2 rfl
        have c2_0 := boxc x2 0 (.string ⟨#[]⟩) rfl
        have f2_0 := boxf x2 0
        have c2_1 := boxc x2 1 (.int .i64 0) rfl
        have f2_1 := boxf x2 1
        have c2_2 := boxc x2 2 (.int .i64 0) rfl
        have f2_2 := boxf x2 2
        have x3 := HBr.out.at 3 rfl
        have c3_0 := boxc x3 0 (.string s) rfl
        have f3_0 := boxf x3 0
        have c3_1 := boxc x3 1 (.int .i64 (b6 : Int)) rfl
        have f3_1 := boxf x3 1
        have c3_2 := boxc x3 2 (.int .i64 (k6 : Int)) rfl
        have f3_2 := boxf x3 2
        clear x0 x1 x2 x3
        clear HBx HBy KA KB
        have g0_0 := boxc (HBz.out.at 0 rfl) 0 (.slice ao m cap) rfl
        have h0_0 := boxf (HBz.out.at 0 rfl) 0
        have g0_1 := boxc (HBz.out.at 0 rfl) 1 (.slice oa na ca) rfl
        have h0_1 := boxf (HBz.out.at 0 rfl) 1
        have g0_2 := boxc (HBz.out.at 0 rfl) 2 (.slice ov nv cv) rfl
        have h0_2 := boxf (HBz.out.at 0 rfl) 2
        have g0_3 := boxc (HBz.out.at 0 rfl) 3 (.slice oc nc cc) rfl
        have h0_3 := boxf (HBz.out.at 0 rfl) 3
        have g1_0 := boxc (HBz.out.at 1 rfl) 0 (.slice none 0 0) rfl
        have h1_0 := boxf (HBz.out.at 1 rfl) 0
        have g1_1 := boxc (HBz.out.at 1 rfl) 1 (.slice none 0 0) rfl
        have h1_1 := boxf (HBz.out.at 1 rfl) 1
        have g1_2 := boxc (HBz.out.at 1 rfl) 2 (.slice none 0 0) rfl
        have h1_2 := boxf (HBz.out.at 1 rfl) 2
        have g1_3 := boxc (HBz.out.at 1 rfl) 3 (.slice none 0 0) rfl
        have h1_3 := boxf (HBz.out.at 1 rfl) 3
        have g2_0 := boxc (HBz.out.at 2 rfl) 0 (.string ⟨#[]⟩) rfl
        have h2_0 := boxf (HBz.out.at 2 rfl) 0
        have g2_1 := boxc (HBz.out.at 2 rfl) 1 (.int .i64 0) rfl
        have h2_1 := boxf (HBz.out.at 2 rfl) 1
        have g2_2 := boxc (HBz.out.at 2 rfl) 2 (.int .i64 0) rfl
        have h2_2 := boxf (HBz.out.at 2 rfl) 2
        have g3_0 := boxc (HBz.out.at 3 rfl) 0 (.string s) rfl
        have h3_0 := boxf (HBz.out.at 3 rfl) 0
        have g3_1 := boxc (HBz.out.at 3 rfl) 1 (.int .i64 (b7 : Int)) rfl
        have h3_1 := boxf (HBz.out.at 3 rfl) 1
        have g3_2 := boxc (HBz.out.at 3 rfl) 2 (.int .i64 (k7 : Int)) rfl
        have h3_2 := boxf (HBz.out.at 3 rfl) 2
        simp only [wset] at g0_0 h0_0 g0_1 h0_1 g0_2 h0_2 g0_3 h0_3 g1_0 h1_0 g1_1 h1_1 g1_2 h1_2 g1_3 h1_3 g2_0 h2_0 g2_1 h2_1 g2_2 h2_2 g3_0 h3_0 g3_1 h3_1 g3_2 h3_2
        -- MB
        go_wp2
        -- HERE
        go_region
        all_goals
          -- MC
          have HF1 := HBz.out.w2 0 (rdrC s b7 k7)
          have HF0 := HF1.w1 0 [.slice ao m cap, .slice oa na ca, .slice ov nv cv, .slice oc nc cc]
          have HF := HF0.call (Below.refl _ _).drew
          have zA := HBz.out.at 2 rfl
          have zB := HF1.at 1 rfl
          have KA := wset_kt (rdrC s b7 k7) _ _ 0 _ _ zA
          have KB := wset_kt [.slice ao m cap, .slice oa na ca, .slice ov nv cv, .slice oc nc cc] _ _ 0 _ _ zB
          clear zA zB
          have HO1' := RowsO.kt (entO_pst (T := 79) (show (91 : TypeId) ≠ 79 by decide)) (show (50 : TypeId) ≠ 79 by decide) (RowsO.kt (entO_pst (T := 27) (show (91 : TypeId) ≠ 27 by decide)) (show (50 : TypeId) ≠ 27 by decide) (RowsO.kt (entO_pst (T := 79) (show (91 : TypeId) ≠ 79 by decide)) (show (50 : TypeId) ≠ 79 by decide) HO1.out KA) KB) (Kt.of_below (T := 79) (Below.refl _ _).drew)
          have HO2' := RowsO.kt (dotO_pst _) (show (47 : TypeId) ≠ 79 by decide) (RowsO.kt (dotO_pst _) (show (47 : TypeId) ≠ 27 by decide) (RowsO.kt (dotO_pst _) (show (47 : TypeId) ≠ 79 by decide) HO2.out KA) KB) (Kt.of_below (T := 79) (Below.refl _ _).drew)
          have HO3' := RowsO.kt (dotO_pst _) (show (47 : TypeId) ≠ 79 by decide) (RowsO.kt (dotO_pst _) (show (47 : TypeId) ≠ 27 by decide) (RowsO.kt (dotO_pst _) (show (47 : TypeId) ≠ 79 by decide) HO3.out KA) KB) (Kt.of_below (T := 79) (Below.refl _ _).drew)
          have HO4' := RowsO.kt (dotO_pst _) (show (47 : TypeId) ≠ 79 by decide) (RowsO.kt (dotO_pst _) (show (47 : TypeId) ≠ 27 by decide) (RowsO.kt (dotO_pst _) (show (47 : TypeId) ≠ 79 by decide) HO4.out KA) KB) (Kt.of_below (T := 79) (Below.refl _ _).drew)
          -- MD
          have d0 := boxc (HF.at 2 rfl) 0 (.string s) rfl
          have d1 := boxc (HF.at 2 rfl) 1 (.int .i64 (b7 : Int)) rfl
          have d2 := boxc (HF.at 2 rfl) 2 (.int .i64 (k7 : Int)) rfl
          have e0 := boxc (HF.at 1 rfl) 0 (.slice ao m cap) rfl
          have e1 := boxc (HF.at 1 rfl) 1 (.slice oa na ca) rfl
          have e2 := boxc (HF.at 1 rfl) 2 (.slice ov nv cv) rfl
          have e3 := boxc (HF.at 1 rfl) 3 (.slice oc nc cc) rfl
          simp only [wset] at d0 d1 d2 e0 e1 e2 e3
          go_wp2
          -- HERE2
          refine bodyPost_ret (v := .tuple #[.agg #[.string s, .int .i64 (b7 : Int), .int .i64 (k7 : Int)], .agg #[.slice ao m cap, .slice oa na ca, .slice ov nv cv, .slice oc nc cc]]) (by simp [results, Try.results36, go_sem, d0, d1, d2, e0, e1, e2, e3]) rfl ?_
          refine ⟨b7, _, _, (l, al, cx.1, cx.2), rfl, ⟨_, _, _, _, _, _, _, _, _, _, _, _, rfl, HO1', HO2', HO3', HO4'⟩, ?_, HF.1⟩
          unfold cd.delR
          rw [lst_siz]
          exact Qd.seq (Qd.seq HQ1.out HE.out) (Qd.seq HQ6.out (Qd.map (g := fun c : List cd.D × List cd.D => (l, al, c.1, c.2)) HQ7.out))
      · have hjI : ¬ (j : Int) < (n : Int) := by omega
        -- MFIN
        have HO1 := Lib.hid HO.out.base
        go_wp2_with fail
        (with_reducible refine (qdots s b5 k5 _ hs).mono ?_)
        rintro e w6 ⟨b6, k6, v, al, rfl, hE, hq, hb⟩
        obtain ⟨oa, na, ca, rfl⟩ := hE.form
        clear c0_0 f0_0 c0_1 f0_1 c0_2 f0_2 c0_3 f0_3 c1_0 f1_0 c1_1 f1_1 c1_2 f1_2 c1_3 f1_3 c2_0 f2_0 c2_1 f2_1 c2_2 f2_2 c3_0 f3_0 c3_1 f3_1 c3_2 f3_2
        replace HBr := Lib.hid (HBr.out.call hb)
        have HQ6 := Lib.hid hq
        have HO2 := Lib.hid hE.base
        replace HO1 := Lib.hid (RowsO.kt (entO_pst (T := 79) (show (91 : TypeId) ≠ 79 by decide)) (show (50 : TypeId) ≠ 79 by decide) HO1.out (Kt.of_below (T := 79) hb))
        have x0 := HBr.out.at 0 rfl
        have c0_0 := boxc x0 0 (.slice ao m cap) rfl
        have f0_0 := boxf x0 0
        have c0_1 := boxc x0 1 (.slice none 0 0) rfl
        have f0_1 := boxf x0 1
        have c0_2 := boxc x0 2 (.slice none 0 0) rfl
        have f0_2 := boxf x0 2
        have c0_3 := boxc x0 3 (.slice none 0 0) rfl
        have f0_3 := boxf x0 3
        have x1 := HBr.out.at 1 rfl
        have c1_0 := boxc x1 0 (.slice none 0 0) rfl
        have f1_0 := boxf x1 0
        have c1_1 := boxc x1 1 (.slice none 0 0) rfl
        have f1_1 := boxf x1 1
        have c1_2 := boxc x1 2 (.slice none 0 0) rfl
        have f1_2 := boxf x1 2
        have c1_3 := boxc x1 3 (.slice none 0 0) rfl
        have f1_3 := boxf x1 3
        have x2 := HBr.out.at 2 rfl
        have c2_0 := boxc x2 0 (.string ⟨#[]⟩) rfl
        have f2_0 := boxf x2 0
        have c2_1 := boxc x2 1 (.int .i64 0) rfl
        have f2_1 := boxf x2 1
        have c2_2 := boxc x2 2 (.int .i64 0) rfl
        have f2_2 := boxf x2 2
        have x3 := HBr.out.at 3 rfl
        have c3_0 := boxc x3 0 (.string s) rfl
        have f3_0 := boxf x3 0
        have c3_1 := boxc x3 1 (.int .i64 (b5 : Int)) rfl
        have f3_1 := boxf x3 1
        have c3_2 := boxc x3 2 (.int .i64 (k5 : Int)) rfl
        have f3_2 := boxf x3 2
        clear x0 x1 x2 x3
        have KA := wset_kt (rdrC s b6 k6) _ p 0 _ 79 (HBr.out.at 3 rfl)
        have HBx := HBr.out.w3 0 (rdrC s b6 k6)
        have KB := Kt.set (HBx.at 0 rfl) 1 (.slice oa na ca)
        replace HO1 := Lib.hid (RowsO.kt (entO_pst (T := 27) (show (91 : TypeId) ≠ 27 by decide)) (show (50 : TypeId) ≠ 27 by decide) (RowsO.kt (entO_pst (T := 79) (show (91 : TypeId) ≠ 79 by decide)) (show (50 : TypeId) ≠ 79 by decide) HO1.out KA) KB)
        replace HO2 := Lib.hid (RowsO.kt (dotO_pst _) (show (47 : TypeId) ≠ 27 by decide) (RowsO.kt (dotO_pst _) (show (47 : TypeId) ≠ 79 by decide) HO2.out KA) KB)
        replace HBr := Lib.hid (HBx.set0 1 (.slice oa na ca))
        clear hb hq hE HBx KA KB
        go_wp2_with fail
        (with_reducible refine (qctx s b6 k6 _ hs).mono ?_)
        rintro e w7 ⟨b7, k7, v, cx, rfl, ⟨ov, nv, cv, oc, nc, cc, rfl, hE1, hE2⟩, hq, hb⟩
        clear c0_0 f0_0 c0_1 f0_1 c0_2 f0_2 c0_3 f0_3 c1_0 f1_0 c1_1 f1_1 c1_2 f1_2 c1_3 f1_3 c2_0 f2_0 c2_1 f2_1 c2_2 f2_2 c3_0 f3_0 c3_1 f3_1 c3_2 f3_2
        replace HBr := Lib.hid (HBr.out.call hb)
        have HQ7 := Lib.hid hq
        have HO3 := Lib.hid hE1.base
        have HO4 := Lib.hid hE2.base
        replace HO1 := Lib.hid (RowsO.kt (entO_pst (T := 79) (show (91 : TypeId) ≠ 79 by decide)) (show (50 : TypeId) ≠ 79 by decide) HO1.out (Kt.of_below (T := 79) hb))
        replace HO2 := Lib.hid (RowsO.kt (dotO_pst _) (show (47 : TypeId) ≠ 79 by decide) HO2.out (Kt.of_below (T := 79) hb))
        have x0 := HBr.out.at 0 rfl
        have c0_0 := boxc x0 0 (.slice ao m cap) rfl
        have f0_0 := boxf x0 0
        have c0_1 := boxc x0 1 (.slice oa na ca) rfl
        have f0_1 := boxf x0 1
        have c0_2 := boxc x0 2 (.slice none 0 0) rfl
        have f0_2 := boxf x0 2
        have c0_3 := boxc x0 3 (.slice none 0 0) rfl
        have f0_3 := boxf x0 3
        have x1 := HBr.out.at 1 rfl
        have c1_0 := boxc x1 0 (.slice none 0 0) rfl
        have f1_0 := boxf x1 0
        have c1_1 := boxc x1 1 (.slice none 0 0) rfl
        have f1_1 := boxf x1 1
        have c1_2 := boxc x1 2 (.slice none 0 0) rfl
        have f1_2 := boxf x1 2
        have c1_3 := boxc x1 3 (.slice none 0 0) rfl
        have f1_3 := boxf x1 3
        have x2 := HBr.out.at 2 rfl
        have c2_0 := boxc x2 0 (.string ⟨#[]⟩) rfl
        have f2_0 := boxf x2 0
        have c2_1 := boxc x2 1 (.int .i64 0) rfl
        have f2_1 := boxf x2 1
        have c2_2 := boxc x2 2 (.int .i64 0) rfl
        have f2_2 := boxf x2 2
        have x3 := HBr.out.at 3 rfl
        have c3_0 := boxc x3 0 (.string s) rfl
        have f3_0 := boxf x3 0
        have c3_1 := boxc x3 1 (.int .i64 (b6 : Int)) rfl
        have f3_1 := boxf x3 1
        have c3_2 := boxc x3 2 (.int .i64 (k6 : Int)) rfl
        have f3_2 := boxf x3 2
        clear x0 x1 x2 x3
        have KA := wset_kt (rdrC s b7 k7) _ p 0 _ 79 (HBr.out.at 3 rfl)
        have HBx := HBr.out.w3 0 (rdrC s b7 k7)
        have KB := wset_kt [.slice ov nv cv, .slice oc nc cc] _ (p + 3) 2 _ 27 (HBx.at 0 rfl)
        replace HO1 := Lib.hid (RowsO.kt (entO_pst (T := 27) (show (91 : TypeId) ≠ 27 by decide)) (show (50 : TypeId) ≠ 27 by decide) (RowsO.kt (entO_pst (T := 79) (show (91 : TypeId) ≠ 79 by decide)) (show (50 : TypeId) ≠ 79 by decide) HO1.out KA) KB)
        replace HO2 := Lib.hid (RowsO.kt (dotO_pst _) (show (47 : TypeId) ≠ 27 by decide) (RowsO.kt (dotO_pst _) (show (47 : TypeId) ≠ 79 by decide) HO2.out KA) KB)
        replace HO3 := Lib.hid (RowsO.kt (dotO_pst _) (show (47 : TypeId) ≠ 27 by decide) (RowsO.kt (dotO_pst _) (show (47 : TypeId) ≠ 79 by decide) HO3.out KA) KB)
        replace HO4 := Lib.hid (RowsO.kt (dotO_pst _) (show (47 : TypeId) ≠ 27 by decide) (RowsO.kt (dotO_pst _) (show (47 : TypeId) ≠ 79 by decide) HO4.out KA) KB)
        have HBy := HBx.w0 2 [.slice ov nv cv, .slice oc nc cc]
        have HBz := Lib.hid HBy
        clear hb hq hE1 hE2
        clear c0_0 f0_0 c0_1 f0_1 c0_2 f0_2 c0_3 f0_3 c1_0 f1_0 c1_1 f1_1 c1_2 f1_2 c1_3 f1_3 c2_0 f2_0 c2_1 f2_1 c2_2 f2_2 c3_0 f3_0 c3_1 f3_1 c3_2 f3_2
        have x0 := HBr.out.at 0 rfl
        have c0_0 := boxc x0 0 (.slice ao m cap) rfl
        have f0_0 := boxf x0 0
        have c0_1 := boxc x0 1 (.slice oa na ca) rfl
        have f0_1 := boxf x0 1
        have c0_2 := boxc x0 2 (.slice none 0 0) rfl
        have f0_2 := boxf x0 2
        have c0_3 := boxc x0 3 (.slice none 0 0) rfl
        have f0_3 := boxf x0 3
        have x1 := HBr.out.at 1 rfl
        have c1_0 := boxc x1 0 (.slice none 0 0) rfl
        have f1_0 := boxf x1 0
        have c1_1 := boxc x1 1 (.slice none 0 0) rfl
        have f1_1 := boxf x1 1
        have c1_2 := boxc x1 2 (.slice none 0 0) rfl
        have f1_2 := boxf x1 2
        have c1_3 := boxc x1 3 (.slice none 0 0) rfl
        have f1_3 := boxf x1 3
        have x2 := HBr.out.at 2 rfl
        have c2_0 := boxc x2 0 (.string ⟨#[]⟩) rfl
        have f2_0 := boxf x2 0
        have c2_1 := boxc x2 1 (.int .i64 0) rfl
        have f2_1 := boxf x2 1
        have c2_2 := boxc x2 2 (.int .i64 0) rfl
        have f2_2 := boxf x2 2
        have x3 := HBr.out.at 3 rfl
        have c3_0 := boxc x3 0 (.string s) rfl
        have f3_0 := boxf x3 0
        have c3_1 := boxc x3 1 (.int .i64 (b6 : Int)) rfl
        have f3_1 := boxf x3 1
        have c3_2 := boxc x3 2 (.int .i64 (k6 : Int)) rfl
        have f3_2 := boxf x3 2
        clear x0 x1 x2 x3
        clear HBx HBy KA KB
        have g0_0 := boxc (HBz.out.at 0 rfl) 0 (.slice ao m cap) rfl
        have h0_0 := boxf (HBz.out.at 0 rfl) 0
        have g0_1 := boxc (HBz.out.at 0 rfl) 1 (.slice oa na ca) rfl
        have h0_1 := boxf (HBz.out.at 0 rfl) 1
        have g0_2 := boxc (HBz.out.at 0 rfl) 2 (.slice ov nv cv) rfl
        have h0_2 := boxf (HBz.out.at 0 rfl) 2
        have g0_3 := boxc (HBz.out.at 0 rfl) 3 (.slice oc nc cc) rfl
        have h0_3 := boxf (HBz.out.at 0 rfl) 3
        have g1_0 := boxc (HBz.out.at 1 rfl) 0 (.slice none 0 0) rfl
        have h1_0 := boxf (HBz.out.at 1 rfl) 0
        have g1_1 := boxc (HBz.out.at 1 rfl) 1 (.slice none 0 0) rfl
        have h1_1 := boxf (HBz.out.at 1 rfl) 1
        have g1_2 := boxc (HBz.out.at 1 rfl) 2 (.slice none 0 0) rfl
        have h1_2 := boxf (HBz.out.at 1 rfl) 2
        have g1_3 := boxc (HBz.out.at 1 rfl) 3 (.slice none 0 0) rfl
        have h1_3 := boxf (HBz.out.at 1 rfl) 3
        have g2_0 := boxc (HBz.out.at 2 rfl) 0 (.string ⟨#[]⟩) rfl
        have h2_0 := boxf (HBz.out.at 2 rfl) 0
        have g2_1 := boxc (HBz.out.at 2 rfl) 1 (.int .i64 0) rfl
        have h2_1 := boxf (HBz.out.at 2 rfl) 1
        have g2_2 := boxc (HBz.out.at 2 rfl) 2 (.int .i64 0) rfl
        have h2_2 := boxf (HBz.out.at 2 rfl) 2
        have g3_0 := boxc (HBz.out.at 3 rfl) 0 (.string s) rfl
        have h3_0 := boxf (HBz.out.at 3 rfl) 0
        have g3_1 := boxc (HBz.out.at 3 rfl) 1 (.int .i64 (b7 : Int)) rfl
        have h3_1 := boxf (HBz.out.at 3 rfl) 1
        have g3_2 := boxc (HBz.out.at 3 rfl) 2 (.int .i64 (k7 : Int)) rfl
        have h3_2 := boxf (HBz.out.at 3 rfl) 2
        simp only [wset] at g0_0 h0_0 g0_1 h0_1 g0_2 h0_2 g0_3 h0_3 g1_0 h1_0 g1_1 h1_1 g1_2 h1_2 g1_3 h1_3 g2_0 h2_0 g2_1 h2_1 g2_2 h2_2 g3_0 h3_0 g3_1 h3_1 g3_2 h3_2
        -- MB
        go_wp2
        -- HERE
        go_region
        all_goals
          -- MC
          have HF1 := HBz.out.w2 0 (rdrC s b7 k7)
          have HF0 := HF1.w1 0 [.slice ao m cap, .slice oa na ca, .slice ov nv cv, .slice oc nc cc]
          have HF := HF0.call (Below.refl _ _).drew
          have zA := HBz.out.at 2 rfl
          have zB := HF1.at 1 rfl
          have KA := wset_kt (rdrC s b7 k7) _ _ 0 _ _ zA
          have KB := wset_kt [.slice ao m cap, .slice oa na ca, .slice ov nv cv, .slice oc nc cc] _ _ 0 _ _ zB
          clear zA zB
          have HO1' := RowsO.kt (entO_pst (T := 79) (show (91 : TypeId) ≠ 79 by decide)) (show (50 : TypeId) ≠ 79 by decide) (RowsO.kt (entO_pst (T := 27) (show (91 : TypeId) ≠ 27 by decide)) (show (50 : TypeId) ≠ 27 by decide) (RowsO.kt (entO_pst (T := 79) (show (91 : TypeId) ≠ 79 by decide)) (show (50 : TypeId) ≠ 79 by decide) HO1.out KA) KB) (Kt.of_below (T := 79) (Below.refl _ _).drew)
          have HO2' := RowsO.kt (dotO_pst _) (show (47 : TypeId) ≠ 79 by decide) (RowsO.kt (dotO_pst _) (show (47 : TypeId) ≠ 27 by decide) (RowsO.kt (dotO_pst _) (show (47 : TypeId) ≠ 79 by decide) HO2.out KA) KB) (Kt.of_below (T := 79) (Below.refl _ _).drew)
          have HO3' := RowsO.kt (dotO_pst _) (show (47 : TypeId) ≠ 79 by decide) (RowsO.kt (dotO_pst _) (show (47 : TypeId) ≠ 27 by decide) (RowsO.kt (dotO_pst _) (show (47 : TypeId) ≠ 79 by decide) HO3.out KA) KB) (Kt.of_below (T := 79) (Below.refl _ _).drew)
          have HO4' := RowsO.kt (dotO_pst _) (show (47 : TypeId) ≠ 79 by decide) (RowsO.kt (dotO_pst _) (show (47 : TypeId) ≠ 27 by decide) (RowsO.kt (dotO_pst _) (show (47 : TypeId) ≠ 79 by decide) HO4.out KA) KB) (Kt.of_below (T := 79) (Below.refl _ _).drew)
          -- MD
          have d0 := boxc (HF.at 2 rfl) 0 (.string s) rfl
          have d1 := boxc (HF.at 2 rfl) 1 (.int .i64 (b7 : Int)) rfl
          have d2 := boxc (HF.at 2 rfl) 2 (.int .i64 (k7 : Int)) rfl
          have e0 := boxc (HF.at 1 rfl) 0 (.slice ao m cap) rfl
          have e1 := boxc (HF.at 1 rfl) 1 (.slice oa na ca) rfl
          have e2 := boxc (HF.at 1 rfl) 2 (.slice ov nv cv) rfl
          have e3 := boxc (HF.at 1 rfl) 3 (.slice oc nc cc) rfl
          simp only [wset] at d0 d1 d2 e0 e1 e2 e3
          go_wp2
          -- HERE2
          refine bodyPost_ret (v := .tuple #[.agg #[.string s, .int .i64 (b7 : Int), .int .i64 (k7 : Int)], .agg #[.slice ao m cap, .slice oa na ca, .slice ov nv cv, .slice oc nc cc]]) (by simp [results, Try.results36, go_sem, d0, d1, d2, e0, e1, e2, e3]) rfl ?_
          refine ⟨b7, _, _, (l, al, cx.1, cx.2), rfl, ⟨_, _, _, _, _, _, _, _, _, _, _, _, rfl, HO1', HO2', HO3', HO4'⟩, ?_, HF.1⟩
          unfold cd.delR
          rw [lst_siz]
          exact Qd.seq (Qd.seq HQ1.out HE.out) (Qd.seq HQ6.out (Qd.map (g := fun c : List cd.D × List cd.D => (l, al, c.1, c.2)) HQ7.out))
end Go.Proofs.Ytghbkieflifegaa
