/- codec: the document's reader: lists of dots, contexts. -/
import Derived.Test.YtghbkieflifegaaCdQ2
namespace Go.Proofs.Ytghbkieflifegaa
open Go.RowKit Go.ChangeShapes cl
theorem RowsO.low {α : Type} {B B' k : Nat} {T : TypeId} {R : RelO α} {w : World} {v : Value} {l : List α} (h : RowsO B T k R w v l) (hB : B' ≤ B) : RowsO B' T k R w v l := by
  obtain ⟨cs, h0, h1, h2⟩ := h
  exact ⟨cs, h0, h1, own_base h2 hB⟩
set_option maxHeartbeats 1600000 in
set_option maxRecDepth 100000 in
theorem qdots (s : ByteArray) (a c : Nat) (w : World) (hs : s.size ≤ 100000) :
    Calls Try.prog 61 #[.agg #[.string s, .int .i64 (a : Int), .int .i64 (c : Int)]] w (QA s (onR c (cd.lstR (kit.bytes s) (cd.dotR (kit.bytes s)) a)) (fun w' v l => RowsO w.heap.size 47 2 dotO w' v l) w) := by
  obtain ⟨W2, hW2⟩ : ∃ W, W = ((w.alloc (.cells #[.string s, .int .i64 (a : Int), .int .i64 (c : Int)] 79)).alloc (.cells #[.string ⟨#[]⟩, .int .i64 0, .int .i64 0] 79)) := ⟨_, rfl⟩
  have HB := Lib.hid (show Bxs w W2 [(w.heap.size + 1, 79, [.string ⟨#[]⟩, .int .i64 0, .int .i64 0]), (w.heap.size, 79, [.string s, .int .i64 (a : Int), .int .i64 (c : Int)])] by rw [hW2]; exact ((Bxs.nil w).add 79 [.string s, .int .i64 (a : Int), .int .i64 (c : Int)] rfl).add 79 [.string ⟨#[]⟩, .int .i64 0, .int .i64 0] (by simp))
  obtain ⟨p, hp⟩ : ∃ p, p = w.heap.size := ⟨_, rfl⟩
  rw [← hp] at HB
  have HN := Lib.hid (qsiz s a c W2 hs)
  go_enter Try.func61, Try.ntmps61
  go_wp2_with fail
  rw [← hp, ← hW2]
  clear hW2
  (with_reducible refine HN.out.mono ?_)
  rintro e w1 ⟨b1, k1, v, n, rfl, ⟨rfl, hn⟩, hq, hb⟩
  replace HB := Lib.hid (HB.out.call hb)
  have HQ := Lib.hid hq
  have x0 := HB.out.at 0 rfl
  have c0_0 := boxc x0 0 (.string ⟨#[]⟩) rfl
  have f0_0 := boxf x0 0
  have c0_1 := boxc x0 1 (.int .i64 0) rfl
  have f0_1 := boxf x0 1
  have c0_2 := boxc x0 2 (.int .i64 0) rfl
  have f0_2 := boxf x0 2
  have x1 := HB.out.at 1 rfl
  have c1_0 := boxc x1 0 (.string s) rfl
  have f1_0 := boxf x1 0
  have c1_1 := boxc x1 1 (.int .i64 (a : Int)) rfl
  have f1_1 := boxf x1 1
  have c1_2 := boxc x1 2 (.int .i64 (c : Int)) rfl
  have f1_2 := boxf x1 2
  clear x0 x1
  have HP := Lib.hid hp
  clear hp hb hq HN
  have HB1 := Lib.hid (((HB.out.set1 0 (.string s)).set1 1 (.int .i64 (b1 : Int))).set1 2 (.int .i64 (k1 : Int)))
  go_wp2
  go_loopw [5, 6, 23] (fun v i _ wr => ∃ (j b k : Nat) (l : List cd.D) (ao : Option Addr) (m cap : Nat), v = .slice ao m cap ∧ i = .int .i64 j ∧ j ≤ n ∧ Hid (Qd s (onR k1 (cd.repR (cd.dotR (kit.bytes s)) j b1)) l b k) ∧ Hid (Bxs w wr [(p + 1, 79, rdr0), (p, 79, rdrC s b k)]) ∧ Hid (RowsO w.heap.size 47 2 dotO wr (.slice ao m cap) l)) (fun _ i _ _ => n - (intOf i).toNat)
  case atStart => exact ⟨0, b1, k1, [], none, 0, 0, rfl, rfl, Nat.zero_le _, Qd.rep0 (fun h0 => by rcases HQ.out.inv with ⟨_, _, hb⟩ | ⟨h1, _⟩; exact hb; omega), HB1.out, RowsO.nil _⟩
  case round =>
    obtain ⟨j, b, k, l, ao, m, cap, rfl, rfl, hj, HQr, HBr, HO⟩ := hrel
    clear HB HB1
    clear c0_0 f0_0 c0_1 f0_1 c0_2 f0_2 c1_0 f1_0 c1_1 f1_1 c1_2 f1_2
    by_cases hk : k = 0
    · subst hk
      have x0 := HBr.out.at 0 rfl
      have c0_0 := boxc x0 0 (.string ⟨#[]⟩) rfl
      have f0_0 := boxf x0 0
      have c0_1 := boxc x0 1 (.int .i64 0) rfl
      have f0_1 := boxf x0 1
      have c0_2 := boxc x0 2 (.int .i64 0) rfl
      have f0_2 := boxf x0 2
      have x1 := HBr.out.at 1 rfl
      have c1_0 := boxc x1 0 (.string s) rfl
      have f1_0 := boxf x1 0
      have c1_1 := boxc x1 1 (.int .i64 (b : Int)) rfl
      have f1_1 := boxf x1 1
      have c1_2 := boxc x1 2 (.int .i64 0) rfl
      have f1_2 := boxf x1 2
      clear x0 x1
      by_cases hlt : j < n
      · have hjI : (j : Int) < (n : Int) := by omega
        have HC : Hid (∀ W : World, Calls Try.prog 68 #[.agg #[.string s, .int .i64 (b : Int), .int .i64 0]] W (QA s (onR 0 (cd.dotR (kit.bytes s) b)) (fun _ v x => v = .agg #[.int .i64 x.1, .int .i64 x.2]) W)) := fun W => qdot s b 0 W hs
        go_wp2_with fail
        (with_reducible refine (HC.out _).mono ?_)
        rintro e w2 ⟨b2, k2, v, y, rfl, rfl, hq2, hb2⟩
        clear c0_0 f0_0 c0_1 f0_1 c0_2 f0_2 c1_0 f1_0 c1_1 f1_1 c1_2 f1_2
        have HB2 := Lib.hid (HBr.out.call hb2)
        have HQ2 := Lib.hid hq2
        have HO2 := Lib.hid (RowsO.kt (dotO_pst _) (by decide) HO.out (Kt.of_below (T := 79) hb2))
        clear hq2 hb2
        have HB3 := Lib.hid ((HB2.out.add 79 (rdrC s b2 k2) rfl).add 47 [.int .i64 y.1, .int .i64 y.2] (q := w2.heap.size + 1) (by simp))
        have x0 := HB3.out.at 0 rfl
        have c0_0 := boxc x0 0 (.int .i64 y.1) rfl
        have f0_0 := boxf x0 0
        have c0_1 := boxc x0 1 (.int .i64 y.2) rfl
        have f0_1 := boxf x0 1
        have x1 := HB3.out.at 1 rfl
        have c1_0 := boxc x1 0 (.string s) rfl
        have f1_0 := boxf x1 0
        have c1_1 := boxc x1 1 (.int .i64 (b2 : Int)) rfl
        have f1_1 := boxf x1 1
        have c1_2 := boxc x1 2 (.int .i64 (k2 : Int)) rfl
        have f1_2 := boxf x1 2
        have x2 := HB3.out.at 2 rfl
        have c2_0 := boxc x2 0 (.string ⟨#[]⟩) rfl
        have f2_0 := boxf x2 0
        have c2_1 := boxc x2 1 (.int .i64 0) rfl
        have f2_1 := boxf x2 1
        have c2_2 := boxc x2 2 (.int .i64 0) rfl
        have f2_2 := boxf x2 2
        have x3 := HB3.out.at 3 rfl
        have c3_0 := boxc x3 0 (.string s) rfl
        have f3_0 := boxf x3 0
        have c3_1 := boxc x3 1 (.int .i64 (b : Int)) rfl
        have f3_1 := boxf x3 1
        have c3_2 := boxc x3 2 (.int .i64 0) rfl
        have f3_2 := boxf x3 2
        clear x0 x1 x2 x3
        obtain ⟨X, hX⟩ : ∃ X, X = (((((w2.alloc (.cells #[.string s, .int .i64 (b2 : Int), .int .i64 (k2 : Int)] 79)).alloc (.cells #[.int .i64 y.1, .int .i64 y.2] 47)).setCell ⟨p, 0, none⟩ (.string s)).setCell ⟨p, 1, none⟩ (.int .i64 (b2 : Int))).setCell ⟨p, 2, none⟩ (.int .i64 (k2 : Int))) := ⟨_, rfl⟩
        have HB4 : Hid (Bxs w X [(w2.heap.size + 1, 47, [.int .i64 y.1, .int .i64 y.2]), (w2.heap.size, 79, rdrC s b2 k2), (p + 1, 79, rdr0), (p, 79, rdrC s b2 k2)]) := by rw [hX]; exact ((HB3.out.set3 0 (.string s)).set3 1 (.int .i64 (b2 : Int))).set3 2 (.int .i64 (k2 : Int))
        have hkx : Kt 79 w2 X := by rw [hX]; exact (Kt.of_below (below1.trans (below1.mono (by simp)))).trans (((Kt.set (HB3.out.at 3 rfl) 0 (.string s)).trans (Kt.set ((HB3.out.set3 0 (.string s)).at 3 rfl) 1 (.int .i64 (b2 : Int)))).trans (Kt.set (((HB3.out.set3 0 (.string s)).set3 1 (.int .i64 (b2 : Int))).at 3 rfl) 2 (.int .i64 (k2 : Int))))
        obtain ⟨cs, e0, e1, hown⟩ := RowsO.kt (dotO_pst _) (by decide) HO2.out hkx
        have hz : w2.heap.size + 1 + 1 = X.heap.size := by rw [hX]; simp
        have y0 := boxc (HB4.out.at 0 rfl) 0 (.int .i64 y.1) rfl
        have y1 := boxc (HB4.out.at 0 rfl) 1 (.int .i64 y.2) rfl
        rw [hX] at y0 y1
        have hl : l.length ≤ 4000 := by have := HQr.out.len; omega
        have hz2 : w.heap.size ≤ X.heap.size := HB4.out.1.size
        have HZ := Lib.hid hz
        have HX := Lib.hid hX
        have HE0 := Lib.hid e0
        have HE1 := Lib.hid e1
        clear hz hX e0 e1 hkx
        go_wp2_with (at_builtin; rw [← HX.out]; refine app1gB (w2.heap.size + 1 + 1) HZ.out (.tmp 30) (.tmp 32) 23 rfl rfl w.heap.size Try.underlying23 info_dot rfl (by decide) (by decide) hown rfl rfl rfl (by intro u hu; simp at hu; rcases hu with rfl | rfl <;> rfl) (by omega) hz2 ?_)
        intro v' w3 hown' hg3
        have HO' : Hid (RowsO w.heap.size 47 2 dotO w3 v' (l ++ [y])) := RowsO.snoc (c := [.int .i64 y.1, .int .i64 y.2]) HE0.out HE1.out (app_kt hown hg3) (dotO_pst _) rfl rfl (by simpa using hown')
        have HB5 := Lib.hid (HB4.out.tail.tail.kt (app_kt hown hg3) (HB4.out.1.trans (app_below hown hz2 hg3)) (by intro z hz; simp only [List.mem_cons, List.not_mem_nil, or_false] at hz; rcases hz with rfl | rfl <;> (show (79 : TypeId) ≠ 47; decide)))
        obtain ⟨o3, m3, c3, rfl⟩ := own_slice hown'
        clear hown' hown hg3 y0 y1
        clear c0_0 f0_0 c0_1 f0_1 c1_0 f1_0 c1_1 f1_1 c1_2 f1_2 c2_0 f2_0 c2_1 f2_1 c2_2 f2_2 c3_0 f3_0 c3_1 f3_1 c3_2 f3_2
        go_wp2
        go_roundw
        case rel => exact ⟨j + 1, b2, k2, l ++ [y], o3, m3, c3, rfl, by go_num, by omega, HQr.out.rep1 HQ2.out, HB5.out, HO'.out⟩
        case measure => simp [intOf]; omega
      · obtain rfl : j = n := by omega
        go_wp2
        have HF := (((HBr.out.set0 0 (.string s)).set0 1 (.int .i64 (b : Int))).set0 2 (.int .i64 0))
        have d0 := boxc (HF.at 0 rfl) 0 (.string s) rfl
        have d1 := boxc (HF.at 0 rfl) 1 (.int .i64 (b : Int)) rfl
        have d2 := boxc (HF.at 0 rfl) 2 (.int .i64 0) rfl
        have HO' := RowsO.kt (dotO_pst _) (show (47 : TypeId) ≠ 79 by decide) HO.out (((Kt.set (HBr.out.at 0 rfl) 0 (.string s)).trans (Kt.set ((HBr.out.set0 0 (.string s)).at 0 rfl) 1 (.int .i64 (b : Int)))).trans (Kt.set (((HBr.out.set0 0 (.string s)).set0 1 (.int .i64 (b : Int))).at 0 rfl) 2 (.int .i64 0)))
        refine bodyPost_ret (v := .tuple #[.agg #[.string s, .int .i64 (b : Int), .int .i64 0], .slice ao m cap]) (by simp [results, Try.results61, go_sem, d0, d1, d2]) rfl ?_
        exact ⟨b, _, _, l, rfl, HO', by rw [lst_siz]; exact Qd.seq HQ.out HQr.out, HF.1⟩
    · have hc0 : ((k : Int) == 0) = false := beq_eq_false_iff_ne.2 (by omega)
      have x0 := HBr.out.at 0 rfl
      have c0_0 := boxc x0 0 (.string ⟨#[]⟩) rfl
      have f0_0 := boxf x0 0
      have c0_1 := boxc x0 1 (.int .i64 0) rfl
      have f0_1 := boxf x0 1
      have c0_2 := boxc x0 2 (.int .i64 0) rfl
      have f0_2 := boxf x0 2
      have x1 := HBr.out.at 1 rfl
      have c1_0 := boxc x1 0 (.string s) rfl
      have f1_0 := boxf x1 0
      have c1_1 := boxc x1 1 (.int .i64 (b : Int)) rfl
      have f1_1 := boxf x1 1
      have c1_2 := boxc x1 2 (.int .i64 (k : Int)) rfl
      have f1_2 := boxf x1 2
      clear x0 x1
      have HE := Lib.hid (HQr.out.repE hk hj)
      clear hk
      by_cases hlt : j < n
      · have hjI : (j : Int) < (n : Int) := by omega
        go_wp2
        have HF := (((HBr.out.set0 0 (.string s)).set0 1 (.int .i64 (b : Int))).set0 2 (.int .i64 (k : Int)))
        have d0 := boxc (HF.at 0 rfl) 0 (.string s) rfl
        have d1 := boxc (HF.at 0 rfl) 1 (.int .i64 (b : Int)) rfl
        have d2 := boxc (HF.at 0 rfl) 2 (.int .i64 (k : Int)) rfl
        have HO' := RowsO.kt (dotO_pst _) (show (47 : TypeId) ≠ 79 by decide) HO.out (((Kt.set (HBr.out.at 0 rfl) 0 (.string s)).trans (Kt.set ((HBr.out.set0 0 (.string s)).at 0 rfl) 1 (.int .i64 (b : Int)))).trans (Kt.set (((HBr.out.set0 0 (.string s)).set0 1 (.int .i64 (b : Int))).at 0 rfl) 2 (.int .i64 (k : Int))))
        refine bodyPost_ret (v := .tuple #[.agg #[.string s, .int .i64 (b : Int), .int .i64 (k : Int)], .slice ao m cap]) (by simp [results, Try.results61, go_sem, d0, d1, d2]) rfl ?_
        exact ⟨b, _, _, l, rfl, HO', by rw [lst_siz]; exact Qd.seq HQ.out HE.out, HF.1⟩
      · have hjI : ¬ (j : Int) < (n : Int) := by omega
        go_wp2
        have HF := (((HBr.out.set0 0 (.string s)).set0 1 (.int .i64 (b : Int))).set0 2 (.int .i64 (k : Int)))
        have d0 := boxc (HF.at 0 rfl) 0 (.string s) rfl
        have d1 := boxc (HF.at 0 rfl) 1 (.int .i64 (b : Int)) rfl
        have d2 := boxc (HF.at 0 rfl) 2 (.int .i64 (k : Int)) rfl
        have HO' := RowsO.kt (dotO_pst _) (show (47 : TypeId) ≠ 79 by decide) HO.out (((Kt.set (HBr.out.at 0 rfl) 0 (.string s)).trans (Kt.set ((HBr.out.set0 0 (.string s)).at 0 rfl) 1 (.int .i64 (b : Int)))).trans (Kt.set (((HBr.out.set0 0 (.string s)).set0 1 (.int .i64 (b : Int))).at 0 rfl) 2 (.int .i64 (k : Int))))
        refine bodyPost_ret (v := .tuple #[.agg #[.string s, .int .i64 (b : Int), .int .i64 (k : Int)], .slice ao m cap]) (by simp [results, Try.results61, go_sem, d0, d1, d2]) rfl ?_
        exact ⟨b, _, _, l, rfl, HO', by rw [lst_siz]; exact Qd.seq HQ.out HE.out, HF.1⟩
end Go.Proofs.Ytghbkieflifegaa
