/- codec: the document's reader: messages. -/
import Derived.Test.YtghbkieflifegaaCdQ6
import Derived.Test.YtghbkieflifegaaCdL1
import Derived.Laws.Tables
import Derived.Test.YtghbkieflifegaaFlow
import Derived.Laws.Rows
import Derived.Laws.CopyOwn
namespace Go.Proofs.Ytghbkieflifegaa
open Go Go.RowKit Go.ChangeShapes cl
def GD (w' : World) (v1 v2 v3 v4 : Value) (x : List cd.Ent × List cd.D × List cd.D × List cd.D) : Prop := RowsO 0 50 5 entO w' v1 x.1 ∧ RowsO 0 47 2 dotO w' v2 x.2.1 ∧ RowsO 0 47 2 dotO w' v3 x.2.2.1 ∧ RowsO 0 47 2 dotO w' v4 x.2.2.2
theorem GD.kt {w w' : World} {v1 v2 v3 v4 : Value} {x : List cd.Ent × List cd.D × List cd.D × List cd.D} {T : TypeId} (h : GD w v1 v2 v3 v4 x) (h1 : 91 ≠ T) (h2 : 50 ≠ T) (h3 : 47 ≠ T) (hk : Kt T w w') : GD w' v1 v2 v3 v4 x :=
  ⟨RowsO.kt (entO_pst h1) h2 h.1 hk, RowsO.kt (dotO_pst _) h3 h.2.1 hk, RowsO.kt (dotO_pst _) h3 h.2.2.1 hk, RowsO.kt (dotO_pst _) h3 h.2.2.2 hk⟩
def GC (w' : World) (v1 v2 : Value) (x : List cd.D × List cd.D) : Prop := RowsO 0 47 2 dotO w' v1 x.1 ∧ RowsO 0 47 2 dotO w' v2 x.2
theorem GC.kt {w w' : World} {v1 v2 : Value} {x : List cd.D × List cd.D} {T : TypeId} (h : GC w v1 v2 x) (h3 : 47 ≠ T) (hk : Kt T w w') : GC w' v1 v2 x :=
  ⟨RowsO.kt (dotO_pst _) h3 h.1 hk, RowsO.kt (dotO_pst _) h3 h.2 hk⟩
theorem msize : (Try.prog.info? 33).map (·.size) = some 16 := by kernel_rfl
theorem cell_row {W : World} {q r i : Nat} (cs : Array Value) (h : r ≠ q) : (W.setRow q cs).cell? ⟨r, i, none⟩ = W.cell? ⟨r, i, none⟩ := by
  unfold World.cell?
  rw [setRow_other _ _ _ _ h]
theorem Kt.row {W : World} {q : Nat} {cur : Array Value} {T : TypeId} (h : W.heap[q]? = some (.cells cur T (0, 0))) (cs : Array Value) : Kt T W (W.setRow q cs) :=
  ⟨by rw [setRow_size]; exact Nat.le_refl _, fun k _ hn => setRow_other _ _ _ _ (fun e => by subst e; exact hn _ _ h)⟩
set_option maxHeartbeats 51200000 in
set_option maxRecDepth 100000 in
theorem qread (s : ByteArray) (w : World) (hs : s.size ≤ 100000) :
    Calls Try.prog 13 #[.string s] w (ReadAns (cd.read (kit.bytes s)) w) := by
  obtain ⟨W2, hW2⟩ : ∃ W, W = ((w.alloc (.cells #[.int .i64 0, .int .i64 0, .int .i64 0, .int .i64 0, .int .i64 0, .slice none 0 0, .slice none 0 0, .slice none 0 0, .slice none 0 0, .slice none 0 0, .slice none 0 0, .int .i64 0, .string ⟨#[]⟩, .string ⟨#[]⟩, .slice none 0 0, .int .i64 0] 33)).alloc (.cells #[.string s, .int .i64 0, .int .i64 0] 79)).alloc (.cells #[.int .i64 0, .int .i64 0, .int .i64 0, .int .i64 0, .int .i64 0, .slice none 0 0, .slice none 0 0, .slice none 0 0, .slice none 0 0, .slice none 0 0, .slice none 0 0, .int .i64 0, .string ⟨#[]⟩, .string ⟨#[]⟩, .slice none 0 0, .int .i64 0] 33) := ⟨_, rfl⟩
  have HB : Hid (Bxs w W2 [(w.heap.size + 2, 33, [.int .i64 0, .int .i64 0, .int .i64 0, .int .i64 0, .int .i64 0, .slice none 0 0, .slice none 0 0, .slice none 0 0, .slice none 0 0, .slice none 0 0, .slice none 0 0, .int .i64 0, .string ⟨#[]⟩, .string ⟨#[]⟩, .slice none 0 0, .int .i64 0]), (w.heap.size + 1, 79, rdrC s 0 0), (w.heap.size, 33, [.int .i64 0, .int .i64 0, .int .i64 0, .int .i64 0, .int .i64 0, .slice none 0 0, .slice none 0 0, .slice none 0 0, .slice none 0 0, .slice none 0 0, .slice none 0 0, .int .i64 0, .string ⟨#[]⟩, .string ⟨#[]⟩, .slice none 0 0, .int .i64 0])]) := by
    show Bxs _ _ _
    rw [hW2]; exact (((Bxs.nil w).add 33 [.int .i64 0, .int .i64 0, .int .i64 0, .int .i64 0, .int .i64 0, .slice none 0 0, .slice none 0 0, .slice none 0 0, .slice none 0 0, .slice none 0 0, .slice none 0 0, .int .i64 0, .string ⟨#[]⟩, .string ⟨#[]⟩, .slice none 0 0, .int .i64 0] rfl).add 79 (rdrC s 0 0) (by simp)).add 33 [.int .i64 0, .int .i64 0, .int .i64 0, .int .i64 0, .int .i64 0, .slice none 0 0, .slice none 0 0, .slice none 0 0, .slice none 0 0, .slice none 0 0, .slice none 0 0, .int .i64 0, .string ⟨#[]⟩, .string ⟨#[]⟩, .slice none 0 0, .int .i64 0] (by simp)
  obtain ⟨p, hp⟩ : ∃ p, p = w.heap.size := ⟨_, rfl⟩
  rw [← hp] at HB
  have HN : Hid (Calls Try.prog 35 #[.agg #[.string s, .int .i64 0, .int .i64 0]] W2 (QA s (onR 0 (cd.numR (kit.bytes s) 0)) (fun _ v n => v = .int .i64 (n : Int)) W2)) := qnum s 0 0 W2 hs
  go_enter Try.func13, Try.ntmps13
  go_wp2_with fail
  rw [← hp, ← hW2]
  clear hW2
  (with_reducible refine HN.out.mono ?_)
  rintro e w1 ⟨b1, k1, v, m0, rfl, rfl, hq, hb⟩
  replace HB := Lib.hid (HB.out.call hb)
  have HQ1 := Lib.hid hq
  have x0 := HB.out.at 0 rfl
  have c0_0 := boxc x0 0 (.int .i64 0) rfl
  have f0_0 := boxf x0 0
  clear x0
  have x1 := HB.out.at 1 rfl
  have c1_0 := boxc x1 0 (.string s) rfl
  have f1_0 := boxf x1 0
  have c1_1 := boxc x1 1 (.int .i64 0) rfl
  have f1_1 := boxf x1 1
  have c1_2 := boxc x1 2 (.int .i64 0) rfl
  have f1_2 := boxf x1 2
  clear x1
  clear hb hq
  replace HB : Hid (Bxs w _ [(p + 2, 33, [.int .i64 0, .int .i64 0, .int .i64 0, .int .i64 0, .int .i64 0, .slice none 0 0, .slice none 0 0, .slice none 0 0, .slice none 0 0, .slice none 0 0, .slice none 0 0, .int .i64 0, .string ⟨#[]⟩, .string ⟨#[]⟩, .slice none 0 0, .int .i64 0]), (p + 1, 79, [.string s, .int .i64 (b1 : Int), .int .i64 (k1 : Int)]), (p, 33, [.int .i64 0, .int .i64 0, .int .i64 0, .int .i64 0, .int .i64 0, .slice none 0 0, .slice none 0 0, .slice none 0 0, .slice none 0 0, .slice none 0 0, .slice none 0 0, .int .i64 0, .string ⟨#[]⟩, .string ⟨#[]⟩, .slice none 0 0, .int .i64 0])]) := Lib.hid (HB.out.w1 0 (rdrC s b1 k1))
  replace HB : Hid (Bxs w _ [(p + 2, 33, [.int .i64 (m0 : Int), .int .i64 0, .int .i64 0, .int .i64 0, .int .i64 0, .slice none 0 0, .slice none 0 0, .slice none 0 0, .slice none 0 0, .slice none 0 0, .slice none 0 0, .int .i64 0, .string ⟨#[]⟩, .string ⟨#[]⟩, .slice none 0 0, .int .i64 0]), (p + 1, 79, [.string s, .int .i64 (b1 : Int), .int .i64 (k1 : Int)]), (p, 33, [.int .i64 0, .int .i64 0, .int .i64 0, .int .i64 0, .int .i64 0, .slice none 0 0, .slice none 0 0, .slice none 0 0, .slice none 0 0, .slice none 0 0, .slice none 0 0, .int .i64 0, .string ⟨#[]⟩, .string ⟨#[]⟩, .slice none 0 0, .int .i64 0])]) := Lib.hid (HB.out.w0 0 [.int .i64 (m0 : Int)])
  clear hp HN
  go_wp2_with fail
  (with_reducible refine (qnum s b1 k1 _ hs).mono ?_)
  rintro e w2 ⟨b2, k2, v, m1, rfl, rfl, hq, hb⟩
  clear c0_0 f0_0 c1_0 f1_0 c1_1 f1_1 c1_2 f1_2
  replace HB := Lib.hid (HB.out.call hb)
  have HQ2 := Lib.hid hq
  have x0 := HB.out.at 0 rfl
  have c0_1 := boxc x0 1 (.int .i64 0) rfl
  have f0_1 := boxf x0 1
  clear x0
  have x1 := HB.out.at 1 rfl
  have c1_0 := boxc x1 0 (.string s) rfl
  have f1_0 := boxf x1 0
  have c1_1 := boxc x1 1 (.int .i64 (b1 : Int)) rfl
  have f1_1 := boxf x1 1
  have c1_2 := boxc x1 2 (.int .i64 (k1 : Int)) rfl
  have f1_2 := boxf x1 2
  clear x1
  clear hb hq
  replace HB : Hid (Bxs w _ [(p + 2, 33, [.int .i64 (m0 : Int), .int .i64 0, .int .i64 0, .int .i64 0, .int .i64 0, .slice none 0 0, .slice none 0 0, .slice none 0 0, .slice none 0 0, .slice none 0 0, .slice none 0 0, .int .i64 0, .string ⟨#[]⟩, .string ⟨#[]⟩, .slice none 0 0, .int .i64 0]), (p + 1, 79, [.string s, .int .i64 (b2 : Int), .int .i64 (k2 : Int)]), (p, 33, [.int .i64 0, .int .i64 0, .int .i64 0, .int .i64 0, .int .i64 0, .slice none 0 0, .slice none 0 0, .slice none 0 0, .slice none 0 0, .slice none 0 0, .slice none 0 0, .int .i64 0, .string ⟨#[]⟩, .string ⟨#[]⟩, .slice none 0 0, .int .i64 0])]) := Lib.hid (HB.out.w1 0 (rdrC s b2 k2))
  replace HB : Hid (Bxs w _ [(p + 2, 33, [.int .i64 (m0 : Int), .int .i64 (m1 : Int), .int .i64 0, .int .i64 0, .int .i64 0, .slice none 0 0, .slice none 0 0, .slice none 0 0, .slice none 0 0, .slice none 0 0, .slice none 0 0, .int .i64 0, .string ⟨#[]⟩, .string ⟨#[]⟩, .slice none 0 0, .int .i64 0]), (p + 1, 79, [.string s, .int .i64 (b2 : Int), .int .i64 (k2 : Int)]), (p, 33, [.int .i64 0, .int .i64 0, .int .i64 0, .int .i64 0, .int .i64 0, .slice none 0 0, .slice none 0 0, .slice none 0 0, .slice none 0 0, .slice none 0 0, .slice none 0 0, .int .i64 0, .string ⟨#[]⟩, .string ⟨#[]⟩, .slice none 0 0, .int .i64 0])]) := Lib.hid (HB.out.w0 1 [.int .i64 (m1 : Int)])
  go_wp2_with fail
  (with_reducible refine (qnum s b2 k2 _ hs).mono ?_)
  rintro e w3 ⟨b3, k3, v, m2, rfl, rfl, hq, hb⟩
  clear c0_1 f0_1 c1_0 f1_0 c1_1 f1_1 c1_2 f1_2
  replace HB := Lib.hid (HB.out.call hb)
  have HQ3 := Lib.hid hq
  have x0 := HB.out.at 0 rfl
  have c0_2 := boxc x0 2 (.int .i64 0) rfl
  have f0_2 := boxf x0 2
  clear x0
  have x1 := HB.out.at 1 rfl
  have c1_0 := boxc x1 0 (.string s) rfl
  have f1_0 := boxf x1 0
  have c1_1 := boxc x1 1 (.int .i64 (b2 : Int)) rfl
  have f1_1 := boxf x1 1
  have c1_2 := boxc x1 2 (.int .i64 (k2 : Int)) rfl
  have f1_2 := boxf x1 2
  clear x1
  clear hb hq
  replace HB : Hid (Bxs w _ [(p + 2, 33, [.int .i64 (m0 : Int), .int .i64 (m1 : Int), .int .i64 0, .int .i64 0, .int .i64 0, .slice none 0 0, .slice none 0 0, .slice none 0 0, .slice none 0 0, .slice none 0 0, .slice none 0 0, .int .i64 0, .string ⟨#[]⟩, .string ⟨#[]⟩, .slice none 0 0, .int .i64 0]), (p + 1, 79, [.string s, .int .i64 (b3 : Int), .int .i64 (k3 : Int)]), (p, 33, [.int .i64 0, .int .i64 0, .int .i64 0, .int .i64 0, .int .i64 0, .slice none 0 0, .slice none 0 0, .slice none 0 0, .slice none 0 0, .slice none 0 0, .slice none 0 0, .int .i64 0, .string ⟨#[]⟩, .string ⟨#[]⟩, .slice none 0 0, .int .i64 0])]) := Lib.hid (HB.out.w1 0 (rdrC s b3 k3))
  replace HB : Hid (Bxs w _ [(p + 2, 33, [.int .i64 (m0 : Int), .int .i64 (m1 : Int), .int .i64 (m2 : Int), .int .i64 0, .int .i64 0, .slice none 0 0, .slice none 0 0, .slice none 0 0, .slice none 0 0, .slice none 0 0, .slice none 0 0, .int .i64 0, .string ⟨#[]⟩, .string ⟨#[]⟩, .slice none 0 0, .int .i64 0]), (p + 1, 79, [.string s, .int .i64 (b3 : Int), .int .i64 (k3 : Int)]), (p, 33, [.int .i64 0, .int .i64 0, .int .i64 0, .int .i64 0, .int .i64 0, .slice none 0 0, .slice none 0 0, .slice none 0 0, .slice none 0 0, .slice none 0 0, .slice none 0 0, .int .i64 0, .string ⟨#[]⟩, .string ⟨#[]⟩, .slice none 0 0, .int .i64 0])]) := Lib.hid (HB.out.w0 2 [.int .i64 (m2 : Int)])
  go_wp2_with fail
  (with_reducible refine (qnum s b3 k3 _ hs).mono ?_)
  rintro e w4 ⟨b4, k4, v, m3, rfl, rfl, hq, hb⟩
  clear c0_2 f0_2 c1_0 f1_0 c1_1 f1_1 c1_2 f1_2
  replace HB := Lib.hid (HB.out.call hb)
  have HQ4 := Lib.hid hq
  have x0 := HB.out.at 0 rfl
  have c0_3 := boxc x0 3 (.int .i64 0) rfl
  have f0_3 := boxf x0 3
  clear x0
  have x1 := HB.out.at 1 rfl
  have c1_0 := boxc x1 0 (.string s) rfl
  have f1_0 := boxf x1 0
  have c1_1 := boxc x1 1 (.int .i64 (b3 : Int)) rfl
  have f1_1 := boxf x1 1
  have c1_2 := boxc x1 2 (.int .i64 (k3 : Int)) rfl
  have f1_2 := boxf x1 2
  clear x1
  clear hb hq
  replace HB : Hid (Bxs w _ [(p + 2, 33, [.int .i64 (m0 : Int), .int .i64 (m1 : Int), .int .i64 (m2 : Int), .int .i64 0, .int .i64 0, .slice none 0 0, .slice none 0 0, .slice none 0 0, .slice none 0 0, .slice none 0 0, .slice none 0 0, .int .i64 0, .string ⟨#[]⟩, .string ⟨#[]⟩, .slice none 0 0, .int .i64 0]), (p + 1, 79, [.string s, .int .i64 (b4 : Int), .int .i64 (k4 : Int)]), (p, 33, [.int .i64 0, .int .i64 0, .int .i64 0, .int .i64 0, .int .i64 0, .slice none 0 0, .slice none 0 0, .slice none 0 0, .slice none 0 0, .slice none 0 0, .slice none 0 0, .int .i64 0, .string ⟨#[]⟩, .string ⟨#[]⟩, .slice none 0 0, .int .i64 0])]) := Lib.hid (HB.out.w1 0 (rdrC s b4 k4))
  replace HB : Hid (Bxs w _ [(p + 2, 33, [.int .i64 (m0 : Int), .int .i64 (m1 : Int), .int .i64 (m2 : Int), .int .i64 (m3 : Int), .int .i64 0, .slice none 0 0, .slice none 0 0, .slice none 0 0, .slice none 0 0, .slice none 0 0, .slice none 0 0, .int .i64 0, .string ⟨#[]⟩, .string ⟨#[]⟩, .slice none 0 0, .int .i64 0]), (p + 1, 79, [.string s, .int .i64 (b4 : Int), .int .i64 (k4 : Int)]), (p, 33, [.int .i64 0, .int .i64 0, .int .i64 0, .int .i64 0, .int .i64 0, .slice none 0 0, .slice none 0 0, .slice none 0 0, .slice none 0 0, .slice none 0 0, .slice none 0 0, .int .i64 0, .string ⟨#[]⟩, .string ⟨#[]⟩, .slice none 0 0, .int .i64 0])]) := Lib.hid (HB.out.w0 3 [.int .i64 (m3 : Int)])
  go_wp2_with fail
  (with_reducible refine (qnum s b4 k4 _ hs).mono ?_)
  rintro e w5 ⟨b5, k5, v, m4, rfl, rfl, hq, hb⟩
  clear c0_3 f0_3 c1_0 f1_0 c1_1 f1_1 c1_2 f1_2
  replace HB := Lib.hid (HB.out.call hb)
  have HQ5 := Lib.hid hq
  have x0 := HB.out.at 0 rfl
  have c0_4 := boxc x0 4 (.int .i64 0) rfl
  have f0_4 := boxf x0 4
  clear x0
  have x1 := HB.out.at 1 rfl
  have c1_0 := boxc x1 0 (.string s) rfl
  have f1_0 := boxf x1 0
  have c1_1 := boxc x1 1 (.int .i64 (b4 : Int)) rfl
  have f1_1 := boxf x1 1
  have c1_2 := boxc x1 2 (.int .i64 (k4 : Int)) rfl
  have f1_2 := boxf x1 2
  clear x1
  clear hb hq
  replace HB : Hid (Bxs w _ [(p + 2, 33, [.int .i64 (m0 : Int), .int .i64 (m1 : Int), .int .i64 (m2 : Int), .int .i64 (m3 : Int), .int .i64 0, .slice none 0 0, .slice none 0 0, .slice none 0 0, .slice none 0 0, .slice none 0 0, .slice none 0 0, .int .i64 0, .string ⟨#[]⟩, .string ⟨#[]⟩, .slice none 0 0, .int .i64 0]), (p + 1, 79, [.string s, .int .i64 (b5 : Int), .int .i64 (k5 : Int)]), (p, 33, [.int .i64 0, .int .i64 0, .int .i64 0, .int .i64 0, .int .i64 0, .slice none 0 0, .slice none 0 0, .slice none 0 0, .slice none 0 0, .slice none 0 0, .slice none 0 0, .int .i64 0, .string ⟨#[]⟩, .string ⟨#[]⟩, .slice none 0 0, .int .i64 0])]) := Lib.hid (HB.out.w1 0 (rdrC s b5 k5))
  replace HB : Hid (Bxs w _ [(p + 2, 33, [.int .i64 (m0 : Int), .int .i64 (m1 : Int), .int .i64 (m2 : Int), .int .i64 (m3 : Int), .int .i64 (m4 : Int), .slice none 0 0, .slice none 0 0, .slice none 0 0, .slice none 0 0, .slice none 0 0, .slice none 0 0, .int .i64 0, .string ⟨#[]⟩, .string ⟨#[]⟩, .slice none 0 0, .int .i64 0]), (p + 1, 79, [.string s, .int .i64 (b5 : Int), .int .i64 (k5 : Int)]), (p, 33, [.int .i64 0, .int .i64 0, .int .i64 0, .int .i64 0, .int .i64 0, .slice none 0 0, .slice none 0 0, .slice none 0 0, .slice none 0 0, .slice none 0 0, .slice none 0 0, .int .i64 0, .string ⟨#[]⟩, .string ⟨#[]⟩, .slice none 0 0, .int .i64 0])]) := Lib.hid (HB.out.w0 4 [.int .i64 (m4 : Int)])
  skip
  go_wp2_with fail
  (with_reducible refine (qchg s b5 k5 _ hs).mono ?_)
  rintro e w6 ⟨b6, k6, v, del, rfl, ⟨oe, ne, ke, oa, na, ka, ov, nv, kv, oc, nc, kc, rfl, hE1, hE2, hE3, hE4⟩, hq, hb⟩
  clear c0_4 f0_4 c1_0 f1_0 c1_1 f1_1 c1_2 f1_2
  have HGD : Hid (GD w6 (.slice oe ne ke) (.slice oa na ka) (.slice ov nv kv) (.slice oc nc kc) del) := ⟨hE1, hE2, hE3, hE4⟩
  clear hE1 hE2 hE3 hE4
  have hkc := Kt.of_below (T := 79) hb
  replace HB := Lib.hid (HB.out.call hb)
  have HQ6 := Lib.hid hq
  clear hkc
  have x0 := HB.out.at 0 rfl
  have c0_5 := boxc x0 5 (.slice none 0 0) rfl
  have f0_5 := boxf x0 5
  have c0_6 := boxc x0 6 (.slice none 0 0) rfl
  have f0_6 := boxf x0 6
  have c0_7 := boxc x0 7 (.slice none 0 0) rfl
  have f0_7 := boxf x0 7
  have c0_8 := boxc x0 8 (.slice none 0 0) rfl
  have f0_8 := boxf x0 8
  clear x0
  have x1 := HB.out.at 1 rfl
  have c1_0 := boxc x1 0 (.string s) rfl
  have f1_0 := boxf x1 0
  have c1_1 := boxc x1 1 (.int .i64 (b5 : Int)) rfl
  have f1_1 := boxf x1 1
  have c1_2 := boxc x1 2 (.int .i64 (k5 : Int)) rfl
  have f1_2 := boxf x1 2
  clear x1
  clear hb hq
  have zz := HB.out.at 1 rfl
  have hkr := wset_kt (rdrC s b6 k6) _ _ 0 _ _ zz
  replace HGD := Lib.hid (HGD.out.kt (show (91 : TypeId) ≠ 79 by decide) (show (50 : TypeId) ≠ 79 by decide) (show (47 : TypeId) ≠ 79 by decide) (hkr))
  clear hkr zz
  replace HB : Hid (Bxs w _ [(p + 2, 33, [.int .i64 (m0 : Int), .int .i64 (m1 : Int), .int .i64 (m2 : Int), .int .i64 (m3 : Int), .int .i64 (m4 : Int), .slice none 0 0, .slice none 0 0, .slice none 0 0, .slice none 0 0, .slice none 0 0, .slice none 0 0, .int .i64 0, .string ⟨#[]⟩, .string ⟨#[]⟩, .slice none 0 0, .int .i64 0]), (p + 1, 79, [.string s, .int .i64 (b6 : Int), .int .i64 (k6 : Int)]), (p, 33, [.int .i64 0, .int .i64 0, .int .i64 0, .int .i64 0, .int .i64 0, .slice none 0 0, .slice none 0 0, .slice none 0 0, .slice none 0 0, .slice none 0 0, .slice none 0 0, .int .i64 0, .string ⟨#[]⟩, .string ⟨#[]⟩, .slice none 0 0, .int .i64 0])]) := Lib.hid (HB.out.w1 0 (rdrC s b6 k6))
  have zz := HB.out.at 0 rfl
  have hkm := wset_kt [.slice oe ne ke, .slice oa na ka, .slice ov nv kv, .slice oc nc kc] _ _ 5 _ _ zz
  replace HGD := Lib.hid (HGD.out.kt (show (91 : TypeId) ≠ 33 by decide) (show (50 : TypeId) ≠ 33 by decide) (show (47 : TypeId) ≠ 33 by decide) (hkm))
  clear hkm zz
  replace HB : Hid (Bxs w _ [(p + 2, 33, [.int .i64 (m0 : Int), .int .i64 (m1 : Int), .int .i64 (m2 : Int), .int .i64 (m3 : Int), .int .i64 (m4 : Int), .slice oe ne ke, .slice oa na ka, .slice ov nv kv, .slice oc nc kc, .slice none 0 0, .slice none 0 0, .int .i64 0, .string ⟨#[]⟩, .string ⟨#[]⟩, .slice none 0 0, .int .i64 0]), (p + 1, 79, [.string s, .int .i64 (b6 : Int), .int .i64 (k6 : Int)]), (p, 33, [.int .i64 0, .int .i64 0, .int .i64 0, .int .i64 0, .int .i64 0, .slice none 0 0, .slice none 0 0, .slice none 0 0, .slice none 0 0, .slice none 0 0, .slice none 0 0, .int .i64 0, .string ⟨#[]⟩, .string ⟨#[]⟩, .slice none 0 0, .int .i64 0])]) := Lib.hid (HB.out.w0 5 [.slice oe ne ke, .slice oa na ka, .slice ov nv kv, .slice oc nc kc])
  go_wp2_with fail
  (with_reducible refine (qctx s b6 k6 _ hs).mono ?_)
  rintro e w7 ⟨b7, k7, v, cx, rfl, ⟨ox, nx, kx, oy, ny, ky, rfl, hE1, hE2⟩, hq, hb⟩
  clear c0_5 f0_5 c0_6 f0_6 c0_7 f0_7 c0_8 f0_8 c1_0 f1_0 c1_1 f1_1 c1_2 f1_2
  have HGC : Hid (GC w7 (.slice ox nx kx) (.slice oy ny ky) cx) := ⟨hE1.base, hE2.base⟩
  clear hE1 hE2
  have hkc := Kt.of_below (T := 79) hb
  replace HGD := Lib.hid (HGD.out.kt (show (91 : TypeId) ≠ 79 by decide) (show (50 : TypeId) ≠ 79 by decide) (show (47 : TypeId) ≠ 79 by decide) (hkc))
  replace HB := Lib.hid (HB.out.call hb)
  have HQ7 := Lib.hid hq
  clear hkc
  have x0 := HB.out.at 0 rfl
  have c0_9 := boxc x0 9 (.slice none 0 0) rfl
  have f0_9 := boxf x0 9
  have c0_10 := boxc x0 10 (.slice none 0 0) rfl
  have f0_10 := boxf x0 10
  clear x0
  have x1 := HB.out.at 1 rfl
  have c1_0 := boxc x1 0 (.string s) rfl
  have f1_0 := boxf x1 0
  have c1_1 := boxc x1 1 (.int .i64 (b6 : Int)) rfl
  have f1_1 := boxf x1 1
  have c1_2 := boxc x1 2 (.int .i64 (k6 : Int)) rfl
  have f1_2 := boxf x1 2
  clear x1
  clear hb hq
  have zz := HB.out.at 1 rfl
  have hkr := wset_kt (rdrC s b7 k7) _ _ 0 _ _ zz
  replace HGD := Lib.hid (HGD.out.kt (show (91 : TypeId) ≠ 79 by decide) (show (50 : TypeId) ≠ 79 by decide) (show (47 : TypeId) ≠ 79 by decide) (hkr))
  replace HGC := Lib.hid (HGC.out.kt (show (47 : TypeId) ≠ 79 by decide) (hkr))
  clear hkr zz
  replace HB : Hid (Bxs w _ [(p + 2, 33, [.int .i64 (m0 : Int), .int .i64 (m1 : Int), .int .i64 (m2 : Int), .int .i64 (m3 : Int), .int .i64 (m4 : Int), .slice oe ne ke, .slice oa na ka, .slice ov nv kv, .slice oc nc kc, .slice none 0 0, .slice none 0 0, .int .i64 0, .string ⟨#[]⟩, .string ⟨#[]⟩, .slice none 0 0, .int .i64 0]), (p + 1, 79, [.string s, .int .i64 (b7 : Int), .int .i64 (k7 : Int)]), (p, 33, [.int .i64 0, .int .i64 0, .int .i64 0, .int .i64 0, .int .i64 0, .slice none 0 0, .slice none 0 0, .slice none 0 0, .slice none 0 0, .slice none 0 0, .slice none 0 0, .int .i64 0, .string ⟨#[]⟩, .string ⟨#[]⟩, .slice none 0 0, .int .i64 0])]) := Lib.hid (HB.out.w1 0 (rdrC s b7 k7))
  have zz := HB.out.at 0 rfl
  have hkm := wset_kt [.slice ox nx kx, .slice oy ny ky] _ _ 9 _ _ zz
  replace HGD := Lib.hid (HGD.out.kt (show (91 : TypeId) ≠ 33 by decide) (show (50 : TypeId) ≠ 33 by decide) (show (47 : TypeId) ≠ 33 by decide) (hkm))
  replace HGC := Lib.hid (HGC.out.kt (show (47 : TypeId) ≠ 33 by decide) (hkm))
  clear hkm zz
  replace HB : Hid (Bxs w _ [(p + 2, 33, [.int .i64 (m0 : Int), .int .i64 (m1 : Int), .int .i64 (m2 : Int), .int .i64 (m3 : Int), .int .i64 (m4 : Int), .slice oe ne ke, .slice oa na ka, .slice ov nv kv, .slice oc nc kc, .slice ox nx kx, .slice oy ny ky, .int .i64 0, .string ⟨#[]⟩, .string ⟨#[]⟩, .slice none 0 0, .int .i64 0]), (p + 1, 79, [.string s, .int .i64 (b7 : Int), .int .i64 (k7 : Int)]), (p, 33, [.int .i64 0, .int .i64 0, .int .i64 0, .int .i64 0, .int .i64 0, .slice none 0 0, .slice none 0 0, .slice none 0 0, .slice none 0 0, .slice none 0 0, .slice none 0 0, .int .i64 0, .string ⟨#[]⟩, .string ⟨#[]⟩, .slice none 0 0, .int .i64 0])]) := Lib.hid (HB.out.w0 9 [.slice ox nx kx, .slice oy ny ky])
  go_wp2_with fail
  (with_reducible refine (qnum s b7 k7 _ hs).mono ?_)
  rintro e w8 ⟨b8, k8, v, m11, rfl, rfl, hq, hb⟩
  clear c0_9 f0_9 c0_10 f0_10 c1_0 f1_0 c1_1 f1_1 c1_2 f1_2
  have hkc := Kt.of_below (T := 79) hb
  replace HGD := Lib.hid (HGD.out.kt (show (91 : TypeId) ≠ 79 by decide) (show (50 : TypeId) ≠ 79 by decide) (show (47 : TypeId) ≠ 79 by decide) (hkc))
  replace HGC := Lib.hid (HGC.out.kt (show (47 : TypeId) ≠ 79 by decide) (hkc))
  replace HB := Lib.hid (HB.out.call hb)
  have HQ8 := Lib.hid hq
  clear hkc
  have x0 := HB.out.at 0 rfl
  have c0_11 := boxc x0 11 (.int .i64 0) rfl
  have f0_11 := boxf x0 11
  clear x0
  have x1 := HB.out.at 1 rfl
  have c1_0 := boxc x1 0 (.string s) rfl
  have f1_0 := boxf x1 0
  have c1_1 := boxc x1 1 (.int .i64 (b7 : Int)) rfl
  have f1_1 := boxf x1 1
  have c1_2 := boxc x1 2 (.int .i64 (k7 : Int)) rfl
  have f1_2 := boxf x1 2
  clear x1
  clear hb hq
  have zz := HB.out.at 1 rfl
  have hkr := wset_kt (rdrC s b8 k8) _ _ 0 _ _ zz
  replace HGD := Lib.hid (HGD.out.kt (show (91 : TypeId) ≠ 79 by decide) (show (50 : TypeId) ≠ 79 by decide) (show (47 : TypeId) ≠ 79 by decide) (hkr))
  replace HGC := Lib.hid (HGC.out.kt (show (47 : TypeId) ≠ 79 by decide) (hkr))
  clear hkr zz
  replace HB : Hid (Bxs w _ [(p + 2, 33, [.int .i64 (m0 : Int), .int .i64 (m1 : Int), .int .i64 (m2 : Int), .int .i64 (m3 : Int), .int .i64 (m4 : Int), .slice oe ne ke, .slice oa na ka, .slice ov nv kv, .slice oc nc kc, .slice ox nx kx, .slice oy ny ky, .int .i64 0, .string ⟨#[]⟩, .string ⟨#[]⟩, .slice none 0 0, .int .i64 0]), (p + 1, 79, [.string s, .int .i64 (b8 : Int), .int .i64 (k8 : Int)]), (p, 33, [.int .i64 0, .int .i64 0, .int .i64 0, .int .i64 0, .int .i64 0, .slice none 0 0, .slice none 0 0, .slice none 0 0, .slice none 0 0, .slice none 0 0, .slice none 0 0, .int .i64 0, .string ⟨#[]⟩, .string ⟨#[]⟩, .slice none 0 0, .int .i64 0])]) := Lib.hid (HB.out.w1 0 (rdrC s b8 k8))
  have zz := HB.out.at 0 rfl
  have hkm := wset_kt [.int .i64 (m11 : Int)] _ _ 11 _ _ zz
  replace HGD := Lib.hid (HGD.out.kt (show (91 : TypeId) ≠ 33 by decide) (show (50 : TypeId) ≠ 33 by decide) (show (47 : TypeId) ≠ 33 by decide) (hkm))
  replace HGC := Lib.hid (HGC.out.kt (show (47 : TypeId) ≠ 33 by decide) (hkm))
  clear hkm zz
  replace HB : Hid (Bxs w _ [(p + 2, 33, [.int .i64 (m0 : Int), .int .i64 (m1 : Int), .int .i64 (m2 : Int), .int .i64 (m3 : Int), .int .i64 (m4 : Int), .slice oe ne ke, .slice oa na ka, .slice ov nv kv, .slice oc nc kc, .slice ox nx kx, .slice oy ny ky, .int .i64 (m11 : Int), .string ⟨#[]⟩, .string ⟨#[]⟩, .slice none 0 0, .int .i64 0]), (p + 1, 79, [.string s, .int .i64 (b8 : Int), .int .i64 (k8 : Int)]), (p, 33, [.int .i64 0, .int .i64 0, .int .i64 0, .int .i64 0, .int .i64 0, .slice none 0 0, .slice none 0 0, .slice none 0 0, .slice none 0 0, .slice none 0 0, .slice none 0 0, .int .i64 0, .string ⟨#[]⟩, .string ⟨#[]⟩, .slice none 0 0, .int .i64 0])]) := Lib.hid (HB.out.w0 11 [.int .i64 (m11 : Int)])
  go_wp2_with fail
  (with_reducible refine (qword s b8 k8 _ hs).mono ?_)
  rintro e w9 ⟨b9, k9, v, m12, rfl, ⟨rfl, hm12⟩, hq, hb⟩
  clear c0_11 f0_11 c1_0 f1_0 c1_1 f1_1 c1_2 f1_2
  have hkc := Kt.of_below (T := 79) hb
  replace HGD := Lib.hid (HGD.out.kt (show (91 : TypeId) ≠ 79 by decide) (show (50 : TypeId) ≠ 79 by decide) (show (47 : TypeId) ≠ 79 by decide) (hkc))
  replace HGC := Lib.hid (HGC.out.kt (show (47 : TypeId) ≠ 79 by decide) (hkc))
  replace HB := Lib.hid (HB.out.call hb)
  have HQ9 := Lib.hid hq
  clear hkc
  have x0 := HB.out.at 0 rfl
  have c0_12 := boxc x0 12 (.string ⟨#[]⟩) rfl
  have f0_12 := boxf x0 12
  clear x0
  have x1 := HB.out.at 1 rfl
  have c1_0 := boxc x1 0 (.string s) rfl
  have f1_0 := boxf x1 0
  have c1_1 := boxc x1 1 (.int .i64 (b8 : Int)) rfl
  have f1_1 := boxf x1 1
  have c1_2 := boxc x1 2 (.int .i64 (k8 : Int)) rfl
  have f1_2 := boxf x1 2
  clear x1
  clear hb hq
  have zz := HB.out.at 1 rfl
  have hkr := wset_kt (rdrC s b9 k9) _ _ 0 _ _ zz
  replace HGD := Lib.hid (HGD.out.kt (show (91 : TypeId) ≠ 79 by decide) (show (50 : TypeId) ≠ 79 by decide) (show (47 : TypeId) ≠ 79 by decide) (hkr))
  replace HGC := Lib.hid (HGC.out.kt (show (47 : TypeId) ≠ 79 by decide) (hkr))
  clear hkr zz
  replace HB : Hid (Bxs w _ [(p + 2, 33, [.int .i64 (m0 : Int), .int .i64 (m1 : Int), .int .i64 (m2 : Int), .int .i64 (m3 : Int), .int .i64 (m4 : Int), .slice oe ne ke, .slice oa na ka, .slice ov nv kv, .slice oc nc kc, .slice ox nx kx, .slice oy ny ky, .int .i64 (m11 : Int), .string ⟨#[]⟩, .string ⟨#[]⟩, .slice none 0 0, .int .i64 0]), (p + 1, 79, [.string s, .int .i64 (b9 : Int), .int .i64 (k9 : Int)]), (p, 33, [.int .i64 0, .int .i64 0, .int .i64 0, .int .i64 0, .int .i64 0, .slice none 0 0, .slice none 0 0, .slice none 0 0, .slice none 0 0, .slice none 0 0, .slice none 0 0, .int .i64 0, .string ⟨#[]⟩, .string ⟨#[]⟩, .slice none 0 0, .int .i64 0])]) := Lib.hid (HB.out.w1 0 (rdrC s b9 k9))
  have zz := HB.out.at 0 rfl
  have hkm := wset_kt [.string m12] _ _ 12 _ _ zz
  replace HGD := Lib.hid (HGD.out.kt (show (91 : TypeId) ≠ 33 by decide) (show (50 : TypeId) ≠ 33 by decide) (show (47 : TypeId) ≠ 33 by decide) (hkm))
  replace HGC := Lib.hid (HGC.out.kt (show (47 : TypeId) ≠ 33 by decide) (hkm))
  clear hkm zz
  replace HB : Hid (Bxs w _ [(p + 2, 33, [.int .i64 (m0 : Int), .int .i64 (m1 : Int), .int .i64 (m2 : Int), .int .i64 (m3 : Int), .int .i64 (m4 : Int), .slice oe ne ke, .slice oa na ka, .slice ov nv kv, .slice oc nc kc, .slice ox nx kx, .slice oy ny ky, .int .i64 (m11 : Int), .string m12, .string ⟨#[]⟩, .slice none 0 0, .int .i64 0]), (p + 1, 79, [.string s, .int .i64 (b9 : Int), .int .i64 (k9 : Int)]), (p, 33, [.int .i64 0, .int .i64 0, .int .i64 0, .int .i64 0, .int .i64 0, .slice none 0 0, .slice none 0 0, .slice none 0 0, .slice none 0 0, .slice none 0 0, .slice none 0 0, .int .i64 0, .string ⟨#[]⟩, .string ⟨#[]⟩, .slice none 0 0, .int .i64 0])]) := Lib.hid (HB.out.w0 12 [.string m12])
  go_wp2_with fail
  (with_reducible refine (qword s b9 k9 _ hs).mono ?_)
  rintro e w10 ⟨b10, k10, v, m13, rfl, ⟨rfl, hm13⟩, hq, hb⟩
  clear c0_12 f0_12 c1_0 f1_0 c1_1 f1_1 c1_2 f1_2
  have hkc := Kt.of_below (T := 79) hb
  replace HGD := Lib.hid (HGD.out.kt (show (91 : TypeId) ≠ 79 by decide) (show (50 : TypeId) ≠ 79 by decide) (show (47 : TypeId) ≠ 79 by decide) (hkc))
  replace HGC := Lib.hid (HGC.out.kt (show (47 : TypeId) ≠ 79 by decide) (hkc))
  replace HB := Lib.hid (HB.out.call hb)
  have HQ10 := Lib.hid hq
  clear hkc
  have x0 := HB.out.at 0 rfl
  have c0_13 := boxc x0 13 (.string ⟨#[]⟩) rfl
  have f0_13 := boxf x0 13
  clear x0
  have x1 := HB.out.at 1 rfl
  have c1_0 := boxc x1 0 (.string s) rfl
  have f1_0 := boxf x1 0
  have c1_1 := boxc x1 1 (.int .i64 (b9 : Int)) rfl
  have f1_1 := boxf x1 1
  have c1_2 := boxc x1 2 (.int .i64 (k9 : Int)) rfl
  have f1_2 := boxf x1 2
  clear x1
  clear hb hq
  have zz := HB.out.at 1 rfl
  have hkr := wset_kt (rdrC s b10 k10) _ _ 0 _ _ zz
  replace HGD := Lib.hid (HGD.out.kt (show (91 : TypeId) ≠ 79 by decide) (show (50 : TypeId) ≠ 79 by decide) (show (47 : TypeId) ≠ 79 by decide) (hkr))
  replace HGC := Lib.hid (HGC.out.kt (show (47 : TypeId) ≠ 79 by decide) (hkr))
  clear hkr zz
  replace HB : Hid (Bxs w _ [(p + 2, 33, [.int .i64 (m0 : Int), .int .i64 (m1 : Int), .int .i64 (m2 : Int), .int .i64 (m3 : Int), .int .i64 (m4 : Int), .slice oe ne ke, .slice oa na ka, .slice ov nv kv, .slice oc nc kc, .slice ox nx kx, .slice oy ny ky, .int .i64 (m11 : Int), .string m12, .string ⟨#[]⟩, .slice none 0 0, .int .i64 0]), (p + 1, 79, [.string s, .int .i64 (b10 : Int), .int .i64 (k10 : Int)]), (p, 33, [.int .i64 0, .int .i64 0, .int .i64 0, .int .i64 0, .int .i64 0, .slice none 0 0, .slice none 0 0, .slice none 0 0, .slice none 0 0, .slice none 0 0, .slice none 0 0, .int .i64 0, .string ⟨#[]⟩, .string ⟨#[]⟩, .slice none 0 0, .int .i64 0])]) := Lib.hid (HB.out.w1 0 (rdrC s b10 k10))
  have zz := HB.out.at 0 rfl
  have hkm := wset_kt [.string m13] _ _ 13 _ _ zz
  replace HGD := Lib.hid (HGD.out.kt (show (91 : TypeId) ≠ 33 by decide) (show (50 : TypeId) ≠ 33 by decide) (show (47 : TypeId) ≠ 33 by decide) (hkm))
  replace HGC := Lib.hid (HGC.out.kt (show (47 : TypeId) ≠ 33 by decide) (hkm))
  clear hkm zz
  replace HB : Hid (Bxs w _ [(p + 2, 33, [.int .i64 (m0 : Int), .int .i64 (m1 : Int), .int .i64 (m2 : Int), .int .i64 (m3 : Int), .int .i64 (m4 : Int), .slice oe ne ke, .slice oa na ka, .slice ov nv kv, .slice oc nc kc, .slice ox nx kx, .slice oy ny ky, .int .i64 (m11 : Int), .string m12, .string m13, .slice none 0 0, .int .i64 0]), (p + 1, 79, [.string s, .int .i64 (b10 : Int), .int .i64 (k10 : Int)]), (p, 33, [.int .i64 0, .int .i64 0, .int .i64 0, .int .i64 0, .int .i64 0, .slice none 0 0, .slice none 0 0, .slice none 0 0, .slice none 0 0, .slice none 0 0, .slice none 0 0, .int .i64 0, .string ⟨#[]⟩, .string ⟨#[]⟩, .slice none 0 0, .int .i64 0])]) := Lib.hid (HB.out.w0 13 [.string m13])
  go_wp2_with fail
  (with_reducible refine (qsiz s b10 k10 _ hs).mono ?_)
  rintro e w11 ⟨b11, k11, v, n, rfl, ⟨rfl, hn⟩, hq, hb⟩
  clear c0_13 f0_13 c1_0 f1_0 c1_1 f1_1 c1_2 f1_2
  have hkc := Kt.of_below (T := 79) hb
  replace HGD := Lib.hid (HGD.out.kt (show (91 : TypeId) ≠ 79 by decide) (show (50 : TypeId) ≠ 79 by decide) (show (47 : TypeId) ≠ 79 by decide) (hkc))
  replace HGC := Lib.hid (HGC.out.kt (show (47 : TypeId) ≠ 79 by decide) (hkc))
  replace HB := Lib.hid (HB.out.call hb)
  have HQ11 := Lib.hid hq
  clear hkc
  have x1 := HB.out.at 1 rfl
  have c1_0 := boxc x1 0 (.string s) rfl
  have f1_0 := boxf x1 0
  have c1_1 := boxc x1 1 (.int .i64 (b10 : Int)) rfl
  have f1_1 := boxf x1 1
  have c1_2 := boxc x1 2 (.int .i64 (k10 : Int)) rfl
  have f1_2 := boxf x1 2
  clear x1
  clear hb hq
  have zz := HB.out.at 1 rfl
  have hkr := wset_kt (rdrC s b11 k11) _ _ 0 _ _ zz
  replace HGD := Lib.hid (HGD.out.kt (show (91 : TypeId) ≠ 79 by decide) (show (50 : TypeId) ≠ 79 by decide) (show (47 : TypeId) ≠ 79 by decide) (hkr))
  replace HGC := Lib.hid (HGC.out.kt (show (47 : TypeId) ≠ 79 by decide) (hkr))
  clear hkr zz
  replace HB : Hid (Bxs w _ [(p + 2, 33, [.int .i64 (m0 : Int), .int .i64 (m1 : Int), .int .i64 (m2 : Int), .int .i64 (m3 : Int), .int .i64 (m4 : Int), .slice oe ne ke, .slice oa na ka, .slice ov nv kv, .slice oc nc kc, .slice ox nx kx, .slice oy ny ky, .int .i64 (m11 : Int), .string m12, .string m13, .slice none 0 0, .int .i64 0]), (p + 1, 79, [.string s, .int .i64 (b11 : Int), .int .i64 (k11 : Int)]), (p, 33, [.int .i64 0, .int .i64 0, .int .i64 0, .int .i64 0, .int .i64 0, .slice none 0 0, .slice none 0 0, .slice none 0 0, .slice none 0 0, .slice none 0 0, .slice none 0 0, .int .i64 0, .string ⟨#[]⟩, .string ⟨#[]⟩, .slice none 0 0, .int .i64 0])]) := Lib.hid (HB.out.w1 0 (rdrC s b11 k11))
  -- MA
  go_wp2
  go_loopw [7, 90] (fun i _ wr => ∃ (j b k : Nat) (l : List ByteArray) (ao : Option Addr) (m cap : Nat), i = .int .i64 j ∧ j ≤ n ∧ Hid (Qd s (onR k11 (cd.repR (cd.txtR (kit.bytes s)) j b11)) l b k) ∧ Hid (Bxs w wr [(p + 2, 33, [.int .i64 (m0 : Int), .int .i64 (m1 : Int), .int .i64 (m2 : Int), .int .i64 (m3 : Int), .int .i64 (m4 : Int), .slice oe ne ke, .slice oa na ka, .slice ov nv kv, .slice oc nc kc, .slice ox nx kx, .slice oy ny ky, .int .i64 (m11 : Int), .string m12, .string m13, .slice ao m cap, .int .i64 0]), (p + 1, 79, rdrC s b k), (p, 33, [.int .i64 0, .int .i64 0, .int .i64 0, .int .i64 0, .int .i64 0, .slice none 0 0, .slice none 0 0, .slice none 0 0, .slice none 0 0, .slice none 0 0, .slice none 0 0, .int .i64 0, .string ⟨#[]⟩, .string ⟨#[]⟩, .slice none 0 0, .int .i64 0])]) ∧ Hid (RowsO w.heap.size 9 1 strO wr (.slice ao m cap) l) ∧ Hid (GD wr (.slice oe ne ke) (.slice oa na ka) (.slice ov nv kv) (.slice oc nc kc) del) ∧ Hid (GC wr (.slice ox nx kx) (.slice oy ny ky) cx)) (fun i _ _ => n - (intOf i).toNat)
  case atStart => exact ⟨0, b11, k11, [], none, 0, 0, rfl, Nat.zero_le _, Qd.rep0 (fun h0 => by rcases HQ11.out.inv with ⟨_, _, hb⟩ | ⟨h1, _⟩; exact hb; omega), HB.out, RowsO.nil _, HGD.out, HGC.out⟩
  case round =>
    clear HB HGD HGC c1_0 f1_0 c1_1 f1_1 c1_2 f1_2
    obtain ⟨j, b12, k12, l, ao, m, cap, rfl, hj, HQr, HB, HGS, HGD, HGC⟩ := hrel
    by_cases hlt : j < n
    · have hjI : (j : Int) < (n : Int) := by omega
      by_cases hk : k12 = 0
      · subst hk
        have x0 := HB.out.at 0 rfl
        have c0_14 := boxc x0 14 (.slice ao m cap) rfl
        have f0_14 := boxf x0 14
        clear x0
        have x1 := HB.out.at 1 rfl
        have c1_0 := boxc x1 0 (.string s) rfl
        have f1_0 := boxf x1 0
        have c1_1 := boxc x1 1 (.int .i64 (b12 : Int)) rfl
        have f1_1 := boxf x1 1
        have c1_2 := boxc x1 2 (.int .i64 0) rfl
        have f1_2 := boxf x1 2
        clear x1
        have HC : Hid (∀ W : World, Calls Try.prog 38 #[.agg #[.string s, .int .i64 (b12 : Int), .int .i64 0]] W (QA s (onR 0 (cd.txtR (kit.bytes s) b12)) (fun _ v t => v = .string t ∧ t.size ≤ 4000) W)) := fun W => qword s b12 0 W hs
        go_wp2_with fail
        (with_reducible refine (HC.out _).mono ?_)
        rintro e w13 ⟨b13, k13, v, y, rfl, ⟨rfl, hy4⟩, hq, hb⟩
        clear HC c0_14 f0_14 c1_0 f1_0 c1_1 f1_1 c1_2 f1_2
        have HB6 := Lib.hid ((HB.out.call hb).add 79 (rdrC s b13 k13) rfl)
        have HQ13 := Lib.hid hq
        have hkc := Kt.of_below (T := 79) hb
        replace HGD := Lib.hid (HGD.out.kt (show (91 : TypeId) ≠ 79 by decide) (show (50 : TypeId) ≠ 79 by decide) (show (47 : TypeId) ≠ 79 by decide) (hkc))
        replace HGC := Lib.hid (HGC.out.kt (show (47 : TypeId) ≠ 79 by decide) (hkc))
        replace HGS := Lib.hid (RowsO.kt (strO_pst _) (show (9 : TypeId) ≠ 79 by decide) HGS.out (hkc))
        clear hb hq hkc
        have x0 := HB6.out.at 0 rfl
        have c0_0 := boxc x0 0 (.string s) rfl
        have f0_0 := boxf x0 0
        have c0_1 := boxc x0 1 (.int .i64 (b13 : Int)) rfl
        have f0_1 := boxf x0 1
        have c0_2 := boxc x0 2 (.int .i64 (k13 : Int)) rfl
        have f0_2 := boxf x0 2
        clear x0
        have x1 := HB6.out.at 1 rfl
        have c1_14 := boxc x1 14 (.slice ao m cap) rfl
        have f1_14 := boxf x1 14
        clear x1
        have x2 := HB6.out.at 2 rfl
        have c2_0 := boxc x2 0 (.string s) rfl
        have f2_0 := boxf x2 0
        have c2_1 := boxc x2 1 (.int .i64 (b12 : Int)) rfl
        have f2_1 := boxf x2 1
        have c2_2 := boxc x2 2 (.int .i64 0) rfl
        have f2_2 := boxf x2 2
        clear x2
        obtain ⟨X, hX⟩ : ∃ X, X = ((((w13.alloc (.cells #[.string s, .int .i64 (b13 : Int), .int .i64 (k13 : Int)] 79)).setCell ⟨p + 1, 0, none⟩ (.string s)).setCell ⟨p + 1, 1, none⟩ (.int .i64 (b13 : Int))).setCell ⟨p + 1, 2, none⟩ (.int .i64 (k13 : Int))) := ⟨_, rfl⟩
        have HB7 : Hid (Bxs w X [(w13.heap.size, 79, [.string s, .int .i64 (b13 : Int), .int .i64 (k13 : Int)]), (p + 2, 33, [.int .i64 (m0 : Int), .int .i64 (m1 : Int), .int .i64 (m2 : Int), .int .i64 (m3 : Int), .int .i64 (m4 : Int), .slice oe ne ke, .slice oa na ka, .slice ov nv kv, .slice oc nc kc, .slice ox nx kx, .slice oy ny ky, .int .i64 (m11 : Int), .string m12, .string m13, .slice ao m cap, .int .i64 0]), (p + 1, 79, [.string s, .int .i64 (b13 : Int), .int .i64 (k13 : Int)]), (p, 33, [.int .i64 0, .int .i64 0, .int .i64 0, .int .i64 0, .int .i64 0, .slice none 0 0, .slice none 0 0, .slice none 0 0, .slice none 0 0, .slice none 0 0, .slice none 0 0, .int .i64 0, .string ⟨#[]⟩, .string ⟨#[]⟩, .slice none 0 0, .int .i64 0])]) := by rw [hX]; exact HB6.out.w2 0 (rdrC s b13 k13)
        have hkx : Kt 79 w13 X := by rw [hX]; exact (Kt.of_below below1).trans (wset_kt (rdrC s b13 k13) _ _ 0 _ _ (show _ from HB6.out.at 2 rfl))
        replace HGD := Lib.hid (HGD.out.kt (show (91 : TypeId) ≠ 79 by decide) (show (50 : TypeId) ≠ 79 by decide) (show (47 : TypeId) ≠ 79 by decide) (hkx))
        replace HGC := Lib.hid (HGC.out.kt (show (47 : TypeId) ≠ 79 by decide) (hkx))
        replace HGS := Lib.hid (RowsO.kt (strO_pst _) (show (9 : TypeId) ≠ 79 by decide) HGS.out (hkx))
        obtain ⟨cs, e0, e1, hown⟩ := HGS.out
        have hz : w13.heap.size + 1 = X.heap.size := by rw [hX]; simp
        have y5 := boxc (HB7.out.at 1 rfl) 14 (.slice ao m cap) rfl
        rw [hX] at y5
        have hl : l.length ≤ 4000 := by have := HQr.out.len; omega
        have hz2 : w.heap.size ≤ X.heap.size := HB7.out.1.size
        have HZ := Lib.hid hz
        have HX := Lib.hid hX
        have HE0 := Lib.hid e0
        have HE1 := Lib.hid e1
        clear hz hX e0 e1 hkx
        go_wp2_with (at_builtin; rw [← HX.out]; refine app1gB (w13.heap.size + 1) HZ.out (.tmp 98) (.tmp 100) 30 rfl rfl w.heap.size Try.underlying30 info_str rfl (by decide) (by decide) hown rfl rfl rfl (by intro u hu; simp at hu; subst hu; rfl) (by omega) hz2 ?_)
        intro v' w14 hown' hg3
        have HO' : Hid (RowsO w.heap.size 9 1 strO w14 v' (l ++ [y])) := RowsO.snoc (c := [.string y]) HE0.out HE1.out (app_kt hown hg3) (strO_pst _) rfl ⟨rfl, Nat.le_trans hy4 (by unfold maxLen; omega)⟩ (by simpa using hown')
        have hks := app_kt hown hg3
        replace HGD := Lib.hid (HGD.out.kt (show (91 : TypeId) ≠ 9 by decide) (show (50 : TypeId) ≠ 9 by decide) (show (47 : TypeId) ≠ 9 by decide) (hks))
        replace HGC := Lib.hid (HGC.out.kt (show (47 : TypeId) ≠ 9 by decide) (hks))
        have HB8 := Lib.hid (HB7.out.tail.kt hks (HB7.out.1.trans (app_below hown hz2 hg3)) (by intro z hz; simp only [List.mem_cons, List.not_mem_nil, or_false] at hz; rcases hz with rfl | rfl | rfl <;> first | (show (33 : TypeId) ≠ 9; decide) | (show (79 : TypeId) ≠ 9; decide)))
        obtain ⟨o3, m3, c3, rfl⟩ := own_slice hown'
        clear hown' hown hg3 y5 hks HGS c0_0 f0_0 c0_1 f0_1 c0_2 f0_2 c1_14 f1_14 c2_0 f2_0 c2_1 f2_1 c2_2 f2_2
        have x0 := HB8.out.at 0 rfl
        have c0_14 := boxc x0 14 (.slice ao m cap) rfl
        have f0_14 := boxf x0 14
        clear x0
        have zz := HB8.out.at 0 rfl
        have hkm := Kt.set zz 14 (.slice o3 m3 c3)
        replace HO' := Lib.hid (RowsO.kt (strO_pst _) (show (9 : TypeId) ≠ 33 by decide) HO'.out hkm)
        replace HGD := Lib.hid (HGD.out.kt (show (91 : TypeId) ≠ 33 by decide) (show (50 : TypeId) ≠ 33 by decide) (show (47 : TypeId) ≠ 33 by decide) (hkm))
        replace HGC := Lib.hid (HGC.out.kt (show (47 : TypeId) ≠ 33 by decide) (hkm))
        replace HB8 := Lib.hid (HB8.out.set0 14 (.slice o3 m3 c3))
        clear hkm zz
        go_wp2
        go_roundw
        case rel => exact ⟨j + 1, b13, k13, l ++ [y], o3, m3, c3, by go_num, by omega, HQr.out.rep1 HQ13.out, HB8.out, HO'.out, HGD.out, HGC.out⟩
        case measure => simp [intOf]; omega
      · have hc0 : ((k12 : Int) == 0) = false := beq_eq_false_iff_ne.2 (by omega)
        have HE := Lib.hid (HQr.out.repE hk hj)
        clear hk
        -- MFIN
        as_aux_lemma =>
          have x0 := HB.out.at 0 rfl
          have c0_15 := boxc x0 15 (.int .i64 0) rfl
          have f0_15 := boxf x0 15
          clear x0
          have x1 := HB.out.at 1 rfl
          have c1_0 := boxc x1 0 (.string s) rfl
          have f1_0 := boxf x1 0
          have c1_1 := boxc x1 1 (.int .i64 (b12 : Int)) rfl
          have f1_1 := boxf x1 1
          have c1_2 := boxc x1 2 (.int .i64 (k12 : Int)) rfl
          have f1_2 := boxf x1 2
          clear x1
          go_wp2_with fail
          (with_reducible refine (qnum s b12 k12 _ hs).mono ?_)
          rintro e w15 ⟨b15, k15, v, m15, rfl, rfl, hq, hb⟩
          clear c0_15 f0_15 c1_0 f1_0 c1_1 f1_1 c1_2 f1_2
          have hkc := Kt.of_below (T := 79) hb
          replace HGD := Lib.hid (HGD.out.kt (show (91 : TypeId) ≠ 79 by decide) (show (50 : TypeId) ≠ 79 by decide) (show (47 : TypeId) ≠ 79 by decide) (hkc))
          replace HGC := Lib.hid (HGC.out.kt (show (47 : TypeId) ≠ 79 by decide) (hkc))
          replace HGS := Lib.hid (RowsO.kt (strO_pst _) (show (9 : TypeId) ≠ 79 by decide) HGS.out (hkc))
          replace HB := Lib.hid (HB.out.call hb)
          have HQ15 := Lib.hid hq
          clear hkc
          have x0 := HB.out.at 0 rfl
          have c0_15 := boxc x0 15 (.int .i64 0) rfl
          have f0_15 := boxf x0 15
          clear x0
          have x1 := HB.out.at 1 rfl
          have c1_0 := boxc x1 0 (.string s) rfl
          have f1_0 := boxf x1 0
          have c1_1 := boxc x1 1 (.int .i64 (b12 : Int)) rfl
          have f1_1 := boxf x1 1
          have c1_2 := boxc x1 2 (.int .i64 (k12 : Int)) rfl
          have f1_2 := boxf x1 2
          clear x1
          clear hb hq
          have zz := HB.out.at 1 rfl
          have hkr := wset_kt (rdrC s b15 k15) _ _ 0 _ _ zz
          replace HGD := Lib.hid (HGD.out.kt (show (91 : TypeId) ≠ 79 by decide) (show (50 : TypeId) ≠ 79 by decide) (show (47 : TypeId) ≠ 79 by decide) (hkr))
          replace HGC := Lib.hid (HGC.out.kt (show (47 : TypeId) ≠ 79 by decide) (hkr))
          replace HGS := Lib.hid (RowsO.kt (strO_pst _) (show (9 : TypeId) ≠ 79 by decide) HGS.out (hkr))
          clear hkr zz
          replace HB : Hid (Bxs w _ [(p + 2, 33, [.int .i64 (m0 : Int), .int .i64 (m1 : Int), .int .i64 (m2 : Int), .int .i64 (m3 : Int), .int .i64 (m4 : Int), .slice oe ne ke, .slice oa na ka, .slice ov nv kv, .slice oc nc kc, .slice ox nx kx, .slice oy ny ky, .int .i64 (m11 : Int), .string m12, .string m13, .slice ao m cap, .int .i64 0]), (p + 1, 79, [.string s, .int .i64 (b15 : Int), .int .i64 (k15 : Int)]), (p, 33, [.int .i64 0, .int .i64 0, .int .i64 0, .int .i64 0, .int .i64 0, .slice none 0 0, .slice none 0 0, .slice none 0 0, .slice none 0 0, .slice none 0 0, .slice none 0 0, .int .i64 0, .string ⟨#[]⟩, .string ⟨#[]⟩, .slice none 0 0, .int .i64 0])]) := Lib.hid (HB.out.w1 0 (rdrC s b15 k15))
          have zz := HB.out.at 0 rfl
          have hkm := wset_kt [.int .i64 (m15 : Int)] _ _ 15 _ _ zz
          replace HGD := Lib.hid (HGD.out.kt (show (91 : TypeId) ≠ 33 by decide) (show (50 : TypeId) ≠ 33 by decide) (show (47 : TypeId) ≠ 33 by decide) (hkm))
          replace HGC := Lib.hid (HGC.out.kt (show (47 : TypeId) ≠ 33 by decide) (hkm))
          replace HGS := Lib.hid (RowsO.kt (strO_pst _) (show (9 : TypeId) ≠ 33 by decide) HGS.out (hkm))
          clear hkm zz
          replace HB : Hid (Bxs w _ [(p + 2, 33, [.int .i64 (m0 : Int), .int .i64 (m1 : Int), .int .i64 (m2 : Int), .int .i64 (m3 : Int), .int .i64 (m4 : Int), .slice oe ne ke, .slice oa na ka, .slice ov nv kv, .slice oc nc kc, .slice ox nx kx, .slice oy ny ky, .int .i64 (m11 : Int), .string m12, .string m13, .slice ao m cap, .int .i64 (m15 : Int)]), (p + 1, 79, [.string s, .int .i64 (b15 : Int), .int .i64 (k15 : Int)]), (p, 33, [.int .i64 0, .int .i64 0, .int .i64 0, .int .i64 0, .int .i64 0, .slice none 0 0, .slice none 0 0, .slice none 0 0, .slice none 0 0, .slice none 0 0, .slice none 0 0, .int .i64 0, .string ⟨#[]⟩, .string ⟨#[]⟩, .slice none 0 0, .int .i64 0])]) := Lib.hid (HB.out.w0 15 [.int .i64 (m15 : Int)])
          -- MB
          have HM : Hid (Qd s (cd.msgR (kit.bytes s) 0) (⟨m0, m1, m2, m3, m4, del.1, del.2.1, del.2.2.1, del.2.2.2, cx.1, cx.2, m11, m12, m13, l, m15⟩ : cd.Msg) b15 k15) := by
            show Qd _ _ _ _ _
            rw [← onR_zero (cd.msgR (kit.bytes s) 0)]
            unfold cd.msgR
            exact Qd.seq HQ1.out (Qd.seq HQ2.out (Qd.seq HQ3.out (Qd.seq HQ4.out (Qd.seq HQ5.out (Qd.seq HQ6.out (Qd.seq HQ7.out (Qd.seq HQ8.out (Qd.seq HQ9.out (Qd.seq HQ10.out (Qd.seq (by rw [lst_siz]; exact Qd.seq HQ11.out HE.out) (Qd.map (g := fun er : Nat => (⟨m0, m1, m2, m3, m4, del.1, del.2.1, del.2.2.1, del.2.2.2, cx.1, cx.2, m11, m12, m13, l, er⟩ : cd.Msg)) HQ15.out)))))))))))
          replace HB : Hid (Bxs w (((((w15.setCell ⟨p + 1, 0, none⟩ (.string s)).setCell ⟨p + 1, 1, none⟩ (.int .i64 (b15 : Int))).setCell ⟨p + 1, 2, none⟩ (.int .i64 (k15 : Int))).setCell ⟨p + 1 + 1, 15, none⟩ (.int .i64 (m15 : Int)))) [(p + 2, 33, [.int .i64 (m0 : Int), .int .i64 (m1 : Int), .int .i64 (m2 : Int), .int .i64 (m3 : Int), .int .i64 (m4 : Int), .slice oe ne ke, .slice oa na ka, .slice ov nv kv, .slice oc nc kc, .slice ox nx kx, .slice oy ny ky, .int .i64 (m11 : Int), .string m12, .string m13, .slice ao m cap, .int .i64 (m15 : Int)]), (p + 1, 79, [.string s, .int .i64 (b15 : Int), .int .i64 (k15 : Int)]), (p, 33, [.int .i64 0, .int .i64 0, .int .i64 0, .int .i64 0, .int .i64 0, .slice none 0 0, .slice none 0 0, .slice none 0 0, .slice none 0 0, .slice none 0 0, .slice none 0 0, .int .i64 0, .string ⟨#[]⟩, .string ⟨#[]⟩, .slice none 0 0, .int .i64 0])]) := HB
          by_cases hk15 : k15 = 0
          · have hc0 : ((k15 : Int) == 0) = true := by subst hk15; rfl
            have hc1 : ((k15 : Int) != 0) = false := by subst hk15; rfl
            obtain ⟨hr, hle⟩ : cd.msgR (kit.bytes s) 0 = .ok ((⟨m0, m1, m2, m3, m4, del.1, del.2.1, del.2.2.1, del.2.2.2, cx.1, cx.2, m11, m12, m13, l, m15⟩ : cd.Msg), b15) ∧ b15 ≤ s.size := by
              rcases HM.out.inv with ⟨_, h, h2⟩ | ⟨h, _⟩
              · exact ⟨h, h2⟩
              · omega
            clear hk15
            by_cases hbs : b15 = s.size
            · have hans : Hid (cd.read (kit.bytes s) = .ok _) := read_ok hr (by rw [kit.bytes_len]; omega)
              have hb1 : ((s.size : Int) == (s.size : Int)) = true := beq_self_eq_true _
              have hb2 : ((s.size : Int) != (s.size : Int)) = false := by rw [bne, hb1]; rfl
              clear hr hle
              subst hbs
              have z2 := HB.out.at 0 rfl
              have z0 := HB.out.at 2 rfl
              have hx2 : (((((w15.setCell ⟨p + 1, 0, none⟩ (.string s)).setCell ⟨p + 1, 1, none⟩ (.int .i64 (s.size : Int))).setCell ⟨p + 1, 2, none⟩ (.int .i64 (k15 : Int))).setCell ⟨p + 1 + 1, 15, none⟩ (.int .i64 (m15 : Int)))).heap[p + 2]? = some (.cells #[.int .i64 (m0 : Int), .int .i64 (m1 : Int), .int .i64 (m2 : Int), .int .i64 (m3 : Int), .int .i64 (m4 : Int), .slice oe ne ke, .slice oa na ka, .slice ov nv kv, .slice oc nc kc, .slice ox nx kx, .slice oy ny ky, .int .i64 (m11 : Int), .string m12, .string m13, .slice ao m cap, .int .i64 (m15 : Int)] 33 (0, 0)) := z2
              have hx0 : (((((w15.setCell ⟨p + 1, 0, none⟩ (.string s)).setCell ⟨p + 1, 1, none⟩ (.int .i64 (s.size : Int))).setCell ⟨p + 1, 2, none⟩ (.int .i64 (k15 : Int))).setCell ⟨p + 1 + 1, 15, none⟩ (.int .i64 (m15 : Int)))).heap[p]? = some (.cells #[.int .i64 0, .int .i64 0, .int .i64 0, .int .i64 0, .int .i64 0, .slice none 0 0, .slice none 0 0, .slice none 0 0, .slice none 0 0, .slice none 0 0, .slice none 0 0, .int .i64 0, .string ⟨#[]⟩, .string ⟨#[]⟩, .slice none 0 0, .int .i64 0] 33 (0, 0)) := z0
              go_wp2_with (first | ((with_reducible show wpList _ _ _ (Oper.mk _ (Op.load 33 (.tmp 5)) _ _ _ _ :: _) _ _); refine wpList_load_row rfl 33 (.tmp 5) rfl (p + 2) rfl 33 #[.int .i64 (m0 : Int), .int .i64 (m1 : Int), .int .i64 (m2 : Int), .int .i64 (m3 : Int), .int .i64 (m4 : Int), .slice oe ne ke, .slice oa na ka, .slice ov nv kv, .slice oc nc kc, .slice ox nx kx, .slice oy ny ky, .int .i64 (m11 : Int), .string m12, .string m13, .slice ao m cap, .int .i64 (m15 : Int)] (0, 0) _ hx2 Try.underlying33 rfl msize ?_) | ((with_reducible show wpList _ _ _ (Oper.mk _ (Op.store 33 (.tmp 2) _) _ _ _ _ :: _) _ _); refine wpList_store_row rfl 33 (.tmp 2) (.tmp 122) rfl p #[.int .i64 (m0 : Int), .int .i64 (m1 : Int), .int .i64 (m2 : Int), .int .i64 (m3 : Int), .int .i64 (m4 : Int), .slice oe ne ke, .slice oa na ka, .slice ov nv kv, .slice oc nc kc, .slice ox nx kx, .slice oy ny ky, .int .i64 (m11 : Int), .string m12, .string m13, .slice ao m cap, .int .i64 (m15 : Int)] rfl rfl 33 #[.int .i64 0, .int .i64 0, .int .i64 0, .int .i64 0, .int .i64 0, .slice none 0 0, .slice none 0 0, .slice none 0 0, .slice none 0 0, .slice none 0 0, .slice none 0 0, .int .i64 0, .string ⟨#[]⟩, .string ⟨#[]⟩, .slice none 0 0, .int .i64 0] hx0 msize rfl (by simp [Value.oneCell']) ?_))
              -- HERE
              have hF := setRow_heap _ p _ #[.int .i64 (m0 : Int), .int .i64 (m1 : Int), .int .i64 (m2 : Int), .int .i64 (m3 : Int), .int .i64 (m4 : Int), .slice oe ne ke, .slice oa na ka, .slice ov nv kv, .slice oc nc kc, .slice ox nx kx, .slice oy ny ky, .int .i64 (m11 : Int), .string m12, .string m13, .slice ao m cap, .int .i64 (m15 : Int)] _ _ hx0
              have hBL := below_setRow HB.out.1 (HB.out.2.1 (p, 33, [.int .i64 0, .int .i64 0, .int .i64 0, .int .i64 0, .int .i64 0, .slice none 0 0, .slice none 0 0, .slice none 0 0, .slice none 0 0, .slice none 0 0, .slice none 0 0, .int .i64 0, .string ⟨#[]⟩, .string ⟨#[]⟩, .slice none 0 0, .int .i64 0]) (by simp)).1 #[.int .i64 (m0 : Int), .int .i64 (m1 : Int), .int .i64 (m2 : Int), .int .i64 (m3 : Int), .int .i64 (m4 : Int), .slice oe ne ke, .slice oa na ka, .slice ov nv kv, .slice oc nc kc, .slice ox nx kx, .slice oy ny ky, .int .i64 (m11 : Int), .string m12, .string m13, .slice ao m cap, .int .i64 (m15 : Int)]
              have KB := Kt.row hx0 #[.int .i64 (m0 : Int), .int .i64 (m1 : Int), .int .i64 (m2 : Int), .int .i64 (m3 : Int), .int .i64 (m4 : Int), .slice oe ne ke, .slice oa na ka, .slice ov nv kv, .slice oc nc kc, .slice ox nx kx, .slice oy ny ky, .int .i64 (m11 : Int), .string m12, .string m13, .slice ao m cap, .int .i64 (m15 : Int)]
              replace HGD := Lib.hid (HGD.out.kt (show (91 : TypeId) ≠ 33 by decide) (show (50 : TypeId) ≠ 33 by decide) (show (47 : TypeId) ≠ 33 by decide) (KB))
              replace HGC := Lib.hid (HGC.out.kt (show (47 : TypeId) ≠ 33 by decide) (KB))
              replace HGS := Lib.hid (RowsO.kt (strO_pst _) (show (9 : TypeId) ≠ 33 by decide) HGS.out (KB))
              obtain ⟨WF, hWF⟩ : ∃ W, W = World.setRow (((((w15.setCell ⟨p + 1, 0, none⟩ (.string s)).setCell ⟨p + 1, 1, none⟩ (.int .i64 (s.size : Int))).setCell ⟨p + 1, 2, none⟩ (.int .i64 (k15 : Int))).setCell ⟨p + 1 + 1, 15, none⟩ (.int .i64 (m15 : Int)))) p #[.int .i64 (m0 : Int), .int .i64 (m1 : Int), .int .i64 (m2 : Int), .int .i64 (m3 : Int), .int .i64 (m4 : Int), .slice oe ne ke, .slice oa na ka, .slice ov nv kv, .slice oc nc kc, .slice ox nx kx, .slice oy ny ky, .int .i64 (m11 : Int), .string m12, .string m13, .slice ao m cap, .int .i64 (m15 : Int)] := ⟨_, rfl⟩
              rw [← hWF] at hF hBL HGD HGC HGS ⊢
              clear hWF KB HB hx0 hx2 z0 z2 hb1 hb2 hc0 hc1 c0_15 f0_15 c1_0 f1_0 c1_1 f1_1 c1_2 f1_2
              have e0 := boxc hF 0 (.int .i64 (m0 : Int)) rfl
              have e1 := boxc hF 1 (.int .i64 (m1 : Int)) rfl
              have e2 := boxc hF 2 (.int .i64 (m2 : Int)) rfl
              have e3 := boxc hF 3 (.int .i64 (m3 : Int)) rfl
              have e4 := boxc hF 4 (.int .i64 (m4 : Int)) rfl
              have e5 := boxc hF 5 (.slice oe ne ke) rfl
              have e6 := boxc hF 6 (.slice oa na ka) rfl
              have e7 := boxc hF 7 (.slice ov nv kv) rfl
              have e8 := boxc hF 8 (.slice oc nc kc) rfl
              have e9 := boxc hF 9 (.slice ox nx kx) rfl
              have e10 := boxc hF 10 (.slice oy ny ky) rfl
              have e11 := boxc hF 11 (.int .i64 (m11 : Int)) rfl
              have e12 := boxc hF 12 (.string m12) rfl
              have e13 := boxc hF 13 (.string m13) rfl
              have e14 := boxc hF 14 (.slice ao m cap) rfl
              have e15 := boxc hF 15 (.int .i64 (m15 : Int)) rfl
              refine bodyPost_ret (v := .tuple #[.agg #[.int .i64 (m0 : Int), .int .i64 (m1 : Int), .int .i64 (m2 : Int), .int .i64 (m3 : Int), .int .i64 (m4 : Int), .slice oe ne ke, .slice oa na ka, .slice ov nv kv, .slice oc nc kc, .slice ox nx kx, .slice oy ny ky, .int .i64 (m11 : Int), .string m12, .string m13, .slice ao m cap, .int .i64 (m15 : Int)], .int .i64 0]) (by simp [results, Try.results13, go_sem, e0, e1, e2, e3, e4, e5, e6, e7, e8, e9, e10, e11, e12, e13, e14, e15]) rfl ?_
              exact ⟨hBL, Or.inl ⟨_, [.int .i64 (m0 : Int), .int .i64 (m1 : Int), .int .i64 (m2 : Int), .int .i64 (m3 : Int), .int .i64 (m4 : Int), .slice oe ne ke, .slice oa na ka, .slice ov nv kv, .slice oc nc kc, .slice ox nx kx, .slice oy ny ky, .int .i64 (m11 : Int), .string m12, .string m13, .slice ao m cap, .int .i64 (m15 : Int)], hans.out, rfl, _, _, _, _, _, _, _, _, _, _, _, _, _, _, _, _, _, _, _, _, _, rfl, HGD.out.1, HGD.out.2.1, HGD.out.2.2.1, HGD.out.2.2.2, HGC.out.1, HGC.out.2, hm12, hm13, HGS.out.base⟩⟩
            · have hans : Hid (cd.read (kit.bytes s) = .error 3) := read_more hr (by rw [kit.bytes_len]; omega)
              have hb3 : ¬ (b15 : Int) = (s.size : Int) := by omega
              have hb1 : ((b15 : Int) == (s.size : Int)) = false := beq_eq_false_iff_ne.2 hb3
              have hb2 : ((b15 : Int) != (s.size : Int)) = true := by rw [bne, hb1]; rfl
              clear hr hle
              have z0 := HB.out.at 2 rfl
              have hx0 : (((((w15.setCell ⟨p + 1, 0, none⟩ (.string s)).setCell ⟨p + 1, 1, none⟩ (.int .i64 (b15 : Int))).setCell ⟨p + 1, 2, none⟩ (.int .i64 (k15 : Int))).setCell ⟨p + 1 + 1, 15, none⟩ (.int .i64 (m15 : Int)))).heap[p]? = some (.cells #[.int .i64 0, .int .i64 0, .int .i64 0, .int .i64 0, .int .i64 0, .slice none 0 0, .slice none 0 0, .slice none 0 0, .slice none 0 0, .slice none 0 0, .slice none 0 0, .int .i64 0, .string ⟨#[]⟩, .string ⟨#[]⟩, .slice none 0 0, .int .i64 0] 33 (0, 0)) := z0
              go_wp2_with ((with_reducible show wpList _ _ _ (Oper.mk _ (Op.store 33 (.tmp 2) _) _ _ _ _ :: _) _ _); refine wpList_store_row rfl 33 (.tmp 2) (.tmp 121) rfl p #[.int .i64 0, .int .i64 0, .int .i64 0, .int .i64 0, .int .i64 0, .slice none 0 0, .slice none 0 0, .slice none 0 0, .slice none 0 0, .slice none 0 0, .slice none 0 0, .int .i64 0, .string ⟨#[]⟩, .string ⟨#[]⟩, .slice none 0 0, .int .i64 0] rfl rfl 33 #[.int .i64 0, .int .i64 0, .int .i64 0, .int .i64 0, .int .i64 0, .slice none 0 0, .slice none 0 0, .slice none 0 0, .slice none 0 0, .slice none 0 0, .slice none 0 0, .int .i64 0, .string ⟨#[]⟩, .string ⟨#[]⟩, .slice none 0 0, .int .i64 0] hx0 msize rfl (by simp [Value.oneCell']) ?_)
              -- HERE2
              have hF := setRow_heap _ p _ #[.int .i64 0, .int .i64 0, .int .i64 0, .int .i64 0, .int .i64 0, .slice none 0 0, .slice none 0 0, .slice none 0 0, .slice none 0 0, .slice none 0 0, .slice none 0 0, .int .i64 0, .string ⟨#[]⟩, .string ⟨#[]⟩, .slice none 0 0, .int .i64 0] _ _ hx0
              have hBL := below_setRow HB.out.1 (HB.out.2.1 (p, 33, [.int .i64 0, .int .i64 0, .int .i64 0, .int .i64 0, .int .i64 0, .slice none 0 0, .slice none 0 0, .slice none 0 0, .slice none 0 0, .slice none 0 0, .slice none 0 0, .int .i64 0, .string ⟨#[]⟩, .string ⟨#[]⟩, .slice none 0 0, .int .i64 0]) (by simp)).1 #[.int .i64 0, .int .i64 0, .int .i64 0, .int .i64 0, .int .i64 0, .slice none 0 0, .slice none 0 0, .slice none 0 0, .slice none 0 0, .slice none 0 0, .slice none 0 0, .int .i64 0, .string ⟨#[]⟩, .string ⟨#[]⟩, .slice none 0 0, .int .i64 0]
              obtain ⟨WF, hWF⟩ : ∃ W, W = World.setRow (((((w15.setCell ⟨p + 1, 0, none⟩ (.string s)).setCell ⟨p + 1, 1, none⟩ (.int .i64 (b15 : Int))).setCell ⟨p + 1, 2, none⟩ (.int .i64 (k15 : Int))).setCell ⟨p + 1 + 1, 15, none⟩ (.int .i64 (m15 : Int)))) p #[.int .i64 0, .int .i64 0, .int .i64 0, .int .i64 0, .int .i64 0, .slice none 0 0, .slice none 0 0, .slice none 0 0, .slice none 0 0, .slice none 0 0, .slice none 0 0, .int .i64 0, .string ⟨#[]⟩, .string ⟨#[]⟩, .slice none 0 0, .int .i64 0] := ⟨_, rfl⟩
              rw [← hWF] at hF hBL ⊢
              clear hWF HB hx0 z0 c0_15 f0_15 c1_0 f1_0 c1_1 f1_1 c1_2 f1_2
              have e0 := boxc hF 0 (.int .i64 0) rfl
              have e1 := boxc hF 1 (.int .i64 0) rfl
              have e2 := boxc hF 2 (.int .i64 0) rfl
              have e3 := boxc hF 3 (.int .i64 0) rfl
              have e4 := boxc hF 4 (.int .i64 0) rfl
              have e5 := boxc hF 5 (.slice none 0 0) rfl
              have e6 := boxc hF 6 (.slice none 0 0) rfl
              have e7 := boxc hF 7 (.slice none 0 0) rfl
              have e8 := boxc hF 8 (.slice none 0 0) rfl
              have e9 := boxc hF 9 (.slice none 0 0) rfl
              have e10 := boxc hF 10 (.slice none 0 0) rfl
              have e11 := boxc hF 11 (.int .i64 0) rfl
              have e12 := boxc hF 12 (.string ⟨#[]⟩) rfl
              have e13 := boxc hF 13 (.string ⟨#[]⟩) rfl
              have e14 := boxc hF 14 (.slice none 0 0) rfl
              have e15 := boxc hF 15 (.int .i64 0) rfl
              refine bodyPost_ret (v := .tuple #[.agg #[.int .i64 0, .int .i64 0, .int .i64 0, .int .i64 0, .int .i64 0, .slice none 0 0, .slice none 0 0, .slice none 0 0, .slice none 0 0, .slice none 0 0, .slice none 0 0, .int .i64 0, .string ⟨#[]⟩, .string ⟨#[]⟩, .slice none 0 0, .int .i64 0], .int .i64 3]) (by simp [results, Try.results13, go_sem, e0, e1, e2, e3, e4, e5, e6, e7, e8, e9, e10, e11, e12, e13, e14, e15]) rfl ?_
              exact ⟨hBL, Or.inr ⟨3, hans.out, by omega, rfl⟩⟩
          · have hc0 : ((k15 : Int) == 0) = false := beq_eq_false_iff_ne.2 (by omega)
            have hc1 : ((k15 : Int) != 0) = true := by simp [bne, hc0]
            have hans : Hid (cd.read (kit.bytes s) = .error k15 ∧ 1 ≤ k15) := by
              rcases HM.out.inv with ⟨h, _⟩ | ⟨h, h2⟩
              · omega
              · exact ⟨read_err h2, h⟩
            clear hk15
            go_wp2
            obtain ⟨Wz, hWz⟩ : ∃ W, W = ((((w15.setCell ⟨p + 1, 0, none⟩ (.string s)).setCell ⟨p + 1, 1, none⟩ (.int .i64 (b15 : Int))).setCell ⟨p + 1, 2, none⟩ (.int .i64 (k15 : Int))).setCell ⟨p + 1 + 1, 15, none⟩ (.int .i64 (m15 : Int))) := ⟨_, rfl⟩
            rw [← hWz] at HB ⊢
            clear hWz c0_15 f0_15 c1_0 f1_0 c1_1 f1_1 c1_2 f1_2
            have z0 := HB.out.at 2 rfl
            have z1 := HB.out.at 1 rfl
            have hkz : Wz.cell? ⟨p + 1, 2, none⟩ = some (.int .i64 (k15 : Int)) := boxc z1 2 _ rfl
            have hx0 : Wz.heap[p]? = some (.cells #[.int .i64 0, .int .i64 0, .int .i64 0, .int .i64 0, .int .i64 0, .slice none 0 0, .slice none 0 0, .slice none 0 0, .slice none 0 0, .slice none 0 0, .slice none 0 0, .int .i64 0, .string ⟨#[]⟩, .string ⟨#[]⟩, .slice none 0 0, .int .i64 0] 33 (0, 0)) := z0
            have hp2 := (HB.out.2.1 (p, 33, [.int .i64 0, .int .i64 0, .int .i64 0, .int .i64 0, .int .i64 0, .slice none 0 0, .slice none 0 0, .slice none 0 0, .slice none 0 0, .slice none 0 0, .slice none 0 0, .int .i64 0, .string ⟨#[]⟩, .string ⟨#[]⟩, .slice none 0 0, .int .i64 0]) (by simp)).1
            have hpp : p + 1 ≠ p := by omega
            have HZ := Lib.hid HB.out.1
            clear HB z0 z1
            -- HERE4
            refine wp_flow 5 (fun _ => 1000) (fun w' => ∃ cs : Array Value, w'.heap[p]? = some (.cells cs 33 (0, 0)) ∧ cs.size = 16 ∧ w'.cell? ⟨p + 1, 2, none⟩ = some (.int .i64 (k15 : Int)) ∧ Below w.heap.size w w') (fun i w w' => if i = 3 then (fun w w' => w' = w.setRow p #[.int .i64 0, .int .i64 0, .int .i64 0, .int .i64 0, .int .i64 0, .slice none 0 0, .slice none 0 0, .slice none 0 0, .slice none 0 0, .slice none 0 0, .slice none 0 0, .int .i64 0, .string ⟨#[]⟩, .string ⟨#[]⟩, .slice none 0 0, .int .i64 0]) w w' else (fun w w' => w' = w) w w') (fun kF vF wF => match kF with | 0 => (vF = .agg #[.int .i64 0, .int .i64 0, .int .i64 0, .int .i64 0, .int .i64 0, .slice none 0 0, .slice none 0 0, .slice none 0 0, .slice none 0 0, .slice none 0 0, .slice none 0 0, .int .i64 0, .string ⟨#[]⟩, .string ⟨#[]⟩, .slice none 0 0, .int .i64 0]) | 1 => (vF = .pointer (some ⟨p + 1, 2, none⟩)) | 2 => (vF = .int .i64 (k15 : Int)) | 3 => (wF.heap[p]? = some (.cells #[.int .i64 0, .int .i64 0, .int .i64 0, .int .i64 0, .int .i64 0, .slice none 0 0, .slice none 0 0, .slice none 0 0, .slice none 0 0, .slice none 0 0, .slice none 0 0, .int .i64 0, .string ⟨#[]⟩, .string ⟨#[]⟩, .slice none 0 0, .int .i64 0] 33 (0, 0))) | 4 => (vF = .int .i64 (k15 : Int)) | _ => True) (fun _ _ _ _ => True) (by kernel_rfl) (by kernel_rfl) ?_ ?_ ?_ ?_ ?_
            · exact ⟨_, hx0, rfl, hkz, HZ.out.drew⟩
            · intro iF wF1 wF2 hR hT
              have hT : (fun i w w' => if i = 3 then (fun w w' => w' = w.setRow p #[.int .i64 0, .int .i64 0, .int .i64 0, .int .i64 0, .int .i64 0, .slice none 0 0, .slice none 0 0, .slice none 0 0, .slice none 0 0, .slice none 0 0, .slice none 0 0, .int .i64 0, .string ⟨#[]⟩, .string ⟨#[]⟩, .slice none 0 0, .int .i64 0]) w w' else (fun w w' => w' = w) w w') iF wF1 wF2 := hT
              simp only at hT
              by_cases hi3 : iF = 3
              · rw [if_pos hi3] at hT; subst hT; obtain ⟨cs, hc, hcs, hk2, hBd⟩ := hR; exact ⟨_, setRow_heap _ p _ _ _ _ hc, rfl, (cell_row _ hpp).trans hk2, below_setRow hBd hp2 _⟩
              rw [if_neg hi3] at hT
              subst hT; exact hR
            · intro kF hkF iF hiF hne hdd hanc hdan vF wF1 wF2 h hT
              rcases (by omega : kF = 0 ∨ kF = 1 ∨ kF = 2 ∨ kF = 3 ∨ kF = 4) with rfl | rfl | rfl | rfl | rfl
              · exact h
              · exact h
              · exact h
              · have h : (wF1.heap[p]? = some (.cells #[.int .i64 0, .int .i64 0, .int .i64 0, .int .i64 0, .int .i64 0, .slice none 0 0, .slice none 0 0, .slice none 0 0, .slice none 0 0, .slice none 0 0, .slice none 0 0, .int .i64 0, .string ⟨#[]⟩, .string ⟨#[]⟩, .slice none 0 0, .int .i64 0] 33 (0, 0))) := h
                show (wF2.heap[p]? = some (.cells #[.int .i64 0, .int .i64 0, .int .i64 0, .int .i64 0, .int .i64 0, .slice none 0 0, .slice none 0 0, .slice none 0 0, .slice none 0 0, .slice none 0 0, .slice none 0 0, .int .i64 0, .string ⟨#[]⟩, .string ⟨#[]⟩, .slice none 0 0, .int .i64 0] 33 (0, 0)))
                have hT : (fun i w w' => if i = 3 then (fun w w' => w' = w.setRow p #[.int .i64 0, .int .i64 0, .int .i64 0, .int .i64 0, .int .i64 0, .slice none 0 0, .slice none 0 0, .slice none 0 0, .slice none 0 0, .slice none 0 0, .slice none 0 0, .int .i64 0, .string ⟨#[]⟩, .string ⟨#[]⟩, .slice none 0 0, .int .i64 0]) w w' else (fun w w' => w' = w) w w') iF wF1 wF2 := hT
                simp only at hT
                by_cases hi3 : iF = 3
                · exact absurd hi3.symm hne
                rw [if_neg hi3] at hT
                rw [hT]; exact h
              · exact h
            · refine FlowAll.cons ?_ ?_
              · intro xF wd hR hd K hK
                clear hd
                simp only [List.take_succ_cons, List.take_zero, fillOf, Act.put, List.setIfInBounds_toArray, List.set_cons_zero, List.set_cons_succ, Nat.reduceAdd, Nat.zero_add] at hK ⊢
                obtain ⟨cs, hc, hcs, hk2, hBd⟩ := id hR
                rw [if_pos (by rfl)]
                go_simp
                exact hK.out _ _ ((rfl : wd = wd)) (rfl) (fun _ _ _ => ⟨trivial, trivial⟩)
              refine FlowAll.cons ?_ ?_
              · intro xF wd hR hd K hK
                clear hd
                simp only [List.take_succ_cons, List.take_zero, fillOf, Act.put, List.setIfInBounds_toArray, List.set_cons_zero, List.set_cons_succ, Nat.reduceAdd, Nat.zero_add] at hK ⊢
                obtain ⟨cs, hc, hcs, hk2, hBd⟩ := id hR
                rw [if_pos (by rfl)]
                go_simp
                exact hK.out _ _ ((rfl : wd = wd)) (rfl) (fun _ _ _ => ⟨trivial, trivial⟩)
              refine FlowAll.cons ?_ ?_
              · intro xF wd hR hd K hK
                have dd1 : ((xF 1) = .pointer (some ⟨p + 1, 2, none⟩)) := hd 1 (by kernel_rfl)
                clear hd
                simp only [List.take_succ_cons, List.take_zero, fillOf, Act.put, List.setIfInBounds_toArray, List.set_cons_zero, List.set_cons_succ, Nat.reduceAdd, Nat.zero_add] at hK ⊢
                try generalize xF 1 = yy1 at *
                obtain rfl := dd1
                obtain ⟨cs, hc, hcs, hk2, hBd⟩ := id hR
                rw [if_pos (by rfl)]
                go_simp
                exact hK.out _ _ ((rfl : wd = wd)) (rfl) (fun _ _ _ => ⟨trivial, trivial⟩)
              refine FlowAll.cons ?_ ?_
              · intro xF wd hR hd K hK
                have dd0 : ((xF 0) = .agg #[.int .i64 0, .int .i64 0, .int .i64 0, .int .i64 0, .int .i64 0, .slice none 0 0, .slice none 0 0, .slice none 0 0, .slice none 0 0, .slice none 0 0, .slice none 0 0, .int .i64 0, .string ⟨#[]⟩, .string ⟨#[]⟩, .slice none 0 0, .int .i64 0]) := hd 0 (by kernel_rfl)
                clear hd
                simp only [List.take_succ_cons, List.take_zero, fillOf, Act.put, List.setIfInBounds_toArray, List.set_cons_zero, List.set_cons_succ, Nat.reduceAdd, Nat.zero_add] at hK ⊢
                try generalize xF 0 = yy0 at *
                obtain rfl := dd0
                obtain ⟨cs, hc, hcs, hk2, hBd⟩ := id hR
                rw [if_pos (by rfl)]
                refine wp_store_row 33 (.tmp 2) (.tmp 113) rfl p #[.int .i64 0, .int .i64 0, .int .i64 0, .int .i64 0, .int .i64 0, .slice none 0 0, .slice none 0 0, .slice none 0 0, .slice none 0 0, .slice none 0 0, .slice none 0 0, .int .i64 0, .string ⟨#[]⟩, .string ⟨#[]⟩, .slice none 0 0, .int .i64 0] rfl rfl 33 cs hc msize hcs (by simp [Value.oneCell']) ?_
                simp only [Act.put]
                have hk9 := hK.out undef (wd.setRow p #[.int .i64 0, .int .i64 0, .int .i64 0, .int .i64 0, .int .i64 0, .slice none 0 0, .slice none 0 0, .slice none 0 0, .slice none 0 0, .slice none 0 0, .slice none 0 0, .int .i64 0, .string ⟨#[]⟩, .string ⟨#[]⟩, .slice none 0 0, .int .i64 0])
                clear hK
                apply hk9
                · rw [if_pos trivial]
                · exact setRow_heap _ p _ _ _ _ hc
                · exact fun _ _ _ => ⟨trivial, trivial⟩
              refine FlowAll.cons ?_ ?_
              · intro xF wd hR hd K hK
                have dd2 : ((xF 2) = .int .i64 (k15 : Int)) := hd 2 (by kernel_rfl)
                clear hd
                simp only [List.take_succ_cons, List.take_zero, fillOf, Act.put, List.setIfInBounds_toArray, List.set_cons_zero, List.set_cons_succ, Nat.reduceAdd, Nat.zero_add] at hK ⊢
                try generalize xF 2 = yy2 at *
                obtain rfl := dd2
                obtain ⟨cs, hc, hcs, hk2, hBd⟩ := id hR
                rw [if_pos (by rfl)]
                go_simp
                exact hK.out _ _ ((rfl : wd = wd)) (rfl) (fun _ _ _ => ⟨trivial, trivial⟩)
              exact FlowAll.nil
            intro xF wd hR hF hP
            clear hP
            have dd0 : ((xF 0) = .agg #[.int .i64 0, .int .i64 0, .int .i64 0, .int .i64 0, .int .i64 0, .slice none 0 0, .slice none 0 0, .slice none 0 0, .slice none 0 0, .slice none 0 0, .slice none 0 0, .int .i64 0, .string ⟨#[]⟩, .string ⟨#[]⟩, .slice none 0 0, .int .i64 0]) := hF 0 (by omega) (by decide)
            have dd1 : ((xF 1) = .pointer (some ⟨p + 1, 2, none⟩)) := hF 1 (by omega) (by decide)
            have dd2 : ((xF 2) = .int .i64 (k15 : Int)) := hF 2 (by omega) (by decide)
            have dd3 : (wd.heap[p]? = some (.cells #[.int .i64 0, .int .i64 0, .int .i64 0, .int .i64 0, .int .i64 0, .slice none 0 0, .slice none 0 0, .slice none 0 0, .slice none 0 0, .slice none 0 0, .slice none 0 0, .int .i64 0, .string ⟨#[]⟩, .string ⟨#[]⟩, .slice none 0 0, .int .i64 0] 33 (0, 0))) := hF 3 (by omega) (by decide)
            have dd4 : ((xF 4) = .int .i64 (k15 : Int)) := hF 4 (by omega) (by decide)
            clear hF
            simp only [List.take_succ_cons, List.take_zero, List.drop_succ_cons, List.drop_zero, fillOf, Act.put, List.setIfInBounds_toArray, List.set_cons_zero, List.set_cons_succ, Nat.reduceAdd, Nat.zero_add]
            try generalize xF 0 = yy0 at *
            try generalize xF 1 = yy1 at *
            try generalize xF 2 = yy2 at *
            try generalize xF 3 = yy3 at *
            try generalize xF 4 = yy4 at *
            clear xF
            obtain rfl := dd0
            obtain rfl := dd1
            obtain rfl := dd2
            obtain hst := dd3
            obtain rfl := dd4
            have hRE7 := Lib.hid hR
            clear hR
            -- HERE5
            obtain ⟨cs9, hc9, hcs9, hk9, hBd⟩ := hRE7.out
            clear hRE7 hkz hx0
            skip
            have e0 := boxc dd3 0 (.int .i64 0) rfl
            have e1 := boxc dd3 1 (.int .i64 0) rfl
            have e2 := boxc dd3 2 (.int .i64 0) rfl
            have e3 := boxc dd3 3 (.int .i64 0) rfl
            have e4 := boxc dd3 4 (.int .i64 0) rfl
            have e5 := boxc dd3 5 (.slice none 0 0) rfl
            have e6 := boxc dd3 6 (.slice none 0 0) rfl
            have e7 := boxc dd3 7 (.slice none 0 0) rfl
            have e8 := boxc dd3 8 (.slice none 0 0) rfl
            have e9 := boxc dd3 9 (.slice none 0 0) rfl
            have e10 := boxc dd3 10 (.slice none 0 0) rfl
            have e11 := boxc dd3 11 (.int .i64 0) rfl
            have e12 := boxc dd3 12 (.string ⟨#[]⟩) rfl
            have e13 := boxc dd3 13 (.string ⟨#[]⟩) rfl
            have e14 := boxc dd3 14 (.slice none 0 0) rfl
            have e15 := boxc dd3 15 (.int .i64 0) rfl
            go_wp2
            refine bodyPost_ret (v := .tuple #[.agg #[.int .i64 0, .int .i64 0, .int .i64 0, .int .i64 0, .int .i64 0, .slice none 0 0, .slice none 0 0, .slice none 0 0, .slice none 0 0, .slice none 0 0, .slice none 0 0, .int .i64 0, .string ⟨#[]⟩, .string ⟨#[]⟩, .slice none 0 0, .int .i64 0], .int .i64 (k15 : Int)]) (by simp [results, Try.results13, go_sem, e0, e1, e2, e3, e4, e5, e6, e7, e8, e9, e10, e11, e12, e13, e14, e15]) rfl ?_
            exact ⟨hBd, Or.inr ⟨k15, hans.out.1, hans.out.2, rfl⟩⟩
    · have hjI : ¬ (j : Int) < (n : Int) := by omega
      obtain rfl : j = n := by omega
      -- MFIN
      as_aux_lemma =>
        have x0 := HB.out.at 0 rfl
        have c0_15 := boxc x0 15 (.int .i64 0) rfl
        have f0_15 := boxf x0 15
        clear x0
        have x1 := HB.out.at 1 rfl
        have c1_0 := boxc x1 0 (.string s) rfl
        have f1_0 := boxf x1 0
        have c1_1 := boxc x1 1 (.int .i64 (b12 : Int)) rfl
        have f1_1 := boxf x1 1
        have c1_2 := boxc x1 2 (.int .i64 (k12 : Int)) rfl
        have f1_2 := boxf x1 2
        clear x1
        go_wp2_with fail
        (with_reducible refine (qnum s b12 k12 _ hs).mono ?_)
        rintro e w15 ⟨b15, k15, v, m15, rfl, rfl, hq, hb⟩
        clear c0_15 f0_15 c1_0 f1_0 c1_1 f1_1 c1_2 f1_2
        have hkc := Kt.of_below (T := 79) hb
        replace HGD := Lib.hid (HGD.out.kt (show (91 : TypeId) ≠ 79 by decide) (show (50 : TypeId) ≠ 79 by decide) (show (47 : TypeId) ≠ 79 by decide) (hkc))
        replace HGC := Lib.hid (HGC.out.kt (show (47 : TypeId) ≠ 79 by decide) (hkc))
        replace HGS := Lib.hid (RowsO.kt (strO_pst _) (show (9 : TypeId) ≠ 79 by decide) HGS.out (hkc))
        replace HB := Lib.hid (HB.out.call hb)
        have HQ15 := Lib.hid hq
        clear hkc
        have x0 := HB.out.at 0 rfl
        have c0_15 := boxc x0 15 (.int .i64 0) rfl
        have f0_15 := boxf x0 15
        clear x0
        have x1 := HB.out.at 1 rfl
        have c1_0 := boxc x1 0 (.string s) rfl
        have f1_0 := boxf x1 0
        have c1_1 := boxc x1 1 (.int .i64 (b12 : Int)) rfl
        have f1_1 := boxf x1 1
        have c1_2 := boxc x1 2 (.int .i64 (k12 : Int)) rfl
        have f1_2 := boxf x1 2
        clear x1
        clear hb hq
        have zz := HB.out.at 1 rfl
        have hkr := wset_kt (rdrC s b15 k15) _ _ 0 _ _ zz
        replace HGD := Lib.hid (HGD.out.kt (show (91 : TypeId) ≠ 79 by decide) (show (50 : TypeId) ≠ 79 by decide) (show (47 : TypeId) ≠ 79 by decide) (hkr))
        replace HGC := Lib.hid (HGC.out.kt (show (47 : TypeId) ≠ 79 by decide) (hkr))
        replace HGS := Lib.hid (RowsO.kt (strO_pst _) (show (9 : TypeId) ≠ 79 by decide) HGS.out (hkr))
        clear hkr zz
        replace HB : Hid (Bxs w _ [(p + 2, 33, [.int .i64 (m0 : Int), .int .i64 (m1 : Int), .int .i64 (m2 : Int), .int .i64 (m3 : Int), .int .i64 (m4 : Int), .slice oe ne ke, .slice oa na ka, .slice ov nv kv, .slice oc nc kc, .slice ox nx kx, .slice oy ny ky, .int .i64 (m11 : Int), .string m12, .string m13, .slice ao m cap, .int .i64 0]), (p + 1, 79, [.string s, .int .i64 (b15 : Int), .int .i64 (k15 : Int)]), (p, 33, [.int .i64 0, .int .i64 0, .int .i64 0, .int .i64 0, .int .i64 0, .slice none 0 0, .slice none 0 0, .slice none 0 0, .slice none 0 0, .slice none 0 0, .slice none 0 0, .int .i64 0, .string ⟨#[]⟩, .string ⟨#[]⟩, .slice none 0 0, .int .i64 0])]) := Lib.hid (HB.out.w1 0 (rdrC s b15 k15))
        have zz := HB.out.at 0 rfl
        have hkm := wset_kt [.int .i64 (m15 : Int)] _ _ 15 _ _ zz
        replace HGD := Lib.hid (HGD.out.kt (show (91 : TypeId) ≠ 33 by decide) (show (50 : TypeId) ≠ 33 by decide) (show (47 : TypeId) ≠ 33 by decide) (hkm))
        replace HGC := Lib.hid (HGC.out.kt (show (47 : TypeId) ≠ 33 by decide) (hkm))
        replace HGS := Lib.hid (RowsO.kt (strO_pst _) (show (9 : TypeId) ≠ 33 by decide) HGS.out (hkm))
        clear hkm zz
        replace HB : Hid (Bxs w _ [(p + 2, 33, [.int .i64 (m0 : Int), .int .i64 (m1 : Int), .int .i64 (m2 : Int), .int .i64 (m3 : Int), .int .i64 (m4 : Int), .slice oe ne ke, .slice oa na ka, .slice ov nv kv, .slice oc nc kc, .slice ox nx kx, .slice oy ny ky, .int .i64 (m11 : Int), .string m12, .string m13, .slice ao m cap, .int .i64 (m15 : Int)]), (p + 1, 79, [.string s, .int .i64 (b15 : Int), .int .i64 (k15 : Int)]), (p, 33, [.int .i64 0, .int .i64 0, .int .i64 0, .int .i64 0, .int .i64 0, .slice none 0 0, .slice none 0 0, .slice none 0 0, .slice none 0 0, .slice none 0 0, .slice none 0 0, .int .i64 0, .string ⟨#[]⟩, .string ⟨#[]⟩, .slice none 0 0, .int .i64 0])]) := Lib.hid (HB.out.w0 15 [.int .i64 (m15 : Int)])
        -- MB
        have HM : Hid (Qd s (cd.msgR (kit.bytes s) 0) (⟨m0, m1, m2, m3, m4, del.1, del.2.1, del.2.2.1, del.2.2.2, cx.1, cx.2, m11, m12, m13, l, m15⟩ : cd.Msg) b15 k15) := by
          show Qd _ _ _ _ _
          rw [← onR_zero (cd.msgR (kit.bytes s) 0)]
          unfold cd.msgR
          exact Qd.seq HQ1.out (Qd.seq HQ2.out (Qd.seq HQ3.out (Qd.seq HQ4.out (Qd.seq HQ5.out (Qd.seq HQ6.out (Qd.seq HQ7.out (Qd.seq HQ8.out (Qd.seq HQ9.out (Qd.seq HQ10.out (Qd.seq (by rw [lst_siz]; exact Qd.seq HQ11.out HQr.out) (Qd.map (g := fun er : Nat => (⟨m0, m1, m2, m3, m4, del.1, del.2.1, del.2.2.1, del.2.2.2, cx.1, cx.2, m11, m12, m13, l, er⟩ : cd.Msg)) HQ15.out)))))))))))
        replace HB : Hid (Bxs w (((((w15.setCell ⟨p + 1, 0, none⟩ (.string s)).setCell ⟨p + 1, 1, none⟩ (.int .i64 (b15 : Int))).setCell ⟨p + 1, 2, none⟩ (.int .i64 (k15 : Int))).setCell ⟨p + 1 + 1, 15, none⟩ (.int .i64 (m15 : Int)))) [(p + 2, 33, [.int .i64 (m0 : Int), .int .i64 (m1 : Int), .int .i64 (m2 : Int), .int .i64 (m3 : Int), .int .i64 (m4 : Int), .slice oe ne ke, .slice oa na ka, .slice ov nv kv, .slice oc nc kc, .slice ox nx kx, .slice oy ny ky, .int .i64 (m11 : Int), .string m12, .string m13, .slice ao m cap, .int .i64 (m15 : Int)]), (p + 1, 79, [.string s, .int .i64 (b15 : Int), .int .i64 (k15 : Int)]), (p, 33, [.int .i64 0, .int .i64 0, .int .i64 0, .int .i64 0, .int .i64 0, .slice none 0 0, .slice none 0 0, .slice none 0 0, .slice none 0 0, .slice none 0 0, .slice none 0 0, .int .i64 0, .string ⟨#[]⟩, .string ⟨#[]⟩, .slice none 0 0, .int .i64 0])]) := HB
        by_cases hk15 : k15 = 0
        · have hc0 : ((k15 : Int) == 0) = true := by subst hk15; rfl
          have hc1 : ((k15 : Int) != 0) = false := by subst hk15; rfl
          obtain ⟨hr, hle⟩ : cd.msgR (kit.bytes s) 0 = .ok ((⟨m0, m1, m2, m3, m4, del.1, del.2.1, del.2.2.1, del.2.2.2, cx.1, cx.2, m11, m12, m13, l, m15⟩ : cd.Msg), b15) ∧ b15 ≤ s.size := by
            rcases HM.out.inv with ⟨_, h, h2⟩ | ⟨h, _⟩
            · exact ⟨h, h2⟩
            · omega
          clear hk15
          by_cases hbs : b15 = s.size
          · have hans : Hid (cd.read (kit.bytes s) = .ok _) := read_ok hr (by rw [kit.bytes_len]; omega)
            have hb1 : ((s.size : Int) == (s.size : Int)) = true := beq_self_eq_true _
            have hb2 : ((s.size : Int) != (s.size : Int)) = false := by rw [bne, hb1]; rfl
            clear hr hle
            subst hbs
            have z2 := HB.out.at 0 rfl
            have z0 := HB.out.at 2 rfl
            have hx2 : (((((w15.setCell ⟨p + 1, 0, none⟩ (.string s)).setCell ⟨p + 1, 1, none⟩ (.int .i64 (s.size : Int))).setCell ⟨p + 1, 2, none⟩ (.int .i64 (k15 : Int))).setCell ⟨p + 1 + 1, 15, none⟩ (.int .i64 (m15 : Int)))).heap[p + 2]? = some (.cells #[.int .i64 (m0 : Int), .int .i64 (m1 : Int), .int .i64 (m2 : Int), .int .i64 (m3 : Int), .int .i64 (m4 : Int), .slice oe ne ke, .slice oa na ka, .slice ov nv kv, .slice oc nc kc, .slice ox nx kx, .slice oy ny ky, .int .i64 (m11 : Int), .string m12, .string m13, .slice ao m cap, .int .i64 (m15 : Int)] 33 (0, 0)) := z2
            have hx0 : (((((w15.setCell ⟨p + 1, 0, none⟩ (.string s)).setCell ⟨p + 1, 1, none⟩ (.int .i64 (s.size : Int))).setCell ⟨p + 1, 2, none⟩ (.int .i64 (k15 : Int))).setCell ⟨p + 1 + 1, 15, none⟩ (.int .i64 (m15 : Int)))).heap[p]? = some (.cells #[.int .i64 0, .int .i64 0, .int .i64 0, .int .i64 0, .int .i64 0, .slice none 0 0, .slice none 0 0, .slice none 0 0, .slice none 0 0, .slice none 0 0, .slice none 0 0, .int .i64 0, .string ⟨#[]⟩, .string ⟨#[]⟩, .slice none 0 0, .int .i64 0] 33 (0, 0)) := z0
            go_wp2_with (first | ((with_reducible show wpList _ _ _ (Oper.mk _ (Op.load 33 (.tmp 5)) _ _ _ _ :: _) _ _); refine wpList_load_row rfl 33 (.tmp 5) rfl (p + 2) rfl 33 #[.int .i64 (m0 : Int), .int .i64 (m1 : Int), .int .i64 (m2 : Int), .int .i64 (m3 : Int), .int .i64 (m4 : Int), .slice oe ne ke, .slice oa na ka, .slice ov nv kv, .slice oc nc kc, .slice ox nx kx, .slice oy ny ky, .int .i64 (m11 : Int), .string m12, .string m13, .slice ao m cap, .int .i64 (m15 : Int)] (0, 0) _ hx2 Try.underlying33 rfl msize ?_) | ((with_reducible show wpList _ _ _ (Oper.mk _ (Op.store 33 (.tmp 2) _) _ _ _ _ :: _) _ _); refine wpList_store_row rfl 33 (.tmp 2) (.tmp 122) rfl p #[.int .i64 (m0 : Int), .int .i64 (m1 : Int), .int .i64 (m2 : Int), .int .i64 (m3 : Int), .int .i64 (m4 : Int), .slice oe ne ke, .slice oa na ka, .slice ov nv kv, .slice oc nc kc, .slice ox nx kx, .slice oy ny ky, .int .i64 (m11 : Int), .string m12, .string m13, .slice ao m cap, .int .i64 (m15 : Int)] rfl rfl 33 #[.int .i64 0, .int .i64 0, .int .i64 0, .int .i64 0, .int .i64 0, .slice none 0 0, .slice none 0 0, .slice none 0 0, .slice none 0 0, .slice none 0 0, .slice none 0 0, .int .i64 0, .string ⟨#[]⟩, .string ⟨#[]⟩, .slice none 0 0, .int .i64 0] hx0 msize rfl (by simp [Value.oneCell']) ?_))
            -- HERE
            have hF := setRow_heap _ p _ #[.int .i64 (m0 : Int), .int .i64 (m1 : Int), .int .i64 (m2 : Int), .int .i64 (m3 : Int), .int .i64 (m4 : Int), .slice oe ne ke, .slice oa na ka, .slice ov nv kv, .slice oc nc kc, .slice ox nx kx, .slice oy ny ky, .int .i64 (m11 : Int), .string m12, .string m13, .slice ao m cap, .int .i64 (m15 : Int)] _ _ hx0
            have hBL := below_setRow HB.out.1 (HB.out.2.1 (p, 33, [.int .i64 0, .int .i64 0, .int .i64 0, .int .i64 0, .int .i64 0, .slice none 0 0, .slice none 0 0, .slice none 0 0, .slice none 0 0, .slice none 0 0, .slice none 0 0, .int .i64 0, .string ⟨#[]⟩, .string ⟨#[]⟩, .slice none 0 0, .int .i64 0]) (by simp)).1 #[.int .i64 (m0 : Int), .int .i64 (m1 : Int), .int .i64 (m2 : Int), .int .i64 (m3 : Int), .int .i64 (m4 : Int), .slice oe ne ke, .slice oa na ka, .slice ov nv kv, .slice oc nc kc, .slice ox nx kx, .slice oy ny ky, .int .i64 (m11 : Int), .string m12, .string m13, .slice ao m cap, .int .i64 (m15 : Int)]
            have KB := Kt.row hx0 #[.int .i64 (m0 : Int), .int .i64 (m1 : Int), .int .i64 (m2 : Int), .int .i64 (m3 : Int), .int .i64 (m4 : Int), .slice oe ne ke, .slice oa na ka, .slice ov nv kv, .slice oc nc kc, .slice ox nx kx, .slice oy ny ky, .int .i64 (m11 : Int), .string m12, .string m13, .slice ao m cap, .int .i64 (m15 : Int)]
            replace HGD := Lib.hid (HGD.out.kt (show (91 : TypeId) ≠ 33 by decide) (show (50 : TypeId) ≠ 33 by decide) (show (47 : TypeId) ≠ 33 by decide) (KB))
            replace HGC := Lib.hid (HGC.out.kt (show (47 : TypeId) ≠ 33 by decide) (KB))
            replace HGS := Lib.hid (RowsO.kt (strO_pst _) (show (9 : TypeId) ≠ 33 by decide) HGS.out (KB))
            obtain ⟨WF, hWF⟩ : ∃ W, W = World.setRow (((((w15.setCell ⟨p + 1, 0, none⟩ (.string s)).setCell ⟨p + 1, 1, none⟩ (.int .i64 (s.size : Int))).setCell ⟨p + 1, 2, none⟩ (.int .i64 (k15 : Int))).setCell ⟨p + 1 + 1, 15, none⟩ (.int .i64 (m15 : Int)))) p #[.int .i64 (m0 : Int), .int .i64 (m1 : Int), .int .i64 (m2 : Int), .int .i64 (m3 : Int), .int .i64 (m4 : Int), .slice oe ne ke, .slice oa na ka, .slice ov nv kv, .slice oc nc kc, .slice ox nx kx, .slice oy ny ky, .int .i64 (m11 : Int), .string m12, .string m13, .slice ao m cap, .int .i64 (m15 : Int)] := ⟨_, rfl⟩
            rw [← hWF] at hF hBL HGD HGC HGS ⊢
            clear hWF KB HB hx0 hx2 z0 z2 hb1 hb2 hc0 hc1 c0_15 f0_15 c1_0 f1_0 c1_1 f1_1 c1_2 f1_2
            have e0 := boxc hF 0 (.int .i64 (m0 : Int)) rfl
            have e1 := boxc hF 1 (.int .i64 (m1 : Int)) rfl
            have e2 := boxc hF 2 (.int .i64 (m2 : Int)) rfl
            have e3 := boxc hF 3 (.int .i64 (m3 : Int)) rfl
            have e4 := boxc hF 4 (.int .i64 (m4 : Int)) rfl
            have e5 := boxc hF 5 (.slice oe ne ke) rfl
            have e6 := boxc hF 6 (.slice oa na ka) rfl
            have e7 := boxc hF 7 (.slice ov nv kv) rfl
            have e8 := boxc hF 8 (.slice oc nc kc) rfl
            have e9 := boxc hF 9 (.slice ox nx kx) rfl
            have e10 := boxc hF 10 (.slice oy ny ky) rfl
            have e11 := boxc hF 11 (.int .i64 (m11 : Int)) rfl
            have e12 := boxc hF 12 (.string m12) rfl
            have e13 := boxc hF 13 (.string m13) rfl
            have e14 := boxc hF 14 (.slice ao m cap) rfl
            have e15 := boxc hF 15 (.int .i64 (m15 : Int)) rfl
            refine bodyPost_ret (v := .tuple #[.agg #[.int .i64 (m0 : Int), .int .i64 (m1 : Int), .int .i64 (m2 : Int), .int .i64 (m3 : Int), .int .i64 (m4 : Int), .slice oe ne ke, .slice oa na ka, .slice ov nv kv, .slice oc nc kc, .slice ox nx kx, .slice oy ny ky, .int .i64 (m11 : Int), .string m12, .string m13, .slice ao m cap, .int .i64 (m15 : Int)], .int .i64 0]) (by simp [results, Try.results13, go_sem, e0, e1, e2, e3, e4, e5, e6, e7, e8, e9, e10, e11, e12, e13, e14, e15]) rfl ?_
            exact ⟨hBL, Or.inl ⟨_, [.int .i64 (m0 : Int), .int .i64 (m1 : Int), .int .i64 (m2 : Int), .int .i64 (m3 : Int), .int .i64 (m4 : Int), .slice oe ne ke, .slice oa na ka, .slice ov nv kv, .slice oc nc kc, .slice ox nx kx, .slice oy ny ky, .int .i64 (m11 : Int), .string m12, .string m13, .slice ao m cap, .int .i64 (m15 : Int)], hans.out, rfl, _, _, _, _, _, _, _, _, _, _, _, _, _, _, _, _, _, _, _, _, _, rfl, HGD.out.1, HGD.out.2.1, HGD.out.2.2.1, HGD.out.2.2.2, HGC.out.1, HGC.out.2, hm12, hm13, HGS.out.base⟩⟩
          · have hans : Hid (cd.read (kit.bytes s) = .error 3) := read_more hr (by rw [kit.bytes_len]; omega)
            have hb3 : ¬ (b15 : Int) = (s.size : Int) := by omega
            have hb1 : ((b15 : Int) == (s.size : Int)) = false := beq_eq_false_iff_ne.2 hb3
            have hb2 : ((b15 : Int) != (s.size : Int)) = true := by rw [bne, hb1]; rfl
            clear hr hle
            have z0 := HB.out.at 2 rfl
            have hx0 : (((((w15.setCell ⟨p + 1, 0, none⟩ (.string s)).setCell ⟨p + 1, 1, none⟩ (.int .i64 (b15 : Int))).setCell ⟨p + 1, 2, none⟩ (.int .i64 (k15 : Int))).setCell ⟨p + 1 + 1, 15, none⟩ (.int .i64 (m15 : Int)))).heap[p]? = some (.cells #[.int .i64 0, .int .i64 0, .int .i64 0, .int .i64 0, .int .i64 0, .slice none 0 0, .slice none 0 0, .slice none 0 0, .slice none 0 0, .slice none 0 0, .slice none 0 0, .int .i64 0, .string ⟨#[]⟩, .string ⟨#[]⟩, .slice none 0 0, .int .i64 0] 33 (0, 0)) := z0
            go_wp2_with ((with_reducible show wpList _ _ _ (Oper.mk _ (Op.store 33 (.tmp 2) _) _ _ _ _ :: _) _ _); refine wpList_store_row rfl 33 (.tmp 2) (.tmp 121) rfl p #[.int .i64 0, .int .i64 0, .int .i64 0, .int .i64 0, .int .i64 0, .slice none 0 0, .slice none 0 0, .slice none 0 0, .slice none 0 0, .slice none 0 0, .slice none 0 0, .int .i64 0, .string ⟨#[]⟩, .string ⟨#[]⟩, .slice none 0 0, .int .i64 0] rfl rfl 33 #[.int .i64 0, .int .i64 0, .int .i64 0, .int .i64 0, .int .i64 0, .slice none 0 0, .slice none 0 0, .slice none 0 0, .slice none 0 0, .slice none 0 0, .slice none 0 0, .int .i64 0, .string ⟨#[]⟩, .string ⟨#[]⟩, .slice none 0 0, .int .i64 0] hx0 msize rfl (by simp [Value.oneCell']) ?_)
            -- HERE2
            have hF := setRow_heap _ p _ #[.int .i64 0, .int .i64 0, .int .i64 0, .int .i64 0, .int .i64 0, .slice none 0 0, .slice none 0 0, .slice none 0 0, .slice none 0 0, .slice none 0 0, .slice none 0 0, .int .i64 0, .string ⟨#[]⟩, .string ⟨#[]⟩, .slice none 0 0, .int .i64 0] _ _ hx0
            have hBL := below_setRow HB.out.1 (HB.out.2.1 (p, 33, [.int .i64 0, .int .i64 0, .int .i64 0, .int .i64 0, .int .i64 0, .slice none 0 0, .slice none 0 0, .slice none 0 0, .slice none 0 0, .slice none 0 0, .slice none 0 0, .int .i64 0, .string ⟨#[]⟩, .string ⟨#[]⟩, .slice none 0 0, .int .i64 0]) (by simp)).1 #[.int .i64 0, .int .i64 0, .int .i64 0, .int .i64 0, .int .i64 0, .slice none 0 0, .slice none 0 0, .slice none 0 0, .slice none 0 0, .slice none 0 0, .slice none 0 0, .int .i64 0, .string ⟨#[]⟩, .string ⟨#[]⟩, .slice none 0 0, .int .i64 0]
            obtain ⟨WF, hWF⟩ : ∃ W, W = World.setRow (((((w15.setCell ⟨p + 1, 0, none⟩ (.string s)).setCell ⟨p + 1, 1, none⟩ (.int .i64 (b15 : Int))).setCell ⟨p + 1, 2, none⟩ (.int .i64 (k15 : Int))).setCell ⟨p + 1 + 1, 15, none⟩ (.int .i64 (m15 : Int)))) p #[.int .i64 0, .int .i64 0, .int .i64 0, .int .i64 0, .int .i64 0, .slice none 0 0, .slice none 0 0, .slice none 0 0, .slice none 0 0, .slice none 0 0, .slice none 0 0, .int .i64 0, .string ⟨#[]⟩, .string ⟨#[]⟩, .slice none 0 0, .int .i64 0] := ⟨_, rfl⟩
            rw [← hWF] at hF hBL ⊢
            clear hWF HB hx0 z0 c0_15 f0_15 c1_0 f1_0 c1_1 f1_1 c1_2 f1_2
            have e0 := boxc hF 0 (.int .i64 0) rfl
            have e1 := boxc hF 1 (.int .i64 0) rfl
            have e2 := boxc hF 2 (.int .i64 0) rfl
            have e3 := boxc hF 3 (.int .i64 0) rfl
            have e4 := boxc hF 4 (.int .i64 0) rfl
            have e5 := boxc hF 5 (.slice none 0 0) rfl
            have e6 := boxc hF 6 (.slice none 0 0) rfl
            have e7 := boxc hF 7 (.slice none 0 0) rfl
            have e8 := boxc hF 8 (.slice none 0 0) rfl
            have e9 := boxc hF 9 (.slice none 0 0) rfl
            have e10 := boxc hF 10 (.slice none 0 0) rfl
            have e11 := boxc hF 11 (.int .i64 0) rfl
            have e12 := boxc hF 12 (.string ⟨#[]⟩) rfl
            have e13 := boxc hF 13 (.string ⟨#[]⟩) rfl
            have e14 := boxc hF 14 (.slice none 0 0) rfl
            have e15 := boxc hF 15 (.int .i64 0) rfl
            refine bodyPost_ret (v := .tuple #[.agg #[.int .i64 0, .int .i64 0, .int .i64 0, .int .i64 0, .int .i64 0, .slice none 0 0, .slice none 0 0, .slice none 0 0, .slice none 0 0, .slice none 0 0, .slice none 0 0, .int .i64 0, .string ⟨#[]⟩, .string ⟨#[]⟩, .slice none 0 0, .int .i64 0], .int .i64 3]) (by simp [results, Try.results13, go_sem, e0, e1, e2, e3, e4, e5, e6, e7, e8, e9, e10, e11, e12, e13, e14, e15]) rfl ?_
            exact ⟨hBL, Or.inr ⟨3, hans.out, by omega, rfl⟩⟩
        · have hc0 : ((k15 : Int) == 0) = false := beq_eq_false_iff_ne.2 (by omega)
          have hc1 : ((k15 : Int) != 0) = true := by simp [bne, hc0]
          have hans : Hid (cd.read (kit.bytes s) = .error k15 ∧ 1 ≤ k15) := by
            rcases HM.out.inv with ⟨h, _⟩ | ⟨h, h2⟩
            · omega
            · exact ⟨read_err h2, h⟩
          clear hk15
          go_wp2
          obtain ⟨Wz, hWz⟩ : ∃ W, W = ((((w15.setCell ⟨p + 1, 0, none⟩ (.string s)).setCell ⟨p + 1, 1, none⟩ (.int .i64 (b15 : Int))).setCell ⟨p + 1, 2, none⟩ (.int .i64 (k15 : Int))).setCell ⟨p + 1 + 1, 15, none⟩ (.int .i64 (m15 : Int))) := ⟨_, rfl⟩
          rw [← hWz] at HB ⊢
          clear hWz c0_15 f0_15 c1_0 f1_0 c1_1 f1_1 c1_2 f1_2
          have z0 := HB.out.at 2 rfl
          have z1 := HB.out.at 1 rfl
          have hkz : Wz.cell? ⟨p + 1, 2, none⟩ = some (.int .i64 (k15 : Int)) := boxc z1 2 _ rfl
          have hx0 : Wz.heap[p]? = some (.cells #[.int .i64 0, .int .i64 0, .int .i64 0, .int .i64 0, .int .i64 0, .slice none 0 0, .slice none 0 0, .slice none 0 0, .slice none 0 0, .slice none 0 0, .slice none 0 0, .int .i64 0, .string ⟨#[]⟩, .string ⟨#[]⟩, .slice none 0 0, .int .i64 0] 33 (0, 0)) := z0
          have hp2 := (HB.out.2.1 (p, 33, [.int .i64 0, .int .i64 0, .int .i64 0, .int .i64 0, .int .i64 0, .slice none 0 0, .slice none 0 0, .slice none 0 0, .slice none 0 0, .slice none 0 0, .slice none 0 0, .int .i64 0, .string ⟨#[]⟩, .string ⟨#[]⟩, .slice none 0 0, .int .i64 0]) (by simp)).1
          have hpp : p + 1 ≠ p := by omega
          have HZ := Lib.hid HB.out.1
          clear HB z0 z1
          -- HERE4
          refine wp_flow 5 (fun _ => 1000) (fun w' => ∃ cs : Array Value, w'.heap[p]? = some (.cells cs 33 (0, 0)) ∧ cs.size = 16 ∧ w'.cell? ⟨p + 1, 2, none⟩ = some (.int .i64 (k15 : Int)) ∧ Below w.heap.size w w') (fun i w w' => if i = 3 then (fun w w' => w' = w.setRow p #[.int .i64 0, .int .i64 0, .int .i64 0, .int .i64 0, .int .i64 0, .slice none 0 0, .slice none 0 0, .slice none 0 0, .slice none 0 0, .slice none 0 0, .slice none 0 0, .int .i64 0, .string ⟨#[]⟩, .string ⟨#[]⟩, .slice none 0 0, .int .i64 0]) w w' else (fun w w' => w' = w) w w') (fun kF vF wF => match kF with | 0 => (vF = .agg #[.int .i64 0, .int .i64 0, .int .i64 0, .int .i64 0, .int .i64 0, .slice none 0 0, .slice none 0 0, .slice none 0 0, .slice none 0 0, .slice none 0 0, .slice none 0 0, .int .i64 0, .string ⟨#[]⟩, .string ⟨#[]⟩, .slice none 0 0, .int .i64 0]) | 1 => (vF = .pointer (some ⟨p + 1, 2, none⟩)) | 2 => (vF = .int .i64 (k15 : Int)) | 3 => (wF.heap[p]? = some (.cells #[.int .i64 0, .int .i64 0, .int .i64 0, .int .i64 0, .int .i64 0, .slice none 0 0, .slice none 0 0, .slice none 0 0, .slice none 0 0, .slice none 0 0, .slice none 0 0, .int .i64 0, .string ⟨#[]⟩, .string ⟨#[]⟩, .slice none 0 0, .int .i64 0] 33 (0, 0))) | 4 => (vF = .int .i64 (k15 : Int)) | _ => True) (fun _ _ _ _ => True) (by kernel_rfl) (by kernel_rfl) ?_ ?_ ?_ ?_ ?_
          · exact ⟨_, hx0, rfl, hkz, HZ.out.drew⟩
          · intro iF wF1 wF2 hR hT
            have hT : (fun i w w' => if i = 3 then (fun w w' => w' = w.setRow p #[.int .i64 0, .int .i64 0, .int .i64 0, .int .i64 0, .int .i64 0, .slice none 0 0, .slice none 0 0, .slice none 0 0, .slice none 0 0, .slice none 0 0, .slice none 0 0, .int .i64 0, .string ⟨#[]⟩, .string ⟨#[]⟩, .slice none 0 0, .int .i64 0]) w w' else (fun w w' => w' = w) w w') iF wF1 wF2 := hT
            simp only at hT
            by_cases hi3 : iF = 3
            · rw [if_pos hi3] at hT; subst hT; obtain ⟨cs, hc, hcs, hk2, hBd⟩ := hR; exact ⟨_, setRow_heap _ p _ _ _ _ hc, rfl, (cell_row _ hpp).trans hk2, below_setRow hBd hp2 _⟩
            rw [if_neg hi3] at hT
            subst hT; exact hR
          · intro kF hkF iF hiF hne hdd hanc hdan vF wF1 wF2 h hT
            rcases (by omega : kF = 0 ∨ kF = 1 ∨ kF = 2 ∨ kF = 3 ∨ kF = 4) with rfl | rfl | rfl | rfl | rfl
            · exact h
            · exact h
            · exact h
            · have h : (wF1.heap[p]? = some (.cells #[.int .i64 0, .int .i64 0, .int .i64 0, .int .i64 0, .int .i64 0, .slice none 0 0, .slice none 0 0, .slice none 0 0, .slice none 0 0, .slice none 0 0, .slice none 0 0, .int .i64 0, .string ⟨#[]⟩, .string ⟨#[]⟩, .slice none 0 0, .int .i64 0] 33 (0, 0))) := h
              show (wF2.heap[p]? = some (.cells #[.int .i64 0, .int .i64 0, .int .i64 0, .int .i64 0, .int .i64 0, .slice none 0 0, .slice none 0 0, .slice none 0 0, .slice none 0 0, .slice none 0 0, .slice none 0 0, .int .i64 0, .string ⟨#[]⟩, .string ⟨#[]⟩, .slice none 0 0, .int .i64 0] 33 (0, 0)))
              have hT : (fun i w w' => if i = 3 then (fun w w' => w' = w.setRow p #[.int .i64 0, .int .i64 0, .int .i64 0, .int .i64 0, .int .i64 0, .slice none 0 0, .slice none 0 0, .slice none 0 0, .slice none 0 0, .slice none 0 0, .slice none 0 0, .int .i64 0, .string ⟨#[]⟩, .string ⟨#[]⟩, .slice none 0 0, .int .i64 0]) w w' else (fun w w' => w' = w) w w') iF wF1 wF2 := hT
              simp only at hT
              by_cases hi3 : iF = 3
              · exact absurd hi3.symm hne
              rw [if_neg hi3] at hT
              rw [hT]; exact h
            · exact h
          · refine FlowAll.cons ?_ ?_
            · intro xF wd hR hd K hK
              clear hd
              simp only [List.take_succ_cons, List.take_zero, fillOf, Act.put, List.setIfInBounds_toArray, List.set_cons_zero, List.set_cons_succ, Nat.reduceAdd, Nat.zero_add] at hK ⊢
              obtain ⟨cs, hc, hcs, hk2, hBd⟩ := id hR
              rw [if_pos (by rfl)]
              go_simp
              exact hK.out _ _ ((rfl : wd = wd)) (rfl) (fun _ _ _ => ⟨trivial, trivial⟩)
            refine FlowAll.cons ?_ ?_
            · intro xF wd hR hd K hK
              clear hd
              simp only [List.take_succ_cons, List.take_zero, fillOf, Act.put, List.setIfInBounds_toArray, List.set_cons_zero, List.set_cons_succ, Nat.reduceAdd, Nat.zero_add] at hK ⊢
              obtain ⟨cs, hc, hcs, hk2, hBd⟩ := id hR
              rw [if_pos (by rfl)]
              go_simp
              exact hK.out _ _ ((rfl : wd = wd)) (rfl) (fun _ _ _ => ⟨trivial, trivial⟩)
            refine FlowAll.cons ?_ ?_
            · intro xF wd hR hd K hK
              have dd1 : ((xF 1) = .pointer (some ⟨p + 1, 2, none⟩)) := hd 1 (by kernel_rfl)
              clear hd
              simp only [List.take_succ_cons, List.take_zero, fillOf, Act.put, List.setIfInBounds_toArray, List.set_cons_zero, List.set_cons_succ, Nat.reduceAdd, Nat.zero_add] at hK ⊢
              try generalize xF 1 = yy1 at *
              obtain rfl := dd1
              obtain ⟨cs, hc, hcs, hk2, hBd⟩ := id hR
              rw [if_pos (by rfl)]
              go_simp
              exact hK.out _ _ ((rfl : wd = wd)) (rfl) (fun _ _ _ => ⟨trivial, trivial⟩)
            refine FlowAll.cons ?_ ?_
            · intro xF wd hR hd K hK
              have dd0 : ((xF 0) = .agg #[.int .i64 0, .int .i64 0, .int .i64 0, .int .i64 0, .int .i64 0, .slice none 0 0, .slice none 0 0, .slice none 0 0, .slice none 0 0, .slice none 0 0, .slice none 0 0, .int .i64 0, .string ⟨#[]⟩, .string ⟨#[]⟩, .slice none 0 0, .int .i64 0]) := hd 0 (by kernel_rfl)
              clear hd
              simp only [List.take_succ_cons, List.take_zero, fillOf, Act.put, List.setIfInBounds_toArray, List.set_cons_zero, List.set_cons_succ, Nat.reduceAdd, Nat.zero_add] at hK ⊢
              try generalize xF 0 = yy0 at *
              obtain rfl := dd0
              obtain ⟨cs, hc, hcs, hk2, hBd⟩ := id hR
              rw [if_pos (by rfl)]
              refine wp_store_row 33 (.tmp 2) (.tmp 113) rfl p #[.int .i64 0, .int .i64 0, .int .i64 0, .int .i64 0, .int .i64 0, .slice none 0 0, .slice none 0 0, .slice none 0 0, .slice none 0 0, .slice none 0 0, .slice none 0 0, .int .i64 0, .string ⟨#[]⟩, .string ⟨#[]⟩, .slice none 0 0, .int .i64 0] rfl rfl 33 cs hc msize hcs (by simp [Value.oneCell']) ?_
              simp only [Act.put]
              have hk9 := hK.out undef (wd.setRow p #[.int .i64 0, .int .i64 0, .int .i64 0, .int .i64 0, .int .i64 0, .slice none 0 0, .slice none 0 0, .slice none 0 0, .slice none 0 0, .slice none 0 0, .slice none 0 0, .int .i64 0, .string ⟨#[]⟩, .string ⟨#[]⟩, .slice none 0 0, .int .i64 0])
              clear hK
              apply hk9
              · rw [if_pos trivial]
              · exact setRow_heap _ p _ _ _ _ hc
              · exact fun _ _ _ => ⟨trivial, trivial⟩
            refine FlowAll.cons ?_ ?_
            · intro xF wd hR hd K hK
              have dd2 : ((xF 2) = .int .i64 (k15 : Int)) := hd 2 (by kernel_rfl)
              clear hd
              simp only [List.take_succ_cons, List.take_zero, fillOf, Act.put, List.setIfInBounds_toArray, List.set_cons_zero, List.set_cons_succ, Nat.reduceAdd, Nat.zero_add] at hK ⊢
              try generalize xF 2 = yy2 at *
              obtain rfl := dd2
              obtain ⟨cs, hc, hcs, hk2, hBd⟩ := id hR
              rw [if_pos (by rfl)]
              go_simp
              exact hK.out _ _ ((rfl : wd = wd)) (rfl) (fun _ _ _ => ⟨trivial, trivial⟩)
            exact FlowAll.nil
          intro xF wd hR hF hP
          clear hP
          have dd0 : ((xF 0) = .agg #[.int .i64 0, .int .i64 0, .int .i64 0, .int .i64 0, .int .i64 0, .slice none 0 0, .slice none 0 0, .slice none 0 0, .slice none 0 0, .slice none 0 0, .slice none 0 0, .int .i64 0, .string ⟨#[]⟩, .string ⟨#[]⟩, .slice none 0 0, .int .i64 0]) := hF 0 (by omega) (by decide)
          have dd1 : ((xF 1) = .pointer (some ⟨p + 1, 2, none⟩)) := hF 1 (by omega) (by decide)
          have dd2 : ((xF 2) = .int .i64 (k15 : Int)) := hF 2 (by omega) (by decide)
          have dd3 : (wd.heap[p]? = some (.cells #[.int .i64 0, .int .i64 0, .int .i64 0, .int .i64 0, .int .i64 0, .slice none 0 0, .slice none 0 0, .slice none 0 0, .slice none 0 0, .slice none 0 0, .slice none 0 0, .int .i64 0, .string ⟨#[]⟩, .string ⟨#[]⟩, .slice none 0 0, .int .i64 0] 33 (0, 0))) := hF 3 (by omega) (by decide)
          have dd4 : ((xF 4) = .int .i64 (k15 : Int)) := hF 4 (by omega) (by decide)
          clear hF
          simp only [List.take_succ_cons, List.take_zero, List.drop_succ_cons, List.drop_zero, fillOf, Act.put, List.setIfInBounds_toArray, List.set_cons_zero, List.set_cons_succ, Nat.reduceAdd, Nat.zero_add]
          try generalize xF 0 = yy0 at *
          try generalize xF 1 = yy1 at *
          try generalize xF 2 = yy2 at *
          try generalize xF 3 = yy3 at *
          try generalize xF 4 = yy4 at *
          clear xF
          obtain rfl := dd0
          obtain rfl := dd1
          obtain rfl := dd2
          obtain hst := dd3
          obtain rfl := dd4
          have hRE7 := Lib.hid hR
          clear hR
          -- HERE5
          obtain ⟨cs9, hc9, hcs9, hk9, hBd⟩ := hRE7.out
          clear hRE7 hkz hx0
          skip
          have e0 := boxc dd3 0 (.int .i64 0) rfl
          have e1 := boxc dd3 1 (.int .i64 0) rfl
          have e2 := boxc dd3 2 (.int .i64 0) rfl
          have e3 := boxc dd3 3 (.int .i64 0) rfl
          have e4 := boxc dd3 4 (.int .i64 0) rfl
          have e5 := boxc dd3 5 (.slice none 0 0) rfl
          have e6 := boxc dd3 6 (.slice none 0 0) rfl
          have e7 := boxc dd3 7 (.slice none 0 0) rfl
          have e8 := boxc dd3 8 (.slice none 0 0) rfl
          have e9 := boxc dd3 9 (.slice none 0 0) rfl
          have e10 := boxc dd3 10 (.slice none 0 0) rfl
          have e11 := boxc dd3 11 (.int .i64 0) rfl
          have e12 := boxc dd3 12 (.string ⟨#[]⟩) rfl
          have e13 := boxc dd3 13 (.string ⟨#[]⟩) rfl
          have e14 := boxc dd3 14 (.slice none 0 0) rfl
          have e15 := boxc dd3 15 (.int .i64 0) rfl
          go_wp2
          refine bodyPost_ret (v := .tuple #[.agg #[.int .i64 0, .int .i64 0, .int .i64 0, .int .i64 0, .int .i64 0, .slice none 0 0, .slice none 0 0, .slice none 0 0, .slice none 0 0, .slice none 0 0, .slice none 0 0, .int .i64 0, .string ⟨#[]⟩, .string ⟨#[]⟩, .slice none 0 0, .int .i64 0], .int .i64 (k15 : Int)]) (by simp [results, Try.results13, go_sem, e0, e1, e2, e3, e4, e5, e6, e7, e8, e9, e10, e11, e12, e13, e14, e15]) rfl ?_
          exact ⟨hBd, Or.inr ⟨k15, hans.out.1, hans.out.2, rfl⟩⟩
end Go.Proofs.Ytghbkieflifegaa
