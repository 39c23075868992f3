/- cursors: what is asked of them, and how they are made. -/
import Derived.Test.YtojngbobecdpeaaCurLeast
namespace Go.Proofs.Ytojngbobecdpeaa
open Go Go.RowKit Go.ChangeShapes at_ pm cl
namespace Cur
/-- the numbers of a cursor, if it is right -/
def allN (x : Cur) : List Int := if right 8 x = true then nums x else []
/-- its least number, if it is right -/
def now (x : Cur) : Option Int := if right 8 x = true then lst (nums x) 0 else none
def seek (n : Int) (x : Cur) : Cur := if right 8 x = true then fwd n x else x
def step (x : Cur) : Cur := match now x with | none => x | some y => seek (y + 1) x
theorem lst_zero {l : List Int} (h : Gd l) : lst l 0 = l[0]? := by
  cases l with
  | nil => rfl
  | cons x r => exact lst_yes h.1 (by simp) (h.2 x (by simp)).1 (fun y hy _ => (List.mem_cons.1 hy).elim (fun e => by rw [e]; exact Int.le_refl _) (fun hy => Int.le_of_lt (inc_head h.1 y hy)))
theorem lst_next {l : List Int} (h : Inc l) {k : Nat} (hk : k < l.length) : lst l (l.getD k 0 + 1) = l[k + 1]? := by
  by_cases h1 : k + 1 < l.length
  · rw [List.getElem?_eq_getElem h1]
    have e : l[k + 1] = l.getD (k + 1) 0 := by simp [List.getD, h1]
    have hlt := inc_get h (show k < k + 1 by omega) h1
    refine lst_yes h (List.getElem_mem _) (by rw [e]; omega) (fun y hy hn => ?_)
    obtain ⟨j, hj, rfl⟩ := get_mem hy
    rw [e]
    rcases (by omega : j ≤ k ∨ j = k + 1 ∨ k + 1 < j) with hj' | rfl | hj'
    · rcases (by omega : j < k ∨ j = k) with hjk | rfl
      · have := inc_get h hjk hk; omega
      · omega
    · exact Int.le_refl _
    · exact Int.le_of_lt (inc_get h hj' hj)
  · rw [List.getElem?_eq_none (by omega)]
    refine lst_no (fun y hy => ?_)
    obtain ⟨j, hj, rfl⟩ := get_mem hy
    rcases (by omega : j < k ∨ j = k) with hjk | rfl
    · have := inc_get h hjk hk; omega
    · omega
end Cur
/-- an answer that is a cursor -/
def CurAt (d : Nat) (x : Cur) (w : World) (e : Ending) (w' : World) : Prop :=
  ∃ c', e = .returned (.agg (List.toArray c')) ∧ curR d w' w'.heap.size c' x ∧ Below w.heap.size w w'
theorem CurA.at {d : Nat} {x : Cur} {w w' : World} {e : Ending} (h : CurA d x w e w') : CurAt d x w e w' := by
  obtain ⟨c', he, hf, hb⟩ := h
  exact ⟨c', he, hf.at, hb⟩
/-- what Seek answers: the same cursor, where it is not right -/
def SeekP (d : Nat) (n : Int) (x : Cur) (c : List Value) (w : World) (e : Ending) (w' : World) : Prop := if x.right 8 = true then CurA d (x.fwd n) w e w' else e = .returned (.agg c.toArray) ∧ Below w.heap.size w w'
def StepP (d : Nat) (x : Cur) (c : List Value) (w : World) (e : Ending) (w' : World) : Prop := match x.now with | none => e = .returned (.agg c.toArray) ∧ Below w.heap.size w w' | some y => CurA d (x.fwd (y + 1)) w e w'
theorem cur_one : ∀ {d : Nat} {w : World} {B : Nat} {c : List Value} {x : Cur}, curR d w B c x → c.length = 4 ∧ ∀ u ∈ c, u.oneCell' = true := by
  intro d w B c x h
  obtain ⟨lo, ln, lc, ko, kn, kc, rfl⟩ := cur_form h
  refine ⟨rfl, fun u hu => ?_⟩
  simp only [List.mem_cons, List.not_mem_nil, or_false] at hu
  rcases hu with rfl | rfl | rfl | rfl <;> rfl
set_option maxHeartbeats 1600000 in
set_option maxRecDepth 100000 in
theorem now_any (d : Nat) (x : Cur) (c : List Value) (w : World) (h : curR d w w.heap.size c x) : Calls Try.prog 10 #[.agg c.toArray] w (LstA x.now w) := by
  have HR : Hid (∀ W, Below w.heap.size w W → Calls Try.prog 12 #[.agg c.toArray] W (Said (x.right 8) W)) := fun W hW => cright_any d x c W (curR_steady d _ _ _ _ _ _ h hW hW.size)
  have HL : Hid (x.right 8 = true → ∀ W, Below w.heap.size w W → Calls Try.prog 34 #[.agg c.toArray, .int .i64 0] W (LstA (Cur.lst x.nums 0) W)) := fun hr W hW => least_cu d 0 x c W (curR_steady d _ _ _ _ _ _ h hW hW.size) ⟨8, hr⟩
  unfold Cur.now
  obtain ⟨b, hb⟩ : ∃ b, b = x.right 8 := ⟨_, rfl⟩
  obtain ⟨r, hr⟩ : ∃ r, r = Cur.lst x.nums 0 := ⟨_, rfl⟩
  rw [← hb, ← hr]
  rw [← hb] at HR HL
  rw [← hr] at HL
  obtain ⟨lo, ln, lc, ko, kn, kc, rfl⟩ := cur_form h
  obtain ⟨W2, hW2⟩ : ∃ W, W = w.alloc (.cells #[.int .i64 x.k, .slice lo ln lc, .int .i64 x.a, .slice ko kn kc] 25) := ⟨_, rfl⟩
  have b2 : Below w.heap.size w W2 := by rw [hW2]; exact below1
  have x2 : W2.heap[w.heap.size]? = some (.cells #[.int .i64 x.k, .slice lo ln lc, .int .i64 x.a, .slice ko kn kc] 25) := by rw [hW2]; exact heap_alloc_new _ _
  have HC := Lib.hid (HR.out _ b2)
  have HW2 := Lib.hid hW2
  have B2 := Lib.hid b2
  have X2 := Lib.hid x2
  clear h hb hr b2 hW2 x2
  cases b with
  | false =>
    rw [if_neg (by decide)]
    go_enter Try.func10, Try.ntmps10
    go_wp2_with fail
    rw [← HW2.out]
    (with_reducible refine HC.out.mono ?_)
    rintro e w3 ⟨rfl, b3⟩
    have B3 := Lib.hid (B2.out.trans (b3.mono B2.out.size))
    clear b3
    go_wp2
    refine bodyPost_ret (v := .tuple #[.int .i64 0, .bool false]) (by simp [results, Try.results10, go_sem]) rfl ⟨rfl, B3.out⟩
  | true =>
    rw [if_pos rfl]
    go_enter Try.func10, Try.ntmps10
    go_wp2_with fail
    rw [← HW2.out]
    (with_reducible refine HC.out.mono ?_)
    rintro e w3 ⟨rfl, b3⟩
    have B3 := Lib.hid (B2.out.trans (b3.mono B2.out.size))
    have xx := (b3.block _ (lt_of_block X2.out)).trans X2.out
    have c0 := boxc xx 0 _ rfl
    have c1 := boxc xx 1 _ rfl
    have c2 := boxc xx 2 _ rfl
    have c3 := boxc xx 3 _ rfl
    clear b3 xx
    go_wp2_with fail
    (with_reducible refine (HL.out (by first | rfl | trivial) _ B3.out).mono ?_)
    rintro e w4 ⟨rfl, b4⟩
    have B4 := Lib.hid (B3.out.trans (b4.mono B3.out.size))
    clear b4
    go_wp2
    refine bodyPost_ret (v := .tuple #[.int .i64 (r.getD 0), .bool r.isSome]) (by simp [results, Try.results10, go_sem]) rfl ⟨rfl, B4.out⟩
set_option maxHeartbeats 3200000 in
set_option maxRecDepth 100000 in
theorem seek_any (d : Nat) (n : Int) (x : Cur) (c : List Value) (w : World) (h : curR d w w.heap.size c x) : Calls Try.prog 15 #[.agg c.toArray, .int .i64 n] w (SeekP d n x c w) := by
  have HR : Hid (∀ W, Below w.heap.size w W → Calls Try.prog 12 #[.agg c.toArray] W (Said (x.right 8) W)) := fun W hW => cright_any d x c W (curR_steady d _ _ _ _ _ _ h hW hW.size)
  have HL : Hid (x.right 8 = true → ∀ W, Below w.heap.size w W → Calls Try.prog 38 #[.agg c.toArray, .int .i64 n] W (CurA d (x.fwd n) W)) := fun hr W hW => forth_any n d x c W (curR_steady d _ _ _ _ _ _ h hW hW.size) (Cur.right_sm 8 x hr)
  unfold SeekP
  obtain ⟨b, hb⟩ : ∃ b, b = x.right 8 := ⟨_, rfl⟩
  obtain ⟨y, hy⟩ : ∃ r, r = x.fwd n := ⟨_, rfl⟩
  rw [← hb, ← hy]
  rw [← hb] at HR HL
  rw [← hy] at HL
  obtain ⟨lo, ln, lc, ko, kn, kc, rfl⟩ := cur_form h
  obtain ⟨q0, hq0⟩ : ∃ q, q = w.heap.size := ⟨_, rfl⟩
  obtain ⟨W2, hW2⟩ : ∃ W, W = (w.alloc (.cells #[.int .i64 x.k, .slice lo ln lc, .int .i64 x.a, .slice ko kn kc] 25)).alloc (.cells #[.int .i64 0, .slice none 0 0, .int .i64 0, .slice none 0 0] 25) := ⟨_, rfl⟩
  have b2 : Below w.heap.size w W2 := by rw [hW2]; exact below1.trans (below1.mono (by simp))
  have x2 : W2.heap[q0]? = some (.cells #[.int .i64 x.k, .slice lo ln lc, .int .i64 x.a, .slice ko kn kc] 25) := by
    rw [hW2]; exact (below1.block q0 (by rw [World.size_alloc, hq0]; omega)).trans (by rw [hq0]; exact heap_alloc_new _ _)
  have x4 : W2.heap[q0 + 1]? = some (.cells #[.int .i64 0, .slice none 0 0, .int .i64 0, .slice none 0 0] 25) := by
    have : q0 + 1 = (w.alloc (.cells #[.int .i64 x.k, .slice lo ln lc, .int .i64 x.a, .slice ko kn kc] 25)).heap.size := by rw [World.size_alloc, hq0]
    rw [hW2, this]; exact heap_alloc_new _ _
  have X2 := Lib.hid x2
  have X4 := Lib.hid x4
  have B2 := Lib.hid b2
  have HW2 := Lib.hid hW2
  have HQ0 := Lib.hid hq0
  have HC := Lib.hid (HR.out _ b2)
  clear h hb hy b2 hW2 x2 x4 hq0
  cases b with
  | false =>
    simp only [Bool.false_eq_true, if_false]
    go_enter Try.func15, Try.ntmps15
    go_wp2_with fail
    rw [← HW2.out]
    (with_reducible refine HC.out.mono ?_)
    rintro e w3 ⟨rfl, b3⟩
    have B3 := Lib.hid (B2.out.trans (b3.mono B2.out.size))
    have X4' := Lib.hid ((b3.block _ (lt_of_block X4.out)).trans X4.out)
    have HS23 : W2.heap.size ≤ w3.heap.size := b3.size
    have xx := (b3.block _ (lt_of_block X2.out)).trans X2.out
    have c0 := boxc xx 0 _ rfl
    have c1 := boxc xx 1 _ rfl
    have c2 := boxc xx 2 _ rfl
    have c3 := boxc xx 3 _ rfl
    rw [HQ0.out] at c0 c1 c2 c3
    clear b3 xx
    simp only [← HQ0.out] at c0 c1 c2 c3 ⊢
    have xx : w3.heap[q0 + 1]? = some (.cells #[.int .i64 0, .slice none 0 0, .int .i64 0, .slice none 0 0] 25 (0, 0)) := X4'.out
    go_wp2_with ((with_reducible show wpList _ _ _ (Oper.mk _ (Op.store 25 (.tmp 4) _) _ _ _ _ :: _) _ _); refine wpList_store_row rfl 25 (.tmp 4) _ rfl (q0 + 1) #[.int .i64 x.k, .slice lo ln lc, .int .i64 x.a, .slice ko kn kc] rfl rfl 25 #[.int .i64 0, .slice none 0 0, .int .i64 0, .slice none 0 0] xx csize rfl (by simp [Value.oneCell']) ?_)
    have cc := setRow_heap _ (q0 + 1) _ #[.int .i64 x.k, .slice lo ln lc, .int .i64 x.a, .slice ko kn kc] _ _ xx
    have bb := below_setRow (B3.out) (g := q0 + 1) (by rw [HQ0.out]; omega) #[.int .i64 x.k, .slice lo ln lc, .int .i64 x.a, .slice ko kn kc]
    obtain ⟨w9, h9⟩ : ∃ W, W = World.setRow w3 (q0 + 1) #[.int .i64 x.k, .slice lo ln lc, .int .i64 x.a, .slice ko kn kc] := ⟨_, rfl⟩
    rw [← h9] at cc bb  ⊢
    clear h9 xx
    have k0 := boxc cc 0 (.int .i64 x.k) rfl
    have k1 := boxc cc 1 (.slice lo ln lc) rfl
    have k2 := boxc cc 2 (.int .i64 x.a) rfl
    have k3 := boxc cc 3 (.slice ko kn kc) rfl
    refine bodyPost_ret (v := .agg #[.int .i64 x.k, .slice lo ln lc, .int .i64 x.a, .slice ko kn kc]) (by simp [results, Try.results15, go_sem, k0, k1, k2, k3]) rfl ?_
    exact ⟨rfl, bb⟩
  | true =>
    simp only [if_true]
    go_enter Try.func15, Try.ntmps15
    go_wp2_with fail
    rw [← HW2.out]
    (with_reducible refine HC.out.mono ?_)
    rintro e w3 ⟨rfl, b3⟩
    have B3 := Lib.hid (B2.out.trans (b3.mono B2.out.size))
    have X4' := Lib.hid ((b3.block _ (lt_of_block X4.out)).trans X4.out)
    have HS23 : W2.heap.size ≤ w3.heap.size := b3.size
    have xx := (b3.block _ (lt_of_block X2.out)).trans X2.out
    have c0 := boxc xx 0 _ rfl
    have c1 := boxc xx 1 _ rfl
    have c2 := boxc xx 2 _ rfl
    have c3 := boxc xx 3 _ rfl
    clear b3 xx
    simp only [← HQ0.out]
    go_wp2_with fail
    (with_reducible refine (HL.out (by first | rfl | trivial) _ B3.out).mono ?_)
    rintro e w4 ⟨c', rfl, hf, b4⟩
    obtain ⟨lo2, ln2, lc2, ko2, kn2, kc2, rfl⟩ := cur_form hf.at
    have B4 := Lib.hid (B3.out.trans (b4.mono B3.out.size))
    have HF := Lib.hid hf
    have HS3 : Hid (q0 + 1 < w3.heap.size) := lt_of_block X4'.out
    have HS2 : Hid (W2.heap.size ≤ w3.heap.size) := HS23
    have X5 := Lib.hid ((b4.block _ (lt_of_block X4'.out)).trans X4'.out)
    obtain ⟨yk, hyk⟩ : ∃ z, z = y.k := ⟨_, rfl⟩
    obtain ⟨ya, hya⟩ : ∃ z, z = y.a := ⟨_, rfl⟩
    rw [← hyk, ← hya] at HF ⊢
    clear b4 hf c0 c1 c2 c3 hyk hya
    have xx : w4.heap[q0 + 1]? = some (.cells #[.int .i64 0, .slice none 0 0, .int .i64 0, .slice none 0 0] 25 (0, 0)) := X5.out
    go_wp2_with ((with_reducible show wpList _ _ _ (Oper.mk _ (Op.store 25 (.tmp 4) _) _ _ _ _ :: _) _ _); refine wpList_store_row rfl 25 (.tmp 4) _ rfl (q0 + 1) #[.int .i64 yk, .slice lo2 ln2 lc2, .int .i64 ya, .slice ko2 kn2 kc2] rfl rfl 25 #[.int .i64 0, .slice none 0 0, .int .i64 0, .slice none 0 0] xx csize rfl (by simp [Value.oneCell']) ?_)
    have cc := setRow_heap _ (q0 + 1) _ #[.int .i64 yk, .slice lo2 ln2 lc2, .int .i64 ya, .slice ko2 kn2 kc2] _ _ xx
    have bb := below_setRow (B4.out) (g := q0 + 1) (by rw [HQ0.out]; omega) #[.int .i64 yk, .slice lo2 ln2 lc2, .int .i64 ya, .slice ko2 kn2 kc2]
    have ff := fre_setRow HF.out (q := q0 + 1) (cs := #[.int .i64 yk, .slice lo2 ln2 lc2, .int .i64 ya, .slice ko2 kn2 kc2]) HS3.out
    obtain ⟨w9, h9⟩ : ∃ W, W = World.setRow w4 (q0 + 1) #[.int .i64 yk, .slice lo2 ln2 lc2, .int .i64 ya, .slice ko2 kn2 kc2] := ⟨_, rfl⟩
    rw [← h9] at cc bb ff ⊢
    clear h9 xx
    have k0 := boxc cc 0 (.int .i64 yk) rfl
    have k1 := boxc cc 1 (.slice lo2 ln2 lc2) rfl
    have k2 := boxc cc 2 (.int .i64 ya) rfl
    have k3 := boxc cc 3 (.slice ko2 kn2 kc2) rfl
    refine bodyPost_ret (v := .agg #[.int .i64 yk, .slice lo2 ln2 lc2, .int .i64 ya, .slice ko2 kn2 kc2]) (by simp [results, Try.results15, go_sem, k0, k1, k2, k3]) rfl ?_
    exact ⟨[.int .i64 yk, .slice lo2 ln2 lc2, .int .i64 ya, .slice ko2 kn2 kc2], rfl, FreA.low ff (Nat.le_trans B2.out.size HS2.out), bb⟩
set_option maxHeartbeats 3200000 in
set_option maxRecDepth 100000 in
theorem step_any (d : Nat) (x : Cur) (c : List Value) (w : World) (h : curR d w w.heap.size c x) : Calls Try.prog 17 #[.agg c.toArray] w (StepP d x c w) := by
  have HR : Hid (∀ W, Below w.heap.size w W → Calls Try.prog 10 #[.agg c.toArray] W (LstA x.now W)) := fun W hW => now_any d x c W (curR_steady d _ _ _ _ _ _ h hW hW.size)
  have HL : Hid (∀ y, x.now = some y → ∀ W, Below w.heap.size w W → Calls Try.prog 15 #[.agg c.toArray, .int .i64 (y + 1)] W (CurA d (x.fwd (y + 1)) W)) := fun y hy W hW => by
    have hs := seek_any d (y + 1) x c W (curR_steady d _ _ _ _ _ _ h hW hW.size)
    unfold SeekP at hs
    unfold Cur.now at hy
    split at hy
    · rename_i hr
      simp only [if_pos hr] at hs
      exact hs
    · cases hy
  have HBD : Hid (∀ y, x.now = some y → 0 ≤ y ∧ y ≤ 1099511627776) := by
    intro y hy
    unfold Cur.now at hy
    split at hy
    · rename_i hr
      have hg := Cur.right_gd 8 x hr
      exact hg.2 y (Cur.lst_some hg.1 hy).1
    · cases hy
  unfold StepP
  obtain ⟨r, hr⟩ : ∃ r, r = x.now := ⟨_, rfl⟩
  rw [← hr]
  rw [← hr] at HR HBD HL
  obtain ⟨lo, ln, lc, ko, kn, kc, rfl⟩ := cur_form h
  obtain ⟨q0, hq0⟩ : ∃ q, q = w.heap.size := ⟨_, rfl⟩
  obtain ⟨W2, hW2⟩ : ∃ W, W = (w.alloc (.cells #[.int .i64 x.k, .slice lo ln lc, .int .i64 x.a, .slice ko kn kc] 25)).alloc (.cells #[.int .i64 0, .slice none 0 0, .int .i64 0, .slice none 0 0] 25) := ⟨_, rfl⟩
  have b2 : Below w.heap.size w W2 := by rw [hW2]; exact below1.trans (below1.mono (by simp))
  have x2 : W2.heap[q0]? = some (.cells #[.int .i64 x.k, .slice lo ln lc, .int .i64 x.a, .slice ko kn kc] 25) := by
    rw [hW2]; exact (below1.block q0 (by rw [World.size_alloc, hq0]; omega)).trans (by rw [hq0]; exact heap_alloc_new _ _)
  have x4 : W2.heap[q0 + 1]? = some (.cells #[.int .i64 0, .slice none 0 0, .int .i64 0, .slice none 0 0] 25) := by
    have : q0 + 1 = (w.alloc (.cells #[.int .i64 x.k, .slice lo ln lc, .int .i64 x.a, .slice ko kn kc] 25)).heap.size := by rw [World.size_alloc, hq0]
    rw [hW2, this]; exact heap_alloc_new _ _
  have X2 := Lib.hid x2
  have X4 := Lib.hid x4
  have B2 := Lib.hid b2
  have HW2 := Lib.hid hW2
  have HQ0 := Lib.hid hq0
  have HC := Lib.hid (HR.out _ b2)
  clear h hr b2 hW2 x2 x4 hq0
  cases r with
  | none =>
    simp only
    go_enter Try.func17, Try.ntmps17
    go_wp2_with fail
    rw [← HW2.out]
    (with_reducible refine HC.out.mono ?_)
    rintro e w3 ⟨rfl, b3⟩
    simp only [Option.getD_none, Option.isSome_none]
    have B3 := Lib.hid (B2.out.trans (b3.mono B2.out.size))
    have X4' := Lib.hid ((b3.block _ (lt_of_block X4.out)).trans X4.out)
    have HS23 : W2.heap.size ≤ w3.heap.size := b3.size
    have xx := (b3.block _ (lt_of_block X2.out)).trans X2.out
    have c0 := boxc xx 0 _ rfl
    have c1 := boxc xx 1 _ rfl
    have c2 := boxc xx 2 _ rfl
    have c3 := boxc xx 3 _ rfl
    clear b3 xx
    simp only [← HQ0.out]
    have xx : w3.heap[q0 + 1]? = some (.cells #[.int .i64 0, .slice none 0 0, .int .i64 0, .slice none 0 0] 25 (0, 0)) := X4'.out
    go_wp2_with ((with_reducible show wpList _ _ _ (Oper.mk _ (Op.store 25 (.tmp 2) _) _ _ _ _ :: _) _ _); refine wpList_store_row rfl 25 (.tmp 2) _ rfl (q0 + 1) #[.int .i64 x.k, .slice lo ln lc, .int .i64 x.a, .slice ko kn kc] rfl rfl 25 #[.int .i64 0, .slice none 0 0, .int .i64 0, .slice none 0 0] xx csize rfl (by simp [Value.oneCell']) ?_)
    have cc := setRow_heap _ (q0 + 1) _ #[.int .i64 x.k, .slice lo ln lc, .int .i64 x.a, .slice ko kn kc] _ _ xx
    have bb := below_setRow (B3.out) (g := q0 + 1) (by rw [HQ0.out]; omega) #[.int .i64 x.k, .slice lo ln lc, .int .i64 x.a, .slice ko kn kc]
    obtain ⟨w9, h9⟩ : ∃ W, W = World.setRow w3 (q0 + 1) #[.int .i64 x.k, .slice lo ln lc, .int .i64 x.a, .slice ko kn kc] := ⟨_, rfl⟩
    rw [← h9] at cc bb  ⊢
    clear h9 xx
    have k0 := boxc cc 0 (.int .i64 x.k) rfl
    have k1 := boxc cc 1 (.slice lo ln lc) rfl
    have k2 := boxc cc 2 (.int .i64 x.a) rfl
    have k3 := boxc cc 3 (.slice ko kn kc) rfl
    refine bodyPost_ret (v := .agg #[.int .i64 x.k, .slice lo ln lc, .int .i64 x.a, .slice ko kn kc]) (by simp [results, Try.results17, go_sem, k0, k1, k2, k3]) rfl ?_
    exact ⟨rfl, bb⟩
  | some y =>
    have hyb := HBD.out y rfl
    have HLY := Lib.hid (HL.out y rfl)
    obtain ⟨u, hu⟩ : ∃ u, u = x.fwd (y + 1) := ⟨_, rfl⟩
    simp only
    rw [← hu]
    rw [← hu] at HLY
    clear hu HL
    go_enter Try.func17, Try.ntmps17
    go_wp2_with fail
    rw [← HW2.out]
    (with_reducible refine HC.out.mono ?_)
    rintro e w3 ⟨rfl, b3⟩
    simp only [Option.getD_some, Option.isSome_some]
    have B3 := Lib.hid (B2.out.trans (b3.mono B2.out.size))
    have X4' := Lib.hid ((b3.block _ (lt_of_block X4.out)).trans X4.out)
    have HS23 : W2.heap.size ≤ w3.heap.size := b3.size
    have xx := (b3.block _ (lt_of_block X2.out)).trans X2.out
    have c0 := boxc xx 0 _ rfl
    have c1 := boxc xx 1 _ rfl
    have c2 := boxc xx 2 _ rfl
    have c3 := boxc xx 3 _ rfl
    clear b3 xx
    simp only [← HQ0.out]
    go_wp2_with fail
    (with_reducible refine (HLY.out _ B3.out).mono ?_)
    rintro e w4 ⟨c', rfl, hf, b4⟩
    obtain ⟨lo2, ln2, lc2, ko2, kn2, kc2, rfl⟩ := cur_form hf.at
    have HS3 : Hid (q0 + 1 < w3.heap.size) := lt_of_block X4'.out
    have HS2 : Hid (W2.heap.size ≤ w3.heap.size) := HS23
    have B4 := Lib.hid (B3.out.trans (b4.mono B3.out.size))
    have HF := Lib.hid hf
    have X5 := Lib.hid ((b4.block _ (lt_of_block X4'.out)).trans X4'.out)
    obtain ⟨yk, hyk⟩ : ∃ z, z = u.k := ⟨_, rfl⟩
    obtain ⟨ya, hya⟩ : ∃ z, z = u.a := ⟨_, rfl⟩
    rw [← hyk, ← hya] at HF ⊢
    clear b4 hf c0 c1 c2 c3 hyk hya
    have xx : w4.heap[q0 + 1]? = some (.cells #[.int .i64 0, .slice none 0 0, .int .i64 0, .slice none 0 0] 25 (0, 0)) := X5.out
    go_wp2_with ((with_reducible show wpList _ _ _ (Oper.mk _ (Op.store 25 (.tmp 2) _) _ _ _ _ :: _) _ _); refine wpList_store_row rfl 25 (.tmp 2) _ rfl (q0 + 1) #[.int .i64 yk, .slice lo2 ln2 lc2, .int .i64 ya, .slice ko2 kn2 kc2] rfl rfl 25 #[.int .i64 0, .slice none 0 0, .int .i64 0, .slice none 0 0] xx csize rfl (by simp [Value.oneCell']) ?_)
    have cc := setRow_heap _ (q0 + 1) _ #[.int .i64 yk, .slice lo2 ln2 lc2, .int .i64 ya, .slice ko2 kn2 kc2] _ _ xx
    have bb := below_setRow (B4.out) (g := q0 + 1) (by rw [HQ0.out]; omega) #[.int .i64 yk, .slice lo2 ln2 lc2, .int .i64 ya, .slice ko2 kn2 kc2]
    have ff := fre_setRow HF.out (q := q0 + 1) (cs := #[.int .i64 yk, .slice lo2 ln2 lc2, .int .i64 ya, .slice ko2 kn2 kc2]) HS3.out
    obtain ⟨w9, h9⟩ : ∃ W, W = World.setRow w4 (q0 + 1) #[.int .i64 yk, .slice lo2 ln2 lc2, .int .i64 ya, .slice ko2 kn2 kc2] := ⟨_, rfl⟩
    rw [← h9] at cc bb ff ⊢
    clear h9 xx
    have k0 := boxc cc 0 (.int .i64 yk) rfl
    have k1 := boxc cc 1 (.slice lo2 ln2 lc2) rfl
    have k2 := boxc cc 2 (.int .i64 ya) rfl
    have k3 := boxc cc 3 (.slice ko2 kn2 kc2) rfl
    refine bodyPost_ret (v := .agg #[.int .i64 yk, .slice lo2 ln2 lc2, .int .i64 ya, .slice ko2 kn2 kc2]) (by simp [results, Try.results17, go_sem, k0, k1, k2, k3]) rfl ?_
    exact ⟨[.int .i64 yk, .slice lo2 ln2 lc2, .int .i64 ya, .slice ko2 kn2 kc2], rfl, FreA.low ff (Nat.le_trans B2.out.size HS2.out), bb⟩
set_option maxHeartbeats 3200000 in
set_option maxRecDepth 100000 in
theorem all_cu (d : Nat) (x : Cur) (c : List Value) (w : World) (h : curR d w w.heap.size c x) : Calls Try.prog 20 #[.agg c.toArray] w (Owned x.allN w) := by
  have HR : Hid (∀ W, Below w.heap.size w W → Calls Try.prog 12 #[.agg c.toArray] W (Said (x.right 8) W)) := fun W hW => cright_any d x c W (curR_steady d _ _ _ _ _ _ h hW hW.size)
  have HL : Hid (x.right 8 = true → ∀ (n : Int) W, Below w.heap.size w W → Calls Try.prog 34 #[.agg c.toArray, .int .i64 n] W (LstA (Cur.lst x.nums n) W)) := fun hr n W hW => least_cu d n x c W (curR_steady d _ _ _ _ _ _ h hW hW.size) ⟨8, hr⟩
  have HG : Hid (x.right 8 = true → Cur.Gd x.nums) := fun hr => Cur.right_gd 8 x hr
  unfold Cur.allN
  obtain ⟨b, hb⟩ : ∃ b, b = x.right 8 := ⟨_, rfl⟩
  obtain ⟨L, hL⟩ : ∃ L, L = x.nums := ⟨_, rfl⟩
  rw [← hb, ← hL]
  rw [← hb] at HR HL HG
  rw [← hL] at HL HG
  obtain ⟨lo, ln, lc, ko, kn, kc, rfl⟩ := cur_form h
  obtain ⟨W2, hW2⟩ : ∃ W, W = w.alloc (.cells #[.int .i64 x.k, .slice lo ln lc, .int .i64 x.a, .slice ko kn kc] 25) := ⟨_, rfl⟩
  have b2 : Below w.heap.size w W2 := by rw [hW2]; exact below1
  obtain ⟨q0, hq0⟩ : ∃ q, q = w.heap.size := ⟨_, rfl⟩
  have x2 : W2.heap[q0]? = some (.cells #[.int .i64 x.k, .slice lo ln lc, .int .i64 x.a, .slice ko kn kc] 25) := by rw [hW2, hq0]; exact heap_alloc_new _ _
  have HC := Lib.hid (HR.out _ b2)
  have HW2 := Lib.hid hW2
  have HQ0 := Lib.hid hq0
  have B2 := Lib.hid b2
  have X2 := Lib.hid x2
  clear h hb hL b2 hW2 x2 hq0
  cases b with
  | false =>
    rw [if_neg (by decide)]
    go_enter Try.func20, Try.ntmps20
    go_wp2_with fail
    rw [← HW2.out]
    (with_reducible refine HC.out.mono ?_)
    rintro e w3 ⟨rfl, b3⟩
    have B3 := Lib.hid (B2.out.trans (b3.mono B2.out.size))
    clear b3
    go_wp2
    go_ret
    exact ⟨_, rfl, World.ownsRow_nil _ _ _ _, B3.out⟩
  | true =>
    rw [if_pos rfl]
    have HGD := Lib.hid (HG.out (by first | rfl | trivial))
    have HLL := Lib.hid (HL.out (by first | rfl | trivial))
    clear HG HL
    go_enter Try.func20, Try.ntmps20
    go_wp2_with fail
    rw [← HW2.out]
    (with_reducible refine HC.out.mono ?_)
    rintro e w3 ⟨rfl, b3⟩
    have C3 := Lib.hid b3
    have B3 := Lib.hid (B2.out.trans (b3.mono B2.out.size))
    have xx := (b3.block _ (lt_of_block X2.out)).trans X2.out
    have c0 := boxc xx 0 _ rfl
    have c1 := boxc xx 1 _ rfl
    have c2 := boxc xx 2 _ rfl
    have c3 := boxc xx 3 _ rfl
    clear b3 xx
    simp only [← HQ0.out]
    go_wp2_with fail
    (with_reducible refine (HLL.out 0 _ B3.out).mono ?_)
    rintro e w4 ⟨rfl, b4⟩
    have C4 := Lib.hid (C3.out.trans (b4.mono C3.out.size))
    have B4 := Lib.hid (B3.out.trans (b4.mono B3.out.size))
    rw [Cur.lst_zero HGD.out]
    obtain ⟨s0, hs0⟩ : ∃ s, s = L[0]? := ⟨_, rfl⟩
    rw [← hs0]
    have HS0 := Lib.hid hs0
    clear b4 c0 c1 c2 c3 hs0
    go_wp2
    go_loopw [3, 4, 5] (fun v t g wr => ∃ (k : Nat) (s : Option Int), t = .int .i64 (s.getD 0) ∧ g = .bool s.isSome ∧ Hid (s = L[k]?) ∧ k ≤ L.length ∧ Hid (∃ ao cap, v = .slice ao k cap ∧ wr.ownsRow W2.heap.size 3 1 v k (i64s (L.take k))) ∧ Below W2.heap.size W2 wr) (fun v _ _ _ => L.length - lenOf v)
    case atStart => exact ⟨0, s0, rfl, rfl, HS0.out, Nat.zero_le _, ⟨none, 0, rfl, World.ownsRow_nil _ _ _ _⟩, C4.out⟩
    case round =>
      obtain ⟨k, s, rfl, rfl, HS, hk, HO, hbl⟩ := hrel
      obtain ⟨ao, cap, rfl, hO⟩ := HO.out
      cases s with
      | none =>
        have hkl : k = L.length := by
          have := HS.out
          rcases Nat.lt_or_ge k L.length with h | h
          · rw [List.getElem?_eq_getElem h] at this; cases this
          · omega
        simp only [Option.getD_none, Option.isSome_none]
        have HBL := Lib.hid hbl
        have HKL := Lib.hid hkl
        clear hbl hO hkl hk
        go_wp2
        go_ret
        obtain ⟨ao, cap, e, hO⟩ := HO.out
        refine ⟨_, rfl, ?_, B2.out.trans (HBL.out.mono B2.out.size)⟩
        replace hO := at_.base_le hO B2.out.size
        rw [List.take_of_length_le (by rw [HKL.out]; exact Nat.le_refl _)] at hO
        rw [← HKL.out]; exact hO
      | some y =>
        have hkl : k < L.length := by
          have := HS.out
          rcases Nat.lt_or_ge k L.length with h | h
          · exact h
          · rw [List.getElem?_eq_none h] at this; cases this
        have hyE : y = L.getD k 0 := by
          have := HS.out
          rw [List.getElem?_eq_getElem hkl] at this
          rw [Option.some.inj this]; simp [List.getD, hkl]
        have hyb : 0 ≤ y ∧ y ≤ 1099511627776 := HGD.out.2 y (by rw [hyE]; exact mem_get hkl)
        have hlen := Cur.gd_len HGD.out
        have HTK : Hid (i64s (L.take (k + 1)) = i64s (L.take k) ++ [.int .i64 y]) := by
          show _ = _
          rw [take_snoc hkl, i64s_app, ← hyE]; rfl
        have HNX : Hid (Cur.lst L (y + 1) = L[k + 1]?) := by show _ = _; rw [hyE]; exact Cur.lst_next HGD.out.1 hkl
        have HOO := Lib.hid hO
        have hszr := hbl.size
        have hkb : (k + 1) * 8 ≤ 140737488355328 := by omega
        have HBL := Lib.hid hbl
        simp only [Option.getD_some, Option.isSome_some]
        clear hO hbl hyE hlen
        go_wp2_with (at_builtin; refine kit.app1 (.tmp 22) (.tmp 24) 22 rfl rfl W2.heap.size Try.underlying22 infoInt rfl (by decide) (by decide) HOO.out rfl rfl rfl (by intro u hu; simp at hu; subst hu; rfl) hkb hszr ?_)
        intro v' w5 hown' hb5
        obtain ⟨ao5, cap5, rfl⟩ := own_slice hown'
        have HO5 : Hid (w5.ownsRow W2.heap.size 3 1 (.slice ao5 (k + 1) cap5) (k + 1) (i64s (L.take (k + 1)))) := by
          show World.ownsRow _ _ _ _ _ _ _
          rw [HTK.out]; exact hown'
        have B5 := Lib.hid (HBL.out.trans hb5)
        have X5 : Hid (w5.heap[q0]? = some (.cells #[.int .i64 x.k, .slice lo ln lc, .int .i64 x.a, .slice ko kn kc] 25)) := (B5.out.block _ (lt_of_block X2.out)).trans X2.out
        have xx := X5.out
        have c0 := boxc xx 0 _ rfl
        have c1 := boxc xx 1 _ rfl
        have c2 := boxc xx 2 _ rfl
        have c3 := boxc xx 3 _ rfl
        clear hown' hb5 xx
        go_wp2_with fail
        (with_reducible refine (HLL.out (y + 1) _ (B2.out.trans (B5.out.mono B2.out.size))).mono ?_)
        rintro e w6 ⟨rfl, b6⟩
        rw [HNX.out]
        have B6 := Lib.hid (B5.out.trans (b6.mono B5.out.size))
        obtain ⟨s1, hs1⟩ : ∃ s, s = L[k + 1]? := ⟨_, rfl⟩
        rw [← hs1]
        have HS1 := Lib.hid hs1
        have HO6 : Hid (∃ ao cap, Value.slice ao5 (k + 1) cap5 = .slice ao (k + 1) cap ∧ w6.ownsRow W2.heap.size 3 1 (.slice ao5 (k + 1) cap5) (k + 1) (i64s (L.take (k + 1)))) := ⟨ao5, cap5, rfl, own_stay HO5.out b6⟩
        clear b6 hs1 c0 c1 c2 c3
        go_wp2
        go_roundw
        case rel => exact ⟨k + 1, s1, by go_num, rfl, HS1.out, by omega, HO6, B6.out⟩
        case measure => simp [lenOf]; omega
end Go.Proofs.Ytojngbobecdpeaa
