/- the document's cursors: Seek, Step, Both, Minus, by contract. -/
import Derived.Test.YtojngbobecdpeaaCrSkip
import Derived.Test.YtojngbobecdpeaaCrFrom
import Derived.Test.YtojngbobecdpeaaCurMake
import Derived.Test.YtojngbobecdpeaaCurFwd
namespace Go.Proofs.Ytojngbobecdpeaa
open Go Go.RowKit Go.ChangeShapes at_ pm cl
theorem OTs.one {d : Nat} {W : World} {ao : Option Addr} {n cap : Nat} {x : Cur} {bs : List Nat} (h : OTs (OT d) W (.slice ao n cap) [x] bs) :
    ∃ (g : Nat) (c : List Value) (b : List Nat), ao = some ⟨g, 0, none⟩ ∧ (∀ i u, c[i]? = some u → W.cell? ⟨g, i, none⟩ = some u) ∧ OT d W c x b ∧ ∀ k ∈ b, k ∈ bs := by
  obtain ⟨cs, bss, h0, h1, h2, h3, h4, h5⟩ := h
  obtain ⟨g, rfl⟩ : ∃ g, ao = some ⟨g, 0, none⟩ := by
    rcases h3.2 with ⟨_, h⟩ | ⟨g, cap, cur, e, _⟩
    · simp at h
    · simp only [Value.slice.injEq] at e
      exact ⟨g, e.1⟩
  obtain ⟨c, y, b, e1, e2, e3⟩ := get3 h0 rfl h1 (show 0 < [x].length by simp)
  simp only [List.getElem?_cons_zero, Option.some.injEq] at e2
  subst e2
  obtain ⟨hl, ht⟩ := h2 0 c x b e1 rfl e3
  refine ⟨g, c, b, rfl, fun i u hu => ?_, ht, fun k hk => ?_⟩
  · have h6 := h3.cells (g := g) rfl i u (by
      have hi := (List.getElem?_eq_some_iff.1 hu).1
      cases cs with
      | nil => simp at e1
      | cons a r =>
        simp only [List.getElem?_cons_zero, Option.some.injEq] at e1
        subst e1
        rw [List.flatten_cons, List.getElem?_append_left hi]; exact hu)
    rw [Addr.add_lit, Nat.zero_add] at h6
    exact h6
  · rw [h4]
    exact List.mem_append_right _ (List.mem_flatten.2 ⟨b, List.mem_of_getElem? e3, hk⟩)
theorem OT.setRow {d g : Nat} {W : World} {c : List Value} {x : Cur} {bs : List Nat} {arr cs : Array Value} (h : OT d W c x bs) (hg : W.heap[g]? = some (.cells arr 25 (0, 0))) (hn : g ∉ bs) : OT d (W.setRow g cs) c x bs :=
  h.keep (setRow_KB.ki (fun b hb => by rw [List.mem_singleton.1 hb]; exact ⟨_, hg⟩)) (fun b hb => setRow_other _ _ _ _ (fun e => hn (e ▸ hb)))
theorem rows_lit {d : Nat} {W : World} {c : List Value} {x : Cur} (h : curR d W W.heap.size c x) (hc : c.length = 4) : RowsAt 4 (curR d) (W.alloc (.cells c.toArray 25)) (W.alloc (.cells c.toArray 25)).heap.size (.slice (some ⟨W.heap.size, 0, none⟩) 1 1) [x] := by
  have h1 := own_lit (W := W) (k := 4) (arr := c.toArray) (T := 25) (by simp [hc])
  refine RowsAt.own (n := 1) (cs := [c]) rfl rfl (fun j c' x' hc' hx' => ?_) (by simpa using h1)
  cases j with
  | zero =>
    simp only [List.getElem?_cons_zero, Option.some.injEq] at hc' hx'
    subst hc'; subst hx'
    exact ⟨hc, curR_steady d _ _ _ _ _ _ h below1 below1.size⟩
  | succ j => simp at hc'
namespace Cur
def seekT (n : Int) (x : Cur) : Cur := if right 8 x = true then fwd n x else x
def stepT (x : Cur) : Cur := match x.now with | none => x | some y => fwd (y + 1) x
end Cur
set_option maxHeartbeats 6400000 in
set_option maxRecDepth 100000 in
theorem rseek_cu (d : Nat) (n : Int) (x : Cur) (c : List Value) (w : World) (h : curR d w w.heap.size c x) (hs : x.sm) : Calls Try.prog 16 #[.agg c.toArray, .int .i64 n] w (CurAt d (x.seekT n) w) := by
  obtain ⟨lo, ln, lc, ko, kn, kc, rfl⟩ := cur_form h
  obtain ⟨q0, hq0⟩ : ∃ q, q = w.heap.size := ⟨_, rfl⟩
  obtain ⟨W2, hW2⟩ : ∃ W, W = (w.alloc (.cells #[.int .i64 x.k, .slice lo ln lc, .int .i64 x.a, .slice ko kn kc] 25)).alloc (.cells #[.int .i64 0, .slice none 0 0, .int .i64 0, .slice none 0 0] 25) := ⟨_, rfl⟩
  have b2 : Below w.heap.size w W2 := by rw [hW2]; exact below1.trans (below1.mono (by simp))
  have x2 : W2.heap[q0]? = some (.cells #[.int .i64 x.k, .slice lo ln lc, .int .i64 x.a, .slice ko kn kc] 25) := by
    rw [hW2]; exact (below1.block q0 (by rw [World.size_alloc, hq0]; omega)).trans (by rw [hq0]; exact heap_alloc_new _ _)
  have x3 : W2.heap[q0 + 1]? = some (.cells #[.int .i64 0, .slice none 0 0, .int .i64 0, .slice none 0 0] 25) := by
    have : q0 + 1 = (w.alloc (.cells #[.int .i64 x.k, .slice lo ln lc, .int .i64 x.a, .slice ko kn kc] 25)).heap.size := by rw [World.size_alloc, hq0]
    rw [hW2, this]; exact heap_alloc_new _ _
  have z2 : W2.heap.size = q0 + 2 := by rw [hW2, World.size_alloc, World.size_alloc, hq0]
  have X2 := Lib.hid x2
  have X3 := Lib.hid x3
  have B2 := Lib.hid b2
  have HW2 := Lib.hid hW2
  have HQ0 := Lib.hid hq0
  have HZ2 := Lib.hid z2
  have hc2 := curR_steady d _ _ _ _ _ _ h b2 b2.size
  obtain ⟨W3, hW3⟩ : ∃ W, W = W2.alloc (.cells #[.int .i64 x.k, .slice lo ln lc, .int .i64 x.a, .slice ko kn kc] 25) := ⟨_, rfl⟩
  have b3 : Below W2.heap.size W2 W3 := by rw [hW3]; exact below1
  have HOW : Hid (Calls Try.prog 39 #[.slice (some ⟨q0 + 2, 0, none⟩) 1 1] W3 (OwnA d [x] W3)) := by
    have h3 := own_cu d [x] _ _ (rows_lit hc2 rfl) (fun c hc => by rw [List.mem_singleton.1 hc]; exact hs) (by simp)
    rw [z2] at h3
    rw [hW3]; exact h3
  have HW3 := Lib.hid hW3
  have B3 := Lib.hid b3
  obtain ⟨r, hr⟩ : ∃ r, r = x.right 8 := ⟨_, rfl⟩
  unfold Cur.seekT
  rw [← hr]
  have HR := Lib.hid hr
  clear h hc2 hW2 hW3 x2 x3 z2 b2 b3 hq0 hr
  cases r with
  | false =>
    rw [if_neg (by decide)]
    go_enter Try.func16, Try.ntmps16
    go_wp2_with fail
    rw [← HW2.out, ← HQ0.out, ← HW3.out]
    (with_reducible refine HOW.out.mono ?_)
    rintro e4 w4 ⟨ao4, cp4, bs4, rfl, T4, hb4, b4⟩
    obtain ⟨g4, c4, b', rfl, hc4, OT4, hbb⟩ := T4.one
    obtain ⟨lo4, ln4, lc4, ko4, kn4, kc4, rfl⟩ := OT4.form
    have z0 := hc4 0 _ rfl
    have z1 := hc4 1 _ rfl
    have z2 := hc4 2 _ rfl
    have z3 := hc4 3 _ rfl
    simp only [List.length_singleton]
    have X4 : w4.heap[q0]? = some (.cells #[.int .i64 x.k, .slice lo ln lc, .int .i64 x.a, .slice ko kn kc] 25) := (b4.block q0 (by have := B3.out.size; have := HZ2.out; omega)).trans ((B3.out.block q0 (by have := HZ2.out; omega)).trans X2.out)
    have Z4 : w4.heap[q0 + 1]? = some (.cells #[.int .i64 0, .slice none 0 0, .int .i64 0, .slice none 0 0] 25) := (b4.block (q0 + 1) (by have := B3.out.size; have := HZ2.out; omega)).trans ((B3.out.block (q0 + 1) (by have := HZ2.out; omega)).trans X3.out)
    have BQ : Hid (∀ b ∈ b', q0 + 2 ≤ b) := fun b hb => by have := hb4 b (hbb b hb); have := B3.out.size; have := HZ2.out; omega
    have B4 : Below w.heap.size w w4 := B2.out.trans ((B3.out.trans (b4.mono B3.out.size)).mono B2.out.size)
    have TT5 := Lib.hid (OT4.setRow X4 (cs := #[.int .i64 x.k, .slice lo4 ln4 lc4, .int .i64 x.a, .slice ko4 kn4 kc4]) (fun hm => by have := BQ.out _ hm; omega))
    have X5 := Lib.hid (setRow_heap w4 q0 _ #[.int .i64 x.k, .slice lo4 ln4 lc4, .int .i64 x.a, .slice ko4 kn4 kc4] _ _ X4)
    have Z5 := Lib.hid ((setRow_other w4 q0 (q0 + 1) #[.int .i64 x.k, .slice lo4 ln4 lc4, .int .i64 x.a, .slice ko4 kn4 kc4] (by omega)).trans Z4)
    have B5 := Lib.hid (below_setRow B4 (g := q0) (by rw [HQ0.out]; exact Nat.le_refl _) #[.int .i64 x.k, .slice lo4 ln4 lc4, .int .i64 x.a, .slice ko4 kn4 kc4])
    clear T4 hb4 b4 hc4 OT4 hbb Z4 B4
    have d0 := boxc X5.out 0 _ rfl
    have d1 := boxc X5.out 1 _ rfl
    have d2 := boxc X5.out 2 _ rfl
    have d3 := boxc X5.out 3 _ rfl
    go_wp2_with ((with_reducible show wpList _ _ _ (Oper.mk _ (Op.store 25 (.tmp 2) _) _ _ _ _ :: _) _ _); refine wpList_store_row rfl 25 (.tmp 2) _ rfl (q0) #[.int .i64 x.k, .slice lo4 ln4 lc4, .int .i64 x.a, .slice ko4 kn4 kc4] rfl rfl 25 #[.int .i64 x.k, .slice lo ln lc, .int .i64 x.a, .slice ko kn kc] X4 csize rfl (by simp [Value.oneCell']) ?_)
    obtain ⟨w5, h5⟩ : ∃ W, W = World.setRow w4 q0 #[.int .i64 x.k, .slice lo4 ln4 lc4, .int .i64 x.a, .slice ko4 kn4 kc4] := ⟨_, rfl⟩
    rw [← h5] at TT5 X5 Z5 B5 ⊢
    clear h5 X4 z0 z1 z2 z3 d0 d1 d2 d3
    have HRI := Lib.hid (rright_cu d x _ w5 TT5.out.cur)
    rw [← HR.out] at HRI
    (with_reducible refine HRI.out.mono ?_)
    rintro e6 w6 ⟨rfl, b6⟩
    have TT6 := Lib.hid (TT5.out.next b6)
    have X6 := Lib.hid ((b6.block _ (lt_of_block X5.out)).trans X5.out)
    have Z6 := Lib.hid ((b6.block _ (lt_of_block Z5.out)).trans Z5.out)
    have B6 := Lib.hid (B5.out.trans (b6.mono B5.out.size))
    clear b6 TT5 X5 Z5 B5 HRI
    have d0 := boxc X6.out 0 _ rfl
    have d1 := boxc X6.out 1 _ rfl
    have d2 := boxc X6.out 2 _ rfl
    have d3 := boxc X6.out 3 _ rfl
    obtain ⟨wz, rfl⟩ : ∃ W, W = w6 := ⟨_, rfl⟩
    have TT := TT6
    have ZZ := Z6
    have BZ := B6
    clear TT6 Z6 B6
    go_wp2_with ((with_reducible show wpList _ _ _ (Oper.mk _ (Op.store 25 (.tmp 4) _) _ _ _ _ :: _) _ _); refine wpList_store_row rfl 25 (.tmp 4) _ rfl (q0 + 1) #[.int .i64 x.k, .slice lo4 ln4 lc4, .int .i64 x.a, .slice ko4 kn4 kc4] rfl rfl 25 #[.int .i64 0, .slice none 0 0, .int .i64 0, .slice none 0 0] ZZ.out csize rfl (by simp [Value.oneCell']) ?_)
    have cc := setRow_heap _ (q0 + 1) _ #[.int .i64 x.k, .slice lo4 ln4 lc4, .int .i64 x.a, .slice ko4 kn4 kc4] _ _ ZZ.out
    have tt := TT.out.setRow ZZ.out (cs := #[.int .i64 x.k, .slice lo4 ln4 lc4, .int .i64 x.a, .slice ko4 kn4 kc4]) (fun hm => by have := BQ.out _ hm; omega)
    have bb : Below w.heap.size w (World.setRow wz (q0 + 1) #[.int .i64 x.k, .slice lo4 ln4 lc4, .int .i64 x.a, .slice ko4 kn4 kc4]) := below_setRow BZ.out (g := q0 + 1) (by rw [HQ0.out]; omega) #[.int .i64 x.k, .slice lo4 ln4 lc4, .int .i64 x.a, .slice ko4 kn4 kc4]
    obtain ⟨w9, h9⟩ : ∃ W, W = World.setRow wz (q0 + 1) #[.int .i64 x.k, .slice lo4 ln4 lc4, .int .i64 x.a, .slice ko4 kn4 kc4] := ⟨_, rfl⟩
    rw [← h9] at cc tt bb ⊢
    clear h9
    have k0 := boxc cc 0 _ rfl
    have k1 := boxc cc 1 _ rfl
    have k2 := boxc cc 2 _ rfl
    have k3 := boxc cc 3 _ rfl
    refine bodyPost_ret (v := .agg #[.int .i64 x.k, .slice lo4 ln4 lc4, .int .i64 x.a, .slice ko4 kn4 kc4]) (by simp [results, Try.results16, go_sem, k0, k1, k2, k3]) rfl ?_
    exact ⟨[.int .i64 x.k, .slice lo4 ln4 lc4, .int .i64 x.a, .slice ko4 kn4 kc4], rfl, tt.cur, bb⟩
  | true =>
    rw [if_pos rfl]
    go_enter Try.func16, Try.ntmps16
    go_wp2_with fail
    rw [← HW2.out, ← HQ0.out, ← HW3.out]
    (with_reducible refine HOW.out.mono ?_)
    rintro e4 w4 ⟨ao4, cp4, bs4, rfl, T4, hb4, b4⟩
    obtain ⟨g4, c4, b', rfl, hc4, OT4, hbb⟩ := T4.one
    obtain ⟨lo4, ln4, lc4, ko4, kn4, kc4, rfl⟩ := OT4.form
    have z0 := hc4 0 _ rfl
    have z1 := hc4 1 _ rfl
    have z2 := hc4 2 _ rfl
    have z3 := hc4 3 _ rfl
    simp only [List.length_singleton]
    have X4 : w4.heap[q0]? = some (.cells #[.int .i64 x.k, .slice lo ln lc, .int .i64 x.a, .slice ko kn kc] 25) := (b4.block q0 (by have := B3.out.size; have := HZ2.out; omega)).trans ((B3.out.block q0 (by have := HZ2.out; omega)).trans X2.out)
    have Z4 : w4.heap[q0 + 1]? = some (.cells #[.int .i64 0, .slice none 0 0, .int .i64 0, .slice none 0 0] 25) := (b4.block (q0 + 1) (by have := B3.out.size; have := HZ2.out; omega)).trans ((B3.out.block (q0 + 1) (by have := HZ2.out; omega)).trans X3.out)
    have BQ : Hid (∀ b ∈ b', q0 + 2 ≤ b) := fun b hb => by have := hb4 b (hbb b hb); have := B3.out.size; have := HZ2.out; omega
    have B4 : Below w.heap.size w w4 := B2.out.trans ((B3.out.trans (b4.mono B3.out.size)).mono B2.out.size)
    have TT5 := Lib.hid (OT4.setRow X4 (cs := #[.int .i64 x.k, .slice lo4 ln4 lc4, .int .i64 x.a, .slice ko4 kn4 kc4]) (fun hm => by have := BQ.out _ hm; omega))
    have X5 := Lib.hid (setRow_heap w4 q0 _ #[.int .i64 x.k, .slice lo4 ln4 lc4, .int .i64 x.a, .slice ko4 kn4 kc4] _ _ X4)
    have Z5 := Lib.hid ((setRow_other w4 q0 (q0 + 1) #[.int .i64 x.k, .slice lo4 ln4 lc4, .int .i64 x.a, .slice ko4 kn4 kc4] (by omega)).trans Z4)
    have B5 := Lib.hid (below_setRow B4 (g := q0) (by rw [HQ0.out]; exact Nat.le_refl _) #[.int .i64 x.k, .slice lo4 ln4 lc4, .int .i64 x.a, .slice ko4 kn4 kc4])
    clear T4 hb4 b4 hc4 OT4 hbb Z4 B4
    have d0 := boxc X5.out 0 _ rfl
    have d1 := boxc X5.out 1 _ rfl
    have d2 := boxc X5.out 2 _ rfl
    have d3 := boxc X5.out 3 _ rfl
    go_wp2_with ((with_reducible show wpList _ _ _ (Oper.mk _ (Op.store 25 (.tmp 2) _) _ _ _ _ :: _) _ _); refine wpList_store_row rfl 25 (.tmp 2) _ rfl (q0) #[.int .i64 x.k, .slice lo4 ln4 lc4, .int .i64 x.a, .slice ko4 kn4 kc4] rfl rfl 25 #[.int .i64 x.k, .slice lo ln lc, .int .i64 x.a, .slice ko kn kc] X4 csize rfl (by simp [Value.oneCell']) ?_)
    obtain ⟨w5, h5⟩ : ∃ W, W = World.setRow w4 q0 #[.int .i64 x.k, .slice lo4 ln4 lc4, .int .i64 x.a, .slice ko4 kn4 kc4] := ⟨_, rfl⟩
    rw [← h5] at TT5 X5 Z5 B5 ⊢
    clear h5 X4 z0 z1 z2 z3 d0 d1 d2 d3
    have HRI := Lib.hid (rright_cu d x _ w5 TT5.out.cur)
    rw [← HR.out] at HRI
    (with_reducible refine HRI.out.mono ?_)
    rintro e6 w6 ⟨rfl, b6⟩
    have TT6 := Lib.hid (TT5.out.next b6)
    have X6 := Lib.hid ((b6.block _ (lt_of_block X5.out)).trans X5.out)
    have Z6 := Lib.hid ((b6.block _ (lt_of_block Z5.out)).trans Z5.out)
    have B6 := Lib.hid (B5.out.trans (b6.mono B5.out.size))
    clear b6 TT5 X5 Z5 B5 HRI
    have d0 := boxc X6.out 0 _ rfl
    have d1 := boxc X6.out 1 _ rfl
    have d2 := boxc X6.out 2 _ rfl
    have d3 := boxc X6.out 3 _ rfl
    have HSK := Lib.hid (skip_cu n d x _ w6 b' TT6.out ⟨8, HR.out.symm⟩)
    go_wp2_with fail
    (with_reducible refine HSK.out.mono ?_)
    rintro e7 wz ⟨c7, rfl, T7, kb⟩
    obtain ⟨lo7, ln7, lc7, ko7, kn7, kc7, rfl⟩ := T7.form
    have ZZ := Lib.hid ((kb.2.2 (q0 + 1) (lt_of_block Z6.out) (fun hm => by have := BQ.out _ hm; omega)).trans Z6.out)
    have TT := Lib.hid T7
    have BZ := Lib.hid (B6.out.trans (kb.to (fun b hb => by have := BQ.out b hb; have := HQ0.out; omega) B6.out.size))
    clear T7 kb d0 d1 d2 d3 HSK
    go_wp2_with ((with_reducible show wpList _ _ _ (Oper.mk _ (Op.store 25 (.tmp 4) _) _ _ _ _ :: _) _ _); refine wpList_store_row rfl 25 (.tmp 4) _ rfl (q0 + 1) #[.int .i64 (x.fwd n).k, .slice lo7 ln7 lc7, .int .i64 (x.fwd n).a, .slice ko7 kn7 kc7] rfl rfl 25 #[.int .i64 0, .slice none 0 0, .int .i64 0, .slice none 0 0] ZZ.out csize rfl (by simp [Value.oneCell']) ?_)
    have cc := setRow_heap _ (q0 + 1) _ #[.int .i64 (x.fwd n).k, .slice lo7 ln7 lc7, .int .i64 (x.fwd n).a, .slice ko7 kn7 kc7] _ _ ZZ.out
    have tt := TT.out.setRow ZZ.out (cs := #[.int .i64 (x.fwd n).k, .slice lo7 ln7 lc7, .int .i64 (x.fwd n).a, .slice ko7 kn7 kc7]) (fun hm => by have := BQ.out _ hm; omega)
    have bb : Below w.heap.size w (World.setRow wz (q0 + 1) #[.int .i64 (x.fwd n).k, .slice lo7 ln7 lc7, .int .i64 (x.fwd n).a, .slice ko7 kn7 kc7]) := below_setRow BZ.out (g := q0 + 1) (by rw [HQ0.out]; omega) #[.int .i64 (x.fwd n).k, .slice lo7 ln7 lc7, .int .i64 (x.fwd n).a, .slice ko7 kn7 kc7]
    obtain ⟨w9, h9⟩ : ∃ W, W = World.setRow wz (q0 + 1) #[.int .i64 (x.fwd n).k, .slice lo7 ln7 lc7, .int .i64 (x.fwd n).a, .slice ko7 kn7 kc7] := ⟨_, rfl⟩
    rw [← h9] at cc tt bb ⊢
    clear h9
    have k0 := boxc cc 0 _ rfl
    have k1 := boxc cc 1 _ rfl
    have k2 := boxc cc 2 _ rfl
    have k3 := boxc cc 3 _ rfl
    refine bodyPost_ret (v := .agg #[.int .i64 (x.fwd n).k, .slice lo7 ln7 lc7, .int .i64 (x.fwd n).a, .slice ko7 kn7 kc7]) (by simp [results, Try.results16, go_sem, k0, k1, k2, k3]) rfl ?_
    exact ⟨[.int .i64 (x.fwd n).k, .slice lo7 ln7 lc7, .int .i64 (x.fwd n).a, .slice ko7 kn7 kc7], rfl, tt.cur, bb⟩
set_option maxHeartbeats 6400000 in
set_option maxRecDepth 100000 in
theorem rstep_cu (d : Nat) (x : Cur) (c : List Value) (w : World) (h : curR d w w.heap.size c x) (hs : x.sm) : Calls Try.prog 18 #[.agg c.toArray] w (CurAt d x.stepT w) := by
  obtain ⟨lo, ln, lc, ko, kn, kc, rfl⟩ := cur_form h
  obtain ⟨q0, hq0⟩ : ∃ q, q = w.heap.size := ⟨_, rfl⟩
  obtain ⟨W2, hW2⟩ : ∃ W, W = (w.alloc (.cells #[.int .i64 x.k, .slice lo ln lc, .int .i64 x.a, .slice ko kn kc] 25)).alloc (.cells #[.int .i64 0, .slice none 0 0, .int .i64 0, .slice none 0 0] 25) := ⟨_, rfl⟩
  have b2 : Below w.heap.size w W2 := by rw [hW2]; exact below1.trans (below1.mono (by simp))
  have x2 : W2.heap[q0]? = some (.cells #[.int .i64 x.k, .slice lo ln lc, .int .i64 x.a, .slice ko kn kc] 25) := by
    rw [hW2]; exact (below1.block q0 (by rw [World.size_alloc, hq0]; omega)).trans (by rw [hq0]; exact heap_alloc_new _ _)
  have x3 : W2.heap[q0 + 1]? = some (.cells #[.int .i64 0, .slice none 0 0, .int .i64 0, .slice none 0 0] 25) := by
    have : q0 + 1 = (w.alloc (.cells #[.int .i64 x.k, .slice lo ln lc, .int .i64 x.a, .slice ko kn kc] 25)).heap.size := by rw [World.size_alloc, hq0]
    rw [hW2, this]; exact heap_alloc_new _ _
  have z2 : W2.heap.size = q0 + 2 := by rw [hW2, World.size_alloc, World.size_alloc, hq0]
  have X2 := Lib.hid x2
  have X3 := Lib.hid x3
  have B2 := Lib.hid b2
  have HW2 := Lib.hid hW2
  have HQ0 := Lib.hid hq0
  have HZ2 := Lib.hid z2
  have HX := Lib.hid h
  have HSM := Lib.hid hs
  have hrt : ∀ y, x.now = some y → x.right 8 = true ∧ 0 ≤ y ∧ y ≤ 1099511627776 := by
    intro y hy
    cases hr : x.right 8 with
    | false => unfold Cur.now at hy; rw [hr] at hy; simp at hy
    | true =>
      refine ⟨rfl, ?_⟩
      have h0 := Cur.now_head hr
      rw [hy] at h0
      exact (Cur.right_gd 8 x hr).2 y (List.mem_of_getElem? h0.symm)
  have HN := Lib.hid (rnow_cu d x _ W2 (curR_steady d _ _ _ _ _ _ h b2 b2.size))
  unfold Cur.stepT
  obtain ⟨r, hr⟩ : ∃ r, r = x.now := ⟨_, rfl⟩
  rw [← hr] at hrt HN ⊢
  have HRT := Lib.hid hrt
  clear h hs hW2 x2 x3 z2 b2 hq0 hr hrt
  cases r with
  | none =>
    simp only
    go_enter Try.func18, Try.ntmps18
    go_wp2_with fail
    rw [← HW2.out, ← HQ0.out]
    (with_reducible refine HN.out.mono ?_)
    rintro e3 w3 ⟨rfl, b3⟩
    have B3 := Lib.hid (B2.out.trans (b3.mono B2.out.size))
    have X3' := Lib.hid ((b3.block _ (lt_of_block X2.out)).trans X2.out)
    have Z3 := Lib.hid ((b3.block _ (lt_of_block X3.out)).trans X3.out)
    clear b3
    obtain ⟨V3, hV3⟩ : ∃ W, W = w3.alloc (.cells #[.int .i64 x.k, .slice lo ln lc, .int .i64 x.a, .slice ko kn kc] 25) := ⟨_, rfl⟩
    have v3 : Below w3.heap.size w3 V3 := by rw [hV3]; exact below1
    obtain ⟨p, hp⟩ : ∃ p, p = w3.heap.size := ⟨_, rfl⟩
    have HOW : Hid (Calls Try.prog 39 #[.slice (some ⟨p, 0, none⟩) 1 1] V3 (OwnA d [x] V3)) := by
      have h3 := own_cu d [x] _ _ (rows_lit (curR_steady d _ _ _ _ _ _ HX.out B3.out B3.out.size) rfl) (fun c hc => by rw [List.mem_singleton.1 hc]; exact HSM.out) (by simp)
      rw [hp, hV3]; exact h3
    have HV3 := Lib.hid hV3
    have HPP := Lib.hid hp
    have V3B := Lib.hid v3
    clear hV3 hp v3
    have d0 := boxc X3'.out 0 _ rfl
    have d1 := boxc X3'.out 1 _ rfl
    have d2 := boxc X3'.out 2 _ rfl
    have d3 := boxc X3'.out 3 _ rfl
    simp only [Option.getD_none, Option.isSome_none]
    go_wp2_with fail
    rw [← HV3.out, ← HPP.out]
    (with_reducible refine HOW.out.mono ?_)
    rintro e4 w4 ⟨ao4, cp4, bs4, rfl, T4, hb4, b4⟩
    obtain ⟨g4, c4, b', rfl, hc4, OT4, hbb⟩ := T4.one
    obtain ⟨lo4, ln4, lc4, ko4, kn4, kc4, rfl⟩ := OT4.form
    have z0 := hc4 0 _ rfl
    have z1 := hc4 1 _ rfl
    have z2 := hc4 2 _ rfl
    have z3 := hc4 3 _ rfl
    simp only [List.length_singleton]
    have Z4 : w4.heap[q0 + 1]? = some (.cells #[.int .i64 0, .slice none 0 0, .int .i64 0, .slice none 0 0] 25) := (b4.block (q0 + 1) (by have := V3B.out.size; have := lt_of_block Z3.out; omega)).trans ((V3B.out.block (q0 + 1) (lt_of_block Z3.out)).trans Z3.out)
    have BQ : Hid (∀ b ∈ b', q0 + 2 ≤ b) := fun b hb => by have := hb4 b (hbb b hb); have := V3B.out.size; have := lt_of_block Z3.out; omega
    have B4 := Lib.hid (B3.out.trans ((V3B.out.trans (b4.mono V3B.out.size)).mono B3.out.size))
    have ZZ := Lib.hid Z4
    have TT := Lib.hid OT4
    have BZ := B4
    obtain ⟨wz, hwz⟩ : ∃ W, W = w4 := ⟨_, rfl⟩
    subst hwz
    clear T4 hb4 b4 hc4 OT4 hbb Z4 B4 d0 d1 d2 d3
    go_wp2_with ((with_reducible show wpList _ _ _ (Oper.mk _ (Op.store 25 (.tmp 2) _) _ _ _ _ :: _) _ _); refine wpList_store_row rfl 25 (.tmp 2) _ rfl (q0 + 1) #[.int .i64 x.k, .slice lo4 ln4 lc4, .int .i64 x.a, .slice ko4 kn4 kc4] rfl rfl 25 #[.int .i64 0, .slice none 0 0, .int .i64 0, .slice none 0 0] ZZ.out csize rfl (by simp [Value.oneCell']) ?_)
    have cc := setRow_heap _ (q0 + 1) _ #[.int .i64 x.k, .slice lo4 ln4 lc4, .int .i64 x.a, .slice ko4 kn4 kc4] _ _ ZZ.out
    have tt := TT.out.setRow ZZ.out (cs := #[.int .i64 x.k, .slice lo4 ln4 lc4, .int .i64 x.a, .slice ko4 kn4 kc4]) (fun hm => by have := BQ.out _ hm; omega)
    have bb : Below w.heap.size w (World.setRow wz (q0 + 1) #[.int .i64 x.k, .slice lo4 ln4 lc4, .int .i64 x.a, .slice ko4 kn4 kc4]) := below_setRow BZ.out (g := q0 + 1) (by rw [HQ0.out]; omega) #[.int .i64 x.k, .slice lo4 ln4 lc4, .int .i64 x.a, .slice ko4 kn4 kc4]
    obtain ⟨w9, h9⟩ : ∃ W, W = World.setRow wz (q0 + 1) #[.int .i64 x.k, .slice lo4 ln4 lc4, .int .i64 x.a, .slice ko4 kn4 kc4] := ⟨_, rfl⟩
    rw [← h9] at cc tt bb ⊢
    clear h9
    have k0 := boxc cc 0 _ rfl
    have k1 := boxc cc 1 _ rfl
    have k2 := boxc cc 2 _ rfl
    have k3 := boxc cc 3 _ rfl
    refine bodyPost_ret (v := .agg #[.int .i64 x.k, .slice lo4 ln4 lc4, .int .i64 x.a, .slice ko4 kn4 kc4]) (by simp [results, Try.results18, go_sem, k0, k1, k2, k3]) rfl ?_
    exact ⟨[.int .i64 x.k, .slice lo4 ln4 lc4, .int .i64 x.a, .slice ko4 kn4 kc4], rfl, tt.cur, bb⟩
  | some y =>
    obtain ⟨hr8, hy0, hy1⟩ := HRT.out y rfl
    have HR8 := Lib.hid hr8
    have hyw : IntKind.i64.wrap (y + 1) = y + 1 := IntWalk.i64_in _ (by omega)
    simp only
    clear hr8
    go_enter Try.func18, Try.ntmps18
    go_wp2_with fail
    rw [← HW2.out, ← HQ0.out]
    (with_reducible refine HN.out.mono ?_)
    rintro e3 w3 ⟨rfl, b3⟩
    have B3 := Lib.hid (B2.out.trans (b3.mono B2.out.size))
    have X3' := Lib.hid ((b3.block _ (lt_of_block X2.out)).trans X2.out)
    have Z3 := Lib.hid ((b3.block _ (lt_of_block X3.out)).trans X3.out)
    clear b3
    obtain ⟨V3, hV3⟩ : ∃ W, W = w3.alloc (.cells #[.int .i64 x.k, .slice lo ln lc, .int .i64 x.a, .slice ko kn kc] 25) := ⟨_, rfl⟩
    have v3 : Below w3.heap.size w3 V3 := by rw [hV3]; exact below1
    obtain ⟨p, hp⟩ : ∃ p, p = w3.heap.size := ⟨_, rfl⟩
    have HOW : Hid (Calls Try.prog 39 #[.slice (some ⟨p, 0, none⟩) 1 1] V3 (OwnA d [x] V3)) := by
      have h3 := own_cu d [x] _ _ (rows_lit (curR_steady d _ _ _ _ _ _ HX.out B3.out B3.out.size) rfl) (fun c hc => by rw [List.mem_singleton.1 hc]; exact HSM.out) (by simp)
      rw [hp, hV3]; exact h3
    have HV3 := Lib.hid hV3
    have HPP := Lib.hid hp
    have V3B := Lib.hid v3
    clear hV3 hp v3
    have d0 := boxc X3'.out 0 _ rfl
    have d1 := boxc X3'.out 1 _ rfl
    have d2 := boxc X3'.out 2 _ rfl
    have d3 := boxc X3'.out 3 _ rfl
    simp only [Option.getD_some, Option.isSome_some]
    go_wp2_with fail
    rw [← HV3.out, ← HPP.out]
    (with_reducible refine HOW.out.mono ?_)
    rintro e4 w4 ⟨ao4, cp4, bs4, rfl, T4, hb4, b4⟩
    obtain ⟨g4, c4, b', rfl, hc4, OT4, hbb⟩ := T4.one
    obtain ⟨lo4, ln4, lc4, ko4, kn4, kc4, rfl⟩ := OT4.form
    have z0 := hc4 0 _ rfl
    have z1 := hc4 1 _ rfl
    have z2 := hc4 2 _ rfl
    have z3 := hc4 3 _ rfl
    simp only [List.length_singleton]
    have Z4 : w4.heap[q0 + 1]? = some (.cells #[.int .i64 0, .slice none 0 0, .int .i64 0, .slice none 0 0] 25) := (b4.block (q0 + 1) (by have := V3B.out.size; have := lt_of_block Z3.out; omega)).trans ((V3B.out.block (q0 + 1) (lt_of_block Z3.out)).trans Z3.out)
    have BQ : Hid (∀ b ∈ b', q0 + 2 ≤ b) := fun b hb => by have := hb4 b (hbb b hb); have := V3B.out.size; have := lt_of_block Z3.out; omega
    have B4 := Lib.hid (B3.out.trans ((V3B.out.trans (b4.mono V3B.out.size)).mono B3.out.size))
    have HSK := Lib.hid (skip_cu (y + 1) d x _ w4 b' OT4 ⟨8, HR8.out⟩)
    have Z4' := Lib.hid Z4
    clear T4 hb4 b4 hc4 OT4 hbb Z4 d0 d1 d2 d3
    go_wp2_with fail
    (with_reducible refine HSK.out.mono ?_)
    rintro e7 wz ⟨c7, rfl, T7, kb⟩
    obtain ⟨lo7, ln7, lc7, ko7, kn7, kc7, rfl⟩ := T7.form
    have ZZ := Lib.hid ((kb.2.2 (q0 + 1) (lt_of_block Z4'.out) (fun hm => by have := BQ.out _ hm; omega)).trans Z4'.out)
    have TT := Lib.hid T7
    have BZ := Lib.hid (B4.out.trans (kb.to (fun b hb => by have := BQ.out b hb; have := HQ0.out; omega) B4.out.size))
    clear T7 kb HSK z0 z1 z2 z3
    go_wp2_with ((with_reducible show wpList _ _ _ (Oper.mk _ (Op.store 25 (.tmp 2) _) _ _ _ _ :: _) _ _); refine wpList_store_row rfl 25 (.tmp 2) _ rfl (q0 + 1) #[.int .i64 (x.fwd (y + 1)).k, .slice lo7 ln7 lc7, .int .i64 (x.fwd (y + 1)).a, .slice ko7 kn7 kc7] rfl rfl 25 #[.int .i64 0, .slice none 0 0, .int .i64 0, .slice none 0 0] ZZ.out csize rfl (by simp [Value.oneCell']) ?_)
    have cc := setRow_heap _ (q0 + 1) _ #[.int .i64 (x.fwd (y + 1)).k, .slice lo7 ln7 lc7, .int .i64 (x.fwd (y + 1)).a, .slice ko7 kn7 kc7] _ _ ZZ.out
    have tt := TT.out.setRow ZZ.out (cs := #[.int .i64 (x.fwd (y + 1)).k, .slice lo7 ln7 lc7, .int .i64 (x.fwd (y + 1)).a, .slice ko7 kn7 kc7]) (fun hm => by have := BQ.out _ hm; omega)
    have bb : Below w.heap.size w (World.setRow wz (q0 + 1) #[.int .i64 (x.fwd (y + 1)).k, .slice lo7 ln7 lc7, .int .i64 (x.fwd (y + 1)).a, .slice ko7 kn7 kc7]) := below_setRow BZ.out (g := q0 + 1) (by rw [HQ0.out]; omega) #[.int .i64 (x.fwd (y + 1)).k, .slice lo7 ln7 lc7, .int .i64 (x.fwd (y + 1)).a, .slice ko7 kn7 kc7]
    obtain ⟨w9, h9⟩ : ∃ W, W = World.setRow wz (q0 + 1) #[.int .i64 (x.fwd (y + 1)).k, .slice lo7 ln7 lc7, .int .i64 (x.fwd (y + 1)).a, .slice ko7 kn7 kc7] := ⟨_, rfl⟩
    rw [← h9] at cc tt bb ⊢
    clear h9
    have k0 := boxc cc 0 _ rfl
    have k1 := boxc cc 1 _ rfl
    have k2 := boxc cc 2 _ rfl
    have k3 := boxc cc 3 _ rfl
    refine bodyPost_ret (v := .agg #[.int .i64 (x.fwd (y + 1)).k, .slice lo7 ln7 lc7, .int .i64 (x.fwd (y + 1)).a, .slice ko7 kn7 kc7]) (by simp [results, Try.results18, go_sem, k0, k1, k2, k3]) rfl ?_
    exact ⟨[.int .i64 (x.fwd (y + 1)).k, .slice lo7 ln7 lc7, .int .i64 (x.fwd (y + 1)).a, .slice ko7 kn7 kc7], rfl, tt.cur, bb⟩
end Go.Proofs.Ytojngbobecdpeaa
