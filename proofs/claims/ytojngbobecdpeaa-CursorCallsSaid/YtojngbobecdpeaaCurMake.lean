/- cursors: how they are made. -/
import Derived.Test.YtojngbobecdpeaaCurOps
namespace Go.Proofs.Ytojngbobecdpeaa
open Go Go.RowKit Go.ChangeShapes at_ pm cl
set_option maxHeartbeats 1600000 in
set_option maxRecDepth 100000 in
theorem list_any (l : List Int) (v : Value) (w : World) (h : At w w.heap.size v l) (hl : l.length ≤ 100000) : Calls Try.prog 33 #[v] w (CurA 1 (.mk 1 l 0 []) w) := by
  obtain ⟨q0, hq0⟩ : ∃ q, q = w.heap.size := ⟨_, rfl⟩
  obtain ⟨W2, hW2⟩ : ∃ W, W = w.alloc (.cells #[.int .i64 0, .slice none 0 0, .int .i64 0, .slice none 0 0] 25) := ⟨_, rfl⟩
  have b2 : Below w.heap.size w W2 := by rw [hW2]; exact below1
  have x4 : W2.heap[q0]? = some (.cells #[.int .i64 0, .slice none 0 0, .int .i64 0, .slice none 0 0] 25) := by rw [hW2, hq0]; exact heap_alloc_new _ _
  have HC := Lib.hid (clone_any l v W2 ((h.below b2).mono b2.size) hl)
  obtain ⟨ao, cap, rfl, _⟩ := id h
  obtain ⟨n, hn⟩ : ∃ n, n = l.length := ⟨_, rfl⟩
  rw [← hn] at HC ⊢
  have HN := Lib.hid hn
  have X4 := Lib.hid x4
  have B2 := Lib.hid b2
  have HW2 := Lib.hid hW2
  have HQ0 := Lib.hid hq0
  clear h hn b2 x4 hW2 hq0 hl
  go_enter Try.func33, Try.ntmps33
  go_wp2_with fail
  rw [← HW2.out]
  (with_reducible refine HC.out.mono ?_)
  rintro e w3 ⟨v3, rfl, ho, b3⟩
  obtain ⟨lo, lc, rfl⟩ := own_slice ho
  rw [← HN.out] at ho ⊢
  have HF := Lib.hid (fre_at ho)
  have B3 := Lib.hid (B2.out.trans (b3.mono B2.out.size))
  have X5 := Lib.hid ((b3.block _ (lt_of_block X4.out)).trans X4.out)
  have HS : Hid (q0 < W2.heap.size) := lt_of_block X4.out
  clear ho b3
  simp only [← HQ0.out]
  have xx : w3.heap[q0]? = some (.cells #[.int .i64 0, .slice none 0 0, .int .i64 0, .slice none 0 0] 25 (0, 0)) := X5.out
  go_wp2_with ((with_reducible show wpList _ _ _ (Oper.mk _ (Op.store 25 (.tmp 2) _) _ _ _ _ :: _) _ _); refine wpList_store_row rfl 25 (.tmp 2) _ rfl (q0) #[.int .i64 1, .slice lo n lc, .int .i64 0, .slice none 0 0] rfl rfl 25 #[.int .i64 0, .slice none 0 0, .int .i64 0, .slice none 0 0] xx csize rfl (by simp [Value.oneCell']) ?_)
  have cc := setRow_heap _ (q0) _ #[.int .i64 1, .slice lo n lc, .int .i64 0, .slice none 0 0] _ _ xx
  have bb := below_setRow (B3.out) (g := q0) (by rw [HQ0.out]; exact Nat.le_refl _) #[.int .i64 1, .slice lo n lc, .int .i64 0, .slice none 0 0]
  have ff := fre_setRow HF.out (q := q0) (cs := #[.int .i64 1, .slice lo n lc, .int .i64 0, .slice none 0 0]) HS.out
  obtain ⟨w9, h9⟩ : ∃ W, W = World.setRow w3 (q0) #[.int .i64 1, .slice lo n lc, .int .i64 0, .slice none 0 0] := ⟨_, rfl⟩
  rw [← h9] at cc bb ff ⊢
  clear h9 xx
  have k0 := boxc cc 0 (.int .i64 1) rfl
  have k1 := boxc cc 1 (.slice lo n lc) rfl
  have k2 := boxc cc 2 (.int .i64 0) rfl
  have k3 := boxc cc 3 (.slice none 0 0) rfl
  refine bodyPost_ret (v := .agg #[.int .i64 1, .slice lo n lc, .int .i64 0, .slice none 0 0]) (by simp [results, Try.results33, go_sem, k0, k1, k2, k3]) rfl ?_
  exact ⟨[.int .i64 1, .slice lo n lc, .int .i64 0, .slice none 0 0], rfl, FreA.low (ff.imp (fun W hW => ⟨lo, n, lc, none, 0, 0, rfl, hW, RowsAt.nil _ _⟩)) B2.out.size, bb⟩
set_option maxHeartbeats 1600000 in
set_option maxRecDepth 100000 in
theorem cboth_any (d : Nat) (l : List Cur) (v : Value) (w : World) (h : RowsAt 4 (curR d) w w.heap.size v l) (hs : ∀ c ∈ l, c.sm) (hl : l.length ≤ 200000) : Calls Try.prog 22 #[v] w (CurA (d + 1) (.mk 2 [] 0 (l.map (Cur.fwd (-9223372036854775808)))) w) := by
  obtain ⟨q0, hq0⟩ : ∃ q, q = w.heap.size := ⟨_, rfl⟩
  obtain ⟨W2, hW2⟩ : ∃ W, W = w.alloc (.cells #[.int .i64 0, .slice none 0 0, .int .i64 0, .slice none 0 0] 25) := ⟨_, rfl⟩
  have b2 : Below w.heap.size w W2 := by rw [hW2]; exact below1
  have x4 : W2.heap[q0]? = some (.cells #[.int .i64 0, .slice none 0 0, .int .i64 0, .slice none 0 0] 25) := by rw [hW2, hq0]; exact heap_alloc_new _ _
  have HC := Lib.hid (from_any (-9223372036854775808) d l v W2 (h.next (curR_steady d) b2) hs hl)
  obtain ⟨ks, hks⟩ : ∃ ks, ks = l.map (Cur.fwd (-9223372036854775808)) := ⟨_, rfl⟩
  rw [← hks] at HC ⊢
  obtain ⟨n, hn⟩ : ∃ n, n = l.length := ⟨_, rfl⟩
  obtain ⟨ao, cap, rfl, _⟩ := h.form' hn
  have X4 := Lib.hid x4
  have B2 := Lib.hid b2
  have HW2 := Lib.hid hW2
  have HQ0 := Lib.hid hq0
  clear h hn b2 x4 hW2 hq0 hl hs hks
  go_enter Try.func22, Try.ntmps22
  go_wp2_with fail
  rw [← HW2.out]
  (with_reducible refine HC.out.mono ?_)
  rintro e w3 ⟨ko, kc, rfl, hf, b3⟩
  obtain ⟨m, hm⟩ : ∃ m, m = ks.length := ⟨_, rfl⟩
  rw [← hm] at hf ⊢
  have HF := Lib.hid hf
  have B3 := Lib.hid (B2.out.trans (b3.mono B2.out.size))
  have X5 := Lib.hid ((b3.block _ (lt_of_block X4.out)).trans X4.out)
  have HS : Hid (q0 < W2.heap.size) := lt_of_block X4.out
  clear hf b3 hm
  simp only [← HQ0.out]
  have xx : w3.heap[q0]? = some (.cells #[.int .i64 0, .slice none 0 0, .int .i64 0, .slice none 0 0] 25 (0, 0)) := X5.out
  go_wp2_with ((with_reducible show wpList _ _ _ (Oper.mk _ (Op.store 25 (.tmp 2) _) _ _ _ _ :: _) _ _); refine wpList_store_row rfl 25 (.tmp 2) _ rfl (q0) #[.int .i64 2, .slice none 0 0, .int .i64 0, .slice ko m kc] rfl rfl 25 #[.int .i64 0, .slice none 0 0, .int .i64 0, .slice none 0 0] xx csize rfl (by simp [Value.oneCell']) ?_)
  have cc := setRow_heap _ (q0) _ #[.int .i64 2, .slice none 0 0, .int .i64 0, .slice ko m kc] _ _ xx
  have bb := below_setRow (B3.out) (g := q0) (by rw [HQ0.out]; exact Nat.le_refl _) #[.int .i64 2, .slice none 0 0, .int .i64 0, .slice ko m kc]
  have ff := fre_setRow HF.out (q := q0) (cs := #[.int .i64 2, .slice none 0 0, .int .i64 0, .slice ko m kc]) HS.out
  obtain ⟨w9, h9⟩ : ∃ W, W = World.setRow w3 (q0) #[.int .i64 2, .slice none 0 0, .int .i64 0, .slice ko m kc] := ⟨_, rfl⟩
  rw [← h9] at cc bb ff ⊢
  clear h9 xx
  have k0 := boxc cc 0 (.int .i64 2) rfl
  have k1 := boxc cc 1 (.slice none 0 0) rfl
  have k2 := boxc cc 2 (.int .i64 0) rfl
  have k3 := boxc cc 3 (.slice ko m kc) rfl
  refine bodyPost_ret (v := .agg #[.int .i64 2, .slice none 0 0, .int .i64 0, .slice ko m kc]) (by simp [results, Try.results22, go_sem, k0, k1, k2, k3]) rfl ?_
  exact ⟨[.int .i64 2, .slice none 0 0, .int .i64 0, .slice ko m kc], rfl, FreA.low (ff.imp (fun W hW => ⟨none, 0, 0, ko, m, kc, rfl, at_.nil _ _, hW⟩)) B2.out.size, bb⟩
set_option maxHeartbeats 1600000 in
set_option maxRecDepth 100000 in
theorem cany_any (d : Nat) (l : List Cur) (v : Value) (w : World) (h : RowsAt 4 (curR d) w w.heap.size v l) (hs : ∀ c ∈ l, c.sm) (hl : l.length ≤ 200000) : Calls Try.prog 29 #[v] w (CurA (d + 1) (.mk 3 [] 0 (l.map (Cur.fwd (-9223372036854775808)))) w) := by
  obtain ⟨q0, hq0⟩ : ∃ q, q = w.heap.size := ⟨_, rfl⟩
  obtain ⟨W2, hW2⟩ : ∃ W, W = w.alloc (.cells #[.int .i64 0, .slice none 0 0, .int .i64 0, .slice none 0 0] 25) := ⟨_, rfl⟩
  have b2 : Below w.heap.size w W2 := by rw [hW2]; exact below1
  have x4 : W2.heap[q0]? = some (.cells #[.int .i64 0, .slice none 0 0, .int .i64 0, .slice none 0 0] 25) := by rw [hW2, hq0]; exact heap_alloc_new _ _
  have HC := Lib.hid (from_any (-9223372036854775808) d l v W2 (h.next (curR_steady d) b2) hs hl)
  obtain ⟨ks, hks⟩ : ∃ ks, ks = l.map (Cur.fwd (-9223372036854775808)) := ⟨_, rfl⟩
  rw [← hks] at HC ⊢
  obtain ⟨n, hn⟩ : ∃ n, n = l.length := ⟨_, rfl⟩
  obtain ⟨ao, cap, rfl, _⟩ := h.form' hn
  have X4 := Lib.hid x4
  have B2 := Lib.hid b2
  have HW2 := Lib.hid hW2
  have HQ0 := Lib.hid hq0
  clear h hn b2 x4 hW2 hq0 hl hs hks
  go_enter Try.func29, Try.ntmps29
  go_wp2_with fail
  rw [← HW2.out]
  (with_reducible refine HC.out.mono ?_)
  rintro e w3 ⟨ko, kc, rfl, hf, b3⟩
  obtain ⟨m, hm⟩ : ∃ m, m = ks.length := ⟨_, rfl⟩
  rw [← hm] at hf ⊢
  have HF := Lib.hid hf
  have B3 := Lib.hid (B2.out.trans (b3.mono B2.out.size))
  have X5 := Lib.hid ((b3.block _ (lt_of_block X4.out)).trans X4.out)
  have HS : Hid (q0 < W2.heap.size) := lt_of_block X4.out
  clear hf b3 hm
  simp only [← HQ0.out]
  have xx : w3.heap[q0]? = some (.cells #[.int .i64 0, .slice none 0 0, .int .i64 0, .slice none 0 0] 25 (0, 0)) := X5.out
  go_wp2_with ((with_reducible show wpList _ _ _ (Oper.mk _ (Op.store 25 (.tmp 2) _) _ _ _ _ :: _) _ _); refine wpList_store_row rfl 25 (.tmp 2) _ rfl (q0) #[.int .i64 3, .slice none 0 0, .int .i64 0, .slice ko m kc] rfl rfl 25 #[.int .i64 0, .slice none 0 0, .int .i64 0, .slice none 0 0] xx csize rfl (by simp [Value.oneCell']) ?_)
  have cc := setRow_heap _ (q0) _ #[.int .i64 3, .slice none 0 0, .int .i64 0, .slice ko m kc] _ _ xx
  have bb := below_setRow (B3.out) (g := q0) (by rw [HQ0.out]; exact Nat.le_refl _) #[.int .i64 3, .slice none 0 0, .int .i64 0, .slice ko m kc]
  have ff := fre_setRow HF.out (q := q0) (cs := #[.int .i64 3, .slice none 0 0, .int .i64 0, .slice ko m kc]) HS.out
  obtain ⟨w9, h9⟩ : ∃ W, W = World.setRow w3 (q0) #[.int .i64 3, .slice none 0 0, .int .i64 0, .slice ko m kc] := ⟨_, rfl⟩
  rw [← h9] at cc bb ff ⊢
  clear h9 xx
  have k0 := boxc cc 0 (.int .i64 3) rfl
  have k1 := boxc cc 1 (.slice none 0 0) rfl
  have k2 := boxc cc 2 (.int .i64 0) rfl
  have k3 := boxc cc 3 (.slice ko m kc) rfl
  refine bodyPost_ret (v := .agg #[.int .i64 3, .slice none 0 0, .int .i64 0, .slice ko m kc]) (by simp [results, Try.results29, go_sem, k0, k1, k2, k3]) rfl ?_
  exact ⟨[.int .i64 3, .slice none 0 0, .int .i64 0, .slice ko m kc], rfl, FreA.low (ff.imp (fun W hW => ⟨none, 0, 0, ko, m, kc, rfl, at_.nil _ _, hW⟩)) B2.out.size, bb⟩
theorem own_lit {W : World} {k : Nat} {arr : Array Value} {T : TypeId} (hk : arr.size = k) : (W.alloc (.cells arr T)).ownsRow W.heap.size T k (.slice (some ⟨W.heap.size, 0, none⟩) 1 1) 1 arr.toList := by
  refine ⟨by simp [hk], Or.inr ⟨W.heap.size, 1, arr, rfl, Nat.le_refl _, heap_alloc_new _ _, Nat.le_refl _, by unfold maxLen; omega, by simp [hk], ?_⟩⟩
  rw [Nat.one_mul, ← hk, ← Array.length_toList]; exact List.take_length
set_option maxHeartbeats 3200000 in
set_option maxRecDepth 100000 in
theorem cminus_any (d : Nat) (x : Cur) (c : List Value) (l : List Cur) (v : Value) (w : World) (hx : curR d w w.heap.size c x) (hxs : x.sm) (h : RowsAt 4 (curR d) w w.heap.size v l) (hs : ∀ c ∈ l, c.sm) (hl : l.length ≤ 100000) : Calls Try.prog 24 #[.agg c.toArray, v] w (CurA (d + 1) (.mk 4 [] 0 ((x :: l).map (Cur.fwd (-9223372036854775808)))) w) := by
  have HFR : Hid (∀ (v : Value) (W : World), RowsAt 4 (curR d) W W.heap.size v (x :: l) → Calls Try.prog 41 #[v, .int .i64 (-9223372036854775808)] W (CursA d ((x :: l).map (Cur.fwd (-9223372036854775808))) W)) := fun v W hv => from_any (-9223372036854775808) d (x :: l) v W hv (fun c hc => (List.mem_cons.1 hc).elim (fun e => by rw [e]; exact hxs) (fun hc => hs c hc)) (by rw [List.length_cons]; omega)
  obtain ⟨ks, hks⟩ : ∃ ks, ks = (x :: l).map (Cur.fwd (-9223372036854775808)) := ⟨_, rfl⟩
  rw [← hks] at HFR ⊢
  obtain ⟨lo, ln, lc, ko, kn, kc, rfl⟩ := cur_form hx
  obtain ⟨q0, hq0⟩ : ∃ q, q = w.heap.size := ⟨_, rfl⟩
  obtain ⟨W2, hW2⟩ : ∃ W, W = (w.alloc (.cells #[.int .i64 x.k, .slice lo ln lc, .int .i64 x.a, .slice ko kn kc] 25)).alloc (.cells #[.int .i64 0, .slice none 0 0, .int .i64 0, .slice none 0 0] 25) := ⟨_, rfl⟩
  have b2 : Below w.heap.size w W2 := by rw [hW2]; exact below1.trans (below1.mono (by simp))
  have x2 : W2.heap[q0]? = some (.cells #[.int .i64 x.k, .slice lo ln lc, .int .i64 x.a, .slice ko kn kc] 25) := by
    rw [hW2]; exact (below1.block q0 (by rw [World.size_alloc, hq0]; omega)).trans (by rw [hq0]; exact heap_alloc_new _ _)
  have x4 : W2.heap[q0 + 1]? = some (.cells #[.int .i64 0, .slice none 0 0, .int .i64 0, .slice none 0 0] 25) := by
    have : q0 + 1 = (w.alloc (.cells #[.int .i64 x.k, .slice lo ln lc, .int .i64 x.a, .slice ko kn kc] 25)).heap.size := by rw [World.size_alloc, hq0]
    rw [hW2, this]; exact heap_alloc_new _ _
  obtain ⟨n, hn⟩ : ∃ n, n = l.length := ⟨_, rfl⟩
  obtain ⟨ao, cap, rfl, _⟩ := h.form' hn
  obtain ⟨cs, h0, hel, hCL⟩ := h
  rw [← hn] at hCL
  have HNONE : Hid (ao = none → n = 0 ∧ cap = 0) := (Cells.news hCL).1
  have HCC : Hid (∀ W, Below w.heap.size w W → ∀ ad, ao = some ad → ∀ (j : Nat) u, cs.flatten[j]? = some u → W.cell? (ad.add j) = some u) := fun W hW => (Cells.news (hCL.next hW)).2
  have HLE : Hid (cs.flatten.length = n * 4) := hCL.1
  have HONE : Hid (∀ u ∈ cs.flatten, u.oneCell' = true) := by
    intro u hu
    obtain ⟨c, hc, huc⟩ := List.mem_flatten.1 hu
    obtain ⟨j, hj, rfl⟩ := List.mem_iff_getElem.1 hc
    exact (cur_one (hel j _ l[j] (List.getElem?_eq_getElem hj) (List.getElem?_eq_getElem (by omega))).2).2 u huc
  have HRW : Hid (∀ (v : Value) (W : World), Below w.heap.size w W → W.ownsRow W2.heap.size 25 4 v (1 + n) ((#[.int .i64 x.k, .slice lo ln lc, .int .i64 x.a, .slice ko kn kc] : Array Value).toList ++ cs.flatten) → RowsAt 4 (curR d) W W.heap.size v (x :: l)) := by
    intro v W hW ho
    refine RowsAt.own (e := 25) (base := W2.heap.size) (n := 1 + n) (cs := (#[.int .i64 x.k, .slice lo ln lc, .int .i64 x.a, .slice ko kn kc] : Array Value).toList :: cs) (by rw [List.length_cons, hn]; omega) (by rw [List.length_cons, List.length_cons, h0]) ?_ (by rw [List.flatten_cons]; exact ho)
    intro j c' x' hc' hx'
    cases j with
    | zero =>
      simp only [List.getElem?_cons_zero, Option.some.injEq] at hc' hx'
      subst hc'; subst hx'
      exact ⟨rfl, curR_steady d _ _ _ _ _ _ hx hW hW.size⟩
    | succ j =>
      simp only [List.getElem?_cons_succ] at hc' hx'
      exact ⟨(hel j c' x' hc' hx').1, curR_steady d _ _ _ _ _ _ (hel j c' x' hc' hx').2 hW hW.size⟩
  obtain ⟨xs, hxs'⟩ : ∃ xs, xs = cs.flatten := ⟨_, rfl⟩
  rw [← hxs'] at HCC HLE HONE HRW
  have hnb : n ≤ 100000 := by omega
  have X4 := Lib.hid x4
  have X2 := Lib.hid x2
  have B2 := Lib.hid b2
  have HW2 := Lib.hid hW2
  have HQ0 := Lib.hid hq0
  have c0 := boxc x2 0 _ rfl
  have c1 := boxc x2 1 _ rfl
  have c2 := boxc x2 2 _ rfl
  have c3 := boxc x2 3 _ rfl
  rw [hW2, hq0] at c0 c1 c2 c3
  obtain ⟨xk, hxk⟩ : ∃ z, z = x.k := ⟨_, rfl⟩
  obtain ⟨xa, hxa⟩ : ∃ z, z = x.a := ⟨_, rfl⟩
  rw [← hxk, ← hxa] at X2 HW2 hW2 HRW c0 c1 c2 c3 ⊢
  have hx3 := own_lit (W := W2) (k := 4) (arr := #[.int .i64 xk, .slice lo ln lc, .int .i64 xa, .slice ko kn kc]) (T := 25) rfl
  rw [hW2] at hx3
  simp only [World.size_alloc] at hx3
  have HX3 := Lib.hid hx3
  have HSZ2 : Hid (W2.heap.size = w.heap.size + 1 + 1) := by show _ = _; rw [hW2, World.size_alloc, World.size_alloc]
  clear hx3
  have HBX : Hid (Below w.heap.size w (((w.alloc (.cells #[.int .i64 xk, .slice lo ln lc, .int .i64 xa, .slice ko kn kc] 25)).alloc (.cells #[.int .i64 0, .slice none 0 0, .int .i64 0, .slice none 0 0] 25)).alloc (.cells #[.int .i64 xk, .slice lo ln lc, .int .i64 xa, .slice ko kn kc] 25))) := (below1.trans (below1.mono (by simp))).trans (below1.mono (by simp only [World.size_alloc]; omega))
  clear hn b2 x4 x2 hW2 hq0 hl hs hks hx hxs h0 hel hCL hxs' hxk hxa
  go_enter Try.func24, Try.ntmps24
  go_wp2_with (at_builtin; refine kit.appN (.tmp 6) (.tmp 7) 23 rfl rfl _ Try.underlying23 infoCur rfl (by decide) (by decide) HX3.out rfl xs rfl HLE.out HNONE.out (HCC.out _ HBX.out) HONE.out (by omega) (by simp) ?_)
  intro v4 w4 ho4 hb4
  rw [← HW2.out] at hb4
  rw [← HSZ2.out] at ho4 hb4
  have hb4' : Below W2.heap.size W2 w4 := below1.trans hb4
  obtain ⟨ao4, cap4, rfl⟩ := own_slice ho4
  have HC := Lib.hid (HFR.out _ w4 (HRW.out _ w4 (B2.out.trans (hb4'.mono B2.out.size)) ho4))
  have B4 := Lib.hid hb4'
  clear ho4 hb4 hb4' c0 c1 c2 c3
  go_wp2_with fail
  (with_reducible refine HC.out.mono ?_)
  rintro e w5 ⟨ko5, kc5, rfl, hf, b5⟩
  obtain ⟨m, hm⟩ : ∃ m, m = ks.length := ⟨_, rfl⟩
  rw [← hm] at hf ⊢
  have HF := Lib.hid hf
  have C5 := Lib.hid (B4.out.trans (b5.mono B4.out.size))
  have B5 := Lib.hid (B2.out.trans (C5.out.mono B2.out.size))
  have X5 := Lib.hid ((C5.out.block _ (lt_of_block X4.out)).trans X4.out)
  have HS : Hid (q0 + 1 < w4.heap.size) := Nat.lt_of_lt_of_le (lt_of_block X4.out) B4.out.size
  clear hf b5 hm
  simp only [← HQ0.out]
  have xx : w5.heap[q0 + 1]? = some (.cells #[.int .i64 0, .slice none 0 0, .int .i64 0, .slice none 0 0] 25 (0, 0)) := X5.out
  go_wp2_with ((with_reducible show wpList _ _ _ (Oper.mk _ (Op.store 25 (.tmp 4) _) _ _ _ _ :: _) _ _); refine wpList_store_row rfl 25 (.tmp 4) _ rfl (q0 + 1) #[.int .i64 4, .slice none 0 0, .int .i64 0, .slice ko5 m kc5] rfl rfl 25 #[.int .i64 0, .slice none 0 0, .int .i64 0, .slice none 0 0] xx csize rfl (by simp [Value.oneCell']) ?_)
  have cc := setRow_heap _ (q0 + 1) _ #[.int .i64 4, .slice none 0 0, .int .i64 0, .slice ko5 m kc5] _ _ xx
  have bb := below_setRow (B5.out) (g := q0 + 1) (by rw [HQ0.out]; omega) #[.int .i64 4, .slice none 0 0, .int .i64 0, .slice ko5 m kc5]
  have ff := fre_setRow HF.out (q := q0 + 1) (cs := #[.int .i64 4, .slice none 0 0, .int .i64 0, .slice ko5 m kc5]) HS.out
  obtain ⟨w9, h9⟩ : ∃ W, W = World.setRow w5 (q0 + 1) #[.int .i64 4, .slice none 0 0, .int .i64 0, .slice ko5 m kc5] := ⟨_, rfl⟩
  rw [← h9] at cc bb ff ⊢
  clear h9 xx
  have k0 := boxc cc 0 (.int .i64 4) rfl
  have k1 := boxc cc 1 (.slice none 0 0) rfl
  have k2 := boxc cc 2 (.int .i64 0) rfl
  have k3 := boxc cc 3 (.slice ko5 m kc5) rfl
  refine bodyPost_ret (v := .agg #[.int .i64 4, .slice none 0 0, .int .i64 0, .slice ko5 m kc5]) (by simp [results, Try.results24, go_sem, k0, k1, k2, k3]) rfl ?_
  exact ⟨[.int .i64 4, .slice none 0 0, .int .i64 0, .slice ko5 m kc5], rfl, FreA.low (ff.imp (fun W hW => ⟨none, 0, 0, ko5, m, kc5, rfl, at_.nil _ _, hW⟩)) (Nat.le_trans B2.out.size B4.out.size), bb⟩
end Go.Proofs.Ytojngbobecdpeaa
