/- the document's cursors: Both and Minus, by contract. -/
import Derived.Test.YtojngbobecdpeaaCrSeek
namespace Go.Proofs.Ytojngbobecdpeaa
open Go Go.RowKit Go.ChangeShapes at_ pm cl
/-- cursors of the call's own, in a row of its own -/
def RT (d B : Nat) (W : World) (v : Value) (l : List Cur) : Prop :=
  ∃ (cs : List (List Value)) (bss : List (List Nat)), cs.length = l.length ∧ bss.length = l.length ∧ (∀ (j : Nat) (c : List Value) (y : Cur) (b : List Nat), cs[j]? = some c → l[j]? = some y → bss[j]? = some b → c.length = 4 ∧ OT d W c y b ∧ ∀ k ∈ b, B ≤ k) ∧ W.ownsRow B 25 4 v l.length cs.flatten
theorem RT.rows {d B : Nat} {W : World} {v : Value} {l : List Cur} (h : RT d B W v l) : RowsAt 4 (curR d) W W.heap.size v l := by
  obtain ⟨cs, bss, h0, h1, h2, h3⟩ := h
  refine RowsAt.own rfl h0 (fun j c y hc hy => ?_) h3
  have hj := (List.getElem?_eq_some_iff.1 hy).1
  have h4 := h2 j c y _ hc hy (List.getElem?_eq_getElem (by omega))
  exact ⟨h4.1, h4.2.1.cur⟩
/-- behind a store into an older box of a cursor -/
theorem RT.setRow {d B g : Nat} {W : World} {v : Value} {l : List Cur} {arr cs : Array Value} (h : RT d B W v l) (hg : W.heap[g]? = some (.cells arr 25 (0, 0))) (hn : g < B) : RT d B (W.setRow g cs) v l := by
  obtain ⟨cs, bss, h0, h1, h2, h3⟩ := h
  refine ⟨cs, bss, h0, h1, fun j c y b hc hy hb => ?_, row_keep h3 (fun b hb => setRow_other _ _ _ _ (by have := (own_block h3 b hb).1; omega))⟩
  obtain ⟨g1, g2, g3⟩ := h2 j c y b hc hy hb
  exact ⟨g1, g2.setRow hg (fun hm => by have := g3 _ hm; omega), g3⟩
theorem OTs.rt {d B : Nat} {W : World} {v : Value} {l : List Cur} {bs : List Nat} (h : OTs (OT d) W v l bs) (hB : ∀ b ∈ bs, B ≤ b) : RT d B W v l := by
  obtain ⟨cs, bss, h0, h1, h2, h3, h4, _⟩ := h
  refine ⟨cs, bss, h0, h1, fun j c y b hc hy hb => ⟨(h2 j c y b hc hy hb).1, (h2 j c y b hc hy hb).2, fun k hk => hB k ?_⟩, own_up h3 (fun b hb => hB b (by rw [h4]; simp [hb]))⟩
  rw [h4]
  exact List.mem_append_right _ (List.mem_flatten.2 ⟨b, List.mem_of_getElem? hb, hk⟩)
/-- two rows of the call's own, one behind the other -/
theorem OTs.app {d B : Nat} {W : World} {v v2 : Value} {l l2 : List Cur} {bs bs2 : List Nat} (h : OTs (OT d) W v l bs) (h2 : OTs (OT d) W v2 l2 bs2) (hB : ∀ b ∈ bs, B ≤ b) (hB2 : ∀ b ∈ bs2, B ≤ b) (hd : ∀ b ∈ bs2, b ∉ bs) :
    ∃ cs cs2 : List (List Value), W.ownsRow B 25 4 v l.length cs.flatten ∧ W.ownsRow B 25 4 v2 l2.length cs2.flatten ∧ (∀ u ∈ cs2.flatten, u.oneCell' = true) ∧
      ∀ (v' : Value) (W' : World), W'.ownsRow B 25 4 v' (l.length + l2.length) (cs.flatten ++ cs2.flatten) → W.grownBy W' v.ownBlock → RT d B W' v' (l ++ l2) := by
  have t1 := h.rt hB
  have t2 := h2.rt hB2
  obtain ⟨cs, bss, a0, a1, a2, a3, a4, a5⟩ := h
  obtain ⟨cs2, bss2, c0, c1, c2, c3, c4, c5⟩ := h2
  have a3' := own_up a3 (fun b hb => hB b (by rw [a4]; simp [hb]))
  have c3' := own_up c3 (fun b hb => hB2 b (by rw [c4]; simp [hb]))
  refine ⟨cs, cs2, a3', c3', fun u hu => ?_, fun v' W' hO hg => ?_⟩
  · obtain ⟨c, hc, huc⟩ := List.mem_flatten.1 hu
    obtain ⟨j, hj, rfl⟩ := List.mem_iff_getElem.1 hc
    exact (cur_one (c2 j _ _ _ (List.getElem?_eq_getElem hj) (List.getElem?_eq_getElem (by omega)) (List.getElem?_eq_getElem (by omega))).2.cur).2 u huc
  · have hKI : KI W W' := ⟨hg.size, fun j arr fr hj => hg.block j (lt_of_block hj) (fun e => by
      obtain ⟨arr', ha'⟩ := (own_block a3 j e.symm).2
      rw [hj] at ha'
      simp only [Option.some.injEq, Obj.cells.injEq] at ha'
      exact absurd ha'.2.1 (by decide))⟩
    rw [a4] at a5
    have n5 := List.nodup_append.1 a5
    refine ⟨cs ++ cs2, bss ++ bss2, by simp [a0, c0], by simp [a1, c1], fun j c y b hc hy hb => ?_, by rw [List.flatten_append, List.length_append]; exact hO⟩
    rcases Nat.lt_or_ge j l.length with hj | hj
    · rw [List.getElem?_append_left (by omega)] at hc hy hb
      obtain ⟨g1, g2⟩ := a2 j c y b hc hy hb
      have hm : ∀ k ∈ b, k ∈ bss.flatten := fun k hk => List.mem_flatten.2 ⟨b, List.mem_of_getElem? hb, hk⟩
      refine ⟨g1, g2.keep hKI (fun k hk => ?_), fun k hk => hB k (by rw [a4]; exact List.mem_append_right _ (hm k hk))⟩
      obtain ⟨arr, ha⟩ := g2.typed k hk
      exact hg.block k (lt_of_block ha) (fun e => n5.2.2 k (by simp [← e]) k (hm k hk) rfl)
    · rw [List.getElem?_append_right (by omega)] at hc hy hb
      rw [a0] at hc
      rw [a1] at hb
      obtain ⟨g1, g2⟩ := c2 _ c y b hc hy hb
      have hm : ∀ k ∈ b, k ∈ bs2 := fun k hk => by rw [c4]; exact List.mem_append_right _ (List.mem_flatten.2 ⟨b, List.mem_of_getElem? hb, hk⟩)
      refine ⟨g1, g2.keep hKI (fun k hk => ?_), fun k hk => hB2 k (hm k hk)⟩
      obtain ⟨arr, ha⟩ := g2.typed k hk
      exact hg.block k (lt_of_block ha) (fun e => hd k (hm k hk) (by rw [a4]; simp [← e]))
set_option maxHeartbeats 3200000 in
set_option maxRecDepth 100000 in
theorem rboth_cu (d : Nat) (l : List Cur) (v : Value) (w : World) (h : RowsAt 4 (curR d) w w.heap.size v l) (hs : ∀ c ∈ l, c.sm) (hl : l.length ≤ 100000) : Calls Try.prog 23 #[v] w (CurAt (d + 1) (.mk 2 [] 0 l) w) := by
  obtain ⟨q0, hq0⟩ : ∃ q, q = w.heap.size := ⟨_, rfl⟩
  obtain ⟨W2, hW2⟩ : ∃ W, W = w.alloc (.cells #[.int .i64 0, .slice none 0 0, .int .i64 0, .slice none 0 0] 25) := ⟨_, rfl⟩
  have b2 : Below w.heap.size w W2 := by rw [hW2]; exact below1
  have x4 : W2.heap[q0]? = some (.cells #[.int .i64 0, .slice none 0 0, .int .i64 0, .slice none 0 0] 25) := by rw [hW2, hq0]; exact heap_alloc_new _ _
  have HC := Lib.hid (own_cu d l v W2 (h.next (curR_steady d) b2) hs hl)
  obtain ⟨n, hn⟩ : ∃ n, n = l.length := ⟨_, rfl⟩
  obtain ⟨ao, cap, rfl, _⟩ := h.form' hn
  have X4 := Lib.hid x4
  have B2 := Lib.hid b2
  have HW2 := Lib.hid hW2
  have HQ0 := Lib.hid hq0
  clear h hn b2 x4 hW2 hq0 hl hs
  go_enter Try.func23, Try.ntmps23
  go_wp2_with fail
  rw [← HW2.out, ← HQ0.out]
  (with_reducible refine HC.out.mono ?_)
  rintro e w3 ⟨ko, kc, bs, rfl, T3, hb3, b3⟩
  obtain ⟨m, hm⟩ : ∃ m, m = l.length := ⟨_, rfl⟩
  have hq2 := lt_of_block X4.out
  have R3 := Lib.hid (T3.rt (B := q0 + 1) (fun b hb => by have := hb3 b hb; omega))
  have B3 := Lib.hid (B2.out.trans (b3.mono B2.out.size))
  have xx : w3.heap[q0]? = some (.cells #[.int .i64 0, .slice none 0 0, .int .i64 0, .slice none 0 0] 25 (0, 0)) := (b3.block _ hq2).trans X4.out
  rw [← hm] at R3 ⊢
  clear T3 hb3 b3 hm
  go_wp2_with ((with_reducible show wpList _ _ _ (Oper.mk _ (Op.store 25 (.tmp 2) _) _ _ _ _ :: _) _ _); refine wpList_store_row rfl 25 (.tmp 2) _ rfl (q0) #[.int .i64 2, .slice none 0 0, .int .i64 0, .slice ko m kc] rfl rfl 25 #[.int .i64 0, .slice none 0 0, .int .i64 0, .slice none 0 0] xx csize rfl (by simp [Value.oneCell']) ?_)
  have cc := setRow_heap _ (q0) _ #[.int .i64 2, .slice none 0 0, .int .i64 0, .slice ko m kc] _ _ xx
  have bb := below_setRow (B3.out) (g := q0) (by rw [HQ0.out]; exact Nat.le_refl _) #[.int .i64 2, .slice none 0 0, .int .i64 0, .slice ko m kc]
  have ff := (R3.out.setRow (cs := #[.int .i64 2, .slice none 0 0, .int .i64 0, .slice ko m kc]) xx (by omega)).rows
  obtain ⟨w9, h9⟩ : ∃ W, W = World.setRow w3 (q0) #[.int .i64 2, .slice none 0 0, .int .i64 0, .slice ko m kc] := ⟨_, rfl⟩
  rw [← h9] at cc bb ff ⊢
  clear h9 xx
  have k0 := boxc cc 0 (.int .i64 2) rfl
  have k1 := boxc cc 1 (.slice none 0 0) rfl
  have k2 := boxc cc 2 (.int .i64 0) rfl
  have k3 := boxc cc 3 (.slice ko m kc) rfl
  refine bodyPost_ret (v := .agg #[.int .i64 2, .slice none 0 0, .int .i64 0, .slice ko m kc]) (by simp [results, Try.results23, go_sem, k0, k1, k2, k3]) rfl ?_
  exact ⟨[.int .i64 2, .slice none 0 0, .int .i64 0, .slice ko m kc], rfl, ⟨none, 0, 0, ko, m, kc, rfl, at_.nil _ _, ff⟩, bb⟩
set_option maxHeartbeats 3200000 in
set_option maxRecDepth 100000 in
theorem rminus_cu (d : Nat) (x : Cur) (c : List Value) (l : List Cur) (v : Value) (w : World) (h : curR d w w.heap.size c x) (hs0 : x.sm) (hr : RowsAt 4 (curR d) w w.heap.size v l) (hs : ∀ c ∈ l, c.sm) (hl : l.length ≤ 100000) : Calls Try.prog 25 #[.agg c.toArray, v] w (CurAt (d + 1) (.mk 4 [] 0 (x :: l)) w) := by
  obtain ⟨lo, ln, lc, ko, kn, kc, rfl⟩ := cur_form h
  obtain ⟨q0, hq0⟩ : ∃ q, q = w.heap.size := ⟨_, rfl⟩
  obtain ⟨W2, hW2⟩ : ∃ W, W = (w.alloc (.cells #[.int .i64 x.k, .slice lo ln lc, .int .i64 x.a, .slice ko kn kc] 25)).alloc (.cells #[.int .i64 0, .slice none 0 0, .int .i64 0, .slice none 0 0] 25) := ⟨_, rfl⟩
  have b2 : Below w.heap.size w W2 := by rw [hW2]; exact below1.trans (below1.mono (by simp))
  have x2 : W2.heap[q0]? = some (.cells #[.int .i64 x.k, .slice lo ln lc, .int .i64 x.a, .slice ko kn kc] 25) := by
    rw [hW2]; exact (below1.block q0 (by rw [World.size_alloc, hq0]; omega)).trans (by rw [hq0]; exact heap_alloc_new _ _)
  have x3 : W2.heap[q0 + 1]? = some (.cells #[.int .i64 0, .slice none 0 0, .int .i64 0, .slice none 0 0] 25) := by
    have : q0 + 1 = (w.alloc (.cells #[.int .i64 x.k, .slice lo ln lc, .int .i64 x.a, .slice ko kn kc] 25)).heap.size := by rw [World.size_alloc, hq0]
    rw [hW2, this]; exact heap_alloc_new _ _
  have z2 : W2.heap.size = q0 + 2 := by rw [hW2, World.size_alloc, World.size_alloc, hq0]
  have X2 := Lib.hid x2
  have X3 := Lib.hid x3
  have B2 := Lib.hid b2
  have HW2 := Lib.hid hW2
  have HQ0 := Lib.hid hq0
  have HZ2 := Lib.hid z2
  have hc2 := curR_steady d _ _ _ _ _ _ h b2 b2.size
  obtain ⟨W3, hW3⟩ : ∃ W, W = W2.alloc (.cells #[.int .i64 x.k, .slice lo ln lc, .int .i64 x.a, .slice ko kn kc] 25) := ⟨_, rfl⟩
  have b3 : Below W2.heap.size W2 W3 := by rw [hW3]; exact below1
  have HOW : Hid (Calls Try.prog 39 #[.slice (some ⟨q0 + 2, 0, none⟩) 1 1] W3 (OwnA d [x] W3)) := by
    have h3 := own_cu d [x] _ _ (rows_lit hc2 rfl) (fun c hc => by rw [List.mem_singleton.1 hc]; exact hs0) (by simp)
    rw [z2] at h3
    rw [hW3]; exact h3
  have HOL : Hid (∀ W, Below w.heap.size w W → Calls Try.prog 39 #[v] W (OwnA d l W)) := fun W hW => own_cu d l v W (hr.next (curR_steady d) hW) hs hl
  have HW3 := Lib.hid hW3
  have B3 := Lib.hid b3
  obtain ⟨n, hn⟩ : ∃ n, n = l.length := ⟨_, rfl⟩
  have hn1 : n ≤ 100000 := by omega
  have HNL := Lib.hid hn
  obtain ⟨ao, cap, rfl, _⟩ := hr.form' hn
  clear h hc2 hW2 hW3 x2 x3 z2 b2 b3 hq0 hr hs hl hn hs0
  go_enter Try.func25, Try.ntmps25
  go_wp2_with fail
  rw [← HW2.out, ← HQ0.out, ← HW3.out]
  (with_reducible refine HOW.out.mono ?_)
  rintro e4 w4 ⟨ao4, cp4, bs4, rfl, T4, hb4, b4⟩
  simp only [List.length_singleton] at T4 ⊢
  have C4 := Lib.hid (B3.out.trans (b4.mono B3.out.size))
  have B4 := Lib.hid (B2.out.trans (C4.out.mono B2.out.size))
  have T4' := Lib.hid T4
  have HB4 : Hid (∀ b ∈ bs4, q0 + 2 ≤ b) := fun b hb => by have := hb4 b hb; have := B3.out.size; have := HZ2.out; omega
  clear T4 hb4 b4
  have HO2 := Lib.hid (HOL.out w4 B4.out)
  go_wp2_with fail
  (with_reducible refine HO2.out.mono ?_)
  rintro e5 w5 ⟨ao5, cp5, bs5, rfl, T5, hb5, b5⟩
  have C5 := Lib.hid (C4.out.trans (b5.mono C4.out.size))
  have B5 := Lib.hid (B4.out.trans (b5.mono B4.out.size))
  have hT4 := T4'.out.typed
  rw [← HNL.out] at T5 ⊢
  obtain ⟨cs, cs2, o1, o2, oc, hap⟩ := (T4'.out.next b5).app T5 (B := q0 + 2) HB4.out (fun b hb => by have := hb5 b hb; have := C4.out.size; have := HZ2.out; omega) (fun b hb hm => by
    have h1 := hb5 b hb
    obtain ⟨arr, ha⟩ := hT4 b hm
    have := lt_of_block ha
    omega)
  rw [← HNL.out] at o2 hap
  simp only [List.length_singleton] at o1 hap
  have X5 := Lib.hid ((C5.out.block (q0 + 1) (by rw [HZ2.out]; omega)).trans X3.out)
  have HO1 := Lib.hid o1
  have HAP := Lib.hid hap
  have HOC := Lib.hid oc
  have HLE : Hid (cs2.flatten.length = n * 4) := o2.1
  have HNONE : Hid (ao5 = none → n = 0 ∧ cp5 = 0) := fun e => by
    rcases o2.2 with ⟨h, h2⟩ | ⟨g, cap, cur, h, _⟩
    · simp only [Value.slice.injEq] at h
      exact ⟨h2, h.2.2⟩
    · simp only [Value.slice.injEq] at h
      rw [e] at h; cases h.1
  have HCC : Hid (∀ ad, ao5 = some ad → ∀ (j : Nat) u, cs2.flatten[j]? = some u → w5.cell? (ad.add j) = some u) := fun ad had j u hu => by
    rcases o2.2 with ⟨h, h2⟩ | ⟨g, cap, cur, h, _⟩
    · simp only [Value.slice.injEq] at h
      rw [had] at h; cases h.1
    · simp only [Value.slice.injEq] at h
      rw [h.1] at had
      cases had
      have o2' := o2
      rw [h.1] at o2'
      exact o2'.cells (g := g) rfl j u hu
  have hbnd : (1 + n) * 64 ≤ 140737488355328 := by omega
  have HS5 : Hid (q0 + 2 ≤ w5.heap.size) := by have := C5.out.size; have := HZ2.out; show _ ≤ _; omega
  clear T5 hb5 b5 hT4 o1 o2 hap oc
  go_wp2_with (at_builtin; refine kit.appG (.tmp 7) (.tmp 9) 23 rfl rfl (q0 + 2) Try.underlying23 infoCur rfl (by decide) (by decide) HO1.out rfl cs2.flatten rfl HLE.out HNONE.out HCC.out HOC.out hbnd HS5.out ?_)
  intro v6 w6 hO6 hg6
  have R6 := Lib.hid (HAP.out v6 w6 hO6 hg6)
  have b6 := grown_below HO1.out HS5.out hg6
  have B6 := Lib.hid (B5.out.trans (b6.mono (by have := HQ0.out; omega)))
  have xx : w6.heap[q0 + 1]? = some (.cells #[.int .i64 0, .slice none 0 0, .int .i64 0, .slice none 0 0] 25 (0, 0)) := (b6.block _ (by omega)).trans X5.out
  obtain ⟨ao6, cp6, rfl⟩ := own_slice hO6
  obtain ⟨m, hm⟩ : ∃ m, m = 1 + n := ⟨_, rfl⟩
  rw [← hm] at R6 ⊢
  clear hO6 hg6 b6 hm
  go_wp2_with ((with_reducible show wpList _ _ _ (Oper.mk _ (Op.store 25 (.tmp 4) _) _ _ _ _ :: _) _ _); refine wpList_store_row rfl 25 (.tmp 4) _ rfl (q0 + 1) #[.int .i64 4, .slice none 0 0, .int .i64 0, .slice ao6 m cp6] rfl rfl 25 #[.int .i64 0, .slice none 0 0, .int .i64 0, .slice none 0 0] xx csize rfl (by simp [Value.oneCell']) ?_)
  have cc := setRow_heap _ (q0 + 1) _ #[.int .i64 4, .slice none 0 0, .int .i64 0, .slice ao6 m cp6] _ _ xx
  have bb := below_setRow (B6.out) (g := q0 + 1) (by rw [HQ0.out]; omega) #[.int .i64 4, .slice none 0 0, .int .i64 0, .slice ao6 m cp6]
  have ff := (R6.out.setRow (cs := #[.int .i64 4, .slice none 0 0, .int .i64 0, .slice ao6 m cp6]) xx (by omega)).rows
  obtain ⟨w9, h9⟩ : ∃ W, W = World.setRow w6 (q0 + 1) #[.int .i64 4, .slice none 0 0, .int .i64 0, .slice ao6 m cp6] := ⟨_, rfl⟩
  rw [← h9] at cc bb ff ⊢
  clear h9 xx
  have k0 := boxc cc 0 (.int .i64 4) rfl
  have k1 := boxc cc 1 (.slice none 0 0) rfl
  have k2 := boxc cc 2 (.int .i64 0) rfl
  have k3 := boxc cc 3 (.slice ao6 m cp6) rfl
  refine bodyPost_ret (v := .agg #[.int .i64 4, .slice none 0 0, .int .i64 0, .slice ao6 m cp6]) (by simp [results, Try.results25, go_sem, k0, k1, k2, k3]) rfl ?_
  exact ⟨[.int .i64 4, .slice none 0 0, .int .i64 0, .slice ao6 m cp6], rfl, ⟨none, 0, 0, ao6, m, cp6, rfl, at_.nil _ _, ff⟩, bb⟩
end Go.Proofs.Ytojngbobecdpeaa
