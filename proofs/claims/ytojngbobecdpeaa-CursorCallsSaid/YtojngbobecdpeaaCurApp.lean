/- rows of cursors put together. -/
import Derived.Test.YtojngbobecdpeaaCurRows
import Derived.Test.YtojngbobecdpeaaAppZ
namespace Go.Proofs.Ytojngbobecdpeaa
open Go Go.RowKit Go.ChangeShapes at_ pm cl
namespace kit
/-- appN, telling which block may have been written -/
theorem appG {P : Program} {w : World} {ops : Array Oper} {rest : List Oper} {o : Oper} {a : Act} {Q : Exit → Act → World → Prop}
    (s x : Operand) (t : TypeId) (hgd : o.guard = none)
    (ho : o.op = .call { callee := .builtin .append, args := #[s, x], argTypes := #[t, t] })
    (base : Nat) {e : TypeId} {z : Value} {size bytes : Nat} (ht : P.underlying t = some (.slice e)) (hi : (P.info? e).map (fun i => (i.zero, i.size, i.bytes)) = some (some z, size, bytes))
    (hzs : z.cells.size = size) (hsz : 0 < size) (hb1 : 0 < bytes)
    {v : Value} {n : Nat} {xs : List Value} (hown : w.ownsRow base e size v n xs) (hs : a.eval s = v)
    {ao : Option Addr} {m c : Nat} (news : List Value) (hx : a.eval x = .slice ao m c) (hl : news.length = m * size) (hnone : ao = none → m = 0 ∧ c = 0)
    (hnews : ∀ ad, ao = some ad → ∀ j u, news[j]? = some u → w.cell? (ad.add j) = some u) (h1 : ∀ u ∈ news, u.oneCell' = true)
    (hbytes : (n + m) * bytes ≤ 140737488355328) (hbase : base ≤ w.heap.size)
    (h : ∀ v' w', w'.ownsRow base e size v' (n + m) (xs ++ news) → w.grownBy w' v.ownBlock → wpList P ops Q rest (a.put o.dst v') w') :
    wpList P ops Q (o :: rest) a w := by
  obtain ⟨i, hi, hz, hsize, hby⟩ := info_parts hi
  have hle : n + m ≤ (n + m) * bytes := Nat.le_mul_of_pos_right _ hb1
  cases ao with
  | none =>
    obtain ⟨rfl, rfl⟩ := hnone rfl
    obtain rfl : news = [] := List.eq_nil_of_length_eq_zero (by simpa using hl)
    refine wpList_append_own_none hgd s x t ho base e i size ht hi v n xs hs hown hx ?_
    exact h v w (by simpa using hown) ⟨rfl, rfl, rfl, Nat.le_refl _, fun _ _ _ => rfl⟩
  | some ad =>
    exact wpList_append_own _ hgd s x t ho base e i z size bytes ht hi hz hsize hby hzs hsz v n xs hs hown ad m c news hx hl (hnews ad rfl) h1
      (by unfold maxLen; omega) hbytes hbase fun v' w' r1 r2 _ => h v' w' r1 r2
/-- behind an empty literal: of nothing, it is as before -/
theorem appZ2 {P : Program} {w : World} {ops : Array Oper} {rest : List Oper} {o : Oper} {a : Act} {Q : Exit → Act → World → Prop}
    (s x : Operand) (t : TypeId) (hgd : o.guard = none)
    (ho : o.op = .call { callee := .builtin .append, args := #[s, x], argTypes := #[t, t] })
    (base : Nat) {e : TypeId} {z : Value} {size bytes : Nat} (ht : P.underlying t = some (.slice e)) (hi : (P.info? e).map (fun i => (i.zero, i.size, i.bytes)) = some (some z, size, bytes))
    (hzs : z.cells.size = size) (hsz : 0 < size) (hb1 : 0 < bytes)
    {g : Nat} (hown : w.ownsRow base e size (.slice (some ⟨g, 0, none⟩) 0 0) 0 []) (hs : a.eval s = .slice (some ⟨g, 0, none⟩) 0 0)
    {ao : Option Addr} {m c : Nat} (news : List Value) (hx : a.eval x = .slice ao m c) (hl : news.length = m * size) (hnone : ao = none → m = 0 ∧ c = 0)
    (hnews : ∀ ad, ao = some ad → ∀ j u, news[j]? = some u → w.cell? (ad.add j) = some u) (h1 : ∀ u ∈ news, u.oneCell' = true)
    (hbytes : m * bytes ≤ 140737488355328) (hbase : base ≤ w.heap.size)
    (h : ∀ v' w', w'.ownsRow base e size v' m news → Below w.heap.size w w' → (m = 0 → v' = .slice (some ⟨g, 0, none⟩) 0 0) → wpList P ops Q rest (a.put o.dst v') w') :
    wpList P ops Q (o :: rest) a w := by
  by_cases hm : m = 0
  · obtain ⟨i, hi', hz, hsize, hby⟩ := info_parts hi
    subst hsize
    subst hm
    obtain rfl : news = [] := List.eq_nil_of_length_eq_zero (by simpa using hl)
    cases ao with
    | none =>
      obtain ⟨_, rfl⟩ := hnone rfl
      exact wpList_append_own_none hgd s x t ho base e i i.size ht hi' _ 0 [] hs hown hx (h _ w hown (Below.refl _ _) (fun _ => rfl))
    | some ad =>
      rcases hown.2 with ⟨e0, _⟩ | ⟨g', cap, cur, e0, hbg, hg, hnc, hcm, hcs, htake⟩
      · cases e0
      · simp only [Value.slice.injEq, Option.some.injEq, Addr.mk.injEq, and_true, true_and] at e0
        obtain ⟨rfl, rfl⟩ := e0
        have hc0 : cur.size = 0 := by rw [hcs]; simp
        obtain rfl : cur = #[] := Array.eq_empty_of_size_eq_zero hc0
        refine wpList_plain hgd fun K hK => ?_
        have hr := run_append_room (P := P) w t o.type e i ht hi' g 0 0 #[] hg ad 0 c [] (by simp) (fun j u hj => by simp at hj) (fun u hu => by cases hu) (by omega) (by simp)
        have hh := setRow_heap w g #[] (#[] : Array Value) e (0, 0) hg
        unfold Oper.wp
        simp [execOp, ho, resolve, invoke, builtin, hs, hx, hr, Result.andThen]
        refine hK _ _ (h _ _ ?_ ⟨rfl, rfl, rfl, by simp [World.setRow], fun k _ => ?_⟩ (fun _ => rfl))
        · exact ⟨by simp, Or.inr ⟨g, 0, #[], rfl, hbg, hh, Nat.le_refl _, hcm, by simp, by simp⟩⟩
        · by_cases hk : k = g
          · subst hk; rw [hg]; exact hh
          · exact setRow_other w g k _ hk
  · exact appZ s x t hgd ho base ht hi hzs hsz hb1 hown hs news hx hl hnone hnews h1 hbytes hbase (fun v' w' g1 g2 => h v' w' g1 g2 (fun e => absurd e hm))
end kit
/-- a row of the call's own, of cursors that lie below it -/
def OwL (B : Nat) (d : Nat) (L : List Cur) (v : Value) (W : World) : Prop := ∃ cs : List (List Value), cs.length = L.length ∧ (∀ (j : Nat) (c : List Value) (x : Cur), cs[j]? = some c → L[j]? = some x → c.length = 4 ∧ curR d W B c x) ∧ W.ownsRow B 25 4 v L.length cs.flatten
/-- cursors that lie below, in a slice that lies somewhere -/
def SrcL (B : Nat) (d : Nat) (M : List Cur) (y : Value) (W : World) : Prop := ∃ (ao : Option Addr) (c : Nat) (ms : List (List Value)), y = .slice ao M.length c ∧ ms.length = M.length ∧ (∀ (j : Nat) (c : List Value) (x : Cur), ms[j]? = some c → M[j]? = some x → c.length = 4 ∧ curR d W B c x) ∧ (ao = none → M.length = 0 ∧ c = 0) ∧ (∀ ad, ao = some ad → ∀ (j : Nat) u, ms.flatten[j]? = some u → W.cell? (ad.add j) = some u)
section
variable {B d : Nat} {L M : List Cur} {v y : Value} {W W' : World}
theorem OwL.next (h : OwL B d L v W) (hB : B ≤ W.heap.size) (hb : Below W.heap.size W W') : OwL B d L v W' := by
  obtain ⟨cs, h0, h1, h2⟩ := h
  exact ⟨cs, h0, fun j c x hc hx => ⟨(h1 j c x hc hx).1, curR_steady d _ _ _ _ _ _ (h1 j c x hc hx).2 (hb.mono hB) (Nat.le_refl _)⟩, own_stay h2 hb⟩
theorem OwL.rows (h : OwL B d L v W) (hB : B ≤ W.heap.size) : RowsAt 4 (curR d) W W.heap.size v L := by
  obtain ⟨cs, h0, h1, h2⟩ := h
  exact RowsAt.own rfl h0 (fun j c x hc hx => ⟨(h1 j c x hc hx).1, curR_steady d _ _ _ _ _ _ (h1 j c x hc hx).2 (Below.refl _ _) hB⟩) h2
theorem OwL.nil {w : World} (h : B ≤ w.heap.size) : OwL B d [] (.slice (some ⟨w.heap.size, 0, none⟩) 0 0) (w.alloc (.cells #[] 25)) := by
  refine ⟨[], rfl, fun j c x hc => by simp at hc, by simp, Or.inr ⟨w.heap.size, 0, #[], rfl, h, heap_alloc_new _ _, Nat.le_refl _, Nat.zero_le _, by simp, by simp⟩⟩
theorem SrcL.of (h : RowsAt 4 (curR d) W B y M) : SrcL B d M y W := by
  obtain ⟨cs, h0, h1, h2⟩ := h
  obtain ⟨ao, cap, rfl, _, _⟩ := h2.form
  obtain ⟨g1, g2⟩ := Cells.news h2
  exact ⟨ao, cap, cs, rfl, h0, h1, g1, g2⟩
theorem SrcL.box {g : Nat} {c : List Value} {x : Cur} (hg : W.heap[g]? = some (.cells c.toArray 25)) (hx : curR d W B c x) : SrcL B d [x] (.slice (some ⟨g, 0, none⟩) 1 1) W := by
  refine ⟨_, 1, [c], rfl, rfl, fun j c' x' hc hx' => ?_, (fun e => by cases e), fun ad e j u hj => ?_⟩
  · cases j with
    | zero =>
      simp only [List.getElem?_cons_zero, Option.some.injEq] at hc hx'
      subst hc; subst hx'
      exact ⟨(cur_one hx).1, hx⟩
    | succ j => simp at hc
  · obtain rfl := Option.some.inj e
    rw [Addr.add_lit, Nat.zero_add]
    simp only [List.flatten_cons, List.flatten_nil, List.append_nil] at hj
    exact boxc hg j u (by simpa using hj)
theorem src_flat (ms : List (List Value)) (h0 : ms.length = M.length) (h1 : ∀ (j : Nat) (c : List Value) (x : Cur), ms[j]? = some c → M[j]? = some x → c.length = 4 ∧ curR d W B c x) : ms.flatten.length = M.length * 4 ∧ ∀ u ∈ ms.flatten, u.oneCell' = true := by
  refine ⟨by rw [flat_len ms (RowsAt.len h0 h1), h0], fun u hu => ?_⟩
  obtain ⟨c, hc, huc⟩ := List.mem_flatten.1 hu
  obtain ⟨j, hj, rfl⟩ := List.mem_iff_getElem.1 hc
  exact (cur_one (h1 j _ M[j] (List.getElem?_eq_getElem hj) (List.getElem?_eq_getElem (by omega))).2).2 u huc
theorem app_rows {R : List Value → Cur → Prop} {cs ms : List (List Value)} (h0 : cs.length = L.length) (h1 : ∀ (j : Nat) (c : List Value) (x : Cur), cs[j]? = some c → L[j]? = some x → R c x) (h2 : ∀ (j : Nat) (c : List Value) (x : Cur), ms[j]? = some c → M[j]? = some x → R c x) :
    ∀ (j : Nat) (c : List Value) (x : Cur), (cs ++ ms)[j]? = some c → (L ++ M)[j]? = some x → R c x := by
  intro j c x hc hx
  rcases Nat.lt_or_ge j cs.length with h | h
  · rw [List.getElem?_append_left h] at hc
    rw [List.getElem?_append_left (by omega)] at hx
    exact h1 j c x hc hx
  · rw [List.getElem?_append_right h] at hc
    rw [List.getElem?_append_right (by omega), ← h0] at hx
    exact h2 _ c x hc hx
end
/-- a row whose first cell says another kind -/
def Kind1 (v : Value) (W : World) : Prop := ∀ g cs fr, v.ownBlock = some g → W.heap[g]? = some (.cells cs 25 fr) → cs[0]? ≠ some (.int .i64 3)
section
variable {w : World} {ops : Array Oper} {rest : List Oper} {o : Oper} {a : Act} {Q : Exit → Act → World → Prop}
theorem appL (s x : Operand) (B d : Nat) (hgd : o.guard = none) (ho : o.op = .call { callee := .builtin .append, args := #[s, x], argTypes := #[23, 23] })
    {L M : List Cur} {v y : Value} (hown : OwL B d L v w) (hs : a.eval s = v) (hM : SrcL B d M y w) (hx : a.eval x = y) (hlen : L.length + M.length ≤ 100000) (hB : B ≤ w.heap.size)
    (h : ∀ ao' c' w', OwL B d (L ++ M) (.slice ao' (L ++ M).length c') w' → Below B w w' → w.grownBy w' v.ownBlock → wpList Try.prog ops Q rest (a.put o.dst (.slice ao' (L ++ M).length c')) w') : wpList Try.prog ops Q (o :: rest) a w := by
  obtain ⟨cs, h0, h1, h2⟩ := hown
  obtain ⟨ao, c, ms, rfl, g0, g1, g2, g3⟩ := hM
  obtain ⟨f1, f2⟩ := src_flat ms g0 g1
  refine kit.appG s x 23 hgd ho B Try.underlying23 infoCur rfl (by decide) (by decide) h2 hs ms.flatten hx f1 g2 g3 f2 (by omega) hB ?_
  intro v' w' ho' hg
  obtain ⟨ao', c', rfl⟩ := own_slice ho'
  have hb : Below B w w' := grown_below h2 hB hg
  have hl : (L ++ M).length = L.length + M.length := List.length_append
  rw [← hl] at ho' ⊢
  refine h ao' c' w' ⟨cs ++ ms, by rw [List.length_append, List.length_append, h0, g0], app_rows h0 (fun j c x hc hx => ⟨(h1 j c x hc hx).1, curR_steady d _ _ _ _ _ _ (h1 j c x hc hx).2 hb (Nat.le_refl _)⟩) (fun j c x hc hx => ⟨(g1 j c x hc hx).1, curR_steady d _ _ _ _ _ _ (g1 j c x hc hx).2 hb (Nat.le_refl _)⟩), by rw [List.flatten_append]; exact ho'⟩ hb hg
theorem appLZ (s x : Operand) (B d : Nat) (hgd : o.guard = none) (ho : o.op = .call { callee := .builtin .append, args := #[s, x], argTypes := #[23, 23] })
    {M : List Cur} {g : Nat} {y : Value} (hown : OwL B d [] (.slice (some ⟨g, 0, none⟩) 0 0) w) (hs : a.eval s = .slice (some ⟨g, 0, none⟩) 0 0) (hM : SrcL B d M y w) (hx : a.eval x = y) (hlen : M.length ≤ 100000) (hB : B ≤ w.heap.size) (hk : ∀ m ∈ M, m.k = 1)
    (h : ∀ ao' c' w', OwL B d M (.slice ao' M.length c') w' → Below w.heap.size w w' → Kind1 (.slice ao' M.length c') w' → wpList Try.prog ops Q rest (a.put o.dst (.slice ao' M.length c')) w') : wpList Try.prog ops Q (o :: rest) a w := by
  obtain ⟨cs, h0, h1, h2⟩ := hown
  obtain rfl : cs = [] := List.eq_nil_of_length_eq_zero h0
  obtain ⟨ao, c, ms, rfl, g0, g1, g2, g3⟩ := hM
  obtain ⟨f1, f2⟩ := src_flat ms g0 g1
  refine kit.appZ2 s x 23 hgd ho B Try.underlying23 infoCur rfl (by decide) (by decide) h2 hs ms.flatten hx f1 g2 g3 f2 (by omega) hB ?_
  intro v' w' ho' hb hz
  obtain ⟨ao', c', rfl⟩ := own_slice ho'
  refine h ao' c' w' ⟨ms, g0, fun j c x hc hx => ⟨(g1 j c x hc hx).1, curR_steady d _ _ _ _ _ _ (g1 j c x hc hx).2 (hb.mono hB) (Nat.le_refl _)⟩, ho'⟩ hb ?_
  intro q cs fr hq hcs h3
  rcases ho'.2 with ⟨e, _⟩ | ⟨g', cap, cur, e, hbg, hg, hnc, hcm, hsz, htk⟩
  · simp only [Value.slice.injEq] at e
    rw [e.1] at hq
    simp [Value.ownBlock] at hq
  · simp only [Value.slice.injEq] at e
    rw [e.1] at hq
    simp only [Value.ownBlock, Option.some.injEq] at hq
    subst hq
    rw [hg] at hcs
    simp only [Option.some.injEq, Obj.cells.injEq] at hcs
    obtain ⟨rfl, _⟩ := hcs
    cases M with
    | nil =>
      have := hz rfl
      simp only [Value.slice.injEq] at this
      have hc0 : cap = 0 := by omega
      rw [hc0, Nat.zero_mul] at hsz
      rw [Array.getElem?_eq_none (by omega)] at h3
      cases h3
    | cons m r =>
      cases ms with
      | nil => simp at g0
      | cons c0 ms =>
        obtain ⟨hl0, hr0⟩ := g1 0 c0 m rfl rfl
        obtain ⟨lo, ln, lc, ko, kn, kc, rfl⟩ := cur_form hr0
        rw [hk m (by simp)] at htk
        have ht : (cur.toList.take ((m :: r).length * 4))[0]? = some (.int .i64 1) := by rw [htk]; rfl
        rw [List.getElem?_take, if_pos (by rw [List.length_cons]; omega), Array.getElem?_toList, h3] at ht
        simp at ht
/-- the row begins with a cursor over a list -/
def First1 (v : Value) (W : World) : Prop := ∀ g cs fr, v.ownBlock = some g → W.heap[g]? = some (.cells cs 25 fr) → cs[0]? = some (.int .i64 1)
theorem CsO.first {B d : Nat} {L : List Cur} {ao : Option Addr} {c : Nat} {W : World} (h : CsO B d L (.slice ao L.length c) W) (h0 : L.length = 0 → ao = none) (hk : ∀ m ∈ L, m.k = 1) : First1 (.slice ao L.length c) W := by
  intro q cs fr hq hcs
  obtain ⟨ms, g0, g1, ho⟩ := h
  cases L with
  | nil =>
    rw [h0 rfl] at hq
    simp [Value.ownBlock] at hq
  | cons m r =>
    rcases ho.2 with ⟨e, _⟩ | ⟨g', cap, cur, e, hbg, hg, hnc, hcm, hsz, htk⟩
    · simp only [Value.slice.injEq] at e
      rw [e.1] at hq
      simp [Value.ownBlock] at hq
    · simp only [Value.slice.injEq] at e
      rw [e.1] at hq
      simp only [Value.ownBlock, Option.some.injEq] at hq
      subst hq
      rw [hg] at hcs
      simp only [Option.some.injEq, Obj.cells.injEq] at hcs
      obtain ⟨rfl, _⟩ := hcs
      cases ms with
      | nil => simp at g0
      | cons c0 ms =>
        obtain ⟨hl0, hr0⟩ := (g1 0 c0 m rfl rfl).at
        obtain ⟨lo, ln, lc, ko, kn, kc, rfl⟩ := cur_form hr0
        rw [hk m (by simp)] at htk
        have ht : (cur.toList.take ((m :: r).length * 4))[0]? = some (.int .i64 1) := by rw [htk]; rfl
        rw [List.getElem?_take, if_pos (by rw [List.length_cons]; omega), Array.getElem?_toList] at ht
        exact ht
/-- one more behind cursors that lie apart from their row -/
theorem appC (s x : Operand) (B d : Nat) (hgd : o.guard = none) (ho : o.op = .call { callee := .builtin .append, args := #[s, x], argTypes := #[23, 23] })
    {L M : List Cur} {v y : Value} (hown : CsO B d L v w) (hs : a.eval s = v) (hM : SrcL B d M y w) (hx : a.eval x = y) (hlen : L.length + M.length ≤ 100000) (hB : B ≤ w.heap.size)
    (h : ∀ ao' c' w', RowsAt 4 (curR d) w' w'.heap.size (.slice ao' (L ++ M).length c') (L ++ M) → Below B w w' → w.grownBy w' v.ownBlock → wpList Try.prog ops Q rest (a.put o.dst (.slice ao' (L ++ M).length c')) w') : wpList Try.prog ops Q (o :: rest) a w := by
  obtain ⟨cs, h0, h1, h2⟩ := hown
  obtain ⟨ao, c, ms, rfl, g0, g1, g2, g3⟩ := hM
  obtain ⟨f1, f2⟩ := src_flat ms g0 g1
  refine kit.appG s x 23 hgd ho B Try.underlying23 infoCur rfl (by decide) (by decide) h2 hs ms.flatten hx f1 g2 g3 f2 (by omega) hB ?_
  intro v' w' ho' hg
  obtain ⟨ao', c', rfl⟩ := own_slice ho'
  have hb : Below B w w' := grown_below h2 hB hg
  have hl : (L ++ M).length = L.length + M.length := List.length_append
  rw [← hl] at ho' ⊢
  refine h ao' c' w' ?_ hb hg
  refine RowsAt.own (e := 25) (base := B) (n := (L ++ M).length) (cs := cs ++ ms) rfl (by rw [List.length_append, List.length_append, h0, g0]) (app_rows (R := fun c x => c.length = 4 ∧ curR d w' w'.heap.size c x) h0 (fun j c x hc hx => ?_) (fun j c x hc hx => ⟨(g1 j c x hc hx).1, curR_steady d _ _ _ _ _ _ (g1 j c x hc hx).2 hb (Nat.le_trans hB hg.size)⟩)) (by rw [List.flatten_append]; exact ho')
  exact h1 j c x hc hx w' hg.size (fun j _ hj hn => hg.block j hj hn)
end
end Go.Proofs.Ytojngbobecdpeaa
