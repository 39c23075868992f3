/- texts put together: OrsMem, DotAddO, DotFromO, OrsOwn. -/
import Derived.Test.YtonknpdalemjkaaGreatDe11
import Derived.Test.YtonknpdalemjkaaGreatDe14
open List (setIfInBounds_toArray set_cons_zero set_cons_succ take_succ_cons take_zero drop_succ_cons drop_zero)
namespace Go.Proofs.YtonknpdalemjkaaGreat
open Go Go.RowKit Go.ChangeShapes cl
def SlBlk (w : World) (g : Nat) : Prop := ∃ arr T, w.heap[g]? = some (.cells arr T (0, 0)) ∧ ∀ (k : Nat) (u : Value), arr[k]? = some u → ∃ a n c, u = .slice a n c
theorem SlBlk.no {w : World} {g k : Nat} {u : Value} (h : SlBlk w g) (hc : w.cell? ⟨g, k, none⟩ = some u) : ∃ a n c, u = .slice a n c := by
 obtain ⟨arr, T, h1, h2⟩ := h
 have : w.cell? ⟨g, k, none⟩ = arr[k]? := by simp [World.cell?, h1]
 exact h2 k u (this.symm.trans hc)
theorem SlBlk.set {w : World} {g g' k : Nat} {a : Option Addr} {n c : Nat} (h : SlBlk w g) : SlBlk (w.setCell ⟨g', k, none⟩ (.slice a n c)) g := by
 obtain ⟨arr, T, h1, h2⟩ := h
 by_cases e : g' = g
 ·
  subst e
  have h3 := heap_setCell_same w g' k arr T (.slice a n c) h1
  refine ⟨_, T, h3, fun j u hu => ?_⟩
  rw [Array.getElem?_setIfInBounds] at hu
  split at hu
  ·
   split at hu
   ·
    cases hu; exact ⟨a, n, c, rfl⟩
   ·
    cases hu
  ·
   exact h2 j u hu
 ·
  exact ⟨arr, T, (Below.heap_setCell _ _ _ _ (fun e2 => e e2.symm)).trans h1, h2⟩
theorem cell_set_other {w : World} {b g k j : Nat} {u : Value} (h : b ≠ g) : (w.setCell ⟨g, k, none⟩ u).cell? ⟨b, j, none⟩ = w.cell? ⟨b, j, none⟩ := by
 have : (w.setCell ⟨g, k, none⟩ u).heap[b]? = w.heap[b]? := Below.heap_setCell _ _ _ _ h
 simp [World.cell?, this]
theorem Dots.set {w : World} {B g k n c : Nat} {a : Option Addr} {v : Value} {l : List Dot} (h : Dots w B v l) (hg : SlBlk w g) : Dots (w.setCell ⟨g, k, none⟩ (.slice a n c)) B v l := by
 obtain ⟨h0, ao, cap, rfl, h1, h3, h4⟩ := h
 refine ⟨h0, ao, cap, rfl, h1, h3, fun hp => ?_⟩
 obtain ⟨b, off, rfl, hB, hc⟩ := h4 hp
 have hne : b ≠ g := fun e => by
  subst e
  obtain ⟨_, _, _, e⟩ := hg.no (hc 0 _ (by have := (dcells_get l 0 hp).1; simpa using this))
  cases e
 exact ⟨b, off, rfl, hB, fun j u hj => by rw [cell_set_other hne]; exact hc j u hj⟩
theorem Ents.set {w : World} {B g k n c : Nat} {a : Option Addr} {v : Value} {l : List Ent} (h : Ents w B v l) (hg : SlBlk w g) : Ents (w.setCell ⟨g, k, none⟩ (.slice a n c)) B v l := by
 obtain ⟨h0, ao, cap, rfl, h1, h3, h4⟩ := h
 refine ⟨h0, ao, cap, rfl, h1, h3, fun hp => ?_⟩
 obtain ⟨b, off, rfl, hB, hc⟩ := h4 hp
 have hne : b ≠ g := fun e => by
  subst e
  obtain ⟨_, _, _, e⟩ := hg.no (hc 0 _ (by have := (ecells_get l 0 hp).1; simpa using this))
  cases e
 exact ⟨b, off, rfl, hB, fun j u hj => by rw [cell_set_other hne]; exact hc j u hj⟩
theorem CtxAt.set {w : World} {B g k n c : Nat} {a : Option Addr} {v : Value} {l : dm.Ctx} (h : CtxAt w B v l) (hg : SlBlk w g) : CtxAt (w.setCell ⟨g, k, none⟩ (.slice a n c)) B v l := by
 obtain ⟨v1, v2, rfl, h1, h2⟩ := h
 exact ⟨v1, v2, rfl, h1.set hg, h2.set hg⟩
theorem appNg {P : Program} {w : World} {ops : Array Oper} {rest : List Oper} {o : Oper} {a : Act} {Q : Exit → Act → World → Prop}
  (s x : Operand) (t : TypeId) (hgd : o.guard = none)
  (ho : o.op = .call { callee := .builtin .append, args := #[s, x], argTypes := #[t, t] })
  (base : Nat) {e : TypeId} {z : Value} {size bytes : Nat} (ht : P.underlying t = some (.slice e)) (hi : (P.info? e).map (fun i => (i.zero, i.size, i.bytes)) = some (some z, size, bytes))
  (hzs : z.cells.size = size) (hsz : 0 < size) (hb1 : 0 < bytes)
  {v : Value} {n : Nat} {xs : List Value} {ad : Addr} {m c : Nat} (hown : w.ownsRow base e size v n xs) (hs : a.eval s = v) (hx : a.eval x = .slice (some ad) m c) (news : List Value) (hl : news.length = m * size)
  (hnews : ∀ j u, news[j]? = some u → w.cell? (ad.add j) = some u) (h1 : ∀ u ∈ news, u.oneCell' = true) (hbytes : (n + m) * bytes ≤ 140737488355328) (hbase : base ≤ w.heap.size)
  (h : ∀ v' w', w'.ownsRow base e size v' (n + m) (xs ++ news) → w.grownBy w' v.ownBlock → wpList P ops Q rest (a.put o.dst v') w') :
  wpList P ops Q (o :: rest) a w := by
 obtain ⟨i, hi, hz, hsize, hby⟩ := info_parts hi
 have hle : n + m ≤ (n + m) * bytes := Nat.le_mul_of_pos_right _ hb1
 exact wpList_append_own _ hgd s x t ho base e i z size bytes ht hi hz hsize hby hzs hsz v n xs hs hown ad m c news hx hl hnews h1
  (by unfold maxLen; omega) hbytes hbase fun v' w' r1 r2 _ => h v' w' r1 r2
end Go.Proofs.YtonknpdalemjkaaGreat
namespace Go.Proofs.YtonknpdalemjkaaGreat
open Go Go.RowKit Go.ChangeShapes cl Go.Sort
theorem OwnC.low {B B' : Nat} {w : World} {v : Value} {c : dm.Ctx} (h : OwnC B w v c) (hB : B' ≤ B) : OwnC B' w v c := by
 obtain ⟨a1, c1, a2, c2, rfl, h1, h2⟩ := h
 exact ⟨_, _, _, _, rfl, own_mono h1 hB, own_mono h2 hB⟩
def CtxO (S : Dot → Prop) (m : Nat) (w : World) (e : Ending) (w' : World) : Prop := ∃ v c, e = .returned v ∧ OwnC w.heap.size w' v c ∧ dm.Is c S m ∧ Below w.heap.size w w'
set_option maxHeartbeats 3200000 in
set_option maxRecDepth 100000 in
theorem add_own (c : dm.Ctx) (d : Dot) (v : Value) (w : World) (h : CtxAt w w.heap.size v c) (hv : valid d = true) (hr : dm.Right c) (hl : c.2.length ≤ 500000) :
  Calls Tryz.prog 94 #[v, .agg #[.int .i64 d.1, .int .i64 d.2]] w (CtxO (fun e => dm.Knows c e ∨ e = d) (c.2.length + 1) w) := by
 obtain ⟨v1, v2, rfl, h1, h2⟩ := h
 obtain ⟨m, hm⟩ : ∃ m, m = c.2.length := ⟨_, rfl⟩
 obtain ⟨a1, c1, rfl, _, _⟩ := h1.form
 obtain ⟨a2, c2, rfl, _, _⟩ := h2.form
 obtain ⟨n1, hn1⟩ : ∃ n1, n1 = c.1.length := ⟨_, rfl⟩
 rw [← hm] at hl ⊢
 rw [← hn1] at h1 ⊢
 rw [← hm] at h2
 have HCX : Hid (CtxAt w w.heap.size (.agg #[.slice a1 n1 c1, .slice a2 m c2]) c) := ⟨_, _, rfl, h1, h2⟩
 have HR := Lib.hid hr
 have HM := Lib.hid hm
 obtain ⟨a, b⟩ := d
 have hA : Below w.heap.size w (((w.alloc (.cells #[.slice a1 n1 c1, .slice a2 m c2] 25)).alloc (.cells #[.int .i64 a, .int .i64 b] 51)).alloc (.cells #[.slice none 0 0, .slice none 0 0] 25)) :=
  (((Below.refl _ _).alloc (Nat.le_refl _) _).alloc (by simp) _).alloc (by simp <;> omega) _
 have HVA : Hid (∀ W, Calls Tryz.prog 61 #[.agg #[.int .i64 a, .int .i64 b]] W (SaidD true W)) := fun W => by have := valid_any (a, b) W; rwa [hv] at this
 have HV := Lib.hid hv
 clear h1 h2 hn1 hm hr hv
 go_enter Tryz.func94, Tryz.ntmps94
 go_wp2_with fail
 (with_reducible refine (HVA.out _).mono ?_)
 rintro e w2 ⟨rfl, g2⟩
 have B2 := hA.trans (g2.mono (by simp <;> omega))
 have HR2 : Hid (Calls Tryz.prog 31 #[.agg #[.slice a1 n1 c1, .slice a2 m c2]] w2 (SaidD true w2)) := by
  have := right_any c _ w2 (HCX.out.next B2)
  rwa [dm.rightB_true HR.out] at this
 have hz2 : w.heap.size + 3 ≤ w2.heap.size := by have := g2.size; simp at this; omega
 have HB2 : Hid (AddR w.heap.size (.slice a1 n1 c1) (.slice a2 m c2) a b w2 w2) := by
  refine ⟨?_, ?_, ?_, ?_, Below.refl _ _, hz2⟩
  ·
   exact (g2.cell (p := ⟨w.heap.size, 0, none⟩) (by simp <;> omega)).trans (by go_simp)
  ·
   exact (g2.cell (p := ⟨w.heap.size, 1, none⟩) (by simp <;> omega)).trans (by go_simp)
  ·
   exact (g2.cell (p := ⟨w.heap.size + 1, 0, none⟩) (by simp <;> omega)).trans (by go_simp)
  ·
   exact (g2.cell (p := ⟨w.heap.size + 1, 1, none⟩) (by simp <;> omega)).trans (by go_simp)
 have HT : Hid (w2.cell? ⟨w.heap.size + 2, 0, none⟩ = some (.slice none 0 0) ∧ w2.cell? ⟨w.heap.size + 2, 1, none⟩ = some (.slice none 0 0) ∧ w2.frozen? ⟨w.heap.size + 2, 0, none⟩ = false ∧ w2.frozen? ⟨w.heap.size + 2, 1, none⟩ = false) := by
  refine ⟨?_, ?_, ?_, ?_⟩
  ·
   exact (g2.cell (p := ⟨w.heap.size + 2, 0, none⟩) (by simp <;> omega)).trans (by go_simp)
  ·
   exact (g2.cell (p := ⟨w.heap.size + 2, 1, none⟩) (by simp <;> omega)).trans (by go_simp)
  ·
   exact (g2.frozen (p := ⟨w.heap.size + 2, 0, none⟩) (by simp <;> omega)).trans (by go_simp)
  ·
   exact (g2.frozen (p := ⟨w.heap.size + 2, 1, none⟩) (by simp <;> omega)).trans (by go_simp)
 clear hA g2
 obtain ⟨r0, r1, r2, r3, _, _⟩ := id HB2.out
 go_wp2_with fail
 (with_reducible refine HR2.out.mono ?_)
 rintro e w3 ⟨rfl, g3⟩
 have HR0 := Lib.hid (HB2.out.step g3)
 clear r0 r1 r2 r3 HB2
 have B3 := B2.trans (g3.mono (by omega))
 clear g3
 have HUP : Hid (∀ W, Below (w.heap.size + 3) w2 W → Calls Tryz.prog 67 #[.agg #[.slice a1 n1 c1, .slice a2 m c2]] W fun e w' => e = .returned (arrV (dm.upK c.1)) ∧ Below W.heap.size W w') := fun W hW => by
  exact upTo_any c _ W (HCX.out.next (B2.trans (hW.mono (by omega)))) HR.out.vok
 have HCL : Hid (∀ W, Below (w.heap.size + 3) w2 W → Calls Tryz.prog 68 #[.slice a2 m c2] W fun e w' => ∃ v' ao cp, e = .returned v' ∧ v' = .slice ao m cp ∧ w'.ownsRow W.heap.size 51 2 v' m (dcells c.2) ∧ Below W.heap.size W w') := fun W hW => by
  obtain ⟨y1, y2, ey, _, h2⟩ := HCX.out.next (B2.trans (hW.mono (by omega)))
  simp only [Value.agg.injEq, Array.mk.injEq, List.cons.injEq, and_true] at ey
  obtain ⟨_, rfl⟩ := ey
  refine (clone_any c.2 _ W h2 (by have := HM.out; omega)).mono ?_
  rintro e w' ⟨v', rfl, ho, hb⟩
  rw [← HM.out] at ho
  obtain ⟨ao, cp, rfl⟩ := own_formD ho
  exact ⟨_, ao, cp, rfl, rfl, ho, hb⟩
 go_wp2_with fail
 refine wp_flow 7 (fun _ => 1000) (fun ww => AddR w.heap.size (.slice a1 n1 c1) (.slice a2 m c2) a b w2 ww) (fun _ w w' => (fun (w w' : World) => RowKit.Below w.heap.size w w') w w') (fun kF vF wF => match kF with | 0 => (vF = .agg #[.slice a1 n1 c1, .slice a2 m c2]) | 1 => (vF = arrV (dm.upK c.1)) | 2 => (vF = .pointer (some ⟨w.heap.size, 1, none⟩)) | 3 => (vF = .slice a2 m c2) | 4 => (∃ ao cp, vF = .slice ao m cp ∧ wF.ownsRow (w.heap.size + 3) 51 2 (.slice ao m cp) m (dcells c.2)) | 5 => (vF = .agg #[.int .i64 a, .int .i64 b]) | 6 => (∃ g, vF = .slice (some ⟨g, 0, none⟩) 1 1 ∧ g < wF.heap.size ∧ wF.cell? ⟨g, 0, none⟩ = some (.int .i64 a) ∧ wF.cell? ⟨g, 1, none⟩ = some (.int .i64 b)) | _ => True) (fun _ _ _ _ => True) (by kernel_rfl) (by kernel_rfl) ?_ ?_ ?_ ?_ ?_
 ·
  exact AddR.start HR0.out
 ·
  intro iF wF1 wF2 hR hT; exact hR.step hT
 ·
  intro kF hkF iF hiF hne hdd hanc hdan vF wF1 wF2 h hT
  rcases (by omega : kF = 0 ∨ kF = 1 ∨ kF = 2 ∨ kF = 3 ∨ kF = 4 ∨ kF = 5 ∨ kF = 6) with rfl | rfl | rfl | rfl | rfl | rfl | rfl
  ·
   have h : (vF = .agg #[.slice a1 n1 c1, .slice a2 m c2]) := h
   show (vF = .agg #[.slice a1 n1 c1, .slice a2 m c2])
   have hT : (fun (w w' : World) => RowKit.Below w.heap.size w w') wF1 wF2 := hT
   simp only at hT
   exact h
  ·
   have h : (vF = arrV (dm.upK c.1)) := h
   show (vF = arrV (dm.upK c.1))
   have hT : (fun (w w' : World) => RowKit.Below w.heap.size w w') wF1 wF2 := hT
   simp only at hT
   exact h
  ·
   have h : (vF = .pointer (some ⟨w.heap.size, 1, none⟩)) := h
   show (vF = .pointer (some ⟨w.heap.size, 1, none⟩))
   have hT : (fun (w w' : World) => RowKit.Below w.heap.size w w') wF1 wF2 := hT
   simp only at hT
   exact h
  ·
   have h : (vF = .slice a2 m c2) := h
   show (vF = .slice a2 m c2)
   have hT : (fun (w w' : World) => RowKit.Below w.heap.size w w') wF1 wF2 := hT
   simp only at hT
   exact h
  ·
   have h : (∃ ao cp, vF = .slice ao m cp ∧ wF1.ownsRow (w.heap.size + 3) 51 2 (.slice ao m cp) m (dcells c.2)) := h
   show (∃ ao cp, vF = .slice ao m cp ∧ wF2.ownsRow (w.heap.size + 3) 51 2 (.slice ao m cp) m (dcells c.2))
   have hT : (fun (w w' : World) => RowKit.Below w.heap.size w w') wF1 wF2 := hT
   simp only at hT
   obtain ⟨ao, cp, e, ho⟩ := h
   exact ⟨ao, cp, e, own_stayD ho hT⟩
  ·
   have h : (vF = .agg #[.int .i64 a, .int .i64 b]) := h
   show (vF = .agg #[.int .i64 a, .int .i64 b])
   have hT : (fun (w w' : World) => RowKit.Below w.heap.size w w') wF1 wF2 := hT
   simp only at hT
   exact h
  ·
   have h : (∃ g, vF = .slice (some ⟨g, 0, none⟩) 1 1 ∧ g < wF1.heap.size ∧ wF1.cell? ⟨g, 0, none⟩ = some (.int .i64 a) ∧ wF1.cell? ⟨g, 1, none⟩ = some (.int .i64 b)) := h
   show (∃ g, vF = .slice (some ⟨g, 0, none⟩) 1 1 ∧ g < wF2.heap.size ∧ wF2.cell? ⟨g, 0, none⟩ = some (.int .i64 a) ∧ wF2.cell? ⟨g, 1, none⟩ = some (.int .i64 b))
   have hT : (fun (w w' : World) => RowKit.Below w.heap.size w w') wF1 wF2 := hT
   simp only at hT
   obtain ⟨g, e, h1, h2, h3⟩ := h
   exact ⟨g, e, by have := hT.size; omega, (hT.cell (p := ⟨g, 0, none⟩) h1).trans h2, (hT.cell (p := ⟨g, 1, none⟩) h1).trans h3⟩
 ·
  refine FlowAll.cons ?_ ?_
  ·
   intro xF ww hR hd K hK
   clear hd
   simp only [take_succ_cons, take_zero, fillOf, Act.put, setIfInBounds_toArray, set_cons_zero, set_cons_succ, Nat.reduceAdd, Nat.zero_add] at hK ⊢
   try generalize xF 0 = yy0 at *
   try generalize xF 1 = yy1 at *
   try generalize xF 2 = yy2 at *
   try generalize xF 3 = yy3 at *
   try generalize xF 4 = yy4 at *
   try generalize xF 5 = yy5 at *
   try generalize xF 6 = yy6 at *
   clear xF
   obtain ⟨r0, r1, r2, r3, hbl, hsz⟩ := id hR
   rw [if_pos (by rfl)]
   go_simp
   refine hK.out _ _ ?_ ?_ ?_
   ·
    exact Below.refl _ _
   ·
    exact rfl
   ·
    exact fun _ _ _ => ⟨trivial, trivial⟩
  refine FlowAll.cons ?_ ?_
  ·
   intro xF ww hR hd K hK
   have dd0 := hd 0 (by kernel_rfl)
   clear hd
   simp only [take_succ_cons, take_zero, fillOf, Act.put, setIfInBounds_toArray, set_cons_zero, set_cons_succ, Nat.reduceAdd, Nat.zero_add] at hK ⊢
   try generalize xF 0 = yy0 at *
   try generalize xF 1 = yy1 at *
   try generalize xF 2 = yy2 at *
   try generalize xF 3 = yy3 at *
   try generalize xF 4 = yy4 at *
   try generalize xF 5 = yy5 at *
   try generalize xF 6 = yy6 at *
   clear xF
   obtain rfl := dd0
   obtain ⟨r0, r1, r2, r3, hbl, hsz⟩ := id hR
   rw [if_pos (by rfl)]
   go_simp
   (go_at_call 67; (with_reducible refine (HUP.out _ hR.below).mono ?_); rintro e wK ⟨rfl, hbK⟩)
   try go_wp2_with fail
   refine hK.out _ _ ?_ ?_ ?_
   ·
    exact hbK
   ·
    exact rfl
   ·
    exact fun _ _ _ => ⟨trivial, trivial⟩
  refine FlowAll.cons ?_ ?_
  ·
   intro xF ww hR hd K hK
   clear hd
   simp only [take_succ_cons, take_zero, fillOf, Act.put, setIfInBounds_toArray, set_cons_zero, set_cons_succ, Nat.reduceAdd, Nat.zero_add] at hK ⊢
   try generalize xF 0 = yy0 at *
   try generalize xF 1 = yy1 at *
   try generalize xF 2 = yy2 at *
   try generalize xF 3 = yy3 at *
   try generalize xF 4 = yy4 at *
   try generalize xF 5 = yy5 at *
   try generalize xF 6 = yy6 at *
   clear xF
   obtain ⟨r0, r1, r2, r3, hbl, hsz⟩ := id hR
   rw [if_pos (by rfl)]
   go_simp
   refine hK.out _ _ ?_ ?_ ?_
   ·
    exact Below.refl _ _
   ·
    exact rfl
   ·
    exact fun _ _ _ => ⟨trivial, trivial⟩
  refine FlowAll.cons ?_ ?_
  ·
   intro xF ww hR hd K hK
   have dd2 := hd 2 (by kernel_rfl)
   clear hd
   simp only [take_succ_cons, take_zero, fillOf, Act.put, setIfInBounds_toArray, set_cons_zero, set_cons_succ, Nat.reduceAdd, Nat.zero_add] at hK ⊢
   try generalize xF 0 = yy0 at *
   try generalize xF 1 = yy1 at *
   try generalize xF 2 = yy2 at *
   try generalize xF 3 = yy3 at *
   try generalize xF 4 = yy4 at *
   try generalize xF 5 = yy5 at *
   try generalize xF 6 = yy6 at *
   clear xF
   obtain rfl := dd2
   obtain ⟨r0, r1, r2, r3, hbl, hsz⟩ := id hR
   rw [if_pos (by rfl)]
   go_simp
   refine hK.out _ _ ?_ ?_ ?_
   ·
    exact Below.refl _ _
   ·
    exact rfl
   ·
    exact fun _ _ _ => ⟨trivial, trivial⟩
  refine FlowAll.cons ?_ ?_
  ·
   intro xF ww hR hd K hK
   have dd3 := hd 3 (by kernel_rfl)
   clear hd
   simp only [take_succ_cons, take_zero, fillOf, Act.put, setIfInBounds_toArray, set_cons_zero, set_cons_succ, Nat.reduceAdd, Nat.zero_add] at hK ⊢
   try generalize xF 0 = yy0 at *
   try generalize xF 1 = yy1 at *
   try generalize xF 2 = yy2 at *
   try generalize xF 3 = yy3 at *
   try generalize xF 4 = yy4 at *
   try generalize xF 5 = yy5 at *
   try generalize xF 6 = yy6 at *
   clear xF
   obtain rfl := dd3
   obtain ⟨r0, r1, r2, r3, hbl, hsz⟩ := id hR
   rw [if_pos (by rfl)]
   go_simp
   (go_at_call 68; (with_reducible refine (HCL.out _ hR.below).mono ?_); rintro e wK ⟨v4, ao, cp, rfl, rfl, hown4, hbK⟩)
   try go_wp2_with fail
   refine hK.out _ _ ?_ ?_ ?_
   ·
    exact hbK
   ·
    exact ⟨ao, cp, rfl, own_mono hown4 (by have := hR.size; omega)⟩
   ·
    exact fun _ _ _ => ⟨trivial, trivial⟩
  refine FlowAll.cons ?_ ?_
  ·
   intro xF ww hR hd K hK
   clear hd
   simp only [take_succ_cons, take_zero, fillOf, Act.put, setIfInBounds_toArray, set_cons_zero, set_cons_succ, Nat.reduceAdd, Nat.zero_add] at hK ⊢
   try generalize xF 0 = yy0 at *
   try generalize xF 1 = yy1 at *
   try generalize xF 2 = yy2 at *
   try generalize xF 3 = yy3 at *
   try generalize xF 4 = yy4 at *
   try generalize xF 5 = yy5 at *
   try generalize xF 6 = yy6 at *
   clear xF
   obtain ⟨r0, r1, r2, r3, hbl, hsz⟩ := id hR
   rw [if_pos (by rfl)]
   go_simp
   refine hK.out _ _ ?_ ?_ ?_
   ·
    exact Below.refl _ _
   ·
    exact rfl
   ·
    exact fun _ _ _ => ⟨trivial, trivial⟩
  refine FlowAll.cons ?_ ?_
  ·
   intro xF ww hR hd K hK
   have dd5 := hd 5 (by kernel_rfl)
   clear hd
   simp only [take_succ_cons, take_zero, fillOf, Act.put, setIfInBounds_toArray, set_cons_zero, set_cons_succ, Nat.reduceAdd, Nat.zero_add] at hK ⊢
   try generalize xF 0 = yy0 at *
   try generalize xF 1 = yy1 at *
   try generalize xF 2 = yy2 at *
   try generalize xF 3 = yy3 at *
   try generalize xF 4 = yy4 at *
   try generalize xF 5 = yy5 at *
   try generalize xF 6 = yy6 at *
   clear xF
   obtain rfl := dd5
   obtain ⟨r0, r1, r2, r3, hbl, hsz⟩ := id hR
   rw [if_pos (by rfl)]
   go_simp
   refine hK.out _ _ ?_ ?_ ?_
   ·
    exact (Below.refl _ _).alloc (Nat.le_refl _) _
   ·
    exact ⟨_, rfl, by simp, World.cell?_alloc_at _ _ _ _ rfl, World.cell?_alloc_at _ _ _ _ rfl⟩
   ·
    exact fun _ _ _ => ⟨trivial, trivial⟩
  exact FlowAll.nil
 intro xF ww hR hF hP
 clear hP
 have dd0 := hF 0 (by omega) (by decide)
 have dd1 := hF 1 (by omega) (by decide)
 have dd2 := hF 2 (by omega) (by decide)
 have dd3 := hF 3 (by omega) (by decide)
 have dd4 := hF 4 (by omega) (by decide)
 have dd5 := hF 5 (by omega) (by decide)
 have dd6 := hF 6 (by omega) (by decide)
 clear hF
 simp only [take_succ_cons, take_zero, drop_succ_cons, drop_zero, fillOf, Act.put, setIfInBounds_toArray, set_cons_zero, set_cons_succ, Nat.reduceAdd, Nat.zero_add]
 try generalize xF 0 = yy0 at *
 try generalize xF 1 = yy1 at *
 try generalize xF 2 = yy2 at *
 try generalize xF 3 = yy3 at *
 try generalize xF 4 = yy4 at *
 try generalize xF 5 = yy5 at *
 try generalize xF 6 = yy6 at *
 clear xF
 obtain rfl := dd0
 obtain rfl := dd1
 obtain rfl := dd2
 obtain rfl := dd3
 obtain ⟨ao, cp, rfl, hown⟩ := dd4
 obtain rfl := dd5
 obtain ⟨g, rfl, hg, g0, g1⟩ := dd6
 have hRE := Lib.hid hR
 clear hR
 have HCO := Lib.hid hown
 have hz9 := hRE.out.size
 have HLN : Hid ((dcells [(a, b)]).length = 1 * 2) := rfl
 have HG : Hid (∀ j u, (dcells [(a, b)])[j]? = some u → ww.cell? ((⟨g, 0, none⟩ : Addr).add j) = some u) := fun j u hj => by
  rw [Addr.add_lit, Nat.zero_add]
  match j, hj with
  | 0, hj => exact g0.trans hj
  | 1, hj => exact g1.trans hj
 clear hown
 refine kit.appN (.tmp 18) (.tmp 20) 23 rfl rfl (w.heap.size + 3) Tryz.underlying23 infoDot rfl (by decide) (by decide) HCO.out rfl (dcells [(a, b)]) rfl HLN.out (fun e => by cases e) (fun ad e j u hj => by cases e; exact HG.out j u hj) dcells_one (by omega) hz9 ?_
 intro v5 w5 hown5 hb5
 obtain ⟨o5, k5, rfl⟩ := own_formD hown5
 have HLA := Lib.hid (lay_any (dm.upK c.1) (c.2 ++ [(a, b)]) (.slice o5 (m + 1) k5) (m + 1) (w.heap.size + 3) w5 (by rw [dcells_app]; exact hown5) (by rw [List.length_append, HM.out]; rfl) (by have := hb5.size; omega) (by omega)
  (fun n => dm.upK_bd ⟨HR.out.vok, HR.out.vup⟩ n) (fun e he => by
   rcases List.mem_append.1 he with h | h
   ·
    exact (HR.out.cok e h).1
   ·
    simp only [List.mem_cons, List.not_mem_nil, or_false] at h
    rw [h]; exact HV.out))
 have hbl5 := hRE.out.below.trans hb5
 have hz5 := hb5.size
 have HSZ : Hid (w.heap.size ≤ w5.heap.size) := by
  show _ ≤ _
  omega
 clear hown5 hb5 HCO HG HLN
 go_wp2_with fail
 (with_reducible refine HLA.out.mono ?_)
 rintro e w6 ⟨v6, L', hp, hu, rfl, hown6, g6⟩
 have e0 : dm.upK c.1 = dm.kn c.1 := funext fun n => dm.upK_kn HR.out.vup n
 rw [e0] at hown6
 have HKN := Lib.hid (dm.add_knows HR.out HV.out hp hu)
 have HIS : Hid (dm.Is (dm.layF (dm.kn c.1) L') (fun e => dm.Knows c e ∨ e = (a, b)) (m + 1)) := by
  refine ⟨HKN.out.1, HKN.out.2, dm.layF_len1 _ _, ?_⟩
  have h1 := dm.layF_len2 (dm.kn c.1) L'
  have h2 := hp.length_eq
  rw [List.length_append, ← HM.out] at h2
  exact Nat.le_trans h1 (Nat.le_of_eq h2)
 have hbl6 := hbl5.trans g6
 have c0 := (hbl6.cell (p := ⟨w.heap.size + 2, 0, none⟩) (Nat.lt_succ_self _)).trans HT.out.1
 have c1' := (hbl6.cell (p := ⟨w.heap.size + 2, 1, none⟩) (Nat.lt_succ_self _)).trans HT.out.2.1
 have f0 := (hbl6.frozen (p := ⟨w.heap.size + 2, 0, none⟩) (Nat.lt_succ_self _)).trans HT.out.2.2.1
 have f1 := (hbl6.frozen (p := ⟨w.heap.size + 2, 1, none⟩) (Nat.lt_succ_self _)).trans HT.out.2.2.2
 have hb9 := B2.trans (hbl6.mono (by omega))
 obtain ⟨x1, y1, z1, x2, y2, z2, rfl⟩ := hown6.form
 have HOC := Lib.hid (OwnC.low (B' := w.heap.size) ((hown6.set (a := ⟨w.heap.size + 2, 0, none⟩) (by show w.heap.size + 2 < _; omega) (.slice x1 y1 z1)).set (a := ⟨w.heap.size + 2, 1, none⟩) (by show w.heap.size + 2 < _; omega) (.slice x2 y2 z2)) HSZ.out)
 have HB9 := Lib.hid ((hb9.setCell (p := ⟨w.heap.size + 2, 0, none⟩) (by show w.heap.size ≤ w.heap.size + 2; omega) (.slice x1 y1 z1)).setCell (p := ⟨w.heap.size + 2, 1, none⟩) (by show w.heap.size ≤ w.heap.size + 2; omega) (.slice x2 y2 z2))
 clear hp hu hown6 g6 hbl6 hb9 hbl5 e0
 go_wp2
 refine bodyPost_ret (v := .agg #[.slice x1 y1 z1, .slice x2 y2 z2]) (by simp [results, Tryz.results94, go_sem, c0, c1']) rfl ?_
 exact ⟨_, _, rfl, HOC.out, HIS.out, HB9.out⟩
end Go.Proofs.YtonknpdalemjkaaGreat
namespace Go.Proofs.YtonknpdalemjkaaGreat
open Go Go.RowKit Go.ChangeShapes cl Go.Sort
set_option maxHeartbeats 3200000 in
set_option maxRecDepth 100000 in
theorem from_own (l : List Dot) (v : Value) (w : World) (h : Dots w w.heap.size v l) (hl : l.length ≤ 1000000) : Calls Tryz.prog 93 #[v] w (CtxO (fun d => valid d = true ∧ d ∈ l) l.length w) := by
 obtain ⟨n, hn⟩ : ∃ n, n = l.length := ⟨_, rfl⟩
 have HN := Lib.hid hn
 have hn6 : n ≤ 1000000 := by omega
 obtain ⟨ao, cap, rfl⟩ : ∃ ao cap, v = .slice ao n cap := by
  obtain ⟨ao, cap, e, _⟩ := h.form
  exact ⟨ao, cap, by rw [hn]; exact e⟩
 have HC := Lib.hid h
 have hA : Below w.heap.size w (w.alloc (.cells #[.slice none 0 0, .slice none 0 0] 25)) := (Below.refl _ _).alloc (Nat.le_refl _) _
 have HX : Hid ((w.alloc (.cells #[.slice none 0 0, .slice none 0 0] 25)).cell? ⟨w.heap.size, 0, none⟩ = some (.slice none 0 0) ∧ (w.alloc (.cells #[.slice none 0 0, .slice none 0 0] 25)).cell? ⟨w.heap.size, 1, none⟩ = some (.slice none 0 0) ∧ (w.alloc (.cells #[.slice none 0 0, .slice none 0 0] 25)).frozen? ⟨w.heap.size, 0, none⟩ = false ∧ (w.alloc (.cells #[.slice none 0 0, .slice none 0 0] 25)).frozen? ⟨w.heap.size, 1, none⟩ = false ∧ (w.alloc (.cells #[.slice none 0 0, .slice none 0 0] 25)).heap.size = w.heap.size + 1) :=
  ⟨World.cell?_alloc_at _ _ _ _ rfl, World.cell?_alloc_at _ _ _ _ rfl, World.frozen?_alloc_at _ _ _ _ rfl, World.frozen?_alloc_at _ _ _ _ rfl, World.size_alloc _ _⟩
 have HVA : Hid (∀ (d : Dot) W, Calls Tryz.prog 61 #[.agg #[.int .i64 d.1, .int .i64 d.2]] W (SaidD (valid d) W)) := fun d W => valid_any d W
 clear h hn hl
 go_enter Tryz.func93, Tryz.ntmps93
 go_wp2
 generalize w.alloc (.cells #[.slice none 0 0, .slice none 0 0] 25) = w1 at hA HX ⊢
 have hw1 : w.heap.size + 1 ≤ w1.heap.size := by have := HX.out.2.2.2.2; omega
 go_loopw [3, 5, 8] (fun s _ i wr => ∃ (k : Nat) (so : Option Addr) (sn sc : Nat), i = .int .i64 k ∧ k ≤ n ∧ s = .slice so sn sc ∧ sn ≤ k ∧ Hid (sn = ((l.take k).filter (fun d => valid d)).length) ∧ Hid (wr.ownsRow (w.heap.size + 1) 51 2 (.slice so sn sc) sn (dcells ((l.take k).filter (fun d => valid d)))) ∧ Below (w.heap.size + 1) w1 wr) (fun _ _ i _ => n - (intOf i).toNat)
 case atStart => exact ⟨0, none, 0, 0, rfl, Nat.zero_le _, rfl, Nat.le_refl _, rfl, World.ownsRow_nil _ _ _ _, Below.refl _ _⟩
 case round =>
  obtain ⟨k, so, sn, sc, rfl, hk, rfl, hsn, HSN, HO, hbl⟩ := hrel
  have hz := hbl.size
  have hbw := hA.trans (hbl.mono (by omega))
  by_cases hlt : k < n
  ·
   obtain ⟨b0, off, rfl, hB, p0, p1⟩ := Dots.get HC.out HN.out hlt
   have HKL : Hid (k < l.length) := by show k < l.length; rw [← HN.out]; exact hlt
   have HTF := Lib.hid (take_filter HKL.out)
   obtain ⟨⟨a, b⟩, hx⟩ : ∃ x, x = l.getD k (0, 0) := ⟨_, rfl⟩
   rw [← hx] at p0 p1 HTF
   simp only at p0 p1
   have e0 := (hbw.cell (p := ⟨b0, off + k * 2, none⟩) hB).trans p0
   have e1 := (hbw.cell (p := ⟨b0, off + k * 2 + 1, none⟩) hB).trans p1
   have hkI : (k : Int) < (n : Int) := by omega
   have HV1 : Hid (∀ W, Calls Tryz.prog 61 #[.agg #[.int .i64 a, .int .i64 b]] W (SaidD (valid (a, b)) W)) := fun W => HVA.out (a, b) W
   have hAL : Below wr.heap.size wr (wr.alloc (.cells #[.int .i64 a, .int .i64 b] 51)) := (Below.refl _ _).alloc (Nat.le_refl _) _
   have hs2 : (wr.alloc (.cells #[.int .i64 a, .int .i64 b] 51)).heap.size = wr.heap.size + 1 := World.size_alloc _ _
   have HV0 : Hid ((wr.alloc (.cells #[.int .i64 a, .int .i64 b] 51)).cell? ⟨wr.heap.size, 0, none⟩ = some (.int .i64 a) ∧ (wr.alloc (.cells #[.int .i64 a, .int .i64 b] 51)).cell? ⟨wr.heap.size, 1, none⟩ = some (.int .i64 b)) := ⟨World.cell?_alloc_at _ _ _ _ rfl, World.cell?_alloc_at _ _ _ _ rfl⟩
   clear p0 p1 hx
   cases hv : valid (a, b) with
   | true =>
    rw [hv] at HV1
    have HTF2 : Hid ((l.take (k + 1)).filter (fun d => valid d) = (l.take k).filter (fun d => valid d) ++ [(a, b)]) := by have := HTF.out; rw [if_pos hv] at this; exact this
    clear hv HTF
    go_wp2_with fail
    (with_reducible refine (HV1.out _).mono ?_)
    rintro e w3 ⟨rfl, g3⟩
    have hbl3 := hbl.trans ((hAL.trans (g3.mono (by omega))).mono (by omega))
    have HO3 := Lib.hid (own_stayD HO.out (hAL.trans (g3.mono (by omega))))
    have v0 := (g3.cell (p := ⟨wr.heap.size, 0, none⟩) (by show wr.heap.size < _; omega)).trans HV0.out.1
    have v1 := (g3.cell (p := ⟨wr.heap.size, 1, none⟩) (by show wr.heap.size < _; omega)).trans HV0.out.2
    have hz3 := hbl3.size
    have hz4 : w.heap.size + 1 ≤ w3.heap.size := by omega
    clear g3 hAL HO HV0
    go_wp2_with (at_builtin; refine kit.app1 (.tmp 14) (.tmp 16) 23 rfl rfl (w.heap.size + 1) Tryz.underlying23 infoDot rfl (by decide) (by decide) HO3.out rfl rfl rfl (by intro u hu; simp at hu; rcases hu with rfl | rfl <;> rfl) (by omega) hz4 ?_)
    intro v5 w5 hown5 hb5
    obtain ⟨o5, k5, rfl⟩ := own_formD hown5
    have HO5 : Hid (w5.ownsRow (w.heap.size + 1) 51 2 (.slice o5 (sn + 1) k5) (sn + 1) (dcells ((l.take (k + 1)).filter (fun d => valid d)))) := by
     show World.ownsRow _ _ _ _ _ _ _
     rw [HTF2.out, dcells_app]
     exact hown5
    have HSN5 : Hid (sn + 1 = ((l.take (k + 1)).filter (fun d => valid d)).length) := by show _ = _; rw [HTF2.out, List.length_append, ← HSN.out]; rfl
    have hbl5 := hbl3.trans hb5
    clear hown5 hb5
    go_wp2
    go_roundw
    case rel => exact ⟨k + 1, _, _, _, by go_num, by omega, rfl, by omega, HSN5, HO5, hbl5⟩
    case measure => simp [intOf]; omega
   | false =>
    rw [hv] at HV1
    have HTF2 : Hid ((l.take (k + 1)).filter (fun d => valid d) = (l.take k).filter (fun d => valid d)) := by have := HTF.out; rw [if_neg (by rw [hv]; exact Bool.false_ne_true), List.append_nil] at this; exact this
    clear hv HTF
    go_wp2_with fail
    (with_reducible refine (HV1.out _).mono ?_)
    rintro e w3 ⟨rfl, g3⟩
    have hbl3 := hbl.trans ((hAL.trans (g3.mono (by omega))).mono (by omega))
    have HO3 : Hid (w3.ownsRow (w.heap.size + 1) 51 2 (.slice so sn sc) sn (dcells ((l.take (k + 1)).filter (fun d => valid d)))) := by
     show World.ownsRow _ _ _ _ _ _ _
     rw [HTF2.out]
     exact own_stayD HO.out (hAL.trans (g3.mono (by omega)))
    have HSN3 : Hid (sn = ((l.take (k + 1)).filter (fun d => valid d)).length) := by show _ = _; rw [HTF2.out]; exact HSN.out
    clear g3 hAL HO HV0
    go_wp2
    go_roundw
    case rel => exact ⟨k + 1, _, _, _, by go_num, by omega, rfl, by omega, HSN3, HO3, hbl3⟩
    case measure => simp [intOf]; omega
  ·
   obtain rfl : k = n := by omega
   have hall : l.take k = l := List.take_of_length_le (by rw [HN.out]; exact Nat.le_refl _)
   rw [hall] at HSN HO
   have HL := Lib.hid (lay_any (fun _ => 0) (l.filter fun d => valid d) (.slice so sn sc) sn (w.heap.size + 1) wr HO.out HSN.out (by omega) (by omega) (fun _ => ⟨Int.le_refl _, by omega⟩) (fun d hd => (List.mem_filter.1 hd).2))
   have HL2 : Hid (Calls Tryz.prog 85 #[.agg #[.int .i64 0, .int .i64 0, .int .i64 0, .int .i64 0, .int .i64 0, .int .i64 0, .int .i64 0, .int .i64 0, .int .i64 0, .int .i64 0, .int .i64 0, .int .i64 0, .int .i64 0, .int .i64 0, .int .i64 0, .int .i64 0], .slice so sn sc] wr (LayP (fun _ => 0) (l.filter fun d => valid d) (w.heap.size + 1) wr)) := HL.out
   clear HL hall
   go_wp2_with fail
   (with_reducible refine HL2.out.mono ?_)
   rintro e w3 ⟨v3, L', hp, hu, rfl, hown, g3⟩
   have HKN := Lib.hid (dm.from_knows hp hu)
   have HIS : Hid (dm.Is (dm.layF (fun _ => 0) L') (fun d => valid d = true ∧ d ∈ l) l.length) := by
    refine ⟨HKN.out.1, HKN.out.2, dm.layF_len1 _ _, ?_⟩
    have h1 := dm.layF_len2 (fun _ => 0) L'
    have h2 := hp.length_eq
    have h3 := List.length_filter_le (fun d => valid d) l
    omega
   have hbl3 := hbl.trans g3
   have c0 := (hbl3.cell (p := ⟨w.heap.size, 0, none⟩) (Nat.lt_succ_self _)).trans HX.out.1
   have c1 := (hbl3.cell (p := ⟨w.heap.size, 1, none⟩) (Nat.lt_succ_self _)).trans HX.out.2.1
   have f0 := (hbl3.frozen (p := ⟨w.heap.size, 0, none⟩) (Nat.lt_succ_self _)).trans HX.out.2.2.1
   have f1 := (hbl3.frozen (p := ⟨w.heap.size, 1, none⟩) (Nat.lt_succ_self _)).trans HX.out.2.2.2.1
   have hb9 := hA.trans (hbl3.mono (by omega))
   obtain ⟨a1, n1, c1', a2, n2, c2', rfl⟩ := hown.form
   have HOC := Lib.hid (OwnC.low (B' := w.heap.size) ((hown.set (a := ⟨w.heap.size, 0, none⟩) (by show w.heap.size < _; omega) (.slice a1 n1 c1')).set (a := ⟨w.heap.size, 1, none⟩) (by show w.heap.size < _; omega) (.slice a2 n2 c2')) (by omega))
   have HB9 := Lib.hid ((hb9.setCell (p := ⟨w.heap.size, 0, none⟩) (Nat.le_refl _) (.slice a1 n1 c1')).setCell (p := ⟨w.heap.size, 1, none⟩) (Nat.le_refl _) (.slice a2 n2 c2'))
   clear hp hu hown g3 hbl3 hb9 hbl hbw
   go_wp2
   refine bodyPost_ret (v := .agg #[.slice a1 n1 c1', .slice a2 n2 c2']) (by simp [results, Tryz.results93, go_sem, c0, c1]) rfl ?_
   exact ⟨_, _, rfl, HOC.out, HIS.out, HB9.out⟩
end Go.Proofs.YtonknpdalemjkaaGreat
namespace Go.Proofs.YtonknpdalemjkaaGreat
open Go Go.RowKit Go.ChangeShapes cl
def EntO (B : Nat) (w : World) (v : Value) (l : List Ent) : Prop := w.ownsRow B 54 5 v l.length (ecells l)
def DotO (B : Nat) (w : World) (v : Value) (l : List Dot) : Prop := w.ownsRow B 51 2 v l.length (dcells l)
theorem EntO.at {B : Nat} {w : World} {v : Value} {l : List Ent} (h : EntO B w v l) : Ents w w.heap.size v l := by
 obtain ⟨a, c, rfl⟩ := own_slice h
 exact Cells.own h
theorem DotO.at {B : Nat} {w : World} {v : Value} {l : List Dot} (h : DotO B w v l) : Dots w w.heap.size v l := by
 obtain ⟨a, c, rfl⟩ := own_slice h
 exact Cells.own h
theorem EntO.low {B B' : Nat} {w : World} {v : Value} {l : List Ent} (h : EntO B w v l) (hB : B' ≤ B) : EntO B' w v l := own_base h hB
theorem DotO.low {B B' : Nat} {w : World} {v : Value} {l : List Dot} (h : DotO B w v l) (hB : B' ≤ B) : DotO B' w v l := own_base h hB
theorem EntO.on {B : Nat} {w w' : World} {v : Value} {l : List Ent} (h : EntO B w v l) (hb : Below w.heap.size w w') : EntO B w' v l := own_stay h hb
theorem DotO.on {B : Nat} {w w' : World} {v : Value} {l : List Dot} (h : DotO B w v l) (hb : Below w.heap.size w w') : DotO B w' v l := own_stay h hb
theorem EntO.kt {T : TypeId} {B : Nat} {w w' : World} {v : Value} {l : List Ent} (h : EntO B w v l) (hk : Kt T w w') (hne : 54 ≠ T) : EntO B w' v l := own_kt h hk hne
theorem DotO.kt {T : TypeId} {B : Nat} {w w' : World} {v : Value} {l : List Dot} (h : DotO B w v l) (hk : Kt T w w') (hne : 51 ≠ T) : DotO B w' v l := own_kt h hk hne
theorem OwnC.on {B : Nat} {w w' : World} {v : Value} {c : dm.Ctx} (h : OwnC B w v c) (hb : Below w.heap.size w w') : OwnC B w' v c := by
 obtain ⟨a1, c1, a2, c2, rfl, h1, h2⟩ := h
 exact ⟨_, _, _, _, rfl, own_stay h1 hb, own_stay h2 hb⟩
theorem OwnC.kt {T : TypeId} {B : Nat} {w w' : World} {v : Value} {c : dm.Ctx} (h : OwnC B w v c) (hk : Kt T w w') (hne : 51 ≠ T) : OwnC B w' v c := by
 obtain ⟨a1, c1, a2, c2, rfl, h1, h2⟩ := h
 exact ⟨_, _, _, _, rfl, own_kt h1 hk hne, own_kt h2 hk hne⟩
theorem set3_kt {w : World} {r : Nat} {cs : Array Value} {T : TypeId} (h : w.heap[r]? = some (.cells cs T (0, 0))) (a b c : Value) : Kt T w (((w.setCell ⟨r, 0, none⟩ a).setCell ⟨r, 1, none⟩ b).setCell ⟨r, 2, none⟩ c) :=
 ((Kt.set h 0 a).trans (Kt.set (heap_setCell_same _ r 0 _ _ _ h) 1 b)).trans (Kt.set (heap_setCell_same _ r 1 _ _ _ (heap_setCell_same _ r 0 _ _ _ h)) 2 c)
theorem set4_kt {w : World} {r : Nat} {cs : Array Value} {T : TypeId} (h : w.heap[r]? = some (.cells cs T (0, 0))) (a b c d : Value) : Kt T w ((((w.setCell ⟨r, 0, none⟩ a).setCell ⟨r, 1, none⟩ b).setCell ⟨r, 2, none⟩ c).setCell ⟨r, 3, none⟩ d) :=
 (set3_kt h a b c).trans (Kt.set (heap_setCell_same _ r 2 _ _ _ (heap_setCell_same _ r 1 _ _ _ (heap_setCell_same _ r 0 _ _ _ h))) 3 d)
theorem own_box {w : World} {g n k B : Nat} {arr : Array Value} {T : TypeId} {vs : List Value} (h : w.heap[g]? = some (.cells arr T (0, 0))) (hv : arr.toList = vs) (hl : vs.length = n * k) (hn : n ≤ maxLen) (hB : B ≤ g) : w.ownsRow B T k (.slice (some ⟨g, 0, none⟩) n n) n vs :=
 ⟨hl, Or.inr ⟨g, n, arr, rfl, hB, h, Nat.le_refl _, hn, by rw [← hl, ← hv]; simp, by rw [hv, ← hl, List.take_length]⟩⟩
end Go.Proofs.YtonknpdalemjkaaGreat
