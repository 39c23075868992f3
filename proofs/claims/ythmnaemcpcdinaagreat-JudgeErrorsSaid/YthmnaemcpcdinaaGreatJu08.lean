/- texts put together: MdAdd, FlowG. -/
import Derived.Test.YthmnaemcpcdinaaGreatJu02
import Derived.Test.YthmnaemcpcdinaaGreatJu07
namespace Go.Proofs.YthmnaemcpcdinaaGreat
open Go Go.RowKit Go.ChangeShapes cl Go.Sort Go.WideMaps Go.Maps
set_option maxHeartbeats 3200000 in
set_option maxRecDepth 100000 in
theorem added_none (x : Fct) (v : Value) (s0 : ByteArray) (d0 : Dot) (t0 er : Int) (st : Bool) (w : World) (hl : Fcts w w.heap.size v [x]) (h1 : x.kd = 1) (hs : x.s.size ≤ maxLen) :
  Calls Tryz.prog 24 #[v, .agg #[.int .i64 3, .string s0, .int .i64 d0.1, .int .i64 d0.2, .int .i64 t0, .slice none 0 0, .slice none 0 0, .int .i64 er, .bool st]] w (Said true w) := by
 have hmm := fun (w : World) => run_makeMap_no (P := Tryz.prog) (t := 87) w
 obtain ⟨ao, cap, rfl⟩ : ∃ ao cap, v = .slice ao 1 cap := by
  obtain ⟨ao, cap, e, _⟩ := RowsAt.form hl
  exact ⟨ao, cap, e⟩
 obtain ⟨wa, hwa⟩ : ∃ W, W = w.alloc (.cells #[.int .i64 3, .string s0, .int .i64 d0.1, .int .i64 d0.2, .int .i64 t0, .slice none 0 0, .slice none 0 0, .int .i64 er, .bool st] 29) := ⟨_, rfl⟩
 have ba : Below w.heap.size w wa := by rw [hwa]; exact below1
 have xa : wa.heap[w.heap.size]? = some (.cells #[.int .i64 3, .string s0, .int .i64 d0.1, .int .i64 d0.2, .int .i64 t0, .slice none 0 0, .slice none 0 0, .int .i64 er, .bool st] 29) := by rw [hwa]; exact heap_alloc_new w _
 have sa : wa.heap.size = w.heap.size + 1 := by rw [hwa]; simp
 obtain ⟨w2, hw2⟩ : ∃ W, W = wa.alloc (.map #[] 0) := ⟨_, rfl⟩
 have b2 : Below wa.heap.size wa w2 := by rw [hw2]; exact below1
 have x2 : w2.heap[w.heap.size]? = some (.cells #[.int .i64 3, .string s0, .int .i64 d0.1, .int .i64 d0.2, .int .i64 t0, .slice none 0 0, .slice none 0 0, .int .i64 er, .bool st] 29) := (b2.block _ (by omega)).trans xa
 have s2 : w2.heap.size = w.heap.size + 2 := by rw [hw2]; simp [sa]
 have HO : Hid (w2.ownsMap Tryz.prog 9 (plainElem Tryz.prog 3) (w.heap.size + 1) 0 (.map [] : DataW Unit)) := by
  show World.ownsMap _ _ _ _ _ _ _
  have := World.ownsMap_made (H := Unit) wa Tryz.prog 9 (plainElem Tryz.prog 3)
  rw [sa] at this
  rw [hw2]; exact this
 have HB : Hid (Below w.heap.size w w2) := ba.trans (b2.mono (by omega))
 obtain ⟨bb, off, ma, mn, mc, la, ln, lc, er1, st1, rfl, hbB, p0, p1, p2, p3, p4, p5, p6, p7, p8⟩ := Fcts.get (j := 0) (RowsAt.next fct_steady hl HB.out) (by rfl) (by omega)
 have hx0 : ([x] : List Fct).getD 0 default = x := rfl
 rw [hx0] at p0 p1 p2 p3 p4
 rw [h1] at p0
 simp only [Nat.zero_mul, Nat.add_zero] at p0 p1 p2 p3 p4 p5 p6 p7 p8
 have HKEY : Hid (keyOf Tryz.prog 9 (.string x.s) = some (.string x.s.data.toList)) := keyOf_string_mk Tryz.underlying9 hs
 have HW : Hid (w2 = (w.alloc (.cells #[.int .i64 3, .string s0, .int .i64 d0.1, .int .i64 d0.2, .int .i64 t0, .slice none 0 0, .slice none 0 0, .int .i64 er, .bool st] 29)).alloc (.map #[] 0)) := by show _ = _; rw [hw2, hwa]
 have X2 := Lib.hid x2
 have S2 := Lib.hid s2
 clear hl h1 hs hwa ba xa sa hw2 b2 x2 s2 hx0
 go_enter Tryz.func24, Tryz.ntmps24
 go_wp2
 rw [← HW.out]
 refine wp_loop_rounds 2 ?_
 rw [rounds_succ]
 go_wp2_with (at_mapUpdate; refine wpList_mapUpdate_own _ rfl _ _ _ 87 rfl 9 3 mlaw Tryz.underlying87 _ (w.heap.size + 1) 0 _ rfl (HO.out.alloc _) (by unfold maxLen; omega) _ _ _ rfl rfl HKEY.out _ [] (plainElem_int Tryz.underlying3 (WalkArith.wf_i64 (by omega))) ?_)
 intro w3 hown3 hgrow3
 have HO3 := Lib.hid hown3
 have hgs := hgrow3.size
 have y3 : w3.heap[w.heap.size]? = some (.cells #[.int .i64 3, .string s0, .int .i64 d0.1, .int .i64 d0.2, .int .i64 t0, .slice none 0 0, .slice none 0 0, .int .i64 er, .bool st] 29) := (hgrow3.block _ (by have := S2.out; simp; omega) (fun e => by have := Option.some.inj e; omega)).trans ((below1.block _ (by have := S2.out; omega)).trans X2.out)
 have HB3 : Hid (Below w.heap.size w w3) := (HB.out.alloc (by have := S2.out; omega) _).grown hgrow3 (by have := S2.out; simp; omega) (fun j hj => by cases hj; omega)
 have Y3 := Lib.hid y3
 have c5 := boxc y3 5 _ rfl
 have c6 := boxc y3 6 _ rfl
 clear hown3 hgrow3 hgs y3
 go_wp2
 rw [rounds_succ]
 go_wp2
 refine wp_loop_rounds 1 ?_
 rw [rounds_succ]
 go_wp2
 go_ret
 exact ⟨rfl, HB3.out⟩
set_option maxHeartbeats 3200000 in
set_option maxRecDepth 100000 in
theorem added_this (x : Fct) (v : Value) (s0 : ByteArray) (d0 : Dot) (t0 er : Int) (st : Bool) (lb0 lcap : Nat) (w : World) (hl : Fcts w w.heap.size v [x]) (h1 : x.kd = 1) (hs : x.s.size ≤ maxLen) (hk : lb0 < w.heap.size ∧ w.cell? ⟨lb0, 0, none⟩ = some (.string x.s))
  (hp : ∀ W, Below w.heap.size w W → Calls Tryz.prog 45 #[.string x.s] W fun e w' => ∃ lv, e = .returned (.tuple #[lv, .int .i64 0]) ∧ Below W.heap.size W w') :
  Calls Tryz.prog 24 #[v, .agg #[.int .i64 3, .string s0, .int .i64 d0.1, .int .i64 d0.2, .int .i64 t0, .slice none 0 0, .slice (some ⟨lb0, 0, none⟩) 1 lcap, .int .i64 er, .bool st]] w (Said true w) := by
 have hmm := fun (w : World) => run_makeMap_no (P := Tryz.prog) (t := 87) w
 obtain ⟨ao, cap, rfl⟩ : ∃ ao cap, v = .slice ao 1 cap := by
  obtain ⟨ao, cap, e, _⟩ := RowsAt.form hl
  exact ⟨ao, cap, e⟩
 obtain ⟨wa, hwa⟩ : ∃ W, W = w.alloc (.cells #[.int .i64 3, .string s0, .int .i64 d0.1, .int .i64 d0.2, .int .i64 t0, .slice none 0 0, .slice (some ⟨lb0, 0, none⟩) 1 lcap, .int .i64 er, .bool st] 29) := ⟨_, rfl⟩
 have ba : Below w.heap.size w wa := by rw [hwa]; exact below1
 have xa : wa.heap[w.heap.size]? = some (.cells #[.int .i64 3, .string s0, .int .i64 d0.1, .int .i64 d0.2, .int .i64 t0, .slice none 0 0, .slice (some ⟨lb0, 0, none⟩) 1 lcap, .int .i64 er, .bool st] 29) := by rw [hwa]; exact heap_alloc_new w _
 have sa : wa.heap.size = w.heap.size + 1 := by rw [hwa]; simp
 obtain ⟨w2, hw2⟩ : ∃ W, W = wa.alloc (.map #[] 0) := ⟨_, rfl⟩
 have b2 : Below wa.heap.size wa w2 := by rw [hw2]; exact below1
 have x2 : w2.heap[w.heap.size]? = some (.cells #[.int .i64 3, .string s0, .int .i64 d0.1, .int .i64 d0.2, .int .i64 t0, .slice none 0 0, .slice (some ⟨lb0, 0, none⟩) 1 lcap, .int .i64 er, .bool st] 29) := (b2.block _ (by omega)).trans xa
 have s2 : w2.heap.size = w.heap.size + 2 := by rw [hw2]; simp [sa]
 have HO : Hid (w2.ownsMap Tryz.prog 9 (plainElem Tryz.prog 3) (w.heap.size + 1) 0 (.map [] : DataW Unit)) := by
  show World.ownsMap _ _ _ _ _ _ _
  have := World.ownsMap_made (H := Unit) wa Tryz.prog 9 (plainElem Tryz.prog 3)
  rw [sa] at this
  rw [hw2]; exact this
 have HB : Hid (Below w.heap.size w w2) := ba.trans (b2.mono (by omega))
 obtain ⟨bb, off, ma, mn, mc, la, ln, lc, er1, st1, rfl, hbB, p0, p1, p2, p3, p4, p5, p6, p7, p8⟩ := Fcts.get (j := 0) (RowsAt.next fct_steady hl HB.out) (by rfl) (by omega)
 have hx0 : ([x] : List Fct).getD 0 default = x := rfl
 rw [hx0] at p0 p1 p2 p3 p4
 rw [h1] at p0
 simp only [Nat.zero_mul, Nat.add_zero] at p0 p1 p2 p3 p4 p5 p6 p7 p8
 have HKEY : Hid (keyOf Tryz.prog 9 (.string x.s) = some (.string x.s.data.toList)) := keyOf_string_mk Tryz.underlying9 hs
 have HW : Hid (w2 = (w.alloc (.cells #[.int .i64 3, .string s0, .int .i64 d0.1, .int .i64 d0.2, .int .i64 t0, .slice none 0 0, .slice (some ⟨lb0, 0, none⟩) 1 lcap, .int .i64 er, .bool st] 29)).alloc (.map #[] 0)) := by show _ = _; rw [hw2, hwa]
 have X2 := Lib.hid x2
 have S2 := Lib.hid s2
 have HK := Lib.hid hk
 have HP := Lib.hid hp
 clear hk hp
 clear hl h1 hs hwa ba xa sa hw2 b2 x2 s2 hx0
 go_enter Tryz.func24, Tryz.ntmps24
 go_wp2
 rw [← HW.out]
 refine wp_loop_rounds 2 ?_
 rw [rounds_succ]
 go_wp2_with (at_mapUpdate; refine wpList_mapUpdate_own _ rfl _ _ _ 87 rfl 9 3 mlaw Tryz.underlying87 _ (w.heap.size + 1) 0 _ rfl (HO.out.alloc _) (by unfold maxLen; omega) _ _ _ rfl rfl HKEY.out _ [] (plainElem_int Tryz.underlying3 (WalkArith.wf_i64 (by omega))) ?_)
 intro w3 hown3 hgrow3
 have HO3 := Lib.hid hown3
 have hgs := hgrow3.size
 have y3 : w3.heap[w.heap.size]? = some (.cells #[.int .i64 3, .string s0, .int .i64 d0.1, .int .i64 d0.2, .int .i64 t0, .slice none 0 0, .slice (some ⟨lb0, 0, none⟩) 1 lcap, .int .i64 er, .bool st] 29) := (hgrow3.block _ (by have := S2.out; simp; omega) (fun e => by have := Option.some.inj e; omega)).trans ((below1.block _ (by have := S2.out; omega)).trans X2.out)
 have HB3 : Hid (Below w.heap.size w w3) := (HB.out.alloc (by have := S2.out; omega) _).grown hgrow3 (by have := S2.out; simp; omega) (fun j hj => by cases hj; omega)
 have Y3 := Lib.hid y3
 have c5 := boxc y3 5 _ rfl
 have c6 := boxc y3 6 _ rfl
 clear hown3 hgrow3 hgs y3
 go_wp2
 rw [rounds_succ]
 go_wp2
 have k0 := (HB3.out.cell (p := ⟨lb0, 0, none⟩) HK.out.1).trans HK.out.2
 refine wp_loop_rounds 2 ?_
 rw [rounds_succ]
 have HHS : Hid (Maps.has ((DataW.map [] : DataW Unit).put (.string x.s.data.toList) (.lit (.int .i64 0))) (.string x.s.data.toList) = true) := has_put_same HO.out.isMap (mlaw.key HKEY.out) _
 go_wp2_with (at_lookup; refine look_ok rfl _ _ 87 rfl 9 3 .i64 mlaw Tryz.underlying87 Tryz.underlying3 (zeroI _) (w.heap.size + 1) _ _ rfl HO3.out _ _ rfl HKEY.out true HHS.out ?_; intro cv)
 (with_reducible refine (HP.out _ HB3.out).mono ?_)
 rintro e w4 ⟨lv, rfl, hb4⟩
 have y4 := (hb4.block _ (lt_of_block Y3.out)).trans Y3.out
 have d5 := boxc y4 5 _ rfl
 have HB4 := Lib.hid (HB3.out.trans (hb4.mono HB3.out.size))
 have HM := Lib.hid (match_none lv w4)
 clear hb4 y4
 go_wp2_with fail
 (with_reducible refine HM.out.mono ?_)
 rintro e w5 ⟨rfl, hb5⟩
 have HB5 := Lib.hid (HB4.out.trans (hb5.mono HB4.out.size))
 clear hb5
 go_wp2
 rw [rounds_succ]
 go_wp2
 go_ret
 exact ⟨rfl, HB5.out⟩
end Go.Proofs.YthmnaemcpcdinaaGreat
namespace Go
section
variable {P : Program} {ops : Array Oper} {Q : Exit → Act → World → Prop}
def FlowStepG (P : Program) (ops : Array Oper) (Q : Exit → Act → World → Prop) (fill : (Nat → Value) → Act) (n : Nat) (die : Nat → Nat) (R : World → Prop) (T : Nat → World → World → Prop) (G : Nat → World → Prop) (F : Nat → Value → World → Prop) (P2 : Nat → Nat → Value → Value → Prop) (i : Nat) (o : Oper) : Prop :=
 ∀ x w, R w → (∀ s, s < n → (s == i || (flowAnc ops s).contains i) = true → G s w) → (∀ j, ((flowPred ops i).contains j && (die j == i || decide (n ≤ die j))) = true → F j (x j) w) → ∀ K : Act → World → Prop, Shut (∀ v w', T i w w' → F i v w' → (∀ j u, F j u w → P2 i j v u ∧ P2 j i u v) → K ((fill x).put o.dst v) w') →
  if Region.wanted o (yielded ops (fill x).tmps) then o.wp P (fill x) w K Q else K ((fill x).put o.dst undef) w
def FlowAllG (P : Program) (ops : Array Oper) (Q : Exit → Act → World → Prop) (fill : (Nat → Value) → Act) (n : Nat) (die : Nat → Nat) (R : World → Prop) (T : Nat → World → World → Prop) (G : Nat → World → Prop) (F : Nat → Value → World → Prop) (P2 : Nat → Nat → Value → Value → Prop) : Nat → List Oper → Prop
 | _, [] => True
 | i, o :: r => FlowStepG P ops Q fill n die R T G F P2 i o ∧ FlowAllG P ops Q fill n die R T G F P2 (i + 1) r
theorem FlowAllG.nil {fill : (Nat → Value) → Act} {n : Nat} {die : Nat → Nat} {R : World → Prop} {T : Nat → World → World → Prop} {G : Nat → World → Prop} {F : Nat → Value → World → Prop} {P2 : Nat → Nat → Value → Value → Prop} {i : Nat} : FlowAllG P ops Q fill n die R T G F P2 i [] := trivial
theorem FlowAllG.cons {fill : (Nat → Value) → Act} {n : Nat} {die : Nat → Nat} {R : World → Prop} {T : Nat → World → World → Prop} {G : Nat → World → Prop} {F : Nat → Value → World → Prop} {P2 : Nat → Nat → Value → Value → Prop} {i : Nat} {o : Oper} {r : List Oper} (h : FlowStepG P ops Q fill n die R T G F P2 i o) (h2 : FlowAllG P ops Q fill n die R T G F P2 (i + 1) r) : FlowAllG P ops Q fill n die R T G F P2 i (o :: r) := ⟨h, h2⟩
theorem FlowAllG.get {fill : (Nat → Value) → Act} {n : Nat} {die : Nat → Nat} {R : World → Prop} {T : Nat → World → World → Prop} {G : Nat → World → Prop} {F : Nat → Value → World → Prop} {P2 : Nat → Nat → Value → Value → Prop} : ∀ {l : List Oper} {i k : Nat} {o : Oper}, FlowAllG P ops Q fill n die R T G F P2 i l → l[k]? = some o → FlowStepG P ops Q fill n die R T G F P2 (i + k) o := by
 intro l
 induction l with
 | nil => intro i k o _ h; simp at h
 | cons p r ih =>
  intro i k o h ho
  cases k with
  | zero => simp only [List.getElem?_cons_zero, Option.some.injEq] at ho; subst ho; exact h.1
  | succ k => simp only [List.getElem?_cons_succ] at ho; have := ih h.2 ho; rwa [show i + (k + 1) = i + 1 + k by omega]
end
end Go
