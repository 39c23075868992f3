/- texts put together: OrsSt0. -/
import Derived.Test.YthpdmfkpiekonaaGreatOh23
import Derived.Test.YthpdmfkpiekonaaGreatOh24
open List (setIfInBounds_toArray set_cons_zero set_cons_succ take_succ_cons take_zero drop_succ_cons drop_zero)
namespace Go.Proofs.YthpdmfkpiekonaaGreat
open Go Go.RowKit Go.ChangeShapes cl
def SetA (B : Nat) (M : List Ent) (S : Dot → Prop) (v : Value) (w : World) : Prop := ∃ l, l.Perm M ∧ os.Up l ∧ SetV B l S v w
theorem setA_kept (B : Nat) (M : List Ent) (S : Dot → Prop) : Kept (SetA B M S) := ⟨fun ⟨l, h1, h2, h3⟩ hb => ⟨l, h1, h2, (setV_kept _ _ _).on h3 hb⟩, fun ⟨l, h1, h2, h3⟩ hk => ⟨l, h1, h2, (setV_kept _ _ _).kt h3 hk⟩⟩
def TripV (P Q : Value → World → Prop) (v : Value) (w : World) : Prop := ∃ s0 s1, v = .tuple #[s0, s1, .int .i64 0] ∧ P s0 w ∧ Q s1 w
theorem trip_kept {P Q : Value → World → Prop} (hP : Kept P) (hQ : Kept Q) : Kept (TripV P Q) :=
 ⟨fun ⟨s0, s1, e, h1, h2⟩ hb => ⟨s0, s1, e, hP.on h1 hb, hQ.on h2 hb⟩, fun ⟨s0, s1, e, h1, h2⟩ hk => ⟨s0, s1, e, hP.kt h1 hk, hQ.kt h2 hk⟩⟩
theorem heap_lt_of {w : World} {b : Nat} {o : Obj} (h : w.heap[b]? = some o) : b < w.heap.size := (Array.getElem?_eq_some_iff.1 h).1
theorem setV_kt {T : TypeId} {B : Nat} {l : List Ent} {S : Dot → Prop} {v : Value} {w w' : World} (h : SetV B l S v w) (hk : Kt T w w') (h1 : 53 ≠ T) (h2 : 50 ≠ T) : SetV B l S v w' := by
 obtain ⟨a0, n0, c0, a1, n1, c1, a2, n2, c2, cc, e, g1, g2, g3⟩ := h
 exact ⟨a0, n0, c0, a1, n1, c1, a2, n2, c2, cc, e, g1.kt hk h1, g2.kt hk h2, g3⟩
theorem chgV_kt {T : TypeId} {B : Nat} {L : List Ent} {A : List Dot} {S : Dot → Prop} {v : Value} {w w' : World} (h : ChgV B L A S v w) (hk : Kt T w w') (h1 : 53 ≠ T) (h2 : 50 ≠ T) : ChgV B L A S v w' := by
 obtain ⟨a0, n0, c0, a1, n1, c1, a2, n2, c2, a3, n3, c3, cc, e, g1, g4, g2, g3⟩ := h
 exact ⟨a0, n0, c0, a1, n1, c1, a2, n2, c2, a3, n3, c3, cc, e, g1.kt hk h1, g4.kt hk h2, g2.kt hk h2, g3⟩
theorem trip_kt {T : TypeId} {B : Nat} {M L : List Ent} {A : List Dot} {S S' : Dot → Prop} {v : Value} {w w' : World} (h : TripV (SetA B M S) (ChgV B L A S') v w) (hk : Kt T w w') (h1 : 53 ≠ T) (h2 : 50 ≠ T) : TripV (SetA B M S) (ChgV B L A S') v w' := by
 obtain ⟨s0, s1, e, ⟨l, g1, g2, g3⟩, g4⟩ := h
 exact ⟨s0, s1, e, ⟨l, g1, g2, setV_kt g3 hk h1 h2⟩, chgV_kt g4 hk h1 h2⟩
def BoxA (B z : Nat) (M : List Ent) (S : Dot → Prop) (u : Value) (w : World) : Prop := ∃ g a0 n0 c0 a1 n1 c1 a2 n2 c2 l cc, u = .pointer (some ⟨g, 0, none⟩) ∧ z ≤ g ∧ w.heap[g]? = some (.cells #[.slice a0 n0 c0, .slice a1 n1 c1, .slice a2 n2 c2] 27 (0, 0)) ∧ l.Perm M ∧ os.Up l ∧ EntO B w (.slice a0 n0 c0) l ∧ OwnC B w (.agg #[.slice a1 n1 c1, .slice a2 n2 c2]) cc ∧ ∃ m, dm.Is cc S m
theorem BoxA.on {B z : Nat} {M : List Ent} {S : Dot → Prop} {u : Value} {w w' : World} (h : BoxA B z M S u w) (hb : Below w.heap.size w w') : BoxA B z M S u w' := by
 obtain ⟨g, a0, n0, c0, a1, n1, c1, a2, n2, c2, l, cc, e, h0, h1, h2, h3, h4, h5, h6⟩ := h
 exact ⟨g, a0, n0, c0, a1, n1, c1, a2, n2, c2, l, cc, e, h0, (hb.block _ (lt_of_block h1)).trans h1, h2, h3, h4.on hb, h5.on hb, h6⟩
theorem BoxA.kt {T : TypeId} {B z : Nat} {M : List Ent} {S : Dot → Prop} {u : Value} {w w' : World} (h : BoxA B z M S u w) (hk : Kt T w w') (n1 : 53 ≠ T) (n2 : 50 ≠ T) (n3 : 27 ≠ T) : BoxA B z M S u w' := by
 obtain ⟨g, a0, m0, c0, a1, m1, c1, a2, m2, c2, l, cc, e, h0, h1, h2, h3, h4, h5, h6⟩ := h
 exact ⟨g, a0, m0, c0, a1, m1, c1, a2, m2, c2, l, cc, e, h0, (hk.keep g (lt_of_block h1) (fun cur fr e2 => by rw [h1] at e2; simp only [Option.some.injEq, Obj.cells.injEq] at e2; exact absurd e2.2.1 n3)).trans h1, h2, h3, h4.kt hk n1, h5.kt hk n2, h6⟩
def BoxB (B z : Nat) (L : List Ent) (A : List Dot) (S : Dot → Prop) (u : Value) (w : World) : Prop := ∃ g a3 n3 c3 a4 n4 c4 a5 n5 c5 a6 n6 c6 dc, u = .pointer (some ⟨g, 0, none⟩) ∧ z ≤ g ∧ w.heap[g]? = some (.cells #[.slice a3 n3 c3, .slice a4 n4 c4, .slice a5 n5 c5, .slice a6 n6 c6] 29 (0, 0)) ∧ EntO B w (.slice a3 n3 c3) L ∧ DotO B w (.slice a4 n4 c4) A ∧ OwnC B w (.agg #[.slice a5 n5 c5, .slice a6 n6 c6]) dc ∧ ∃ m, dm.Is dc S m
theorem BoxB.on {B z : Nat} {L : List Ent} {A : List Dot} {S : Dot → Prop} {u : Value} {w w' : World} (h : BoxB B z L A S u w) (hb : Below w.heap.size w w') : BoxB B z L A S u w' := by
 obtain ⟨g, a3, n3, c3, a4, n4, c4, a5, n5, c5, a6, n6, c6, dc, e, h0, h1, h2, h3, h4, h5⟩ := h
 exact ⟨g, a3, n3, c3, a4, n4, c4, a5, n5, c5, a6, n6, c6, dc, e, h0, (hb.block _ (lt_of_block h1)).trans h1, h2.on hb, h3.on hb, h4.on hb, h5⟩
theorem BoxB.kt {T : TypeId} {B z : Nat} {L : List Ent} {A : List Dot} {S : Dot → Prop} {u : Value} {w w' : World} (h : BoxB B z L A S u w) (hk : Kt T w w') (m1 : 53 ≠ T) (m2 : 50 ≠ T) (m3 : 29 ≠ T) : BoxB B z L A S u w' := by
 obtain ⟨g, a3, n3, c3, a4, n4, c4, a5, n5, c5, a6, n6, c6, dc, e, h0, h1, h2, h3, h4, h5⟩ := h
 exact ⟨g, a3, n3, c3, a4, n4, c4, a5, n5, c5, a6, n6, c6, dc, e, h0, (hk.keep g (lt_of_block h1) (fun cur fr e2 => by rw [h1] at e2; simp only [Option.some.injEq, Obj.cells.injEq] at e2; exact absurd e2.2.1 m3)).trans h1, h2.kt hk m1, h3.kt hk m2, h4.kt hk m2, h5⟩
theorem set4_grown {g : Nat} {a b c d : Value} (w : World) : w.grownBy ((((w.setCell ⟨g, 0, none⟩ a).setCell ⟨g, 1, none⟩ b).setCell ⟨g, 2, none⟩ c).setCell ⟨g, 3, none⟩ d) (some g) := grown_trans (set3_grown w) (set1_grown d)
set_option maxHeartbeats 12800000 in
set_option maxRecDepth 100000 in
theorem step_add (B q n : Nat) (s : PS) (g : Nat → Value) (oK oW oA oB : Int) (w : World) (hb : Box16 w q g) (hp : PIn B w g s) (hv : Inv n s) (hn : n ≤ 60) (hB : B ≤ q) (hm : MX w) (h0 : 0 < B) (hk1 : (oK == 1) = false) (hk2 : (oK == 2) = false) (hk3 : (oK == 3) = false) :
  Calls Tryz.prog 16 #[.pointer (some ⟨q, 0, none⟩), .agg #[.int .i64 oK, .int .i64 oW, .int .i64 oA, .int .i64 oB]] w (StepP B q n w) := by
 obtain ⟨i, hi0, hi3⟩ := u64_rem oW 3 (by decide)
 have hie : (IntKind.u64.wrap oW).tmod 3 = (i : Int) := hi0
 obtain ⟨J, hJ0, hJ4⟩ := u64_rem oA 4 (by decide)
 have hJe : (IntKind.u64.wrap oA).tmod 4 = (J : Int) := hJ0
 obtain ⟨tk, ht0, ht1⟩ := u64_rem oB 1000 (by decide)
 have hte : (IntKind.u64.wrap oB).tmod 1000 = (tk : Int) := ht0
 have hii : IntKind.i64.wrap (i : Int) = (i : Int) := IntWalk.i64_in _ (by omega)
 have hti : IntKind.i64.wrap (tk : Int) = (tk : Int) := IntWalk.i64_in _ (by omega)
 clear hi0 hJ0 ht0
 obtain ⟨b0, hb0⟩ : ∃ b, b = w.heap.size := ⟨_, rfl⟩
 obtain ⟨w1, hw1⟩ : ∃ W, W = w.alloc (.cells #[.int .i64 oK, .int .i64 oW, .int .i64 oA, .int .i64 oB] 46) := ⟨_, rfl⟩
 have hb1 : Below w.heap.size w w1 := by rw [hw1]; exact below1
 have x0 : w1.heap[b0]? = some (.cells #[.int .i64 oK, .int .i64 oW, .int .i64 oA, .int .i64 oB] 46 (0, 0)) := by rw [hw1, hb0]; exact heap_alloc_new w _
 have HB1 := Lib.hid hb1
 have X0 := Lib.hid x0
 have HE0 := Lib.hid hb0
 have HW1 := Lib.hid hw1
 have HBX := Lib.hid hb
 have HPI := Lib.hid hp
 have HINV := Lib.hid hv
 have HMX := Lib.hid hm
 have HJ := Lib.hid hJ4
 have HNM : Hid (∀ W, Calls Tryz.prog 19 #[] W fun e w' => ∃ b, e = .returned (.slice (some ⟨b, 0, none⟩) 4 4) ∧ Strs w' w'.heap.size (.slice (some ⟨b, 0, none⟩) 4 4) NM ∧ Below W.heap.size W w') := names_any
 have XO : Hid (∀ ww, Below w1.heap.size w1 ww → ww.cell? ⟨b0, 0, none⟩ = some (.int .i64 oK) ∧ ww.cell? ⟨b0, 1, none⟩ = some (.int .i64 oW) ∧ ww.cell? ⟨b0, 2, none⟩ = some (.int .i64 oA) ∧ ww.cell? ⟨b0, 3, none⟩ = some (.int .i64 oB)) := fun ww hw => by
  have y := (hw.block _ (lt_of_block X0.out)).trans X0.out
  exact ⟨boxc y 0 _ rfl, boxc y 1 _ rfl, boxc y 2 _ rfl, boxc y 3 _ rfl⟩
 obtain ⟨y0, y1, y2, y3⟩ := XO.out w1 (Below.refl _ _)
 clear hb hp hv hm hb0 hw1 hb1 x0
 go_enter Tryz.func16, Tryz.ntmps16
 go_wp2_with fail
 rw [← HW1.out, ← HE0.out]
 refine wp_flow 7 (fun _ => 1000) (fun ww => RowKit.Below w1.heap.size w1 ww) (fun _ w w' => (fun (w w' : World) => RowKit.Below w.heap.size w w') w w') (fun kF vF wF => match kF with | 0 => (∃ b, vF = .slice (some ⟨b, 0, none⟩) 4 4 ∧ Strs wF wF.heap.size (.slice (some ⟨b, 0, none⟩) 4 4) NM) | 1 => (vF = .pointer (some ⟨b0, 2, none⟩)) | 2 => (vF = .int .i64 oA) | 3 => (vF = .int .u64 (IntKind.u64.wrap oA)) | 4 => (vF = .int .u64 (J : Int)) | 5 => (∃ b, vF = .pointer (some ⟨b, J, none⟩) ∧ b < wF.heap.size ∧ wF.cell? ⟨b, J, none⟩ = some (.string (nam J))) | 6 => (vF = .string (nam J)) | _ => True) (fun _ _ _ _ => True) (by kernel_rfl) (by kernel_rfl) ?_ ?_ ?_ ?_ ?_
 ·
  exact (Below.refl _ _).drew
 ·
  intro iF wF1 wF2 hR hT; exact hR.trans (hT.mono hR.size)
 ·
  intro kF hkF iF hiF hne hdd hanc hdan vF wF1 wF2 h hT
  rcases (by omega : kF = 0 ∨ kF = 1 ∨ kF = 2 ∨ kF = 3 ∨ kF = 4 ∨ kF = 5 ∨ kF = 6) with rfl | rfl | rfl | rfl | rfl | rfl | rfl
  ·
   have h : (∃ b, vF = .slice (some ⟨b, 0, none⟩) 4 4 ∧ Strs wF1 wF1.heap.size (.slice (some ⟨b, 0, none⟩) 4 4) NM) := h
   show (∃ b, vF = .slice (some ⟨b, 0, none⟩) 4 4 ∧ Strs wF2 wF2.heap.size (.slice (some ⟨b, 0, none⟩) 4 4) NM)
   have hT : (fun (w w' : World) => RowKit.Below w.heap.size w w') wF1 wF2 := hT
   simp only at hT
   obtain ⟨b, e, h1⟩ := h
   exact ⟨b, e, Cells.next h1 hT⟩
  iterate 4 exact h
  ·
   have h : (∃ b, vF = .pointer (some ⟨b, J, none⟩) ∧ b < wF1.heap.size ∧ wF1.cell? ⟨b, J, none⟩ = some (.string (nam J))) := h
   show (∃ b, vF = .pointer (some ⟨b, J, none⟩) ∧ b < wF2.heap.size ∧ wF2.cell? ⟨b, J, none⟩ = some (.string (nam J)))
   have hT : (fun (w w' : World) => RowKit.Below w.heap.size w w') wF1 wF2 := hT
   simp only at hT
   obtain ⟨b, e, h1, h2⟩ := h
   exact ⟨b, e, Nat.lt_of_lt_of_le h1 hT.size, (hT.cell (p := ⟨b, J, none⟩) h1).trans h2⟩
  ·
   exact h
 ·
  generalize hAF : fillOf _ _ _ = AF
  replace hAF := fun x => congrFun hAF x
  simp only [take_succ_cons, take_zero, fillOf, Act.put, setIfInBounds_toArray, set_cons_zero, set_cons_succ, Nat.reduceAdd, Nat.zero_add] at hAF
  refine .cons ?_ (.cons ?_ (.cons ?_ (.cons ?_ (.cons ?_ (.cons ?_ (.cons ?_ (.nil)))))))
  all_goals
   intro xF w2 hR hd K hK
   first | simp only [← hAF, Act.put, setIfInBounds_toArray, set_cons_zero, set_cons_succ] at hK ⊢ | simp only [← hAF, Act.put] at hK ⊢
   clear hAF
   try simp only [Nat.zero_add, Nat.reduceAdd] at hK ⊢
  ·
   clear hd
   rw [if_pos (by rfl)]
   go_simp
   (go_at_call 19; (with_reducible refine (HNM.out _).mono ?_); rintro e wK ⟨b, rfl, hs, hbK⟩)
   try go_wp2_with fail
   exact hK.out _ _ (hbK) (⟨_, rfl, hs⟩) (fun _ _ _ => ⟨trivial, trivial⟩)
  ·
   clear hd
   rw [if_pos (by rfl)]
   go_simp
   exact hK.out _ _ (Below.refl _ _) (rfl) (fun _ _ _ => ⟨trivial, trivial⟩)
  ·
   have dd1 := hd 1 (by kernel_rfl)
   clear hd
   try generalize xF 1 = yy1 at *
   obtain rfl := dd1
   obtain ⟨x0, x1, x2, x3⟩ := XO.out _ hR
   rw [if_pos (by rfl)]
   go_simp
   exact hK.out _ _ (Below.refl _ _) (rfl) (fun _ _ _ => ⟨trivial, trivial⟩)
  ·
   have dd2 := hd 2 (by kernel_rfl)
   clear hd
   try generalize xF 2 = yy2 at *
   obtain rfl := dd2
   rw [if_pos (by rfl)]
   go_simp
   exact hK.out _ _ (Below.refl _ _) (rfl) (fun _ _ _ => ⟨trivial, trivial⟩)
  ·
   have dd3 := hd 3 (by kernel_rfl)
   clear hd
   try generalize xF 3 = yy3 at *
   obtain rfl := dd3
   rw [if_pos (by rfl)]
   go_simp
   exact hK.out _ _ (Below.refl _ _) (rfl) (fun _ _ _ => ⟨trivial, trivial⟩)
  ·
   have dd0 := hd 0 (by kernel_rfl)
   have dd4 := hd 4 (by kernel_rfl)
   clear hd
   try generalize xF 0 = yy0 at *
   try generalize xF 4 = yy4 at *
   obtain ⟨bN, rfl, hsN⟩ := dd0
   obtain rfl := dd4
   have hj4 := HJ.out
   have hj4i : (J : Int) < 4 := by omega
   have hj0 : 0 ≤ (J : Int) := by omega
   rw [if_pos (by rfl)]
   go_simp
   exact hK.out _ _ (Below.refl _ _) (⟨_, rfl, names_lt hsN, names_cell hsN J HJ.out⟩) (fun _ _ _ => ⟨trivial, trivial⟩)
  ·
   have dd5 := hd 5 (by kernel_rfl)
   clear hd
   try generalize xF 5 = yy5 at *
   obtain ⟨bJ, rfl, hJl, hJc⟩ := dd5
   rw [if_pos (by rfl)]
   go_simp
   exact hK.out _ _ (Below.refl _ _) (rfl) (fun _ _ _ => ⟨trivial, trivial⟩)
 intro xF w2 hR hF hP
 clear hP
 have dd0 := hF 0 (by omega) (by decide)
 have dd1 := hF 1 (by omega) (by decide)
 have dd2 := hF 2 (by omega) (by decide)
 have dd3 := hF 3 (by omega) (by decide)
 have dd4 := hF 4 (by omega) (by decide)
 have dd5 := hF 5 (by omega) (by decide)
 have dd6 := hF 6 (by omega) (by decide)
 clear hF
 simp only [take_succ_cons, take_zero, drop_succ_cons, drop_zero, fillOf, Act.put, setIfInBounds_toArray, set_cons_zero, set_cons_succ, Nat.reduceAdd, Nat.zero_add]
 try generalize xF 0 = yy0 at *
 try generalize xF 1 = yy1 at *
 try generalize xF 2 = yy2 at *
 try generalize xF 3 = yy3 at *
 try generalize xF 4 = yy4 at *
 try generalize xF 5 = yy5 at *
 try generalize xF 6 = yy6 at *
 clear xF
 obtain ⟨bN, rfl, hsN⟩ := dd0
 obtain rfl := dd1
 obtain rfl := dd2
 obtain rfl := dd3
 obtain rfl := dd4
 obtain ⟨bJ, rfl, hJl, hJc⟩ := dd5
 obtain rfl := dd6
 have hRE := Lib.hid hR
 clear hR
 have HB2 := Lib.hid hRE
 obtain ⟨x0, x1, x2, x3⟩ := XO.out w2 hRE
 clear hRE y0 y1 y2 y3
 have HB02 := Lib.hid (HB1.out.trans (HB2.out.mono HB1.out.size))
 have HBX2 := Lib.hid (HBX.out.on HB02.out)
 have HPI2 := Lib.hid (HPI.out.on HB02.out)
 obtain ⟨ne, hne⟩ : ∃ n, n = (s.l i).length := ⟨_, rfl⟩
 obtain ⟨ae, ce, hge⟩ := own_slice (HPI2.out.ent i hi3)
 rw [← hne] at hge
 obtain ⟨av, nv, cv, ac, nc, cc, hgc⟩ := (HPI2.out.ctx i hi3).form
 simp only [Value.agg.injEq, Array.mk.injEq, List.cons.injEq, and_true] at hgc
 have c0 := HBX2.out.cell (j := i * 3) (by omega)
 have c1 := HBX2.out.cell (j := i * 3 + 1) (by omega)
 have c2 := HBX2.out.cell (j := i * 3 + 2) (by omega)
 rw [hge] at c0
 rw [hgc.1] at c1
 rw [hgc.2] at c2
 have HGE := Lib.hid hge
 have HGC := Lib.hid hgc
 have HNE := Lib.hid hne
 have hi0 : 0 ≤ (i : Int) := by omega
 have hi3i : (i : Int) < 3 := by omega
 obtain ⟨b8, hb8⟩ : ∃ b, b = w2.heap.size := ⟨_, rfl⟩
 obtain ⟨b9, hb9⟩ : ∃ b, b = w2.heap.size + 1 := ⟨_, rfl⟩
 obtain ⟨w3, hw3⟩ : ∃ W, W = w2.alloc (.cells #[.slice ae ne ce, .slice av nv cv, .slice ac nc cc] 27) := ⟨_, rfl⟩
 obtain ⟨w4, hw4⟩ : ∃ W, W = w3.alloc (.cells #[.slice none 0 0, .slice none 0 0, .slice none 0 0, .slice none 0 0] 29) := ⟨_, rfl⟩
 have hs3 : w3.heap.size = w2.heap.size + 1 := by rw [hw3, World.size_alloc]
 have hb3 : Below w2.heap.size w2 w3 := by rw [hw3]; exact below1
 have hb4 : Below w3.heap.size w3 w4 := by rw [hw4]; exact below1
 have hb24 : Below w2.heap.size w2 w4 := hb3.trans (hb4.mono hb3.size)
 have r8 : w4.heap[b8]? = some (.cells #[.slice ae ne ce, .slice av nv cv, .slice ac nc cc] 27 (0, 0)) := (hb4.block _ (by omega)).trans (by rw [hw3, hb8]; exact heap_alloc_new w2 _)
 have r9 : w4.heap[b9]? = some (.cells #[.slice none 0 0, .slice none 0 0, .slice none 0 0, .slice none 0 0] 29 (0, 0)) := by rw [hw4, hb9, ← hs3]; exact heap_alloc_new w3 _
 have HB4 := Lib.hid (HB2.out.trans (hb24.mono HB2.out.size))
 have HB04 := Lib.hid (HB02.out.trans (hb24.mono HB02.out.size))
 have HBX4 := Lib.hid (HBX2.out.on hb24)
 have HPI4 := Lib.hid (HPI2.out.on hb24)
 have R8 := Lib.hid r8
 have R9 := Lib.hid r9
 have HE8 := Lib.hid hb8
 have HE9 := Lib.hid hb9
 have HQL : Hid (q < w.heap.size) := HBX.out.lt
 have HQ8 : Hid (q < b8 ∧ b8 < b9 ∧ b0 < b8) := by
  refine ⟨?_, ?_, ?_⟩
  ·
   have h1 := HBX2.out.lt; omega
  ·
   omega
  ·
   have h1 := lt_of_block X0.out
   have h2 := HB2.out.size
   omega
 have HD9 : Hid ((g 12).ownBlock ≠ some b9) := by
  obtain ⟨D, _, _, h2⟩ := HPI2.out.chg
  intro e
  have := (h2.lt _ e).2
  omega
 obtain ⟨k0, _, _, _⟩ := XO.out w4 HB4.out
 subst hw3
 have HW4 := Lib.hid hw4
 rw [hw4] at k0
 clear hge hgc hne hb8 hb9 hw4 hs3 hb3 hb4 hb24 r8 r9 x0 x2
 have him := HINV.out.made_le hi3
 obtain ⟨mi, hmi⟩ : ∃ m, m = s.made i := ⟨_, rfl⟩
 rw [← hmi] at him
 have HMI := Lib.hid hmi
 have hm60 : (mi : Int) ≤ 60 := by omega
 have hwr : IntKind.i64.wrap ((mi : Int) + 1) = (mi : Int) + 1 := IntWalk.i64_in _ (by omega)
 obtain ⟨x, hx⟩ : ∃ x : Ent, x = ⟨nam J, s.nd i, (tk : Int)⟩ := ⟨_, rfl⟩
 have HXE := Lib.hid hx
 clear him hmi hx
 go_wp2_with fail
 rw [← HW4.out, ← HE9.out, ← HE8.out]
 clear k0 c0 c1 c2 x1 x3
 refine wp_flow 10 (fun _ => 1000) (fun ww => RowKit.Below w4.heap.size w4 ww) (fun _ w w' => (fun (w w' : World) => RowKit.Below w.heap.size w w') w w') (fun kF vF wF => match kF with | 0 => (vF = .pointer (some ⟨q, 0, none⟩)) | 1 => (vF = .int .i64 (i : Int)) | 2 => (vF = .pointer (some ⟨q, 0, none⟩)) | 3 => (vF = .pointer (some ⟨q, 9, none⟩)) | 4 => (vF = .pointer (some ⟨q, 9 + i, none⟩)) | 5 => (vF = .int .i64 (mi : Int)) | 6 => (vF = .int .i64 ((mi : Int) + 1)) | 7 => (vF = .pointer (some ⟨q, 0, none⟩)) | 8 => (vF = .pointer (some ⟨q, 9, none⟩)) | 9 => (vF = .pointer (some ⟨q, 9 + i, none⟩)) | _ => True) (fun _ _ _ _ => True) (by kernel_rfl) (by kernel_rfl) ?_ ?_ ?_ ?_ ?_
 ·
  exact (Below.refl _ _).drew
 ·
  intro iF wF1 wF2 hR hT; exact hR.trans (hT.mono hR.size)
 ·
  intro kF hkF iF hiF hne hdd hanc hdan vF wF1 wF2 h hT
  rcases (by omega : kF = 0 ∨ kF = 1 ∨ kF = 2 ∨ kF = 3 ∨ kF = 4 ∨ kF = 5 ∨ kF = 6 ∨ kF = 7 ∨ kF = 8 ∨ kF = 9) with rfl | rfl | rfl | rfl | rfl | rfl | rfl | rfl | rfl | rfl
  iterate 10 exact h
 ·
  generalize hAF : fillOf _ _ _ = AF
  replace hAF := fun x => congrFun hAF x
  simp only [take_succ_cons, take_zero, fillOf, Act.put, setIfInBounds_toArray, set_cons_zero, set_cons_succ, Nat.reduceAdd, Nat.zero_add] at hAF
  refine .cons ?_ (.cons ?_ (.cons ?_ (.cons ?_ (.cons ?_ (.cons ?_ (.cons ?_ (.cons ?_ (.cons ?_ (.cons ?_ (.nil))))))))))
  all_goals
   intro xF w5 hR hd K hK
   first | simp only [← hAF, Act.put, setIfInBounds_toArray, set_cons_zero, set_cons_succ] at hK ⊢ | simp only [← hAF, Act.put] at hK ⊢
   clear hAF
   try simp only [Nat.zero_add, Nat.reduceAdd] at hK ⊢
  ·
   clear hd
   rw [if_pos (by rfl)]
   go_simp
   exact hK.out _ _ (Below.refl _ _) (rfl) (fun _ _ _ => ⟨trivial, trivial⟩)
  ·
   clear hd
   rw [if_pos (by rfl)]
   go_simp
   exact hK.out _ _ (Below.refl _ _) (rfl) (fun _ _ _ => ⟨trivial, trivial⟩)
  ·
   have dd0 := hd 0 (by kernel_rfl)
   clear hd
   try generalize xF 0 = yy0 at *
   obtain rfl := dd0
   rw [if_pos (by rfl)]
   go_simp
   exact hK.out _ _ (Below.refl _ _) (rfl) (fun _ _ _ => ⟨trivial, trivial⟩)
  ·
   have dd2 := hd 2 (by kernel_rfl)
   clear hd
   try generalize xF 2 = yy2 at *
   obtain rfl := dd2
   rw [if_pos (by rfl)]
   go_simp
   exact hK.out _ _ (Below.refl _ _) (rfl) (fun _ _ _ => ⟨trivial, trivial⟩)
  ·
   have dd1 := hd 1 (by kernel_rfl)
   have dd3 := hd 3 (by kernel_rfl)
   clear hd
   try generalize xF 1 = yy1 at *
   try generalize xF 3 = yy3 at *
   obtain rfl := dd1
   obtain rfl := dd3
   rw [if_pos (by rfl)]
   go_simp
   exact hK.out _ _ (Below.refl _ _) (rfl) (fun _ _ _ => ⟨trivial, trivial⟩)
  ·
   have dd4 := hd 4 (by kernel_rfl)
   clear hd
   try generalize xF 4 = yy4 at *
   obtain rfl := dd4
   have k9 := (HBX4.out.on hR).cell (j := 9 + i) (by omega)
   rw [HPI4.out.made i hi3, ← HMI.out] at k9
   rw [if_pos (by rfl)]
   go_simp
   exact hK.out _ _ (Below.refl _ _) (rfl) (fun _ _ _ => ⟨trivial, trivial⟩)
  ·
   have dd5 := hd 5 (by kernel_rfl)
   clear hd
   try generalize xF 5 = yy5 at *
   obtain rfl := dd5
   rw [if_pos (by rfl)]
   go_simp
   exact hK.out _ _ (Below.refl _ _) (rfl) (fun _ _ _ => ⟨trivial, trivial⟩)
  ·
   have dd0 := hd 0 (by kernel_rfl)
   clear hd
   try generalize xF 0 = yy0 at *
   obtain rfl := dd0
   rw [if_pos (by rfl)]
   go_simp
   exact hK.out _ _ (Below.refl _ _) (rfl) (fun _ _ _ => ⟨trivial, trivial⟩)
  ·
   have dd7 := hd 7 (by kernel_rfl)
   clear hd
   try generalize xF 7 = yy7 at *
   obtain rfl := dd7
   rw [if_pos (by rfl)]
   go_simp
   exact hK.out _ _ (Below.refl _ _) (rfl) (fun _ _ _ => ⟨trivial, trivial⟩)
  ·
   have dd1 := hd 1 (by kernel_rfl)
   have dd8 := hd 8 (by kernel_rfl)
   clear hd
   try generalize xF 1 = yy1 at *
   try generalize xF 8 = yy8 at *
   obtain rfl := dd1
   obtain rfl := dd8
   rw [if_pos (by rfl)]
   go_simp
   exact hK.out _ _ (Below.refl _ _) (rfl) (fun _ _ _ => ⟨trivial, trivial⟩)
 intro xF w5 hR hF hP
 clear hP
 have dd0 := hF 0 (by omega) (by decide)
 have dd1 := hF 1 (by omega) (by decide)
 have dd2 := hF 2 (by omega) (by decide)
 have dd3 := hF 3 (by omega) (by decide)
 have dd4 := hF 4 (by omega) (by decide)
 have dd5 := hF 5 (by omega) (by decide)
 have dd6 := hF 6 (by omega) (by decide)
 have dd7 := hF 7 (by omega) (by decide)
 have dd8 := hF 8 (by omega) (by decide)
 have dd9 := hF 9 (by omega) (by decide)
 clear hF
 simp only [take_succ_cons, take_zero, drop_succ_cons, drop_zero, fillOf, Act.put, setIfInBounds_toArray, set_cons_zero, set_cons_succ, Nat.reduceAdd, Nat.zero_add]
 try generalize xF 0 = yy0 at *
 try generalize xF 1 = yy1 at *
 try generalize xF 2 = yy2 at *
 try generalize xF 3 = yy3 at *
 try generalize xF 4 = yy4 at *
 try generalize xF 5 = yy5 at *
 try generalize xF 6 = yy6 at *
 try generalize xF 7 = yy7 at *
 try generalize xF 8 = yy8 at *
 try generalize xF 9 = yy9 at *
 clear xF
 obtain rfl := dd0
 obtain rfl := dd1
 obtain rfl := dd2
 obtain rfl := dd3
 obtain rfl := dd4
 obtain rfl := dd5
 obtain rfl := dd6
 obtain rfl := dd7
 obtain rfl := dd8
 obtain rfl := dd9
 have hRE := Lib.hid hR
 clear hR
 have hb5 := HBX4.out.on hRE
 have c9 := hb5.cell (j := 9 + i) (by omega)
 have f9 := hb5.fro (9 + i)
 rw [HPI4.out.made i hi3, ← HMI.out] at c9
 obtain ⟨W6, hW6⟩ : ∃ W, W = w5.setCell ⟨q, 9 + i, none⟩ (.int .i64 ((mi : Int) + 1)) := ⟨_, rfl⟩
 have hk6 : Kt 43 w5 W6 := by rw [hW6]; exact hb5.kt _ _
 have hg6 : w5.grownBy W6 (some q) := by rw [hW6]; exact set1_grown _
 have HB6 : Hid (Box16 W6 q (upd g (9 + i) (.int .i64 ((mi : Int) + 1)))) := by show Box16 _ _ _; rw [hW6]; exact hb5.set (by omega) _
 have hp6 := (((HPI4.out.on hRE).kt hk6 (by decide) (by decide) (by decide) (by decide)).make (m := s.made i + 1) (u := .int .i64 ((mi : Int) + 1)) hi3 (by rw [HMI.out]; rfl))
 obtain ⟨g6, hg6e⟩ : ∃ f, f = upd g (9 + i) (.int .i64 ((mi : Int) + 1)) := ⟨_, rfl⟩
 rw [← hg6e] at HB6 hp6
 have HP6 := Lib.hid hp6
 have hgo : ∀ k, k < 9 → g6 k = g k := fun k hk => by rw [hg6e, upd_other _ _ (by omega)]
 have HG69 : Hid (g6 (9 + i) = .int .i64 ((mi : Int) + 1)) := by show _ = _; rw [hg6e, upd_same]
 have HG612 : Hid (g6 12 = g 12) := by show _ = _; rw [hg6e, upd_other _ _ (by omega)]
 have HG6 : Hid (g6 (i * 3) = .slice ae ne ce ∧ g6 (i * 3 + 1) = .slice av nv cv ∧ g6 (i * 3 + 2) = .slice ac nc cc) :=
  ⟨(hgo _ (by omega)).trans HGE.out, (hgo _ (by omega)).trans HGC.out.1, (hgo _ (by omega)).trans HGC.out.2⟩
 have HL6 : Hid (Below B w W6) := ((HB04.out.mono (Nat.le_trans hB (Nat.le_of_lt HQL.out))).trans (hRE.mono (Nat.le_trans hB (Nat.le_of_lt HBX4.out.lt)))).trans ((Below.refl B w5).grown hg6 (Nat.le_trans hB (Nat.le_of_lt hb5.lt)) (fun j hj => by cases hj; exact hB))
 have keep6 : ∀ {b : Nat} {o : Obj}, b ≠ q → w4.heap[b]? = some o → W6.heap[b]? = some o := fun {b o} hne h => (hg6.block _ (Nat.lt_of_lt_of_le (heap_lt_of h) hRE.size) (fun e => hne (Option.some.inj e))).trans ((hRE.block _ (heap_lt_of h)).trans h)
 have R86 : Hid (W6.heap[b8]? = some (.cells #[.slice ae ne ce, .slice av nv cv, .slice ac nc cc] 27 (0, 0))) := keep6 (by have := HQ8.out; omega) R8.out
 have R96 : Hid (W6.heap[b9]? = some (.cells #[.slice none 0 0, .slice none 0 0, .slice none 0 0, .slice none 0 0] 29 (0, 0))) := keep6 (by have := HQ8.out; omega) R9.out
 have R06 : Hid (W6.heap[b0]? = some (.cells #[.int .i64 oK, .int .i64 oW, .int .i64 oA, .int .i64 oB] 46 (0, 0))) := keep6 (by have := lt_of_block X0.out; have := HQL.out; have := HE0.out; omega) ((HB4.out.block _ (lt_of_block X0.out)).trans X0.out)
 have HADD : Hid (∀ W, Below W6.heap.size W6 W → Calls Tryz.prog 20 #[.agg #[.slice ae ne ce, .slice av nv cv, .slice ac nc cc], .agg #[.string (nam J), .int .i64 (i : Int), .int .i64 ((mi : Int) + 1), .int .i64 (tk : Int), .slice none 0 0]] W (fun e w' => ∃ v, e = .returned v ∧ TripV (SetA B ((staysOf (fun y => decide (y.s = nam J)) (s.l i)) ++ [x]) (fun e => dm.Knows (s.c i) e ∨ e = s.nd i)) (ChgV B [x] [x.d] (fun e => valid e = true ∧ e ∈ goneOf (fun y => decide (y.s = nam J)) (s.l i) ++ [s.nd i])) v w' ∧ Below W.heap.size W w')) := fun W hW => by
  have hp := HP6.out.on hW
  have hE := hp.ent i hi3
  have hC := hp.ctx i hi3
  rw [HG6.out.1] at hE
  rw [HG6.out.2.1, HG6.out.2.2] at hC
  have hBW : B ≤ W.heap.size := Nat.le_trans (Nat.le_trans hB (Nat.le_of_lt HB6.out.lt)) hW.size
  have hfx : os.Fine x := by rw [HXE.out]; exact nam_fine (HINV.out.nd_valid hi3 (by omega)) (by omega) (by omega)
  have hfr : ¬ dm.Knows (s.c i) x.d := by rw [HXE.out]; exact HINV.out.fresh hi3
  have hc := oadd_yes (s.l i) (s.c i) x _ _ _ W hE.at hC.at (HINV.out.set i hi3) hfx hfr (Nat.le_trans (HINV.out.len hi3) (by omega)) (Nat.le_trans (HINV.out.cloud hi3) (by omega)) (HMX.out.b (HL6.out.trans (hW.mono (Nat.le_trans hB (Nat.le_of_lt HB6.out.lt)))) h0)
  have ev : eval' x = .agg #[.string (nam J), .int .i64 (i : Int), .int .i64 ((mi : Int) + 1), .int .i64 (tk : Int), .slice none 0 0] := by rw [HXE.out, HMI.out]; rfl
  rw [ev] at hc
  refine hc.mono ?_
  rintro e w' ⟨u0, u1, u2, t0, t1, t2, t3, L', c', dc, rfl, g1, g2, g3, g4, g5, g6, g7, g8, g9, g10⟩
  obtain ⟨a0, x0, rfl⟩ := own_slice g1
  obtain ⟨a1, n1, c1, a2, n2, c2, e1⟩ := g2.form
  obtain ⟨a3, x3, rfl⟩ := own_slice g3
  obtain ⟨a4, x4, rfl⟩ := own_slice g4
  obtain ⟨a5, n5, c5, a6, n6, c6, e2⟩ := g5.form
  simp only [Value.agg.injEq, Array.mk.injEq, List.cons.injEq, and_true] at e1 e2
  obtain ⟨rfl, rfl⟩ := e1
  obtain ⟨rfl, rfl⟩ := e2
  have exd : x.d = s.nd i := by rw [HXE.out]
  have exs : x.s = nam J := by rw [HXE.out]
  rw [exs, exd] at g9
  rw [exs] at g6
  rw [exd] at g8
  exact ⟨_, rfl, ⟨_, _, rfl, ⟨L', g6, g7, _, _, _, _, _, _, _, _, _, c', rfl, g1.low hBW, g2.low hBW, _, g8⟩, ⟨_, _, _, _, _, _, _, _, _, _, _, _, dc, rfl, g3.low hBW, g4.low hBW, g5.low hBW, g9⟩⟩, g10⟩
 have HW6 := Lib.hid hW6
 clear hb5 hk6 hg6 keep6 hW6 hRE hp6 hg6e hgo
 go_wp2_with fail
 rw [← HW6.out]
 clear c9 f9
 refine wp_flowH 22 (fun kF => match kF with | 14 => 19 | 15 => 20 | 17 => 19 | 18 => 20 | _ => 1000) (fun ww => RowKit.Below W6.heap.size W6 ww) (fun i w w' => if i = 20 then (fun (w w' : World) => Kt 29 w w' ∧ ∃ g, w.grownBy w' (some g) ∧ W6.heap.size ≤ g) w w' else if i = 19 then (fun (w w' : World) => Kt 27 w w' ∧ ∃ g, w.grownBy w' (some g) ∧ W6.heap.size ≤ g) w w' else (fun (w w' : World) => RowKit.Below w.heap.size w w') w w') (fun sF wF => match sF with  | _ => True) (fun kF vF wF => match kF with | 0 => (vF = .agg #[.slice ae ne ce, .slice av nv cv, .slice ac nc cc]) | 1 => (vF = .string (nam J)) | 2 => (vF = .int .i64 (i : Int)) | 3 => (vF = .pointer (some ⟨q, 0, none⟩)) | 4 => (vF = .int .i64 (i : Int)) | 5 => (vF = .pointer (some ⟨q, 0, none⟩)) | 6 => (vF = .pointer (some ⟨q, 9, none⟩)) | 7 => (vF = .pointer (some ⟨q, 9 + i, none⟩)) | 8 => (vF = .int .i64 ((mi : Int) + 1)) | 9 => (vF = .agg #[.int .i64 (i : Int), .int .i64 ((mi : Int) + 1)]) | 10 => (vF = .int .i64 (tk : Int)) | 11 => (vF = .agg #[.string (nam J), .int .i64 (i : Int), .int .i64 ((mi : Int) + 1), .int .i64 (tk : Int), .slice none 0 0]) | 12 => (TripV (SetA B ((staysOf (fun y => decide (y.s = nam J)) (s.l i)) ++ [x]) (fun e => dm.Knows (s.c i) e ∨ e = s.nd i)) (ChgV B [x] [x.d] (fun e => valid e = true ∧ e ∈ goneOf (fun y => decide (y.s = nam J)) (s.l i) ++ [s.nd i])) vF wF) | 13 => (TripV (SetA B ((staysOf (fun y => decide (y.s = nam J)) (s.l i)) ++ [x]) (fun e => dm.Knows (s.c i) e ∨ e = s.nd i)) (ChgV B [x] [x.d] (fun e => valid e = true ∧ e ∈ goneOf (fun y => decide (y.s = nam J)) (s.l i) ++ [s.nd i])) vF wF) | 14 => (SetA B ((staysOf (fun y => decide (y.s = nam J)) (s.l i)) ++ [x]) (fun e => dm.Knows (s.c i) e ∨ e = s.nd i) vF wF) | 15 => (ChgV B [x] [x.d] (fun e => valid e = true ∧ e ∈ goneOf (fun y => decide (y.s = nam J)) (s.l i) ++ [s.nd i]) vF wF) | 16 => (vF = .int .i64 0) | 17 => (∃ g, vF = .pointer (some ⟨g, 0, none⟩) ∧ wF.heap[g]? = some (.cells #[.slice none 0 0, .slice none 0 0, .slice none 0 0] 27 (0, 0)) ∧ W6.heap.size ≤ g) | 18 => (∃ g, vF = .pointer (some ⟨g, 0, none⟩) ∧ wF.heap[g]? = some (.cells #[.slice none 0 0, .slice none 0 0, .slice none 0 0, .slice none 0 0] 29 (0, 0)) ∧ W6.heap.size ≤ g) | 19 => (True) | 20 => (True) | 21 => (vF = .int .i64 0) | _ => True) (fun _ _ _ _ => True) (fun kF jF vF uF wF => if kF = 19 ∧ jF = 17 then (BoxA B W6.heap.size ((staysOf (fun y => decide (y.s = nam J)) (s.l i)) ++ [x]) (fun e => dm.Knows (s.c i) e ∨ e = s.nd i) uF wF) else if kF = 20 ∧ jF = 18 then (BoxB B W6.heap.size [x] [x.d] (fun e => valid e = true ∧ e ∈ goneOf (fun y => decide (y.s = nam J)) (s.l i) ++ [s.nd i]) uF wF) else True) (by kernel_rfl) (by kernel_rfl) ?_ ?_ ?_ ?_ ?_ ?_ ?_ ?_
 ·
  exact (Below.refl _ _).drew
 ·
  intro sF hsF
  rcases (by omega : sF = 0 ∨ sF = 1 ∨ sF = 2 ∨ sF = 3 ∨ sF = 4 ∨ sF = 5 ∨ sF = 6 ∨ sF = 7 ∨ sF = 8 ∨ sF = 9 ∨ sF = 10 ∨ sF = 11 ∨ sF = 12 ∨ sF = 13 ∨ sF = 14 ∨ sF = 15 ∨ sF = 16 ∨ sF = 17 ∨ sF = 18 ∨ sF = 19 ∨ sF = 20 ∨ sF = 21) with rfl | rfl | rfl | rfl | rfl | rfl | rfl | rfl | rfl | rfl | rfl | rfl | rfl | rfl | rfl | rfl | rfl | rfl | rfl | rfl | rfl | rfl
  iterate 22 exact trivial
 ·
  intro iF wF1 wF2 hR hT
  have hT : (fun i w w' => if i = 20 then (fun (w w' : World) => Kt 29 w w' ∧ ∃ g, w.grownBy w' (some g) ∧ W6.heap.size ≤ g) w w' else if i = 19 then (fun (w w' : World) => Kt 27 w w' ∧ ∃ g, w.grownBy w' (some g) ∧ W6.heap.size ≤ g) w w' else (fun (w w' : World) => RowKit.Below w.heap.size w w') w w') iF wF1 wF2 := hT
  simp only at hT
  by_cases hi20 : iF = 20
  ·
   rw [if_pos hi20] at hT; (obtain ⟨_, g, hg, hl⟩ := hT; exact hR.grown hg hR.size (fun j hj => by cases hj; exact hl))
  rw [if_neg hi20] at hT
  by_cases hi19 : iF = 19
  ·
   rw [if_pos hi19] at hT; (obtain ⟨_, g, hg, hl⟩ := hT; exact hR.grown hg hR.size (fun j hj => by cases hj; exact hl))
  rw [if_neg hi19] at hT
  exact hR.trans (hT.mono hR.size)
 ·
  intro sF hsF iF hiF hne hanc wF1 wF2 hRF hgF hT
  rcases (by omega : sF = 0 ∨ sF = 1 ∨ sF = 2 ∨ sF = 3 ∨ sF = 4 ∨ sF = 5 ∨ sF = 6 ∨ sF = 7 ∨ sF = 8 ∨ sF = 9 ∨ sF = 10 ∨ sF = 11 ∨ sF = 12 ∨ sF = 13 ∨ sF = 14 ∨ sF = 15 ∨ sF = 16 ∨ sF = 17 ∨ sF = 18 ∨ sF = 19 ∨ sF = 20 ∨ sF = 21) with rfl | rfl | rfl | rfl | rfl | rfl | rfl | rfl | rfl | rfl | rfl | rfl | rfl | rfl | rfl | rfl | rfl | rfl | rfl | rfl | rfl | rfl
  iterate 22 exact trivial
 ·
  intro iF hiF jF hjF kF hkF hne hanc uF vF wF1 wF2 hp hT
  by_cases hij : iF = 19 ∧ jF = 17
  ·
   rw [if_pos hij] at hp ⊢
   obtain ⟨rfl, rfl⟩ := hij
   have hT : (fun i w w' => if i = 20 then (fun (w w' : World) => Kt 29 w w' ∧ ∃ g, w.grownBy w' (some g) ∧ W6.heap.size ≤ g) w w' else if i = 19 then (fun (w w' : World) => Kt 27 w w' ∧ ∃ g, w.grownBy w' (some g) ∧ W6.heap.size ≤ g) w w' else (fun (w w' : World) => RowKit.Below w.heap.size w w') w w') kF wF1 wF2 := hT
   simp only at hT
   by_cases hi20 : kF = 20
   ·
    rw [if_pos hi20] at hT
    exact hp.kt hT.1 (by decide) (by decide) (by decide)
   rw [if_neg hi20] at hT
   by_cases hi19 : kF = 19
   ·
    exact absurd hi19 hne
   rw [if_neg hi19] at hT
   exact hp.on hT
  have hij0 := hij
  clear hij
  by_cases hij : iF = 20 ∧ jF = 18
  ·
   rw [if_neg (fun hh => by obtain ⟨h1, h2⟩ := hh; obtain ⟨h3, h4⟩ := hij; omega)] at hp ⊢; rw [if_pos hij] at hp ⊢
   obtain ⟨rfl, rfl⟩ := hij
   have hT : (fun i w w' => if i = 20 then (fun (w w' : World) => Kt 29 w w' ∧ ∃ g, w.grownBy w' (some g) ∧ W6.heap.size ≤ g) w w' else if i = 19 then (fun (w w' : World) => Kt 27 w w' ∧ ∃ g, w.grownBy w' (some g) ∧ W6.heap.size ≤ g) w w' else (fun (w w' : World) => RowKit.Below w.heap.size w w') w w') kF wF1 wF2 := hT
   simp only at hT
   by_cases hi20 : kF = 20
   ·
    exact absurd hi20 hne
   rw [if_neg hi20] at hT
   by_cases hi19 : kF = 19
   ·
    rw [if_pos hi19] at hT
    exact hp.kt hT.1 (by decide) (by decide) (by decide)
   rw [if_neg hi19] at hT
   exact hp.on hT
  have hij1 := hij
  clear hij
  ·
   rw [if_neg hij0]; rw [if_neg hij1]; trivial
 ·
  intro kF hkF iF hiF hne hdd hanc hdan vF wF1 wF2 h hT
  rcases (by omega : kF = 0 ∨ kF = 1 ∨ kF = 2 ∨ kF = 3 ∨ kF = 4 ∨ kF = 5 ∨ kF = 6 ∨ kF = 7 ∨ kF = 8 ∨ kF = 9 ∨ kF = 10 ∨ kF = 11 ∨ kF = 12 ∨ kF = 13 ∨ kF = 14 ∨ kF = 15 ∨ kF = 16 ∨ kF = 17 ∨ kF = 18 ∨ kF = 19 ∨ kF = 20 ∨ kF = 21) with rfl | rfl | rfl | rfl | rfl | rfl | rfl | rfl | rfl | rfl | rfl | rfl | rfl | rfl | rfl | rfl | rfl | rfl | rfl | rfl | rfl | rfl
  iterate 12 exact h
  ·
   have h : (TripV (SetA B ((staysOf (fun y => decide (y.s = nam J)) (s.l i)) ++ [x]) (fun e => dm.Knows (s.c i) e ∨ e = s.nd i)) (ChgV B [x] [x.d] (fun e => valid e = true ∧ e ∈ goneOf (fun y => decide (y.s = nam J)) (s.l i) ++ [s.nd i])) vF wF1) := h
   show (TripV (SetA B ((staysOf (fun y => decide (y.s = nam J)) (s.l i)) ++ [x]) (fun e => dm.Knows (s.c i) e ∨ e = s.nd i)) (ChgV B [x] [x.d] (fun e => valid e = true ∧ e ∈ goneOf (fun y => decide (y.s = nam J)) (s.l i) ++ [s.nd i])) vF wF2)
   have hT : (fun i w w' => if i = 20 then (fun (w w' : World) => Kt 29 w w' ∧ ∃ g, w.grownBy w' (some g) ∧ W6.heap.size ≤ g) w w' else if i = 19 then (fun (w w' : World) => Kt 27 w w' ∧ ∃ g, w.grownBy w' (some g) ∧ W6.heap.size ≤ g) w w' else (fun (w w' : World) => RowKit.Below w.heap.size w w') w w') iF wF1 wF2 := hT
   simp only at hT
   by_cases hi20 : iF = 20
   ·
    rw [if_pos hi20] at hT
    exact trip_kt h hT.1 (by decide) (by decide)
   rw [if_neg hi20] at hT
   by_cases hi19 : iF = 19
   ·
    rw [if_pos hi19] at hT
    exact trip_kt h hT.1 (by decide) (by decide)
   rw [if_neg hi19] at hT
   exact (trip_kept (setA_kept _ _ _) (chgV_kept _ _ _ _)).on h hT
  ·
   have h : (TripV (SetA B ((staysOf (fun y => decide (y.s = nam J)) (s.l i)) ++ [x]) (fun e => dm.Knows (s.c i) e ∨ e = s.nd i)) (ChgV B [x] [x.d] (fun e => valid e = true ∧ e ∈ goneOf (fun y => decide (y.s = nam J)) (s.l i) ++ [s.nd i])) vF wF1) := h
   show (TripV (SetA B ((staysOf (fun y => decide (y.s = nam J)) (s.l i)) ++ [x]) (fun e => dm.Knows (s.c i) e ∨ e = s.nd i)) (ChgV B [x] [x.d] (fun e => valid e = true ∧ e ∈ goneOf (fun y => decide (y.s = nam J)) (s.l i) ++ [s.nd i])) vF wF2)
   have hT : (fun i w w' => if i = 20 then (fun (w w' : World) => Kt 29 w w' ∧ ∃ g, w.grownBy w' (some g) ∧ W6.heap.size ≤ g) w w' else if i = 19 then (fun (w w' : World) => Kt 27 w w' ∧ ∃ g, w.grownBy w' (some g) ∧ W6.heap.size ≤ g) w w' else (fun (w w' : World) => RowKit.Below w.heap.size w w') w w') iF wF1 wF2 := hT
   simp only at hT
   by_cases hi20 : iF = 20
   ·
    rw [if_pos hi20] at hT
    exact trip_kt h hT.1 (by decide) (by decide)
   rw [if_neg hi20] at hT
   by_cases hi19 : iF = 19
   ·
    rw [if_pos hi19] at hT
    exact trip_kt h hT.1 (by decide) (by decide)
   rw [if_neg hi19] at hT
   exact (trip_kept (setA_kept _ _ _) (chgV_kept _ _ _ _)).on h hT
  ·
   have h : (SetA B ((staysOf (fun y => decide (y.s = nam J)) (s.l i)) ++ [x]) (fun e => dm.Knows (s.c i) e ∨ e = s.nd i) vF wF1) := h
   show (SetA B ((staysOf (fun y => decide (y.s = nam J)) (s.l i)) ++ [x]) (fun e => dm.Knows (s.c i) e ∨ e = s.nd i) vF wF2)
   have hT : (fun i w w' => if i = 20 then (fun (w w' : World) => Kt 29 w w' ∧ ∃ g, w.grownBy w' (some g) ∧ W6.heap.size ≤ g) w w' else if i = 19 then (fun (w w' : World) => Kt 27 w w' ∧ ∃ g, w.grownBy w' (some g) ∧ W6.heap.size ≤ g) w w' else (fun (w w' : World) => RowKit.Below w.heap.size w w') w w') iF wF1 wF2 := hT
   simp only at hT
   by_cases hi20 : iF = 20
   ·
    subst hi20; exact (anc_no hdan (by kernel_rfl)).elim
   rw [if_neg hi20] at hT
   by_cases hi19 : iF = 19
   ·
    exact absurd hi19.symm hdd
   rw [if_neg hi19] at hT
   exact (setA_kept _ _ _).on h hT
  ·
   have h : (ChgV B [x] [x.d] (fun e => valid e = true ∧ e ∈ goneOf (fun y => decide (y.s = nam J)) (s.l i) ++ [s.nd i]) vF wF1) := h
   show (ChgV B [x] [x.d] (fun e => valid e = true ∧ e ∈ goneOf (fun y => decide (y.s = nam J)) (s.l i) ++ [s.nd i]) vF wF2)
   have hT : (fun i w w' => if i = 20 then (fun (w w' : World) => Kt 29 w w' ∧ ∃ g, w.grownBy w' (some g) ∧ W6.heap.size ≤ g) w w' else if i = 19 then (fun (w w' : World) => Kt 27 w w' ∧ ∃ g, w.grownBy w' (some g) ∧ W6.heap.size ≤ g) w w' else (fun (w w' : World) => RowKit.Below w.heap.size w w') w w') iF wF1 wF2 := hT
   simp only at hT
   by_cases hi20 : iF = 20
   ·
    exact absurd hi20.symm hdd
   rw [if_neg hi20] at hT
   by_cases hi19 : iF = 19
   ·
    rw [if_pos hi19] at hT
    exact chgV_kt h hT.1 (by decide) (by decide)
   rw [if_neg hi19] at hT
   exact (chgV_kept _ _ _ _).on h hT
  ·
   exact h
  ·
   have h : (∃ g, vF = .pointer (some ⟨g, 0, none⟩) ∧ wF1.heap[g]? = some (.cells #[.slice none 0 0, .slice none 0 0, .slice none 0 0] 27 (0, 0)) ∧ W6.heap.size ≤ g) := h
   show (∃ g, vF = .pointer (some ⟨g, 0, none⟩) ∧ wF2.heap[g]? = some (.cells #[.slice none 0 0, .slice none 0 0, .slice none 0 0] 27 (0, 0)) ∧ W6.heap.size ≤ g)
   have hT : (fun i w w' => if i = 20 then (fun (w w' : World) => Kt 29 w w' ∧ ∃ g, w.grownBy w' (some g) ∧ W6.heap.size ≤ g) w w' else if i = 19 then (fun (w w' : World) => Kt 27 w w' ∧ ∃ g, w.grownBy w' (some g) ∧ W6.heap.size ≤ g) w w' else (fun (w w' : World) => RowKit.Below w.heap.size w w') w w') iF wF1 wF2 := hT
   simp only at hT
   by_cases hi20 : iF = 20
   ·
    subst hi20; exact (anc_no hdan (by kernel_rfl)).elim
   rw [if_neg hi20] at hT
   by_cases hi19 : iF = 19
   ·
    exact absurd hi19.symm hdd
   rw [if_neg hi19] at hT
   obtain ⟨g, e, h1, h2⟩ := h
   exact ⟨g, e, (hT.block _ (lt_of_block h1)).trans h1, h2⟩
  ·
   have h : (∃ g, vF = .pointer (some ⟨g, 0, none⟩) ∧ wF1.heap[g]? = some (.cells #[.slice none 0 0, .slice none 0 0, .slice none 0 0, .slice none 0 0] 29 (0, 0)) ∧ W6.heap.size ≤ g) := h
   show (∃ g, vF = .pointer (some ⟨g, 0, none⟩) ∧ wF2.heap[g]? = some (.cells #[.slice none 0 0, .slice none 0 0, .slice none 0 0, .slice none 0 0] 29 (0, 0)) ∧ W6.heap.size ≤ g)
   have hT : (fun i w w' => if i = 20 then (fun (w w' : World) => Kt 29 w w' ∧ ∃ g, w.grownBy w' (some g) ∧ W6.heap.size ≤ g) w w' else if i = 19 then (fun (w w' : World) => Kt 27 w w' ∧ ∃ g, w.grownBy w' (some g) ∧ W6.heap.size ≤ g) w w' else (fun (w w' : World) => RowKit.Below w.heap.size w w') w w') iF wF1 wF2 := hT
   simp only at hT
   by_cases hi20 : iF = 20
   ·
    exact absurd hi20.symm hdd
   rw [if_neg hi20] at hT
   by_cases hi19 : iF = 19
   ·
    rw [if_pos hi19] at hT
    obtain ⟨g, e, h1, h2⟩ := h
    exact ⟨g, e, (hT.1.keep g (lt_of_block h1) (fun cur fr e2 => by rw [h1] at e2; simp only [Option.some.injEq, Obj.cells.injEq] at e2; exact absurd e2.2.1 (by decide))).trans h1, h2⟩
   rw [if_neg hi19] at hT
   obtain ⟨g, e, h1, h2⟩ := h
   exact ⟨g, e, (hT.block _ (lt_of_block h1)).trans h1, h2⟩
  iterate 3 exact h
 ·
  generalize hAF : fillOf _ _ _ = AF
  replace hAF := fun x => congrFun hAF x
  simp only [take_succ_cons, take_zero, fillOf, Act.put, setIfInBounds_toArray, set_cons_zero, set_cons_succ, Nat.reduceAdd, Nat.zero_add] at hAF
  refine .cons ?_ (.cons ?_ (.cons ?_ (.cons ?_ (.cons ?_ (.cons ?_ (.cons ?_ (.cons ?_ (.cons ?_ (.cons ?_ (.cons ?_ (.cons ?_ (.cons ?_ (.cons ?_ (.cons ?_ (.cons ?_ (.cons ?_ (.cons ?_ (.cons ?_ (.cons ?_ (.cons ?_ (.cons ?_ (.nil))))))))))))))))))))))
  all_goals
   intro xF v7 hR hg hd K hK
   first | simp only [← hAF, Act.put, setIfInBounds_toArray, set_cons_zero, set_cons_succ] at hK ⊢ | simp only [← hAF, Act.put] at hK ⊢
   clear hAF
   try simp only [Nat.zero_add, Nat.reduceAdd] at hK ⊢
  ·
   clear hg hd
   have y8 := (hR.block _ (lt_of_block R86.out)).trans R86.out
   have e0 := boxc y8 0 _ rfl
   have e1 := boxc y8 1 _ rfl
   have e2 := boxc y8 2 _ rfl
   rw [if_pos (by rfl)]
   go_simp
   exact hK.out _ _ (Below.refl _ _) (rfl) (fun _ _ _ => ⟨trivial, trivial⟩) (fun jF _ => by (show (if _ ∧ jF = 17 then _ else (if _ ∧ jF = 18 then _ else (True)))); rw [if_neg (fun hh => absurd hh.1 (by decide))]; rw [if_neg (fun hh => absurd hh.1 (by decide))]; trivial)
  ·
   clear hg hd
   rw [if_pos (by rfl)]
   go_simp
   exact hK.out _ _ (Below.refl _ _) (rfl) (fun _ _ _ => ⟨trivial, trivial⟩) (fun jF _ => by (show (if _ ∧ jF = 17 then _ else (if _ ∧ jF = 18 then _ else (True)))); rw [if_neg (fun hh => absurd hh.1 (by decide))]; rw [if_neg (fun hh => absurd hh.1 (by decide))]; trivial)
  ·
   clear hg hd
   rw [if_pos (by rfl)]
   go_simp
   exact hK.out _ _ (Below.refl _ _) (rfl) (fun _ _ _ => ⟨trivial, trivial⟩) (fun jF _ => by (show (if _ ∧ jF = 17 then _ else (if _ ∧ jF = 18 then _ else (True)))); rw [if_neg (fun hh => absurd hh.1 (by decide))]; rw [if_neg (fun hh => absurd hh.1 (by decide))]; trivial)
  ·
   clear hg hd
   rw [if_pos (by rfl)]
   go_simp
   exact hK.out _ _ (Below.refl _ _) (rfl) (fun _ _ _ => ⟨trivial, trivial⟩) (fun jF _ => by (show (if _ ∧ jF = 17 then _ else (if _ ∧ jF = 18 then _ else (True)))); rw [if_neg (fun hh => absurd hh.1 (by decide))]; rw [if_neg (fun hh => absurd hh.1 (by decide))]; trivial)
  ·
   clear hg hd
   rw [if_pos (by rfl)]
   go_simp
   exact hK.out _ _ (Below.refl _ _) (rfl) (fun _ _ _ => ⟨trivial, trivial⟩) (fun jF _ => by (show (if _ ∧ jF = 17 then _ else (if _ ∧ jF = 18 then _ else (True)))); rw [if_neg (fun hh => absurd hh.1 (by decide))]; rw [if_neg (fun hh => absurd hh.1 (by decide))]; trivial)
  ·
   clear hg
   have dd3 := hd 3 (by kernel_rfl)
   clear hd
   try generalize xF 3 = yy3 at *
   obtain rfl := dd3
   rw [if_pos (by rfl)]
   go_simp
   exact hK.out _ _ (Below.refl _ _) (rfl) (fun _ _ _ => ⟨trivial, trivial⟩) (fun jF _ => by (show (if _ ∧ jF = 17 then _ else (if _ ∧ jF = 18 then _ else (True)))); rw [if_neg (fun hh => absurd hh.1 (by decide))]; rw [if_neg (fun hh => absurd hh.1 (by decide))]; trivial)
  ·
   clear hg
   have dd5 := hd 5 (by kernel_rfl)
   clear hd
   try generalize xF 5 = yy5 at *
   obtain rfl := dd5
   rw [if_pos (by rfl)]
   go_simp
   exact hK.out _ _ (Below.refl _ _) (rfl) (fun _ _ _ => ⟨trivial, trivial⟩) (fun jF _ => by (show (if _ ∧ jF = 17 then _ else (if _ ∧ jF = 18 then _ else (True)))); rw [if_neg (fun hh => absurd hh.1 (by decide))]; rw [if_neg (fun hh => absurd hh.1 (by decide))]; trivial)
  ·
   clear hg
   have dd4 := hd 4 (by kernel_rfl)
   have dd6 := hd 6 (by kernel_rfl)
   clear hd
   try generalize xF 4 = yy4 at *
   try generalize xF 6 = yy6 at *
   obtain rfl := dd4
   obtain rfl := dd6
   rw [if_pos (by rfl)]
   go_simp
   exact hK.out _ _ (Below.refl _ _) (rfl) (fun _ _ _ => ⟨trivial, trivial⟩) (fun jF _ => by (show (if _ ∧ jF = 17 then _ else (if _ ∧ jF = 18 then _ else (True)))); rw [if_neg (fun hh => absurd hh.1 (by decide))]; rw [if_neg (fun hh => absurd hh.1 (by decide))]; trivial)
  ·
   clear hg
   have dd7 := hd 7 (by kernel_rfl)
   clear hd
   try generalize xF 7 = yy7 at *
   obtain rfl := dd7
   have k9 := (HB6.out.on hR).cell (j := 9 + i) (by omega)
   rw [HG69.out] at k9
   rw [if_pos (by rfl)]
   go_simp
   exact hK.out _ _ (Below.refl _ _) (rfl) (fun _ _ _ => ⟨trivial, trivial⟩) (fun jF _ => by (show (if _ ∧ jF = 17 then _ else (if _ ∧ jF = 18 then _ else (True)))); rw [if_neg (fun hh => absurd hh.1 (by decide))]; rw [if_neg (fun hh => absurd hh.1 (by decide))]; trivial)
  ·
   clear hg
   have dd2 := hd 2 (by kernel_rfl)
   have dd8 := hd 8 (by kernel_rfl)
   clear hd
   try generalize xF 2 = yy2 at *
   try generalize xF 8 = yy8 at *
   obtain rfl := dd2
   obtain rfl := dd8
   rw [if_pos (by rfl)]
   go_simp
   exact hK.out _ _ (Below.refl _ _) (rfl) (fun _ _ _ => ⟨trivial, trivial⟩) (fun jF _ => by (show (if _ ∧ jF = 17 then _ else (if _ ∧ jF = 18 then _ else (True)))); rw [if_neg (fun hh => absurd hh.1 (by decide))]; rw [if_neg (fun hh => absurd hh.1 (by decide))]; trivial)
  ·
   clear hg hd
   rw [if_pos (by rfl)]
   go_simp
   exact hK.out _ _ (Below.refl _ _) (rfl) (fun _ _ _ => ⟨trivial, trivial⟩) (fun jF _ => by (show (if _ ∧ jF = 17 then _ else (if _ ∧ jF = 18 then _ else (True)))); rw [if_neg (fun hh => absurd hh.1 (by decide))]; rw [if_neg (fun hh => absurd hh.1 (by decide))]; trivial)
  ·
   clear hg
   have dd1 := hd 1 (by kernel_rfl)
   have dd9 := hd 9 (by kernel_rfl)
   have dd10 := hd 10 (by kernel_rfl)
   clear hd
   try generalize xF 1 = yy1 at *
   try generalize xF 9 = yy9 at *
   try generalize xF 10 = yy10 at *
   obtain rfl := dd1
   obtain rfl := dd9
   obtain rfl := dd10
   rw [if_pos (by rfl)]
   go_simp
   exact hK.out _ _ (Below.refl _ _) (rfl) (fun _ _ _ => ⟨trivial, trivial⟩) (fun jF _ => by (show (if _ ∧ jF = 17 then _ else (if _ ∧ jF = 18 then _ else (True)))); rw [if_neg (fun hh => absurd hh.1 (by decide))]; rw [if_neg (fun hh => absurd hh.1 (by decide))]; trivial)
  ·
   clear hg
   have dd0 := hd 0 (by kernel_rfl)
   have dd11 := hd 11 (by kernel_rfl)
   clear hd
   try generalize xF 0 = yy0 at *
   try generalize xF 11 = yy11 at *
   obtain rfl := dd0
   obtain rfl := dd11
   rw [if_pos (by rfl)]
   go_simp
   (go_at_call 20; (with_reducible refine (HADD.out _ hR).mono ?_); rintro e wK ⟨vK, rfl, hpK, hbK⟩)
   try go_wp2_with fail
   exact hK.out _ _ (hbK) (hpK) (fun _ _ _ => ⟨trivial, trivial⟩) (fun jF _ => by (show (if _ ∧ jF = 17 then _ else (if _ ∧ jF = 18 then _ else (True)))); rw [if_neg (fun hh => absurd hh.1 (by decide))]; rw [if_neg (fun hh => absurd hh.1 (by decide))]; trivial)
  ·
   clear hg
   have dd12 : (TripV (SetA B ((staysOf (fun y => decide (y.s = nam J)) (s.l i)) ++ [x]) (fun e => dm.Knows (s.c i) e ∨ e = s.nd i)) (ChgV B [x] [x.d] (fun e => valid e = true ∧ e ∈ goneOf (fun y => decide (y.s = nam J)) (s.l i) ++ [s.nd i])) (xF 12) v7) := hd 12 (by kernel_rfl)
   clear hd
   try generalize xF 12 = yy12 at *
   have hp12 := dd12
   rw [if_pos (by rfl)]
   go_simp
   exact hK.out _ _ (Below.refl _ _) (hp12) (fun _ _ _ => ⟨trivial, trivial⟩) (fun jF _ => by (show (if _ ∧ jF = 17 then _ else (if _ ∧ jF = 18 then _ else (True)))); rw [if_neg (fun hh => absurd hh.1 (by decide))]; rw [if_neg (fun hh => absurd hh.1 (by decide))]; trivial)
  ·
   clear hg
   have dd13 : (TripV (SetA B ((staysOf (fun y => decide (y.s = nam J)) (s.l i)) ++ [x]) (fun e => dm.Knows (s.c i) e ∨ e = s.nd i)) (ChgV B [x] [x.d] (fun e => valid e = true ∧ e ∈ goneOf (fun y => decide (y.s = nam J)) (s.l i) ++ [s.nd i])) (xF 13) v7) := hd 13 (by kernel_rfl)
   clear hd
   try generalize xF 13 = yy13 at *
   have hp13 := dd13
   obtain ⟨s0, s1, rfl, hs0, hs1⟩ := hp13
   rw [if_pos (by rfl)]
   go_simp
   exact hK.out _ _ (Below.refl _ _) (hs0) (fun _ _ _ => ⟨trivial, trivial⟩) (fun jF _ => by (show (if _ ∧ jF = 17 then _ else (if _ ∧ jF = 18 then _ else (True)))); rw [if_neg (fun hh => absurd hh.1 (by decide))]; rw [if_neg (fun hh => absurd hh.1 (by decide))]; trivial)
  ·
   clear hg
   have dd13 : (TripV (SetA B ((staysOf (fun y => decide (y.s = nam J)) (s.l i)) ++ [x]) (fun e => dm.Knows (s.c i) e ∨ e = s.nd i)) (ChgV B [x] [x.d] (fun e => valid e = true ∧ e ∈ goneOf (fun y => decide (y.s = nam J)) (s.l i) ++ [s.nd i])) (xF 13) v7) := hd 13 (by kernel_rfl)
   clear hd
   try generalize xF 13 = yy13 at *
   have hp13 := dd13
   obtain ⟨s0, s1, rfl, hs0, hs1⟩ := hp13
   rw [if_pos (by rfl)]
   go_simp
   exact hK.out _ _ (Below.refl _ _) (hs1) (fun _ _ _ => ⟨trivial, trivial⟩) (fun jF _ => by (show (if _ ∧ jF = 17 then _ else (if _ ∧ jF = 18 then _ else (True)))); rw [if_neg (fun hh => absurd hh.1 (by decide))]; rw [if_neg (fun hh => absurd hh.1 (by decide))]; trivial)
  ·
   clear hg
   have dd13 : (TripV (SetA B ((staysOf (fun y => decide (y.s = nam J)) (s.l i)) ++ [x]) (fun e => dm.Knows (s.c i) e ∨ e = s.nd i)) (ChgV B [x] [x.d] (fun e => valid e = true ∧ e ∈ goneOf (fun y => decide (y.s = nam J)) (s.l i) ++ [s.nd i])) (xF 13) v7) := hd 13 (by kernel_rfl)
   clear hd
   try generalize xF 13 = yy13 at *
   have hp13 := dd13
   obtain ⟨s0, s1, rfl, hs0, hs1⟩ := hp13
   rw [if_pos (by rfl)]
   go_simp
   exact hK.out _ _ (Below.refl _ _) (rfl) (fun _ _ _ => ⟨trivial, trivial⟩) (fun jF _ => by (show (if _ ∧ jF = 17 then _ else (if _ ∧ jF = 18 then _ else (True)))); rw [if_neg (fun hh => absurd hh.1 (by decide))]; rw [if_neg (fun hh => absurd hh.1 (by decide))]; trivial)
  ·
   clear hg hd
   rw [if_pos (by rfl)]
   go_simp
   exact hK.out _ _ (below1) (⟨_, rfl, heap_alloc_new _ _, hR.size⟩) (fun _ _ _ => ⟨trivial, trivial⟩) (fun jF _ => by (show (if _ ∧ jF = 17 then _ else (if _ ∧ jF = 18 then _ else (True)))); rw [if_neg (fun hh => absurd hh.1 (by decide))]; rw [if_neg (fun hh => absurd hh.1 (by decide))]; trivial)
  ·
   clear hg hd
   rw [if_pos (by rfl)]
   go_simp
   exact hK.out _ _ (below1) (⟨_, rfl, heap_alloc_new _ _, hR.size⟩) (fun _ _ _ => ⟨trivial, trivial⟩) (fun jF _ => by (show (if _ ∧ jF = 17 then _ else (if _ ∧ jF = 18 then _ else (True)))); rw [if_neg (fun hh => absurd hh.1 (by decide))]; rw [if_neg (fun hh => absurd hh.1 (by decide))]; trivial)
  ·
   clear hg
   have dd14 : (SetA B ((staysOf (fun y => decide (y.s = nam J)) (s.l i)) ++ [x]) (fun e => dm.Knows (s.c i) e ∨ e = s.nd i) (xF 14) v7) := hd 14 (by kernel_rfl)
   have dd17 := hd 17 (by kernel_rfl)
   clear hd
   try generalize xF 14 = yy14 at *
   have hp14 := dd14
   obtain ⟨g17, he17, hg17, hl17⟩ := dd17
   simp only [he17] at hK ⊢
   have k0 := boxc hg17 0 _ rfl
   have k1 := boxc hg17 1 _ rfl
   have k2 := boxc hg17 2 _ rfl
   have q0 := boxf hg17 0
   have q1 := boxf hg17 1
   have q2 := boxf hg17 2
   have HG17 := Lib.hid hg17
   obtain ⟨l14, hl14, hu14, a0, n0, c0, a1, n1, c1, a2, n2, c2, cc0, rfl, hE0, hC0, hI0⟩ := hp14
   rw [if_pos (by rfl)]
   go_simp
   exact hK.out undef _ (⟨set3_kt HG17.out _ _ _, _, set3_grown _, hl17⟩) (trivial) (fun _ _ _ => ⟨trivial, trivial⟩) (fun jF _ => by (show (if _ ∧ jF = 17 then _ else (if _ ∧ jF = 18 then _ else True))); split; (rename_i hh; obtain ⟨_, rfl⟩ := hh; exact ⟨_, _, _, _, _, _, _, _, _, _, l14, cc0, he17, hl17, heap_setCell_same _ g17 2 _ _ _ (heap_setCell_same _ g17 1 _ _ _ (heap_setCell_same _ g17 0 _ _ _ HG17.out)), hl14, hu14, hE0.kt (set3_kt HG17.out _ _ _) (by decide), hC0.kt (set3_kt HG17.out _ _ _) (by decide), hI0⟩); (rw [if_neg (fun hh => absurd hh.1 (by decide))]; trivial))
  ·
   clear hg
   have dd15 : (ChgV B [x] [x.d] (fun e => valid e = true ∧ e ∈ goneOf (fun y => decide (y.s = nam J)) (s.l i) ++ [s.nd i]) (xF 15) v7) := hd 15 (by kernel_rfl)
   have dd18 := hd 18 (by kernel_rfl)
   clear hd
   try generalize xF 15 = yy15 at *
   have hp15 := dd15
   obtain ⟨g18, he18, hg18, hl18⟩ := dd18
   simp only [he18] at hK ⊢
   have k0 := boxc hg18 0 _ rfl
   have k1 := boxc hg18 1 _ rfl
   have k2 := boxc hg18 2 _ rfl
   have k3 := boxc hg18 3 _ rfl
   have q0 := boxf hg18 0
   have q1 := boxf hg18 1
   have q2 := boxf hg18 2
   have q3 := boxf hg18 3
   have HG18 := Lib.hid hg18
   obtain ⟨a3, n3, c3, a4, n4, c4, a5, n5, c5, a6, n6, c6, dc, rfl, hE3, hA3, hC3, hI3⟩ := hp15
   rw [if_pos (by rfl)]
   go_simp
   exact hK.out undef _ (⟨set4_kt HG18.out _ _ _ _, _, set4_grown _, hl18⟩) (trivial) (fun _ _ _ => ⟨trivial, trivial⟩) (fun jF _ => by (show (if _ ∧ jF = 17 then _ else (if _ ∧ jF = 18 then _ else True))); rw [if_neg (fun hh => absurd hh.1 (by decide))]; split; (rename_i hh; obtain ⟨_, rfl⟩ := hh; exact ⟨_, _, _, _, _, _, _, _, _, _, _, _, _, dc, he18, hl18, heap_setCell_same _ g18 3 _ _ _ (heap_setCell_same _ g18 2 _ _ _ (heap_setCell_same _ g18 1 _ _ _ (heap_setCell_same _ g18 0 _ _ _ HG18.out))), hE3.kt (set4_kt HG18.out _ _ _ _) (by decide), hA3.kt (set4_kt HG18.out _ _ _ _) (by decide), hC3.kt (set4_kt HG18.out _ _ _ _) (by decide), hI3⟩); trivial)
  ·
   clear hg
   have dd16 := hd 16 (by kernel_rfl)
   clear hd
   try generalize xF 16 = yy16 at *
   obtain rfl := dd16
   rw [if_pos (by rfl)]
   go_simp
   exact hK.out _ _ (Below.refl _ _) (rfl) (fun _ _ _ => ⟨trivial, trivial⟩) (fun jF _ => by (show (if _ ∧ jF = 17 then _ else (if _ ∧ jF = 18 then _ else (True)))); rw [if_neg (fun hh => absurd hh.1 (by decide))]; rw [if_neg (fun hh => absurd hh.1 (by decide))]; trivial)
 intro xF v7 hR hF hP hW2
 have hpw0 := hW2 19 (by omega) 17 (by decide)
 rw [if_pos ⟨rfl, rfl⟩] at hpw0
 have hpw1 := hW2 20 (by omega) 18 (by decide)
 rw [if_neg (by intro hh; omega)] at hpw1
 rw [if_pos ⟨rfl, rfl⟩] at hpw1
 clear hW2
 clear hP
 have dd0 := hF 0 (by omega) (by decide)
 have dd1 := hF 1 (by omega) (by decide)
 have dd2 := hF 2 (by omega) (by decide)
 have dd3 := hF 3 (by omega) (by decide)
 have dd4 := hF 4 (by omega) (by decide)
 have dd5 := hF 5 (by omega) (by decide)
 have dd6 := hF 6 (by omega) (by decide)
 have dd7 := hF 7 (by omega) (by decide)
 have dd8 := hF 8 (by omega) (by decide)
 have dd9 := hF 9 (by omega) (by decide)
 have dd10 := hF 10 (by omega) (by decide)
 have dd11 := hF 11 (by omega) (by decide)
 have dd12 : (TripV (SetA B ((staysOf (fun y => decide (y.s = nam J)) (s.l i)) ++ [x]) (fun e => dm.Knows (s.c i) e ∨ e = s.nd i)) (ChgV B [x] [x.d] (fun e => valid e = true ∧ e ∈ goneOf (fun y => decide (y.s = nam J)) (s.l i) ++ [s.nd i])) (xF 12) v7) := hF 12 (by omega) (by decide)
 have dd13 : (TripV (SetA B ((staysOf (fun y => decide (y.s = nam J)) (s.l i)) ++ [x]) (fun e => dm.Knows (s.c i) e ∨ e = s.nd i)) (ChgV B [x] [x.d] (fun e => valid e = true ∧ e ∈ goneOf (fun y => decide (y.s = nam J)) (s.l i) ++ [s.nd i])) (xF 13) v7) := hF 13 (by omega) (by decide)
 have dd16 := hF 16 (by omega) (by decide)
 have dd19 : (True) := hF 19 (by omega) (by decide)
 have dd20 : (True) := hF 20 (by omega) (by decide)
 have dd21 := hF 21 (by omega) (by decide)
 clear hF
 simp only [take_succ_cons, take_zero, drop_succ_cons, drop_zero, fillOf, Act.put, setIfInBounds_toArray, set_cons_zero, set_cons_succ, Nat.reduceAdd, Nat.zero_add]
 try generalize xF 0 = yy0 at *
 try generalize xF 1 = yy1 at *
 try generalize xF 2 = yy2 at *
 try generalize xF 3 = yy3 at *
 try generalize xF 4 = yy4 at *
 try generalize xF 5 = yy5 at *
 try generalize xF 6 = yy6 at *
 try generalize xF 7 = yy7 at *
 try generalize xF 8 = yy8 at *
 try generalize xF 9 = yy9 at *
 try generalize xF 10 = yy10 at *
 try generalize xF 11 = yy11 at *
 try generalize xF 12 = yy12 at *
 try generalize xF 13 = yy13 at *
 try generalize xF 14 = yy14 at *
 try generalize xF 15 = yy15 at *
 try generalize xF 16 = yy16 at *
 try generalize xF 17 = yy17 at *
 try generalize xF 18 = yy18 at *
 try generalize xF 19 = yy19 at *
 try generalize xF 20 = yy20 at *
 try generalize xF 21 = yy21 at *
 clear xF
 obtain rfl := dd0
 obtain rfl := dd1
 obtain rfl := dd2
 obtain rfl := dd3
 obtain rfl := dd4
 obtain rfl := dd5
 obtain rfl := dd6
 obtain rfl := dd7
 obtain rfl := dd8
 obtain rfl := dd9
 obtain rfl := dd10
 obtain rfl := dd11
 have hp12 := dd12
 have hp13 := dd13
 obtain rfl := dd16
 have _ := dd19
 have _ := dd20
 obtain rfl := dd21
 have hRE := Lib.hid hR
 clear hR
 obtain ⟨gA, a0, n0, c0, a1, n1, c1, a2, n2, c2, l1, cc0, rfl, hzA, hgA, hl1, hu1, hE0, hC0, m5, hI5⟩ := hpw0
 obtain ⟨gB, a3, n3, c3, a4, n4, c4, a5, n5, c5, a6, n6, c6, dc, rfl, hzB, hgB, hE3, hA3, hC3, m9, hI9⟩ := hpw1
 have exd : x.d = s.nd i := by rw [HXE.out]
 rw [← exd] at hI5 hI9
 have hfx : os.Fine x := by rw [HXE.out]; exact nam_fine (HINV.out.nd_valid hi3 (by omega)) (by omega) (by omega)
 have hfr : ¬ dm.Knows (s.c i) x.d := by rw [HXE.out]; exact HINV.out.fresh hi3
 have hvd : valid x.d = true := hfx.ok
 have HINN := Lib.hid (inv_add HINV.out hi3 (by omega) hfx exd hl1 hu1 hI5 hI9)
 have HRDL : Hid (RDel [x] [x.d] dc) := rdel_add hfx hI9
 have HTO : Hid (∀ d ∈ [x.d], d ∈ [x].map Ent.d ∨ dm.Knows (s.c i) d) := told_add x _
 have HCD : Hid (dc.2.length ≤ 1000) := Nat.le_trans (chg_cloud HINN.out) (by omega)
 have HEQ : Hid (∀ L' c' m', L'.Perm (staysOf (deadF [x.d] dc) (s.l i) ++ newOf (s.c i) [x]) → os.Up L' → dm.Is c' (fun e => dm.Knows (s.c i) e ∨ dm.Knows dc e) m' → L' = l1 ∧ c' = cc0) := fun L' c' m' h1 h2 h3 =>
  ⟨(home_add (HINV.out.set i hi3) hfr hl1 hu1 hI9 h1 h2).symm, (home_ctx (HINV.out.set i hi3) hvd hI9 hI5 h3).symm⟩
 have HB8 : Hid (Box16 v7 q g6) := HB6.out.on hRE
 have HP8 := Lib.hid (HP6.out.on hRE)
 have HL8 : Hid (Below B w v7) := HL6.out.trans (hRE.mono (Nat.le_trans hB (Nat.le_of_lt HB6.out.lt)))
 have R88 := Lib.hid ((hRE.block _ (lt_of_block R86.out)).trans R86.out)
 have R98 := Lib.hid ((hRE.block _ (lt_of_block R96.out)).trans R96.out)
 have R08 := Lib.hid ((hRE.block _ (lt_of_block R06.out)).trans R06.out)
 have RA := Lib.hid hgA
 have RB := Lib.hid hgB
 have HAB : Hid (q < gA ∧ q < gB) := ⟨by have := HB6.out.lt; omega, by have := HB6.out.lt; omega⟩
 have HE0' := Lib.hid hE0
 have HC0' := Lib.hid hC0
 have HDLV : Hid (DltO B v7 [.slice a3 n3 c3, .slice a4 n4 c4, .slice a5 n5 c5, .slice a6 n6 c6] ⟨[x], [x.d], dc⟩) := ⟨_, _, _, _, rfl, hE3, hA3, hC3⟩
 clear hzA hgA hl1 hu1 hE0 hC0 hI5 hzB hgB hE3 hA3 hC3 hI9 exd hfx hfr hvd hRE
 go_wp2_with fail
 refine wp_flowG 8 (fun _ => 1000) (fun ww => v7.grownBy ww (some q)) (fun i w w' => if i = 7 then (fun (w w' : World) => Kt 43 w w' ∧ w.grownBy w' (some q)) w w' else (fun (w w' : World) => RowKit.Below w.heap.size w w') w w') (fun sF wF => match sF with | 7 => (Box16 wF q g6) | _ => True) (fun kF vF wF => match kF with | 0 => (vF = .pointer (some ⟨q, 0, none⟩)) | 1 => (vF = .int .i64 (i : Int)) | 2 => (vF = .agg #[.slice a0 n0 c0, .slice a1 n1 c1, .slice a2 n2 c2]) | 3 => (vF = .agg #[.slice a3 n3 c3, .slice a4 n4 c4, .slice a5 n5 c5, .slice a6 n6 c6]) | 4 => (vF = .pointer (some ⟨q, 0, none⟩)) | 5 => (vF = .pointer (some ⟨q, 0, none⟩)) | 6 => (vF = .pointer (some ⟨q, i * 3, none⟩)) | 7 => (Box16 wF q (upd (upd (upd g6 (i * 3) (.slice a0 n0 c0)) (i * 3 + 1) (.slice a1 n1 c1)) (i * 3 + 2) (.slice a2 n2 c2))) | _ => True) (fun _ _ _ _ => True) (by kernel_rfl) (by kernel_rfl) ?_ ?_ ?_ ?_ ?_ ?_ ?_
 ·
  exact grown_below' ((Below.refl _ _).drew)
 ·
  intro sF hsF
  rcases (by omega : sF = 0 ∨ sF = 1 ∨ sF = 2 ∨ sF = 3 ∨ sF = 4 ∨ sF = 5 ∨ sF = 6 ∨ sF = 7) with rfl | rfl | rfl | rfl | rfl | rfl | rfl | rfl
  iterate 7 exact trivial
  ·
   exact HB8.out.on ((Below.refl _ _).drew)
 ·
  intro iF wF1 wF2 hR hT
  have hT : (fun i w w' => if i = 7 then (fun (w w' : World) => Kt 43 w w' ∧ w.grownBy w' (some q)) w w' else (fun (w w' : World) => RowKit.Below w.heap.size w w') w w') iF wF1 wF2 := hT
  simp only at hT
  by_cases hi7 : iF = 7
  ·
   rw [if_pos hi7] at hT; exact grown_trans hR hT.2
  rw [if_neg hi7] at hT
  exact grown_trans hR (grown_below' hT)
 ·
  intro sF hsF iF hiF hne hanc wF1 wF2 hRF hgF hT
  rcases (by omega : sF = 0 ∨ sF = 1 ∨ sF = 2 ∨ sF = 3 ∨ sF = 4 ∨ sF = 5 ∨ sF = 6 ∨ sF = 7) with rfl | rfl | rfl | rfl | rfl | rfl | rfl | rfl
  iterate 7 exact trivial
  ·
   have hg : (Box16 wF1 q g6) := hgF
   show (Box16 wF2 q g6)
   have hT : (fun i w w' => if i = 7 then (fun (w w' : World) => Kt 43 w w' ∧ w.grownBy w' (some q)) w w' else (fun (w w' : World) => RowKit.Below w.heap.size w w') w w') iF wF1 wF2 := hT
   simp only at hT
   by_cases hi7 : iF = 7
   ·
    exact absurd hi7.symm hne
   rw [if_neg hi7] at hT
   exact hg.on hT
 ·
  intro kF hkF iF hiF hne hdd hanc hdan vF wF1 wF2 h hT
  rcases (by omega : kF = 0 ∨ kF = 1 ∨ kF = 2 ∨ kF = 3 ∨ kF = 4 ∨ kF = 5 ∨ kF = 6 ∨ kF = 7) with rfl | rfl | rfl | rfl | rfl | rfl | rfl | rfl
  iterate 7 exact h
  ·
   have h : (Box16 wF1 q (upd (upd (upd g6 (i * 3) (.slice a0 n0 c0)) (i * 3 + 1) (.slice a1 n1 c1)) (i * 3 + 2) (.slice a2 n2 c2))) := h
   show (Box16 wF2 q (upd (upd (upd g6 (i * 3) (.slice a0 n0 c0)) (i * 3 + 1) (.slice a1 n1 c1)) (i * 3 + 2) (.slice a2 n2 c2)))
   have hT : (fun i w w' => if i = 7 then (fun (w w' : World) => Kt 43 w w' ∧ w.grownBy w' (some q)) w w' else (fun (w w' : World) => RowKit.Below w.heap.size w w') w w') iF wF1 wF2 := hT
   simp only at hT
   by_cases hi7 : iF = 7
   ·
    exact absurd hi7.symm hne
   rw [if_neg hi7] at hT
   exact h.on hT
 ·
  generalize hAF : fillOf _ _ _ = AF
  replace hAF := fun x => congrFun hAF x
  simp only [take_succ_cons, take_zero, fillOf, Act.put, setIfInBounds_toArray, set_cons_zero, set_cons_succ, Nat.reduceAdd, Nat.zero_add] at hAF
  refine .cons ?_ (.cons ?_ (.cons ?_ (.cons ?_ (.cons ?_ (.cons ?_ (.cons ?_ (.cons ?_ (.nil))))))))
  all_goals
   intro xF v9 hR hg hd K hK
   first | simp only [← hAF, Act.put, setIfInBounds_toArray, set_cons_zero, set_cons_succ] at hK ⊢ | simp only [← hAF, Act.put] at hK ⊢
   clear hAF
   try simp only [Nat.zero_add, Nat.reduceAdd] at hK ⊢
  ·
   clear hg hd
   rw [if_pos (by rfl)]
   go_simp
   exact hK.out _ _ (Below.refl _ _) (rfl) (fun _ _ _ => ⟨trivial, trivial⟩)
  ·
   clear hg hd
   rw [if_pos (by rfl)]
   go_simp
   exact hK.out _ _ (Below.refl _ _) (rfl) (fun _ _ _ => ⟨trivial, trivial⟩)
  ·
   clear hg hd
   have yA := (hR.block _ (lt_of_block RA.out) (fun e => by have := Option.some.inj e; have := HAB.out; omega)).trans RA.out
   have e0 := boxc yA 0 _ rfl
   have e1 := boxc yA 1 _ rfl
   have e2 := boxc yA 2 _ rfl
   rw [if_pos (by rfl)]
   go_simp
   exact hK.out _ _ (Below.refl _ _) (rfl) (fun _ _ _ => ⟨trivial, trivial⟩)
  ·
   clear hg hd
   have yB := (hR.block _ (lt_of_block RB.out) (fun e => by have := Option.some.inj e; have := HAB.out; omega)).trans RB.out
   have e0 := boxc yB 0 _ rfl
   have e1 := boxc yB 1 _ rfl
   have e2 := boxc yB 2 _ rfl
   have e3 := boxc yB 3 _ rfl
   rw [if_pos (by rfl)]
   go_simp
   exact hK.out _ _ (Below.refl _ _) (rfl) (fun _ _ _ => ⟨trivial, trivial⟩)
  ·
   clear hg
   have dd0 := hd 0 (by kernel_rfl)
   clear hd
   try generalize xF 0 = yy0 at *
   obtain rfl := dd0
   rw [if_pos (by rfl)]
   go_simp
   exact hK.out _ _ (Below.refl _ _) (rfl) (fun _ _ _ => ⟨trivial, trivial⟩)
  ·
   clear hg
   have dd4 := hd 4 (by kernel_rfl)
   clear hd
   try generalize xF 4 = yy4 at *
   obtain rfl := dd4
   rw [if_pos (by rfl)]
   go_simp
   exact hK.out _ _ (Below.refl _ _) (rfl) (fun _ _ _ => ⟨trivial, trivial⟩)
  ·
   clear hg
   have dd1 := hd 1 (by kernel_rfl)
   have dd5 := hd 5 (by kernel_rfl)
   clear hd
   try generalize xF 1 = yy1 at *
   try generalize xF 5 = yy5 at *
   obtain rfl := dd1
   obtain rfl := dd5
   rw [if_pos (by rfl)]
   go_simp
   exact hK.out _ _ (Below.refl _ _) (rfl) (fun _ _ _ => ⟨trivial, trivial⟩)
  ·
   have gg7 : (Box16 v9 q g6) := hg 7 (by omega) (by decide)
   clear hg
   have dd2 := hd 2 (by kernel_rfl)
   have dd6 := hd 6 (by kernel_rfl)
   clear hd
   try generalize xF 2 = yy2 at *
   try generalize xF 6 = yy6 at *
   obtain rfl := dd2
   obtain rfl := dd6
   have k0 := gg7.cell (j := i * 3) (by omega)
   have k1 := gg7.cell (j := i * 3 + 1) (by omega)
   have k2 := gg7.cell (j := i * 3 + 2) (by omega)
   rw [HG6.out.1] at k0
   rw [HG6.out.2.1] at k1
   rw [HG6.out.2.2] at k2
   have q0 := gg7.fro (i * 3)
   have q1 := gg7.fro (i * 3 + 1)
   have q2 := gg7.fro (i * 3 + 2)
   rw [if_pos (by rfl)]
   go_simp
   exact hK.out undef _ (⟨kt3 gg7 _ _ _ _ _ _, grown3 _ _ _ _ _ _⟩) (((gg7.set (by omega) _).set (by omega) _).set (by omega) _) (fun _ _ _ => ⟨trivial, trivial⟩)
 intro xF v9 hR hF hP
 clear hP
 have dd0 := hF 0 (by omega) (by decide)
 have dd1 := hF 1 (by omega) (by decide)
 have dd2 := hF 2 (by omega) (by decide)
 have dd3 := hF 3 (by omega) (by decide)
 have dd4 := hF 4 (by omega) (by decide)
 have dd5 := hF 5 (by omega) (by decide)
 have dd6 := hF 6 (by omega) (by decide)
 have dd7 : (Box16 v9 q (upd (upd (upd g6 (i * 3) (.slice a0 n0 c0)) (i * 3 + 1) (.slice a1 n1 c1)) (i * 3 + 2) (.slice a2 n2 c2))) := hF 7 (by omega) (by decide)
 clear hF
 simp only [take_succ_cons, take_zero, drop_succ_cons, drop_zero, fillOf, Act.put, setIfInBounds_toArray, set_cons_zero, set_cons_succ, Nat.reduceAdd, Nat.zero_add]
 try generalize xF 0 = yy0 at *
 try generalize xF 1 = yy1 at *
 try generalize xF 2 = yy2 at *
 try generalize xF 3 = yy3 at *
 try generalize xF 4 = yy4 at *
 try generalize xF 5 = yy5 at *
 try generalize xF 6 = yy6 at *
 try generalize xF 7 = yy7 at *
 clear xF
 obtain rfl := dd0
 obtain rfl := dd1
 obtain rfl := dd2
 obtain rfl := dd3
 obtain rfl := dd4
 obtain rfl := dd5
 obtain rfl := dd6
 have hp7 := dd7
 have hRE := Lib.hid hR
 clear hR
 have hk9 : Kt 43 v7 v9 := HB8.out.ktg hRE
 have hpn := (HP8.out.kt hk9 (by decide) (by decide) (by decide) (by decide))
 have hEo := hpn.ent i hi3
 have hCo := hpn.ctx i hi3
 rw [HG6.out.1] at hEo
 rw [HG6.out.2.1, HG6.out.2.2] at hCo
 have hpt := hpn.put hi3 (HE0'.out.kt hk9 (by decide)) (HC0'.out.kt hk9 (by decide))
 have hdl := HDLV.out.kt hk9 (by decide) (by decide)
 obtain ⟨gT, hgT⟩ : ∃ f, f = upd (upd (upd g6 (i * 3) (.slice a0 n0 c0)) (i * 3 + 1) (.slice a1 n1 c1)) (i * 3 + 2) (.slice a2 n2 c2) := ⟨_, rfl⟩
 have hb9 := hp7
 rw [← hgT] at hb9 hpt
 have keep9 : ∀ {b : Nat} {o : Obj}, b ≠ q → v7.heap[b]? = some o → v9.heap[b]? = some o := fun {b o} hne h => (hRE.block _ (heap_lt_of h) (fun e => hne (Option.some.inj e))).trans h
 have y9 := keep9 (by have := HQ8.out; omega) R98.out
 have y8 := keep9 (by have := HQ8.out; omega) R88.out
 have y0 := keep9 (by have := lt_of_block X0.out; have := HQL.out; have := HE0.out; omega) R08.out
 obtain ⟨W7, hW7⟩ : ∃ W, W = (((v9.setCell ⟨b9, 0, none⟩ (.slice a3 n3 c3)).setCell ⟨b9, 1, none⟩ (.slice a4 n4 c4)).setCell ⟨b9, 2, none⟩ (.slice a5 n5 c5)).setCell ⟨b9, 3, none⟩ (.slice a6 n6 c6) := ⟨_, rfl⟩
 have hg7 : v9.grownBy W7 (some b9) := by rw [hW7]; exact set4_grown _
 have hk7 : Kt 29 v9 W7 := Kt.of_grown hg7 y9
 have hd9 : (gT 12).ownBlock ≠ some b9 := by
  rw [hgT, upd_other _ _ (by omega), upd_other _ _ (by omega), upd_other _ _ (by omega), HG612.out]
  exact HD9.out
 have HB7 : Hid (Box16 W7 q gT) := hb9.far hg7 (fun e => by have := Option.some.inj e; have := HQ8.out; omega)
 have HP7 := Lib.hid (hpt.far hg7 y9 hd9)
 have hl9 : Below B v7 v9 := (Below.refl B v7).grown hRE (Nat.le_trans hB (Nat.le_of_lt HB8.out.lt)) (fun j hj => by cases hj; exact hB)
 have HL7 : Hid (Below B w W7) := (HL8.out.trans hl9).trans ((Below.refl B v9).grown hg7 (Nat.le_trans hB (Nat.le_of_lt hb9.lt)) (fun j hj => by cases hj; have := HQ8.out; omega))
 have R87 := Lib.hid ((hg7.block _ (lt_of_block y8) (fun e => by have := Option.some.inj e; have := HQ8.out; omega)).trans y8)
 have R97 : Hid (W7.heap[b9]? = some (.cells #[.slice a3 n3 c3, .slice a4 n4 c4, .slice a5 n5 c5, .slice a6 n6 c6] 29 (0, 0))) := by
  show _ = _
  rw [hW7]
  exact heap_setCell_same _ b9 3 _ _ _ (heap_setCell_same _ b9 2 _ _ _ (heap_setCell_same _ b9 1 _ _ _ (heap_setCell_same _ b9 0 _ _ _ y9)))
 have k0 : W7.cell? ⟨b0, 0, none⟩ = some (.int .i64 oK) := boxc ((hg7.block _ (lt_of_block y0) (fun e => by have := Option.some.inj e; have := HQ8.out; omega)).trans y0) 0 _ rfl
 have HD7 := Lib.hid hd9
 have HEO7 : Hid (EntO B W7 (.slice ae ne ce) (s.l i)) := EntO.kt hEo hk7 (by decide)
 have HCO7 : Hid (OwnC B W7 (.agg #[.slice av nv cv, .slice ac nc cc]) (s.c i)) := OwnC.kt hCo hk7 (by decide)
 have HDL7 : Hid (DltO B W7 [.slice a3 n3 c3, .slice a4 n4 c4, .slice a5 n5 c5, .slice a6 n6 c6] ⟨[x], [x.d], dc⟩) := hdl.kt hk7 (by decide) (by decide)
 have HGN : Hid (gT (i * 3) = .slice a0 n0 c0 ∧ gT (i * 3 + 1) = .slice a1 n1 c1 ∧ gT (i * 3 + 2) = .slice a2 n2 c2) := by
  refine ⟨?_, ?_, ?_⟩
  ·
   rw [hgT, upd_other _ _ (by omega), upd_other _ _ (by omega), upd_same]
  ·
   rw [hgT, upd_other _ _ (by omega), upd_same]
  ·
   rw [hgT, upd_same]
 have z0 := boxc y9 0 _ rfl
 have z1 := boxc y9 1 _ rfl
 have z2 := boxc y9 2 _ rfl
 have z3 := boxc y9 3 _ rfl
 have fz0 := boxf y9 0
 have fz1 := boxf y9 1
 have fz2 := boxf y9 2
 have fz3 := boxf y9 3
 have HW7 := Lib.hid hW7
 rw [hW7] at k0
 obtain ⟨nC, hnC⟩ : ∃ n, n = s.C.length := ⟨_, rfl⟩
 obtain ⟨aC, cC, hgC⟩ : ∃ a c, gT 12 = .slice a nC c := by
  obtain ⟨a, c, e⟩ := HP7.out.chg.len
  exact ⟨a, c, by rw [e, hnC]⟩
 have hC60 : nC ≤ 60 := by rw [hnC]; have := HINV.out.many; omega
 have c12 := HB7.out.cell (j := 12) (by omega)
 rw [hgC] at c12
 rw [HW7.out] at c12
 have HNC := Lib.hid hnC
 have HGCT := Lib.hid hgC
 have HAP := Lib.hid (applies_any B q nC i nC gT s.has W7 HB7.out HP7.out.hin (fun j hj => by rw [hnC]; exact HINV.out.hasl j hj) hi3 (by omega) (by omega) hB)
 clear hnC hgC hgT hk9 hpn hEo hCo hpt hdl hb9 hp7 keep9 y9 y8 y0 hW7 hg7 hk7 hd9 hl9 hRE
 go_wp2_with fail
 rw [← HW7.out]
 (with_reducible refine HAP.out.mono ?_)
 rintro e w8 ⟨rfl, g8, hb8, hg8, hh8, hk8, hl8⟩
 have hp8 := HP7.out.hset hk8 hg8 hh8
 have hgc8 : g8 12 = .slice aC nC cC := (hg8 12 (by omega)).trans HGCT.out
 have HB8X := Lib.hid hb8
 have HEO8 : Hid (EntO B w8 (.slice ae ne ce) (s.l i)) := HEO7.out.kb hk8
 have HCO8 : Hid (OwnC B w8 (.agg #[.slice av nv cv, .slice ac nc cc]) (s.c i)) := HCO7.out.kb hk8
 have HDL8 : Hid (DltO B w8 [.slice a3 n3 c3, .slice a4 n4 c4, .slice a5 n5 c5, .slice a6 n6 c6] ⟨[x], [x.d], dc⟩) := HDL7.out.kb hk8
 have R88 := Lib.hid (hk8.box R87.out (by decide) (by decide))
 have R98 := Lib.hid (hk8.box R97.out (by decide) (by decide))
 have HL8 := Lib.hid (HL7.out.trans hl8)
 obtain ⟨D, hD0, hD1, hD2⟩ := id hp8.chg
 have HO8 : Hid (w8.ownsRow B 29 4 (.slice aC nC cC) nC D.flatten) := by
  show World.ownsRow _ _ _ _ _ _ _
  rw [← hgc8, HNC.out]; exact hD2
 have HDL0 : Hid (D.length = s.C.length) := hD0
 have HDL1 := Lib.hid hD1
 have HP8 := Lib.hid hp8
 have HGC8 := Lib.hid hgc8
 have HG8E := Lib.hid hg8
 have HBR8 : Hid (B ≤ w8.heap.size) := Nat.le_trans hB (Nat.le_of_lt hb8.lt)
 have HGK : Hid (∀ b, (Value.slice aC nC cC).ownBlock = some b → B ≤ b ∧ b < w8.heap.size) := fun b hb => HO8.out.lt b hb
 have HNQ8 : Hid (some q ≠ (Value.slice aC nC cC).ownBlock) := box_noD hb8 HO8.out
 have HN98 : Hid (some b9 ≠ (Value.slice aC nC cC).ownBlock) := fun e => HD7.out (by rw [HGCT.out]; exact e.symm)
 have HN88 : Hid (some b8 ≠ (Value.slice aC nC cC).ownBlock) := kinds_ne R88.out HO8.out (by decide)
 have HBC : Hid (∀ ww, w8.grownBy ww (Value.slice aC nC cC).ownBlock → Box16 ww q g8) := fun ww hw => HB8X.out.far hw HNQ8.out
 have HR9 : Hid (∀ ww, w8.grownBy ww (Value.slice aC nC cC).ownBlock → ww.heap[b9]? = some (.cells #[.slice a3 n3 c3, .slice a4 n4 c4, .slice a5 n5 c5, .slice a6 n6 c6] 29 (0, 0))) := fun ww hw => (hw.block _ (lt_of_block R98.out) HN98.out).trans R98.out
 clear hb8 hg8 hh8 hk8 hl8 hp8 hgc8 hD0 hD1 hD2 HAP c12
 go_wp2_with fail
 refine wp_flowG 10 (fun kF => match kF with | 6 => 7 | _ => 1000) (fun ww => w8.grownBy ww (Value.slice aC nC cC).ownBlock) (fun i w w' => if i = 7 then (fun (w w' : World) => w.grownBy w' (Value.slice aC nC cC).ownBlock) w w' else (fun (w w' : World) => RowKit.Below w.heap.size w w') w w') (fun sF wF => match sF with | 7 => (wF.ownsRow B 29 4 (.slice aC nC cC) nC D.flatten) | _ => True) (fun kF vF wF => match kF with | 0 => (vF = .pointer (some ⟨q, 0, none⟩)) | 1 => (vF = .pointer (some ⟨q, 0, none⟩)) | 2 => (vF = .pointer (some ⟨q, 0, none⟩)) | 3 => (vF = .pointer (some ⟨q, 12, none⟩)) | 4 => (vF = .slice aC nC cC) | 5 => (vF = .agg #[.slice a3 n3 c3, .slice a4 n4 c4, .slice a5 n5 c5, .slice a6 n6 c6]) | 6 => (∃ g, vF = .slice (some ⟨g, 0, none⟩) 1 1 ∧ wF.heap[g]? = some (.cells #[.slice a3 n3 c3, .slice a4 n4 c4, .slice a5 n5 c5, .slice a6 n6 c6] 29 (0, 0)) ∧ w8.heap.size ≤ g) | 7 => (∃ v, vF = v ∧ wF.ownsRow B 29 4 v (nC + 1) (D.flatten ++ [.slice a3 n3 c3, .slice a4 n4 c4, .slice a5 n5 c5, .slice a6 n6 c6])) | 8 => (vF = .pointer (some ⟨q, 0, none⟩)) | 9 => (vF = .pointer (some ⟨q, 12, none⟩)) | _ => True) (fun _ _ _ _ => True) (by kernel_rfl) (by kernel_rfl) ?_ ?_ ?_ ?_ ?_ ?_ ?_
 ·
  exact grown_below' ((Below.refl _ _).drew)
 ·
  intro sF hsF
  rcases (by omega : sF = 0 ∨ sF = 1 ∨ sF = 2 ∨ sF = 3 ∨ sF = 4 ∨ sF = 5 ∨ sF = 6 ∨ sF = 7 ∨ sF = 8 ∨ sF = 9) with rfl | rfl | rfl | rfl | rfl | rfl | rfl | rfl | rfl | rfl
  iterate 7 exact trivial
  ·
   exact own_stay HO8.out ((Below.refl _ _).drew)
  iterate 2 exact trivial
 ·
  intro iF wF1 wF2 hR hT
  have hT : (fun i w w' => if i = 7 then (fun (w w' : World) => w.grownBy w' (Value.slice aC nC cC).ownBlock) w w' else (fun (w w' : World) => RowKit.Below w.heap.size w w') w w') iF wF1 wF2 := hT
  simp only at hT
  by_cases hi7 : iF = 7
  ·
   rw [if_pos hi7] at hT; exact grown_trans hR hT
  rw [if_neg hi7] at hT
  exact grown_trans hR (grown_below' hT)
 ·
  intro sF hsF iF hiF hne hanc wF1 wF2 hRF hgF hT
  rcases (by omega : sF = 0 ∨ sF = 1 ∨ sF = 2 ∨ sF = 3 ∨ sF = 4 ∨ sF = 5 ∨ sF = 6 ∨ sF = 7 ∨ sF = 8 ∨ sF = 9) with rfl | rfl | rfl | rfl | rfl | rfl | rfl | rfl | rfl | rfl
  iterate 7 exact trivial
  ·
   have hg : (wF1.ownsRow B 29 4 (.slice aC nC cC) nC D.flatten) := hgF
   show (wF2.ownsRow B 29 4 (.slice aC nC cC) nC D.flatten)
   have hT : (fun i w w' => if i = 7 then (fun (w w' : World) => w.grownBy w' (Value.slice aC nC cC).ownBlock) w w' else (fun (w w' : World) => RowKit.Below w.heap.size w w') w w') iF wF1 wF2 := hT
   simp only at hT
   by_cases hi7 : iF = 7
   ·
    exact absurd hi7.symm hne
   rw [if_neg hi7] at hT
   exact own_stay hg hT
  iterate 2 exact trivial
 ·
  intro kF hkF iF hiF hne hdd hanc hdan vF wF1 wF2 h hT
  rcases (by omega : kF = 0 ∨ kF = 1 ∨ kF = 2 ∨ kF = 3 ∨ kF = 4 ∨ kF = 5 ∨ kF = 6 ∨ kF = 7 ∨ kF = 8 ∨ kF = 9) with rfl | rfl | rfl | rfl | rfl | rfl | rfl | rfl | rfl | rfl
  iterate 6 exact h
  ·
   have h : (∃ g, vF = .slice (some ⟨g, 0, none⟩) 1 1 ∧ wF1.heap[g]? = some (.cells #[.slice a3 n3 c3, .slice a4 n4 c4, .slice a5 n5 c5, .slice a6 n6 c6] 29 (0, 0)) ∧ w8.heap.size ≤ g) := h
   show (∃ g, vF = .slice (some ⟨g, 0, none⟩) 1 1 ∧ wF2.heap[g]? = some (.cells #[.slice a3 n3 c3, .slice a4 n4 c4, .slice a5 n5 c5, .slice a6 n6 c6] 29 (0, 0)) ∧ w8.heap.size ≤ g)
   have hT : (fun i w w' => if i = 7 then (fun (w w' : World) => w.grownBy w' (Value.slice aC nC cC).ownBlock) w w' else (fun (w w' : World) => RowKit.Below w.heap.size w w') w w') iF wF1 wF2 := hT
   simp only at hT
   by_cases hi7 : iF = 7
   ·
    exact absurd hi7.symm hdd
   rw [if_neg hi7] at hT
   obtain ⟨g, e, h1, h2⟩ := h
   exact ⟨g, e, (hT.block _ (lt_of_block h1)).trans h1, h2⟩
  ·
   have h : (∃ v, vF = v ∧ wF1.ownsRow B 29 4 v (nC + 1) (D.flatten ++ [.slice a3 n3 c3, .slice a4 n4 c4, .slice a5 n5 c5, .slice a6 n6 c6])) := h
   show (∃ v, vF = v ∧ wF2.ownsRow B 29 4 v (nC + 1) (D.flatten ++ [.slice a3 n3 c3, .slice a4 n4 c4, .slice a5 n5 c5, .slice a6 n6 c6]))
   have hT : (fun i w w' => if i = 7 then (fun (w w' : World) => w.grownBy w' (Value.slice aC nC cC).ownBlock) w w' else (fun (w w' : World) => RowKit.Below w.heap.size w w') w w') iF wF1 wF2 := hT
   simp only at hT
   by_cases hi7 : iF = 7
   ·
    exact absurd hi7.symm hne
   rw [if_neg hi7] at hT
   obtain ⟨v, e, h1⟩ := h
   exact ⟨v, e, own_stay h1 hT⟩
  iterate 2 exact h
 ·
  generalize hAF : fillOf _ _ _ = AF
  replace hAF := fun x => congrFun hAF x
  simp only [take_succ_cons, take_zero, fillOf, Act.put, setIfInBounds_toArray, set_cons_zero, set_cons_succ, Nat.reduceAdd, Nat.zero_add] at hAF
  refine .cons ?_ (.cons ?_ (.cons ?_ (.cons ?_ (.cons ?_ (.cons ?_ (.cons ?_ (.cons ?_ (.cons ?_ (.cons ?_ (.nil))))))))))
  all_goals
   intro xF w9 hR hg hd K hK
   first | simp only [← hAF, Act.put, setIfInBounds_toArray, set_cons_zero, set_cons_succ] at hK ⊢ | simp only [← hAF, Act.put] at hK ⊢
   clear hAF
   try simp only [Nat.zero_add, Nat.reduceAdd] at hK ⊢
  ·
   clear hg hd
   rw [if_pos (by rfl)]
   go_simp
   exact hK.out _ _ (Below.refl _ _) (rfl) (fun _ _ _ => ⟨trivial, trivial⟩)
  ·
   clear hg hd
   rw [if_pos (by rfl)]
   go_simp
   exact hK.out _ _ (Below.refl _ _) (rfl) (fun _ _ _ => ⟨trivial, trivial⟩)
  ·
   clear hg
   have dd1 := hd 1 (by kernel_rfl)
   clear hd
   try generalize xF 1 = yy1 at *
   obtain rfl := dd1
   rw [if_pos (by rfl)]
   go_simp
   exact hK.out _ _ (Below.refl _ _) (rfl) (fun _ _ _ => ⟨trivial, trivial⟩)
  ·
   clear hg
   have dd2 := hd 2 (by kernel_rfl)
   clear hd
   try generalize xF 2 = yy2 at *
   obtain rfl := dd2
   rw [if_pos (by rfl)]
   go_simp
   exact hK.out _ _ (Below.refl _ _) (rfl) (fun _ _ _ => ⟨trivial, trivial⟩)
  ·
   clear hg
   have dd3 := hd 3 (by kernel_rfl)
   clear hd
   try generalize xF 3 = yy3 at *
   obtain rfl := dd3
   have kc := (HBC.out _ hR).cell (j := 12) (by omega)
   rw [HGC8.out] at kc
   rw [if_pos (by rfl)]
   go_simp
   exact hK.out _ _ (Below.refl _ _) (rfl) (fun _ _ _ => ⟨trivial, trivial⟩)
  ·
   clear hg hd
   have y9 := HR9.out _ hR
   have e0 := boxc y9 0 _ rfl
   have e1 := boxc y9 1 _ rfl
   have e2 := boxc y9 2 _ rfl
   have e3 := boxc y9 3 _ rfl
   rw [if_pos (by rfl)]
   go_simp
   exact hK.out _ _ (Below.refl _ _) (rfl) (fun _ _ _ => ⟨trivial, trivial⟩)
  ·
   clear hg
   have dd5 := hd 5 (by kernel_rfl)
   clear hd
   try generalize xF 5 = yy5 at *
   obtain rfl := dd5
   rw [if_pos (by rfl)]
   go_simp
   exact hK.out _ _ (below1) (⟨_, rfl, heap_alloc_new _ _, hR.size⟩) (fun _ _ _ => ⟨trivial, trivial⟩)
  ·
   have gg7 : (w9.ownsRow B 29 4 (.slice aC nC cC) nC D.flatten) := hg 7 (by omega) (by decide)
   clear hg
   have dd4 := hd 4 (by kernel_rfl)
   have dd6 := hd 6 (by kernel_rfl)
   clear hd
   try generalize xF 4 = yy4 at *
   try generalize xF 6 = yy6 at *
   obtain rfl := dd4
   obtain ⟨gD, rfl, hgD, hlD⟩ := dd6
   rw [if_pos (by rfl)]
   refine wp_of_list1 (fun Q' hQ' => ?_)
   refine appNg (.tmp 204) (.tmp 206) 39 rfl rfl B Tryz.underlying39 infoDlt rfl (by decide) (by decide) gg7 rfl rfl [.slice a3 n3 c3, .slice a4 n4 c4, .slice a5 n5 c5, .slice a6 n6 c6] rfl (fun j u hu => by rw [Addr.add_lit, Nat.zero_add]; exact boxc' hgD j u (by simpa using hu)) (by intro u hu; simp at hu; rcases hu with rfl | rfl | rfl | rfl <;> rfl) (by omega) (Nat.le_trans HBR8.out hR.size) ?_
   intro vN wN hownN hgN
   refine hQ' _ _ ?_
   simp only [Act.put, setIfInBounds_toArray, set_cons_zero, set_cons_succ]
   exact hK.out _ _ (hgN) (⟨vN, rfl, hownN⟩) (fun _ _ _ => ⟨trivial, trivial⟩)
  ·
   clear hg
   have dd0 := hd 0 (by kernel_rfl)
   clear hd
   try generalize xF 0 = yy0 at *
   obtain rfl := dd0
   rw [if_pos (by rfl)]
   go_simp
   exact hK.out _ _ (Below.refl _ _) (rfl) (fun _ _ _ => ⟨trivial, trivial⟩)
  ·
   clear hg
   have dd8 := hd 8 (by kernel_rfl)
   clear hd
   try generalize xF 8 = yy8 at *
   obtain rfl := dd8
   rw [if_pos (by rfl)]
   go_simp
   exact hK.out _ _ (Below.refl _ _) (rfl) (fun _ _ _ => ⟨trivial, trivial⟩)
 intro xF w9 hR hF hP
 clear hP
 have dd0 := hF 0 (by omega) (by decide)
 have dd1 := hF 1 (by omega) (by decide)
 have dd2 := hF 2 (by omega) (by decide)
 have dd3 := hF 3 (by omega) (by decide)
 have dd4 := hF 4 (by omega) (by decide)
 have dd5 := hF 5 (by omega) (by decide)
 have dd7 := hF 7 (by omega) (by decide)
 have dd8 := hF 8 (by omega) (by decide)
 have dd9 := hF 9 (by omega) (by decide)
 clear hF
 simp only [take_succ_cons, take_zero, drop_succ_cons, drop_zero, fillOf, Act.put, setIfInBounds_toArray, set_cons_zero, set_cons_succ, Nat.reduceAdd, Nat.zero_add]
 try generalize xF 0 = yy0 at *
 try generalize xF 1 = yy1 at *
 try generalize xF 2 = yy2 at *
 try generalize xF 3 = yy3 at *
 try generalize xF 4 = yy4 at *
 try generalize xF 5 = yy5 at *
 try generalize xF 6 = yy6 at *
 try generalize xF 7 = yy7 at *
 try generalize xF 8 = yy8 at *
 try generalize xF 9 = yy9 at *
 clear xF
 obtain rfl := dd0
 obtain rfl := dd1
 obtain rfl := dd2
 obtain rfl := dd3
 obtain rfl := dd4
 obtain rfl := dd5
 obtain ⟨v27, rfl, ho27⟩ := dd7
 obtain rfl := dd8
 obtain rfl := dd9
 have hRE := Lib.hid hR
 clear hR
 have hb9x := HBC.out _ hRE
 obtain ⟨a27, c27, rfl⟩ := own_slice ho27
 have c12 := hb9x.cell (j := 12) (by omega)
 have f12 := hb9x.fro 12
 rw [HGC8.out] at c12
 obtain ⟨W10, hW10⟩ : ∃ W, W = w9.setCell ⟨q, 12, none⟩ (.slice a27 (nC + 1) c27) := ⟨_, rfl⟩
 have hkD : Kt 29 w8 w9 := Kt.append HO8.out hRE
 have hkP : Kt 43 w9 W10 := by rw [hW10]; exact hb9x.kt _ _
 have hgP : w9.grownBy W10 (some q) := by rw [hW10]; exact set1_grown _
 have HBX10 : Hid (Box16 W10 q (upd g8 12 (.slice a27 (nC + 1) c27))) := by show Box16 _ _ _; rw [hW10]; exact hb9x.set (by omega) _
 have hch : ChO B w9 (.slice a27 (nC + 1) c27) (s.C ++ [⟨[x], [x.d], dc⟩]) := ChO.snocD HDL0.out HDL1.out hkD HDL8.out (by rw [← HNC.out]; exact ho27)
 have HP10 := Lib.hid ((HP8.out.chgs hkD hch).kt hkP (by decide) (by decide) (by decide) (by decide))
 have HL10 : Hid (Below B w W10) := (HL8.out.trans (grown_below HO8.out HBR8.out hRE)).trans ((Below.refl B w9).grown hgP (Nat.le_trans hB (Nat.le_of_lt hb9x.lt)) (fun j hj => by cases hj; exact hB))
 have R8X : Hid (W10.heap[b8]? = some (.cells #[.slice ae ne ce, .slice av nv cv, .slice ac nc cc] 27 (0, 0))) := by
  have y := (hRE.block _ (lt_of_block R88.out) HN88.out).trans R88.out
  exact (hgP.block _ (lt_of_block y) (fun e => by have := Option.some.inj e; have := HQ8.out; omega)).trans y
 have R9X : Hid (W10.heap[b9]? = some (.cells #[.slice a3 n3 c3, .slice a4 n4 c4, .slice a5 n5 c5, .slice a6 n6 c6] 29 (0, 0))) := by
  have y := HR9.out _ hRE
  exact (hgP.block _ (lt_of_block y) (fun e => by have := Option.some.inj e; have := HQ8.out; omega)).trans y
 have HEOX : Hid (EntO B W10 (.slice ae ne ce) (s.l i)) := (HEO8.out.kt hkD (by decide)).kt hkP (by decide)
 have HCOX : Hid (OwnC B W10 (.agg #[.slice av nv cv, .slice ac nc cc]) (s.c i)) := (HCO8.out.kt hkD (by decide)).kt hkP (by decide)
 have HDLX : Hid (DltO B W10 [.slice a3 n3 c3, .slice a4 n4 c4, .slice a5 n5 c5, .slice a6 n6 c6] ⟨[x], [x.d], dc⟩) := (HDL8.out.kt hkD (by decide) (by decide)).kt hkP (by decide) (by decide)
 obtain ⟨gN, hgN⟩ : ∃ f, f = upd g8 12 (.slice a27 (nC + 1) c27) := ⟨_, rfl⟩
 rw [← hgN] at HBX10 HP10
 have hgn : ∀ k, k < 12 → gN k = gT k := fun k hk => by rw [hgN, upd_other _ _ (by omega)]; exact HG8E.out k (by omega)
 have hg0 : gN (i * 3) = .slice a0 n0 c0 := (hgn _ (by omega)).trans HGN.out.1
 have hg1 : gN (i * 3 + 1) = .slice a1 n1 c1 := (hgn _ (by omega)).trans HGN.out.2.1
 have hg2 : gN (i * 3 + 2) = .slice a2 n2 c2 := (hgn _ (by omega)).trans HGN.out.2.2
 have XN : Hid (∀ W, Below W10.heap.size W10 W → W.cell? ⟨q, i * 3, none⟩ = some (.slice a0 n0 c0) ∧ W.cell? ⟨q, i * 3 + 1, none⟩ = some (.slice a1 n1 c1) ∧ W.cell? ⟨q, i * 3 + 2, none⟩ = some (.slice a2 n2 c2)) := fun W hW => by
  have hb := HBX10.out.on hW
  refine ⟨?_, ?_, ?_⟩
  ·
   rw [← hg0]; exact hb.cell (by omega)
  ·
   rw [← hg1]; exact hb.cell (by omega)
  ·
   rw [← hg2]; exact hb.cell (by omega)
 have HEN : Hid (EntO B W10 (.slice a0 n0 c0) (l1)) := by
  have hx : EntO B W10 (gN (i * 3)) (upd s.l i (l1) i) := HP10.out.ent i hi3
  rw [upd_same s.l i, hg0] at hx
  exact hx
 have HCN : Hid (OwnC B W10 (.agg #[.slice a1 n1 c1, .slice a2 n2 c2]) cc0) := by
  have hx : OwnC B W10 (.agg #[gN (i * 3 + 1), gN (i * 3 + 2)]) (upd s.c i cc0 i) := HP10.out.ctx i hi3
  rw [upd_same s.c i, hg1, hg2] at hx
  exact hx
 have HBW : Hid (∀ W, Below W10.heap.size W10 W → Below B w W) := fun W hW => HL10.out.trans (hW.mono (Nat.le_trans hB (Nat.le_of_lt HBX10.out.lt)))
 have HAPL : Hid (∀ W, Below W10.heap.size W10 W → Calls Tryz.prog 9 #[.agg #[.slice ae ne ce, .slice av nv cv, .slice ac nc cc], .agg #[.slice a3 n3 c3, .slice a4 n4 c4, .slice a5 n5 c5, .slice a6 n6 c6]] W (fun e w' => ∃ u0 u1 u2, e = .returned (.agg #[u0, u1, u2]) ∧ Ents w' w'.heap.size u0 (l1) ∧ CtxAt w' w'.heap.size (.agg #[u1, u2]) cc0 ∧ Below W.heap.size W w')) := fun W hW => by
  obtain ⟨t0, t1, t2, t3, e, h1, h2, h3⟩ := HDLX.out.on hW
  simp only [List.cons.injEq, and_true] at e
  obtain ⟨rfl, rfl, rfl, rfl⟩ := e
  refine (oapply_yes (s.l i) (s.c i) (⟨[x], [x.d], dc⟩ : Chg).L (⟨[x], [x.d], dc⟩ : Chg).A dc _ _ _ _ _ _ _ W (HEOX.out.on hW).at (HCOX.out.on hW).at h1.at h2.at h3.at (HINV.out.set i hi3) HRDL.out HTO.out (Nat.le_trans (HINV.out.len hi3) (by omega)) (by simp) (by simp) (Nat.le_trans (HINV.out.cloud hi3) (by omega)) HCD.out (HMX.out.b (HBW.out W hW) h0)).mono ?_
  rintro e w' ⟨u0, u1, u2, L', c', rfl, g1, g2, g3, g4, g5, g6⟩
  obtain ⟨rfl, rfl⟩ := HEQ.out L' c' _ g3 g4 g5
  exact ⟨u0, u1, u2, rfl, g1.at, g2.at, g6⟩
 have HSAM : Hid (∀ (W : World) (u0 u1 u2 : Value), Below W10.heap.size W10 W → Ents W W.heap.size u0 (l1) → CtxAt W W.heap.size (.agg #[u1, u2]) cc0 → Calls Tryz.prog 14 #[.agg #[.slice a0 n0 c0, .slice a1 n1 c1, .slice a2 n2 c2], .agg #[u0, u1, u2]] W (Said true W)) := fun W u0 u1 u2 hW h1 h2 =>
  osame_yes _ _ _ _ _ _ _ _ W (HEN.out.on hW).at (HCN.out.on hW).at h1 h2
 have HRDC : Hid (∀ W, Below W10.heap.size W10 W → Calls Tryz.prog 12 #[.agg #[.slice a3 n3 c3, .slice a4 n4 c4, .slice a5 n5 c5, .slice a6 n6 c6]] W (Said true W)) := fun W hW => by
  obtain ⟨t0, t1, t2, t3, e, h1, h2, h3⟩ := HDLX.out.on hW
  simp only [List.cons.injEq, and_true] at e
  obtain ⟨rfl, rfl, rfl, rfl⟩ := e
  exact rdelta_yes (⟨[x], [x.d], dc⟩ : Chg).L (⟨[x], [x.d], dc⟩ : Chg).A dc _ _ _ _ W h1.at h2.at h3.at HRDL.out (by simp) (HMX.out.b (HBW.out W hW) h0)
 have HPZ : Hid (PIn B W10 gN (s.mk1 i (l1) cc0 ⟨[x], [x.d], dc⟩)) := by
  have hp := HP10.out
  rw [hasN_last (by rw [HNC.out]; exact HINV.out.hasl i hi3)] at hp
  exact hp
 have HW10 := Lib.hid hW10
 clear hb9x hkD hkP hgP hch hgN hgn hg0 hg1 hg2 hW10 hRE ho27 HP10
 go_wp2_with fail
 rw [← HW10.out]
 clear c12 f12
 refine wp_flow 14 (fun _ => 1000) (fun ww => RowKit.Below W10.heap.size W10 ww) (fun _ w w' => (fun (w w' : World) => RowKit.Below w.heap.size w w') w w') (fun kF vF wF => match kF with | 0 => (vF = .pointer (some ⟨q, 0, none⟩)) | 1 => (vF = .int .i64 (i : Int)) | 2 => (vF = .pointer (some ⟨q, 0, none⟩)) | 3 => (vF = .pointer (some ⟨q, 0, none⟩)) | 4 => (vF = .pointer (some ⟨q, i * 3, none⟩)) | 5 => (vF = .agg #[.slice a0 n0 c0, .slice a1 n1 c1, .slice a2 n2 c2]) | 6 => (vF = .agg #[.slice ae ne ce, .slice av nv cv, .slice ac nc cc]) | 7 => (vF = .agg #[.slice a3 n3 c3, .slice a4 n4 c4, .slice a5 n5 c5, .slice a6 n6 c6]) | 8 => (∃ u0 u1 u2, vF = .agg #[u0, u1, u2] ∧ Ents wF wF.heap.size u0 (l1) ∧ CtxAt wF wF.heap.size (.agg #[u1, u2]) cc0) | 9 => (vF = .bool true) | 10 => (vF = .bool true) | 11 => (vF = .agg #[.slice a3 n3 c3, .slice a4 n4 c4, .slice a5 n5 c5, .slice a6 n6 c6]) | 12 => (vF = .bool true) | 13 => (vF = .bool true) | _ => True) (fun _ _ _ _ => True) (by kernel_rfl) (by kernel_rfl) ?_ ?_ ?_ ?_ ?_
 ·
  exact (Below.refl _ _).drew
 ·
  intro iF wF1 wF2 hR hT; exact hR.trans (hT.mono hR.size)
 ·
  intro kF hkF iF hiF hne hdd hanc hdan vF wF1 wF2 h hT
  rcases (by omega : kF = 0 ∨ kF = 1 ∨ kF = 2 ∨ kF = 3 ∨ kF = 4 ∨ kF = 5 ∨ kF = 6 ∨ kF = 7 ∨ kF = 8 ∨ kF = 9 ∨ kF = 10 ∨ kF = 11 ∨ kF = 12 ∨ kF = 13) with rfl | rfl | rfl | rfl | rfl | rfl | rfl | rfl | rfl | rfl | rfl | rfl | rfl | rfl
  iterate 8 exact h
  ·
   have h : (∃ u0 u1 u2, vF = .agg #[u0, u1, u2] ∧ Ents wF1 wF1.heap.size u0 (l1) ∧ CtxAt wF1 wF1.heap.size (.agg #[u1, u2]) cc0) := h
   show (∃ u0 u1 u2, vF = .agg #[u0, u1, u2] ∧ Ents wF2 wF2.heap.size u0 (l1) ∧ CtxAt wF2 wF2.heap.size (.agg #[u1, u2]) cc0)
   have hT : (fun (w w' : World) => RowKit.Below w.heap.size w w') wF1 wF2 := hT
   simp only at hT
   obtain ⟨u0, u1, u2, e, h1, h2⟩ := h
   exact ⟨u0, u1, u2, e, Cells.next h1 hT, h2.next hT⟩
  iterate 5 exact h
 ·
  generalize hAF : fillOf _ _ _ = AF
  replace hAF := fun x => congrFun hAF x
  simp only [take_succ_cons, take_zero, fillOf, Act.put, setIfInBounds_toArray, set_cons_zero, set_cons_succ, Nat.reduceAdd, Nat.zero_add] at hAF
  refine .cons ?_ (.cons ?_ (.cons ?_ (.cons ?_ (.cons ?_ (.cons ?_ (.cons ?_ (.cons ?_ (.cons ?_ (.cons ?_ (.cons ?_ (.cons ?_ (.cons ?_ (.cons ?_ (.nil))))))))))))))
  all_goals
   intro xF wz hR hd K hK
   first | simp only [← hAF, Act.put, setIfInBounds_toArray, set_cons_zero, set_cons_succ] at hK ⊢ | simp only [← hAF, Act.put] at hK ⊢
   clear hAF
   try simp only [Nat.zero_add, Nat.reduceAdd] at hK ⊢
  ·
   clear hd
   rw [if_pos (by rfl)]
   go_simp
   exact hK.out _ _ (Below.refl _ _) (rfl) (fun _ _ _ => ⟨trivial, trivial⟩)
  ·
   clear hd
   rw [if_pos (by rfl)]
   go_simp
   exact hK.out _ _ (Below.refl _ _) (rfl) (fun _ _ _ => ⟨trivial, trivial⟩)
  ·
   have dd0 := hd 0 (by kernel_rfl)
   clear hd
   try generalize xF 0 = yy0 at *
   obtain rfl := dd0
   rw [if_pos (by rfl)]
   go_simp
   exact hK.out _ _ (Below.refl _ _) (rfl) (fun _ _ _ => ⟨trivial, trivial⟩)
  ·
   have dd2 := hd 2 (by kernel_rfl)
   clear hd
   try generalize xF 2 = yy2 at *
   obtain rfl := dd2
   rw [if_pos (by rfl)]
   go_simp
   exact hK.out _ _ (Below.refl _ _) (rfl) (fun _ _ _ => ⟨trivial, trivial⟩)
  ·
   have dd1 := hd 1 (by kernel_rfl)
   have dd3 := hd 3 (by kernel_rfl)
   clear hd
   try generalize xF 1 = yy1 at *
   try generalize xF 3 = yy3 at *
   obtain rfl := dd1
   obtain rfl := dd3
   rw [if_pos (by rfl)]
   go_simp
   exact hK.out _ _ (Below.refl _ _) (rfl) (fun _ _ _ => ⟨trivial, trivial⟩)
  ·
   have dd4 := hd 4 (by kernel_rfl)
   clear hd
   try generalize xF 4 = yy4 at *
   obtain rfl := dd4
   obtain ⟨k0, k1, k2⟩ := XN.out _ hR
   rw [if_pos (by rfl)]
   go_simp
   exact hK.out _ _ (Below.refl _ _) (rfl) (fun _ _ _ => ⟨trivial, trivial⟩)
  ·
   clear hd
   have y8 := (hR.block _ (lt_of_block R8X.out)).trans R8X.out
   have e0 := boxc y8 0 _ rfl
   have e1 := boxc y8 1 _ rfl
   have e2 := boxc y8 2 _ rfl
   rw [if_pos (by rfl)]
   go_simp
   exact hK.out _ _ (Below.refl _ _) (rfl) (fun _ _ _ => ⟨trivial, trivial⟩)
  ·
   clear hd
   have y9 := (hR.block _ (lt_of_block R9X.out)).trans R9X.out
   have e0 := boxc y9 0 _ rfl
   have e1 := boxc y9 1 _ rfl
   have e2 := boxc y9 2 _ rfl
   have e3 := boxc y9 3 _ rfl
   rw [if_pos (by rfl)]
   go_simp
   exact hK.out _ _ (Below.refl _ _) (rfl) (fun _ _ _ => ⟨trivial, trivial⟩)
  ·
   have dd6 := hd 6 (by kernel_rfl)
   have dd7 := hd 7 (by kernel_rfl)
   clear hd
   try generalize xF 6 = yy6 at *
   try generalize xF 7 = yy7 at *
   obtain rfl := dd6
   obtain rfl := dd7
   rw [if_pos (by rfl)]
   go_simp
   (go_at_call 9; (with_reducible refine (HAPL.out _ hR).mono ?_); rintro e wK ⟨u0, u1, u2, rfl, hu0, hu1, hbK⟩)
   try go_wp2_with fail
   exact hK.out _ _ (hbK) (⟨_, _, _, rfl, hu0, hu1⟩) (fun _ _ _ => ⟨trivial, trivial⟩)
  ·
   have dd5 := hd 5 (by kernel_rfl)
   have dd8 := hd 8 (by kernel_rfl)
   clear hd
   try generalize xF 5 = yy5 at *
   try generalize xF 8 = yy8 at *
   obtain rfl := dd5
   obtain ⟨u0, u1, u2, rfl, hu0, hu1⟩ := dd8
   rw [if_pos (by rfl)]
   go_simp
   (go_at_call 14; (with_reducible refine (HSAM.out _ u0 u1 u2 hR hu0 hu1).mono ?_); rintro e wK ⟨rfl, hbK⟩)
   try go_wp2_with fail
   exact hK.out _ _ (hbK) (rfl) (fun _ _ _ => ⟨trivial, trivial⟩)
  ·
   have dd9 := hd 9 (by kernel_rfl)
   clear hd
   try generalize xF 9 = yy9 at *
   obtain rfl := dd9
   rw [if_pos (by rfl)]
   go_simp
   exact hK.out _ _ (Below.refl _ _) (rfl) (fun _ _ _ => ⟨trivial, trivial⟩)
  ·
   have dd10 := hd 10 (by kernel_rfl)
   clear hd
   try generalize xF 10 = yy10 at *
   obtain rfl := dd10
   have y9 := (hR.block _ (lt_of_block R9X.out)).trans R9X.out
   have e0 := boxc y9 0 _ rfl
   have e1 := boxc y9 1 _ rfl
   have e2 := boxc y9 2 _ rfl
   have e3 := boxc y9 3 _ rfl
   rw [if_pos (by rfl)]
   go_simp
   exact hK.out _ _ (Below.refl _ _) (rfl) (fun _ _ _ => ⟨trivial, trivial⟩)
  ·
   have dd10 := hd 10 (by kernel_rfl)
   have dd11 := hd 11 (by kernel_rfl)
   clear hd
   try generalize xF 10 = yy10 at *
   try generalize xF 11 = yy11 at *
   obtain rfl := dd10
   obtain rfl := dd11
   rw [if_pos (by rfl)]
   go_simp
   (go_at_call 12; (with_reducible refine (HRDC.out _ hR).mono ?_); rintro e wK ⟨rfl, hbK⟩)
   try go_wp2_with fail
   exact hK.out _ _ (hbK) (rfl) (fun _ _ _ => ⟨trivial, trivial⟩)
  ·
   have dd10 := hd 10 (by kernel_rfl)
   have dd12 := hd 12 (by kernel_rfl)
   clear hd
   try generalize xF 10 = yy10 at *
   try generalize xF 12 = yy12 at *
   obtain rfl := dd10
   obtain rfl := dd12
   rw [if_pos (by rfl)]
   go_simp
   exact hK.out _ _ (Below.refl _ _) (rfl) (fun _ _ _ => ⟨trivial, trivial⟩)
 intro xF wz hR hF hP
 clear hP
 have dd0 := hF 0 (by omega) (by decide)
 have dd1 := hF 1 (by omega) (by decide)
 have dd2 := hF 2 (by omega) (by decide)
 have dd3 := hF 3 (by omega) (by decide)
 have dd4 := hF 4 (by omega) (by decide)
 have dd5 := hF 5 (by omega) (by decide)
 have dd6 := hF 6 (by omega) (by decide)
 have dd7 := hF 7 (by omega) (by decide)
 have dd8 := hF 8 (by omega) (by decide)
 have dd9 := hF 9 (by omega) (by decide)
 have dd10 := hF 10 (by omega) (by decide)
 have dd11 := hF 11 (by omega) (by decide)
 have dd12 := hF 12 (by omega) (by decide)
 have dd13 := hF 13 (by omega) (by decide)
 clear hF
 simp only [take_succ_cons, take_zero, drop_succ_cons, drop_zero, fillOf, Act.put, setIfInBounds_toArray, set_cons_zero, set_cons_succ, Nat.reduceAdd, Nat.zero_add]
 try generalize xF 0 = yy0 at *
 try generalize xF 1 = yy1 at *
 try generalize xF 2 = yy2 at *
 try generalize xF 3 = yy3 at *
 try generalize xF 4 = yy4 at *
 try generalize xF 5 = yy5 at *
 try generalize xF 6 = yy6 at *
 try generalize xF 7 = yy7 at *
 try generalize xF 8 = yy8 at *
 try generalize xF 9 = yy9 at *
 try generalize xF 10 = yy10 at *
 try generalize xF 11 = yy11 at *
 try generalize xF 12 = yy12 at *
 try generalize xF 13 = yy13 at *
 clear xF
 obtain rfl := dd0
 obtain rfl := dd1
 obtain rfl := dd2
 obtain rfl := dd3
 obtain rfl := dd4
 obtain rfl := dd5
 obtain rfl := dd6
 obtain rfl := dd7
 obtain ⟨u0, u1, u2, rfl, hu0, hu1⟩ := dd8
 obtain rfl := dd9
 obtain rfl := dd10
 obtain rfl := dd11
 obtain rfl := dd12
 obtain rfl := dd13
 have hRE := Lib.hid hR
 clear hR
 go_wp2_with fail
 go_ret
 exact ⟨rfl, gN, _, HBX10.out.on hRE, HPZ.out.on hRE, HINN.out, HBW.out _ hRE⟩
end Go.Proofs.YthpdmfkpiekonaaGreat
