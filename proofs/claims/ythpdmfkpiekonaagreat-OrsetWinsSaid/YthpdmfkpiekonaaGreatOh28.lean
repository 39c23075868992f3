/- texts put together: OrsSt3, OrsStep, OrsList. -/
import Derived.Test.YthpdmfkpiekonaaGreatOh23
import Derived.Test.YthpdmfkpiekonaaGreatOh25
import Derived.Test.YthpdmfkpiekonaaGreatOh26
import Derived.Test.YthpdmfkpiekonaaGreatOh27
open List (setIfInBounds_toArray set_cons_zero set_cons_succ take_succ_cons take_zero drop_succ_cons drop_zero)
namespace Go.Proofs.YthpdmfkpiekonaaGreat
open Go Go.RowKit Go.ChangeShapes cl
def AppV (B : Nat) (s : PS) (i k : Nat) (v : Value) (w : World) : Prop := ∃ a0 n0 c0 a1 n1 c1 a2 n2 c2 l2 cc, v = .agg #[.slice a0 n0 c0, .slice a1 n1 c1, .slice a2 n2 c2] ∧ EntO B w (.slice a0 n0 c0) l2 ∧ OwnC B w (.agg #[.slice a1 n1 c1, .slice a2 n2 c2]) cc ∧
 l2.Perm (staysOf (deadF (s.C.getD k default).A (s.C.getD k default).c) (s.l i) ++ newOf (s.c i) (s.C.getD k default).L) ∧ os.Up l2 ∧ ∃ m, dm.Is cc (fun e => dm.Knows (s.c i) e ∨ dm.Knows (s.C.getD k default).c e) m
theorem AppV.on {B : Nat} {s : PS} {i k : Nat} {v : Value} {w w' : World} (h : AppV B s i k v w) (hb : Below w.heap.size w w') : AppV B s i k v w' := by
 obtain ⟨a0, n0, c0, a1, n1, c1, a2, n2, c2, l2, cc, e, h1, h2, h3⟩ := h
 exact ⟨a0, n0, c0, a1, n1, c1, a2, n2, c2, l2, cc, e, h1.on hb, h2.on hb, h3⟩
set_option maxHeartbeats 12800000 in
set_option maxRecDepth 100000 in
theorem step_app (B q n : Nat) (s : PS) (g : Nat → Value) (oW oA oB : Int) (w : World) (hb : Box16 w q g) (hp : PIn B w g s) (hv : Inv n s) (hn : n ≤ 60) (hB : B ≤ q) (hm : MX w) (h0 : 0 < B) :
  Calls Tryz.prog 16 #[.pointer (some ⟨q, 0, none⟩), .agg #[.int .i64 3, .int .i64 oW, .int .i64 oA, .int .i64 oB]] w (StepP B q n w) := by
 obtain ⟨i, hi0, hi3⟩ := u64_rem oW 3 (by decide)
 have hie : (IntKind.u64.wrap oW).tmod 3 = (i : Int) := hi0
 obtain ⟨J, hJ0, hJ4⟩ := u64_rem oA 4 (by decide)
 have hJe : (IntKind.u64.wrap oA).tmod 4 = (J : Int) := hJ0
 obtain ⟨tk, ht0, ht1⟩ := u64_rem oB 1000 (by decide)
 have hte : (IntKind.u64.wrap oB).tmod 1000 = (tk : Int) := ht0
 have hii : IntKind.i64.wrap (i : Int) = (i : Int) := IntWalk.i64_in _ (by omega)
 have hti : IntKind.i64.wrap (tk : Int) = (tk : Int) := IntWalk.i64_in _ (by omega)
 clear hi0 hJ0 ht0
 obtain ⟨b0, hb0⟩ : ∃ b, b = w.heap.size := ⟨_, rfl⟩
 obtain ⟨w1, hw1⟩ : ∃ W, W = w.alloc (.cells #[.int .i64 3, .int .i64 oW, .int .i64 oA, .int .i64 oB] 46) := ⟨_, rfl⟩
 have hb1 : Below w.heap.size w w1 := by rw [hw1]; exact below1
 have x0 : w1.heap[b0]? = some (.cells #[.int .i64 3, .int .i64 oW, .int .i64 oA, .int .i64 oB] 46 (0, 0)) := by rw [hw1, hb0]; exact heap_alloc_new w _
 have HB1 := Lib.hid hb1
 have X0 := Lib.hid x0
 have HE0 := Lib.hid hb0
 have HW1 := Lib.hid hw1
 have HBX := Lib.hid hb
 have HPI := Lib.hid hp
 have HINV := Lib.hid hv
 have HMX := Lib.hid hm
 have HJ := Lib.hid hJ4
 have HNM : Hid (∀ W, Calls Tryz.prog 19 #[] W fun e w' => ∃ b, e = .returned (.slice (some ⟨b, 0, none⟩) 4 4) ∧ Strs w' w'.heap.size (.slice (some ⟨b, 0, none⟩) 4 4) NM ∧ Below W.heap.size W w') := names_any
 have XO : Hid (∀ ww, Below w1.heap.size w1 ww → ww.cell? ⟨b0, 0, none⟩ = some (.int .i64 3) ∧ ww.cell? ⟨b0, 1, none⟩ = some (.int .i64 oW) ∧ ww.cell? ⟨b0, 2, none⟩ = some (.int .i64 oA) ∧ ww.cell? ⟨b0, 3, none⟩ = some (.int .i64 oB)) := fun ww hw => by
  have y := (hw.block _ (lt_of_block X0.out)).trans X0.out
  exact ⟨boxc y 0 _ rfl, boxc y 1 _ rfl, boxc y 2 _ rfl, boxc y 3 _ rfl⟩
 obtain ⟨y0, y1, y2, y3⟩ := XO.out w1 (Below.refl _ _)
 clear hb hp hv hm hb0 hw1 hb1 x0
 go_enter Tryz.func16, Tryz.ntmps16
 go_wp2_with fail
 rw [← HW1.out, ← HE0.out]
 refine wp_flow 7 (fun _ => 1000) (fun ww => RowKit.Below w1.heap.size w1 ww) (fun _ w w' => (fun (w w' : World) => RowKit.Below w.heap.size w w') w w') (fun kF vF wF => match kF with | 0 => (∃ b, vF = .slice (some ⟨b, 0, none⟩) 4 4 ∧ Strs wF wF.heap.size (.slice (some ⟨b, 0, none⟩) 4 4) NM) | 1 => (vF = .pointer (some ⟨b0, 2, none⟩)) | 2 => (vF = .int .i64 oA) | 3 => (vF = .int .u64 (IntKind.u64.wrap oA)) | 4 => (vF = .int .u64 (J : Int)) | 5 => (∃ b, vF = .pointer (some ⟨b, J, none⟩) ∧ b < wF.heap.size ∧ wF.cell? ⟨b, J, none⟩ = some (.string (nam J))) | 6 => (vF = .string (nam J)) | _ => True) (fun _ _ _ _ => True) (by kernel_rfl) (by kernel_rfl) ?_ ?_ ?_ ?_ ?_
 ·
  exact (Below.refl _ _).drew
 ·
  intro iF wF1 wF2 hR hT; exact hR.trans (hT.mono hR.size)
 ·
  intro kF hkF iF hiF hne hdd hanc hdan vF wF1 wF2 h hT
  rcases (by omega : kF = 0 ∨ kF = 1 ∨ kF = 2 ∨ kF = 3 ∨ kF = 4 ∨ kF = 5 ∨ kF = 6) with rfl | rfl | rfl | rfl | rfl | rfl | rfl
  ·
   have h : (∃ b, vF = .slice (some ⟨b, 0, none⟩) 4 4 ∧ Strs wF1 wF1.heap.size (.slice (some ⟨b, 0, none⟩) 4 4) NM) := h
   show (∃ b, vF = .slice (some ⟨b, 0, none⟩) 4 4 ∧ Strs wF2 wF2.heap.size (.slice (some ⟨b, 0, none⟩) 4 4) NM)
   have hT : (fun (w w' : World) => RowKit.Below w.heap.size w w') wF1 wF2 := hT
   simp only at hT
   obtain ⟨b, e, h1⟩ := h
   exact ⟨b, e, Cells.next h1 hT⟩
  iterate 4 exact h
  ·
   have h : (∃ b, vF = .pointer (some ⟨b, J, none⟩) ∧ b < wF1.heap.size ∧ wF1.cell? ⟨b, J, none⟩ = some (.string (nam J))) := h
   show (∃ b, vF = .pointer (some ⟨b, J, none⟩) ∧ b < wF2.heap.size ∧ wF2.cell? ⟨b, J, none⟩ = some (.string (nam J)))
   have hT : (fun (w w' : World) => RowKit.Below w.heap.size w w') wF1 wF2 := hT
   simp only at hT
   obtain ⟨b, e, h1, h2⟩ := h
   exact ⟨b, e, Nat.lt_of_lt_of_le h1 hT.size, (hT.cell (p := ⟨b, J, none⟩) h1).trans h2⟩
  ·
   exact h
 ·
  generalize hAF : fillOf _ _ _ = AF
  replace hAF := fun x => congrFun hAF x
  simp only [take_succ_cons, take_zero, fillOf, Act.put, setIfInBounds_toArray, set_cons_zero, set_cons_succ, Nat.reduceAdd, Nat.zero_add] at hAF
  refine .cons ?_ (.cons ?_ (.cons ?_ (.cons ?_ (.cons ?_ (.cons ?_ (.cons ?_ (.nil)))))))
  all_goals
   intro xF w2 hR hd K hK
   first | simp only [← hAF, Act.put, setIfInBounds_toArray, set_cons_zero, set_cons_succ] at hK ⊢ | simp only [← hAF, Act.put] at hK ⊢
   clear hAF
   try simp only [Nat.zero_add, Nat.reduceAdd] at hK ⊢
  ·
   clear hd
   rw [if_pos (by rfl)]
   go_simp
   (go_at_call 19; (with_reducible refine (HNM.out _).mono ?_); rintro e wK ⟨b, rfl, hs, hbK⟩)
   try go_wp2_with fail
   exact hK.out _ _ (hbK) (⟨_, rfl, hs⟩) (fun _ _ _ => ⟨trivial, trivial⟩)
  ·
   clear hd
   rw [if_pos (by rfl)]
   go_simp
   exact hK.out _ _ (Below.refl _ _) (rfl) (fun _ _ _ => ⟨trivial, trivial⟩)
  ·
   have dd1 := hd 1 (by kernel_rfl)
   clear hd
   try generalize xF 1 = yy1 at *
   obtain rfl := dd1
   obtain ⟨x0, x1, x2, x3⟩ := XO.out _ hR
   rw [if_pos (by rfl)]
   go_simp
   exact hK.out _ _ (Below.refl _ _) (rfl) (fun _ _ _ => ⟨trivial, trivial⟩)
  ·
   have dd2 := hd 2 (by kernel_rfl)
   clear hd
   try generalize xF 2 = yy2 at *
   obtain rfl := dd2
   rw [if_pos (by rfl)]
   go_simp
   exact hK.out _ _ (Below.refl _ _) (rfl) (fun _ _ _ => ⟨trivial, trivial⟩)
  ·
   have dd3 := hd 3 (by kernel_rfl)
   clear hd
   try generalize xF 3 = yy3 at *
   obtain rfl := dd3
   rw [if_pos (by rfl)]
   go_simp
   exact hK.out _ _ (Below.refl _ _) (rfl) (fun _ _ _ => ⟨trivial, trivial⟩)
  ·
   have dd0 := hd 0 (by kernel_rfl)
   have dd4 := hd 4 (by kernel_rfl)
   clear hd
   try generalize xF 0 = yy0 at *
   try generalize xF 4 = yy4 at *
   obtain ⟨bN, rfl, hsN⟩ := dd0
   obtain rfl := dd4
   have hj4 := HJ.out
   have hj4i : (J : Int) < 4 := by omega
   have hj0 : 0 ≤ (J : Int) := by omega
   rw [if_pos (by rfl)]
   go_simp
   exact hK.out _ _ (Below.refl _ _) (⟨_, rfl, names_lt hsN, names_cell hsN J HJ.out⟩) (fun _ _ _ => ⟨trivial, trivial⟩)
  ·
   have dd5 := hd 5 (by kernel_rfl)
   clear hd
   try generalize xF 5 = yy5 at *
   obtain ⟨bJ, rfl, hJl, hJc⟩ := dd5
   rw [if_pos (by rfl)]
   go_simp
   exact hK.out _ _ (Below.refl _ _) (rfl) (fun _ _ _ => ⟨trivial, trivial⟩)
 intro xF w2 hR hF hP
 clear hP
 have dd0 := hF 0 (by omega) (by decide)
 have dd1 := hF 1 (by omega) (by decide)
 have dd2 := hF 2 (by omega) (by decide)
 have dd3 := hF 3 (by omega) (by decide)
 have dd4 := hF 4 (by omega) (by decide)
 have dd5 := hF 5 (by omega) (by decide)
 have dd6 := hF 6 (by omega) (by decide)
 clear hF
 simp only [take_succ_cons, take_zero, drop_succ_cons, drop_zero, fillOf, Act.put, setIfInBounds_toArray, set_cons_zero, set_cons_succ, Nat.reduceAdd, Nat.zero_add]
 try generalize xF 0 = yy0 at *
 try generalize xF 1 = yy1 at *
 try generalize xF 2 = yy2 at *
 try generalize xF 3 = yy3 at *
 try generalize xF 4 = yy4 at *
 try generalize xF 5 = yy5 at *
 try generalize xF 6 = yy6 at *
 clear xF
 obtain ⟨bN, rfl, hsN⟩ := dd0
 obtain rfl := dd1
 obtain rfl := dd2
 obtain rfl := dd3
 obtain rfl := dd4
 obtain ⟨bJ, rfl, hJl, hJc⟩ := dd5
 obtain rfl := dd6
 have hRE := Lib.hid hR
 clear hR
 have HB2 := Lib.hid hRE
 obtain ⟨x0, x1, x2, x3⟩ := XO.out w2 hRE
 clear hRE y0 y1 y2 y3
 have HB02 := Lib.hid (HB1.out.trans (HB2.out.mono HB1.out.size))
 have HBX2 := Lib.hid (HBX.out.on HB02.out)
 have HPI2 := Lib.hid (HPI.out.on HB02.out)
 obtain ⟨ne, hne⟩ : ∃ n, n = (s.l i).length := ⟨_, rfl⟩
 obtain ⟨ae, ce, hge⟩ := own_slice (HPI2.out.ent i hi3)
 rw [← hne] at hge
 obtain ⟨av, nv, cv, ac, nc, cc, hgc⟩ := (HPI2.out.ctx i hi3).form
 simp only [Value.agg.injEq, Array.mk.injEq, List.cons.injEq, and_true] at hgc
 have c0 := HBX2.out.cell (j := i * 3) (by omega)
 have c1 := HBX2.out.cell (j := i * 3 + 1) (by omega)
 have c2 := HBX2.out.cell (j := i * 3 + 2) (by omega)
 rw [hge] at c0
 rw [hgc.1] at c1
 rw [hgc.2] at c2
 have HGE := Lib.hid hge
 have HGC := Lib.hid hgc
 have HNE := Lib.hid hne
 have hi0 : 0 ≤ (i : Int) := by omega
 have hi3i : (i : Int) < 3 := by omega
 obtain ⟨b8, hb8⟩ : ∃ b, b = w2.heap.size := ⟨_, rfl⟩
 obtain ⟨b9, hb9⟩ : ∃ b, b = w2.heap.size + 1 := ⟨_, rfl⟩
 obtain ⟨w3, hw3⟩ : ∃ W, W = w2.alloc (.cells #[.slice ae ne ce, .slice av nv cv, .slice ac nc cc] 27) := ⟨_, rfl⟩
 obtain ⟨w4, hw4⟩ : ∃ W, W = w3.alloc (.cells #[.slice none 0 0, .slice none 0 0, .slice none 0 0, .slice none 0 0] 29) := ⟨_, rfl⟩
 have hs3 : w3.heap.size = w2.heap.size + 1 := by rw [hw3, World.size_alloc]
 have hb3 : Below w2.heap.size w2 w3 := by rw [hw3]; exact below1
 have hb4 : Below w3.heap.size w3 w4 := by rw [hw4]; exact below1
 have hb24 : Below w2.heap.size w2 w4 := hb3.trans (hb4.mono hb3.size)
 have r8 : w4.heap[b8]? = some (.cells #[.slice ae ne ce, .slice av nv cv, .slice ac nc cc] 27 (0, 0)) := (hb4.block _ (by omega)).trans (by rw [hw3, hb8]; exact heap_alloc_new w2 _)
 have r9 : w4.heap[b9]? = some (.cells #[.slice none 0 0, .slice none 0 0, .slice none 0 0, .slice none 0 0] 29 (0, 0)) := by rw [hw4, hb9, ← hs3]; exact heap_alloc_new w3 _
 have HB4 := Lib.hid (HB2.out.trans (hb24.mono HB2.out.size))
 have HB04 := Lib.hid (HB02.out.trans (hb24.mono HB02.out.size))
 have HBX4 := Lib.hid (HBX2.out.on hb24)
 have HPI4 := Lib.hid (HPI2.out.on hb24)
 have R8 := Lib.hid r8
 have R9 := Lib.hid r9
 have HE8 := Lib.hid hb8
 have HE9 := Lib.hid hb9
 have HQL : Hid (q < w.heap.size) := HBX.out.lt
 have HQ8 : Hid (q < b8 ∧ b8 < b9 ∧ b0 < b8) := by
  refine ⟨?_, ?_, ?_⟩
  ·
   have h1 := HBX2.out.lt; omega
  ·
   omega
  ·
   have h1 := lt_of_block X0.out
   have h2 := HB2.out.size
   omega
 have HD9 : Hid ((g 12).ownBlock ≠ some b9) := by
  obtain ⟨D, _, _, h2⟩ := HPI2.out.chg
  intro e
  have := (h2.lt _ e).2
  omega
 obtain ⟨k0, _, _, _⟩ := XO.out w4 HB4.out
 subst hw3
 have HW4 := Lib.hid hw4
 rw [hw4] at k0
 clear hge hgc hne hb8 hb9 hw4 hs3 hb3 hb4 hb24 r8 r9 x0 x2
 obtain ⟨nC, hnC⟩ : ∃ n, n = s.C.length := ⟨_, rfl⟩
 obtain ⟨aC, cC, hgC⟩ : ∃ a c, g 12 = .slice a nC c := by
  obtain ⟨a, c, e⟩ := HPI4.out.chg.len
  exact ⟨a, c, by rw [e, hnC]⟩
 have hC60 : nC ≤ 60 := by rw [hnC]; have := HINV.out.many; omega
 have c12 := HBX4.out.cell (j := 12) (by omega)
 rw [hgC, HW4.out] at c12
 have HNC := Lib.hid hnC
 have HGC4 := Lib.hid hgC
 clear hnC hgC
 by_cases hz : nC = 0
 ·
  have hzI : (nC : Int) = 0 := by omega
  go_wp2_with fail
  rw [← HW4.out]
  go_ret
  exact ⟨rfl, g, s, HBX4.out, HPI4.out, HINV.out.mono (Nat.le_succ _), HB04.out.mono (Nat.le_trans hB (Nat.le_of_lt HQL.out))⟩
 ·
  have hzI : 0 < (nC : Int) := by omega
  have hzN : 0 < nC := by omega
  have hzb : ((nC : Int) == 0) = false := by simp; omega
  obtain ⟨kk, hk0, hk1⟩ := u64_rem oB nC (by omega)
  have hke : (IntKind.u64.wrap oB).tmod (nC : Int) = (kk : Int) := hk0
  have hnw : IntKind.u64.wrap (nC : Int) = (nC : Int) := IntWalk.u64_in _ (by omega)
  have hkw : IntKind.i64.wrap (kk : Int) = (kk : Int) := IntWalk.i64_in _ (by omega)
  have hkl : kk < s.C.length := by rw [← HNC.out]; exact hk1
  obtain ⟨rC, t0, t1, t2, t3, hra, hrl, q0, q1, q2, q3, hL4, hA4, hC4⟩ := (show ChO B w4 (.slice aC nC cC) s.C by rw [← HGC4.out]; exact HPI4.out.chg).get hkl
  subst hra
  obtain ⟨t0a, t0c, rfl⟩ := own_slice hL4
  obtain ⟨t1a, t1c, rfl⟩ := own_slice hA4
  obtain ⟨t2a, t2b, t2c, t3a, t3b, t3c, e2⟩ := hC4.form
  simp only [Value.agg.injEq, Array.mk.injEq, List.cons.injEq, and_true] at e2
  obtain ⟨rfl, rfl⟩ := e2
  obtain ⟨t0b, ht0b⟩ : ∃ n, n = (s.C.getD kk default).L.length := ⟨_, rfl⟩
  obtain ⟨t1b, ht1b⟩ : ∃ n, n = (s.C.getD kk default).A.length := ⟨_, rfl⟩
  rw [← ht0b] at q0 hL4
  rw [← ht1b] at q1 hA4
  have HKK := Lib.hid hk1
  have HKL := Lib.hid hkl
  have XD : Hid (∀ ww, Below w4.heap.size w4 ww → ww.cell? ⟨rC, kk * 4, none⟩ = some (.slice t0a t0b t0c) ∧ ww.cell? ⟨rC, kk * 4 + 1, none⟩ = some (.slice t1a t1b t1c) ∧ ww.cell? ⟨rC, kk * 4 + 2, none⟩ = some (.slice t2a t2b t2c) ∧ ww.cell? ⟨rC, kk * 4 + 3, none⟩ = some (.slice t3a t3b t3c)) := fun ww hw =>
   ⟨(hw.cell (p := ⟨rC, _, none⟩) hrl).trans q0, (hw.cell (p := ⟨rC, _, none⟩) hrl).trans q1, (hw.cell (p := ⟨rC, _, none⟩) hrl).trans q2, (hw.cell (p := ⟨rC, _, none⟩) hrl).trans q3⟩
  have HL4 : Hid (EntO B w4 (.slice t0a t0b t0c) (s.C.getD kk default).L) := hL4
  have HA4 : Hid (DotO B w4 (.slice t1a t1b t1c) (s.C.getD kk default).A) := hA4
  have HC4 := Lib.hid hC4
  clear q0 q1 q2 q3 hL4 hA4 hC4 ht0b ht1b hk0 hkl hrl
  go_wp2_with fail
  rw [← HW4.out, ← HE9.out, ← HE8.out]
  have HZ : Hid (nC ≠ 0) := hz
  clear c12 k0 c0 c1 c2 x1 x3 hz hzI hzb hC60
  refine wp_flow 12 (fun _ => 1000) (fun ww => RowKit.Below w4.heap.size w4 ww) (fun _ w w' => (fun (w w' : World) => RowKit.Below w.heap.size w w') w w') (fun kF vF wF => match kF with | 0 => (vF = .pointer (some ⟨b0, 3, none⟩)) | 1 => (vF = .int .i64 oB) | 2 => (vF = .int .u64 (IntKind.u64.wrap oB)) | 3 => (vF = .pointer (some ⟨q, 0, none⟩)) | 4 => (vF = .pointer (some ⟨q, 0, none⟩)) | 5 => (vF = .pointer (some ⟨q, 12, none⟩)) | 6 => (vF = .slice (some ⟨rC, 0, none⟩) nC cC) | 7 => (vF = .int .i64 (nC : Int)) | 8 => (vF = .int .u64 (nC : Int)) | 9 => (vF = .int .u64 (kk : Int)) | 10 => (vF = .int .i64 (kk : Int)) | 11 => (vF = .int .i64 (kk : Int)) | _ => True) (fun _ _ _ _ => True) (by kernel_rfl) (by kernel_rfl) ?_ ?_ ?_ ?_ ?_
  ·
   exact (Below.refl _ _).drew
  ·
   intro iF wF1 wF2 hR hT; exact hR.trans (hT.mono hR.size)
  ·
   intro kF hkF iF hiF hne hdd hanc hdan vF wF1 wF2 h hT
   rcases (by omega : kF = 0 ∨ kF = 1 ∨ kF = 2 ∨ kF = 3 ∨ kF = 4 ∨ kF = 5 ∨ kF = 6 ∨ kF = 7 ∨ kF = 8 ∨ kF = 9 ∨ kF = 10 ∨ kF = 11) with rfl | rfl | rfl | rfl | rfl | rfl | rfl | rfl | rfl | rfl | rfl | rfl
   iterate 12 exact h
  ·
   generalize hAF : fillOf _ _ _ = AF
   replace hAF := fun x => congrFun hAF x
   simp only [take_succ_cons, take_zero, fillOf, Act.put, setIfInBounds_toArray, set_cons_zero, set_cons_succ, Nat.reduceAdd, Nat.zero_add] at hAF
   refine .cons ?_ (.cons ?_ (.cons ?_ (.cons ?_ (.cons ?_ (.cons ?_ (.cons ?_ (.cons ?_ (.cons ?_ (.cons ?_ (.cons ?_ (.cons ?_ (.nil))))))))))))
   all_goals
    intro xF w5 hR hd K hK
    first | simp only [← hAF, Act.put, setIfInBounds_toArray, set_cons_zero, set_cons_succ] at hK ⊢ | simp only [← hAF, Act.put] at hK ⊢
    clear hAF
    try simp only [Nat.zero_add, Nat.reduceAdd] at hK ⊢
   ·
    clear hd
    rw [if_pos (by rfl)]
    go_simp
    exact hK.out _ _ (Below.refl _ _) (rfl) (fun _ _ _ => ⟨trivial, trivial⟩)
   ·
    have dd0 := hd 0 (by kernel_rfl)
    clear hd
    try generalize xF 0 = yy0 at *
    obtain rfl := dd0
    obtain ⟨x0, x1, x2, x3⟩ := XO.out _ (HB4.out.trans (hR.mono HB4.out.size))
    rw [if_pos (by rfl)]
    go_simp
    exact hK.out _ _ (Below.refl _ _) (rfl) (fun _ _ _ => ⟨trivial, trivial⟩)
   ·
    have dd1 := hd 1 (by kernel_rfl)
    clear hd
    try generalize xF 1 = yy1 at *
    obtain rfl := dd1
    rw [if_pos (by rfl)]
    go_simp
    exact hK.out _ _ (Below.refl _ _) (rfl) (fun _ _ _ => ⟨trivial, trivial⟩)
   ·
    clear hd
    rw [if_pos (by rfl)]
    go_simp
    exact hK.out _ _ (Below.refl _ _) (rfl) (fun _ _ _ => ⟨trivial, trivial⟩)
   ·
    have dd3 := hd 3 (by kernel_rfl)
    clear hd
    try generalize xF 3 = yy3 at *
    obtain rfl := dd3
    rw [if_pos (by rfl)]
    go_simp
    exact hK.out _ _ (Below.refl _ _) (rfl) (fun _ _ _ => ⟨trivial, trivial⟩)
   ·
    have dd4 := hd 4 (by kernel_rfl)
    clear hd
    try generalize xF 4 = yy4 at *
    obtain rfl := dd4
    rw [if_pos (by rfl)]
    go_simp
    exact hK.out _ _ (Below.refl _ _) (rfl) (fun _ _ _ => ⟨trivial, trivial⟩)
   ·
    have dd5 := hd 5 (by kernel_rfl)
    clear hd
    try generalize xF 5 = yy5 at *
    obtain rfl := dd5
    have kc := (HBX4.out.on hR).cell (j := 12) (by omega)
    rw [HGC4.out] at kc
    rw [if_pos (by rfl)]
    go_simp
    exact hK.out _ _ (Below.refl _ _) (rfl) (fun _ _ _ => ⟨trivial, trivial⟩)
   ·
    have dd6 := hd 6 (by kernel_rfl)
    clear hd
    try generalize xF 6 = yy6 at *
    obtain rfl := dd6
    rw [if_pos (by rfl)]
    go_simp
    exact hK.out _ _ (Below.refl _ _) (rfl) (fun _ _ _ => ⟨trivial, trivial⟩)
   ·
    have dd7 := hd 7 (by kernel_rfl)
    clear hd
    try generalize xF 7 = yy7 at *
    obtain rfl := dd7
    rw [if_pos (by rfl)]
    go_simp
    exact hK.out _ _ (Below.refl _ _) (rfl) (fun _ _ _ => ⟨trivial, trivial⟩)
   ·
    have dd2 := hd 2 (by kernel_rfl)
    have dd8 := hd 8 (by kernel_rfl)
    clear hd
    try generalize xF 2 = yy2 at *
    try generalize xF 8 = yy8 at *
    obtain rfl := dd2
    obtain rfl := dd8
    have hz := HZ.out
    have hzI : 0 < (nC : Int) := by omega
    have hzb : ((nC : Int) == 0) = false := by simp; omega
    rw [if_pos (by rfl)]
    go_simp
    exact hK.out _ _ (Below.refl _ _) (rfl) (fun _ _ _ => ⟨trivial, trivial⟩)
   ·
    have dd9 := hd 9 (by kernel_rfl)
    clear hd
    try generalize xF 9 = yy9 at *
    obtain rfl := dd9
    rw [if_pos (by rfl)]
    go_simp
    exact hK.out _ _ (Below.refl _ _) (rfl) (fun _ _ _ => ⟨trivial, trivial⟩)
   ·
    have dd10 := hd 10 (by kernel_rfl)
    clear hd
    try generalize xF 10 = yy10 at *
    obtain rfl := dd10
    rw [if_pos (by rfl)]
    go_simp
    exact hK.out _ _ (Below.refl _ _) (rfl) (fun _ _ _ => ⟨trivial, trivial⟩)
  intro xF w5 hR hF hP
  clear hP
  have dd0 := hF 0 (by omega) (by decide)
  have dd1 := hF 1 (by omega) (by decide)
  have dd2 := hF 2 (by omega) (by decide)
  have dd3 := hF 3 (by omega) (by decide)
  have dd4 := hF 4 (by omega) (by decide)
  have dd5 := hF 5 (by omega) (by decide)
  have dd6 := hF 6 (by omega) (by decide)
  have dd7 := hF 7 (by omega) (by decide)
  have dd8 := hF 8 (by omega) (by decide)
  have dd9 := hF 9 (by omega) (by decide)
  have dd10 := hF 10 (by omega) (by decide)
  have dd11 := hF 11 (by omega) (by decide)
  clear hF
  simp only [take_succ_cons, take_zero, drop_succ_cons, drop_zero, fillOf, Act.put, setIfInBounds_toArray, set_cons_zero, set_cons_succ, Nat.reduceAdd, Nat.zero_add]
  try generalize xF 0 = yy0 at *
  try generalize xF 1 = yy1 at *
  try generalize xF 2 = yy2 at *
  try generalize xF 3 = yy3 at *
  try generalize xF 4 = yy4 at *
  try generalize xF 5 = yy5 at *
  try generalize xF 6 = yy6 at *
  try generalize xF 7 = yy7 at *
  try generalize xF 8 = yy8 at *
  try generalize xF 9 = yy9 at *
  try generalize xF 10 = yy10 at *
  try generalize xF 11 = yy11 at *
  clear xF
  obtain rfl := dd0
  obtain rfl := dd1
  obtain rfl := dd2
  obtain rfl := dd3
  obtain rfl := dd4
  obtain rfl := dd5
  obtain rfl := dd6
  obtain rfl := dd7
  obtain rfl := dd8
  obtain rfl := dd9
  obtain rfl := dd10
  obtain rfl := dd11
  have hRE := Lib.hid hR
  clear hR
  have hc5 := hRE
  have HB5 := Lib.hid hRE
  have HBX5 := Lib.hid (HBX4.out.on hRE)
  have HPI5 := Lib.hid (HPI4.out.on hRE)
  have R85 : Hid (w5.heap[b8]? = some (.cells #[.slice ae ne ce, .slice av nv cv, .slice ac nc cc] 27 (0, 0))) := (hRE.block _ (lt_of_block R8.out)).trans R8.out
  have HL5 : Hid (Below B w w5) := (HB04.out.mono (Nat.le_trans hB (Nat.le_of_lt HQL.out))).trans (hRE.mono (Nat.le_trans hB (Nat.le_of_lt HBX4.out.lt)))
  have HAPL : Hid (∀ W, Below w5.heap.size w5 W → Calls Tryz.prog 9 #[.agg #[.slice ae ne ce, .slice av nv cv, .slice ac nc cc], .agg #[.slice t0a t0b t0c, .slice t1a t1b t1c, .slice t2a t2b t2c, .slice t3a t3b t3c]] W (fun e w' => ∃ v, e = .returned v ∧ AppV B s i kk v w' ∧ Below W.heap.size W w')) := fun W hW => by
   have hb := hc5.trans (hW.mono hc5.size)
   have hE := (HPI4.out.on hb).ent i hi3
   have hC := (HPI4.out.on hb).ctx i hi3
   rw [HGE.out] at hE
   rw [HGC.out.1, HGC.out.2] at hC
   have hBW : B ≤ W.heap.size := Nat.le_trans (Nat.le_trans hB (Nat.le_of_lt HBX5.out.lt)) hW.size
   refine (oapply_yes (s.l i) (s.c i) (s.C.getD kk default).L (s.C.getD kk default).A (s.C.getD kk default).c _ _ _ _ _ _ _ W hE.at hC.at (HL4.out.on hb).at (HA4.out.on hb).at (HC4.out.on hb).at (HINV.out.set i hi3) (HINV.out.chgs.right kk HKL.out) (HINV.out.told HKL.out _) (Nat.le_trans (HINV.out.len hi3) (by omega)) (Nat.le_trans (HINV.out.lenL HKL.out).1 (by omega)) (Nat.le_trans (HINV.out.lenL HKL.out).2 (by omega)) (Nat.le_trans (HINV.out.cloud hi3) (by omega)) (Nat.le_trans (HINV.out.cloudC HKL.out) (by omega)) (HMX.out.b (HL5.out.trans (hW.mono (Nat.le_trans hB (Nat.le_of_lt HBX5.out.lt)))) h0)).mono ?_
   rintro e w' ⟨u0, u1, u2, L', c', rfl, g1, g2, g3, g4, g5, g6⟩
   obtain ⟨x0, y0, rfl⟩ := own_slice g1
   obtain ⟨x1, x2, x3, y1, y2, y3, e1⟩ := g2.form
   simp only [Value.agg.injEq, Array.mk.injEq, List.cons.injEq, and_true] at e1
   obtain ⟨rfl, rfl⟩ := e1
   exact ⟨_, rfl, ⟨_, _, _, _, _, _, _, _, _, L', c', rfl, g1.low hBW, g2.low hBW, g3, g4, _, g5⟩, g6⟩
  have XD6 : Hid (∀ ww, Below w5.heap.size w5 ww → ww.cell? ⟨rC, kk * 4, none⟩ = some (.slice t0a t0b t0c) ∧ ww.cell? ⟨rC, kk * 4 + 1, none⟩ = some (.slice t1a t1b t1c) ∧ ww.cell? ⟨rC, kk * 4 + 2, none⟩ = some (.slice t2a t2b t2c) ∧ ww.cell? ⟨rC, kk * 4 + 3, none⟩ = some (.slice t3a t3b t3c)) := fun ww hw => XD.out ww (hc5.trans (hw.mono hc5.size))
  clear XD hRE hc5
  go_wp2_with fail
  refine wp_flow 14 (fun _ => 1000) (fun ww => RowKit.Below w5.heap.size w5 ww) (fun _ w w' => (fun (w w' : World) => RowKit.Below w.heap.size w w') w w') (fun kF vF wF => match kF with | 0 => (vF = .pointer (some ⟨q, 0, none⟩)) | 1 => (vF = .int .i64 (i : Int)) | 2 => (vF = .agg #[.slice ae ne ce, .slice av nv cv, .slice ac nc cc]) | 3 => (vF = .pointer (some ⟨q, 0, none⟩)) | 4 => (vF = .pointer (some ⟨q, 0, none⟩)) | 5 => (vF = .pointer (some ⟨q, 12, none⟩)) | 6 => (vF = .slice (some ⟨rC, 0, none⟩) nC cC) | 7 => (vF = .int .i64 (kk : Int)) | 8 => (vF = .pointer (some ⟨rC, kk * 4, none⟩)) | 9 => (vF = .agg #[.slice t0a t0b t0c, .slice t1a t1b t1c, .slice t2a t2b t2c, .slice t3a t3b t3c]) | 10 => (AppV B s i kk vF wF) | 11 => (vF = .pointer (some ⟨q, 0, none⟩)) | 12 => (vF = .pointer (some ⟨q, 0, none⟩)) | 13 => (vF = .pointer (some ⟨q, i * 3, none⟩)) | _ => True) (fun _ _ _ _ => True) (by kernel_rfl) (by kernel_rfl) ?_ ?_ ?_ ?_ ?_
  ·
   exact (Below.refl _ _).drew
  ·
   intro iF wF1 wF2 hR hT; exact hR.trans (hT.mono hR.size)
  ·
   intro kF hkF iF hiF hne hdd hanc hdan vF wF1 wF2 h hT
   rcases (by omega : kF = 0 ∨ kF = 1 ∨ kF = 2 ∨ kF = 3 ∨ kF = 4 ∨ kF = 5 ∨ kF = 6 ∨ kF = 7 ∨ kF = 8 ∨ kF = 9 ∨ kF = 10 ∨ kF = 11 ∨ kF = 12 ∨ kF = 13) with rfl | rfl | rfl | rfl | rfl | rfl | rfl | rfl | rfl | rfl | rfl | rfl | rfl | rfl
   iterate 10 exact h
   ·
    have h : (AppV B s i kk vF wF1) := h
    show (AppV B s i kk vF wF2)
    have hT : (fun (w w' : World) => RowKit.Below w.heap.size w w') wF1 wF2 := hT
    simp only at hT
    exact h.on hT
   iterate 3 exact h
  ·
   generalize hAF : fillOf _ _ _ = AF
   replace hAF := fun x => congrFun hAF x
   simp only [take_succ_cons, take_zero, fillOf, Act.put, setIfInBounds_toArray, set_cons_zero, set_cons_succ, Nat.reduceAdd, Nat.zero_add] at hAF
   refine .cons ?_ (.cons ?_ (.cons ?_ (.cons ?_ (.cons ?_ (.cons ?_ (.cons ?_ (.cons ?_ (.cons ?_ (.cons ?_ (.cons ?_ (.cons ?_ (.cons ?_ (.cons ?_ (.nil))))))))))))))
   all_goals
    intro xF w6 hR hd K hK
    first | simp only [← hAF, Act.put, setIfInBounds_toArray, set_cons_zero, set_cons_succ] at hK ⊢ | simp only [← hAF, Act.put] at hK ⊢
    clear hAF
    try simp only [Nat.zero_add, Nat.reduceAdd] at hK ⊢
   ·
    clear hd
    rw [if_pos (by rfl)]
    go_simp
    exact hK.out _ _ (Below.refl _ _) (rfl) (fun _ _ _ => ⟨trivial, trivial⟩)
   ·
    clear hd
    rw [if_pos (by rfl)]
    go_simp
    exact hK.out _ _ (Below.refl _ _) (rfl) (fun _ _ _ => ⟨trivial, trivial⟩)
   ·
    clear hd
    have y8 := (hR.block _ (lt_of_block R85.out)).trans R85.out
    have e0 := boxc y8 0 _ rfl
    have e1 := boxc y8 1 _ rfl
    have e2 := boxc y8 2 _ rfl
    rw [if_pos (by rfl)]
    go_simp
    exact hK.out _ _ (Below.refl _ _) (rfl) (fun _ _ _ => ⟨trivial, trivial⟩)
   ·
    clear hd
    rw [if_pos (by rfl)]
    go_simp
    exact hK.out _ _ (Below.refl _ _) (rfl) (fun _ _ _ => ⟨trivial, trivial⟩)
   ·
    have dd3 := hd 3 (by kernel_rfl)
    clear hd
    try generalize xF 3 = yy3 at *
    obtain rfl := dd3
    rw [if_pos (by rfl)]
    go_simp
    exact hK.out _ _ (Below.refl _ _) (rfl) (fun _ _ _ => ⟨trivial, trivial⟩)
   ·
    have dd4 := hd 4 (by kernel_rfl)
    clear hd
    try generalize xF 4 = yy4 at *
    obtain rfl := dd4
    rw [if_pos (by rfl)]
    go_simp
    exact hK.out _ _ (Below.refl _ _) (rfl) (fun _ _ _ => ⟨trivial, trivial⟩)
   ·
    have dd5 := hd 5 (by kernel_rfl)
    clear hd
    try generalize xF 5 = yy5 at *
    obtain rfl := dd5
    have kc := (HBX5.out.on hR).cell (j := 12) (by omega)
    rw [HGC4.out] at kc
    rw [if_pos (by rfl)]
    go_simp
    exact hK.out _ _ (Below.refl _ _) (rfl) (fun _ _ _ => ⟨trivial, trivial⟩)
   ·
    clear hd
    rw [if_pos (by rfl)]
    go_simp
    exact hK.out _ _ (Below.refl _ _) (rfl) (fun _ _ _ => ⟨trivial, trivial⟩)
   ·
    have dd6 := hd 6 (by kernel_rfl)
    have dd7 := hd 7 (by kernel_rfl)
    clear hd
    try generalize xF 6 = yy6 at *
    try generalize xF 7 = yy7 at *
    obtain rfl := dd6
    obtain rfl := dd7
    have hk := HKK.out
    have hki : (kk : Int) < (nC : Int) := by omega
    have hk0 : 0 ≤ (kk : Int) := by omega
    rw [if_pos (by rfl)]
    go_simp
    exact hK.out _ _ (Below.refl _ _) (rfl) (fun _ _ _ => ⟨trivial, trivial⟩)
   ·
    have dd8 := hd 8 (by kernel_rfl)
    clear hd
    try generalize xF 8 = yy8 at *
    obtain rfl := dd8
    obtain ⟨d0, d1, d2, d3⟩ := XD6.out _ hR
    rw [if_pos (by rfl)]
    go_simp
    exact hK.out _ _ (Below.refl _ _) (rfl) (fun _ _ _ => ⟨trivial, trivial⟩)
   ·
    have dd2 := hd 2 (by kernel_rfl)
    have dd9 := hd 9 (by kernel_rfl)
    clear hd
    try generalize xF 2 = yy2 at *
    try generalize xF 9 = yy9 at *
    obtain rfl := dd2
    obtain rfl := dd9
    rw [if_pos (by rfl)]
    go_simp
    (go_at_call 9; (with_reducible refine (HAPL.out _ hR).mono ?_); rintro e wK ⟨vK, rfl, hpK, hbK⟩; obtain ⟨a0, n0, c0, a1, n1, c1, a2, n2, c2, l2, cc2, rfl, hpQ⟩ := hpK)
    try go_wp2_with fail
    exact hK.out _ _ (hbK) (⟨_, _, _, _, _, _, _, _, _, _, _, rfl, hpQ⟩) (fun _ _ _ => ⟨trivial, trivial⟩)
   ·
    have dd0 := hd 0 (by kernel_rfl)
    clear hd
    try generalize xF 0 = yy0 at *
    obtain rfl := dd0
    rw [if_pos (by rfl)]
    go_simp
    exact hK.out _ _ (Below.refl _ _) (rfl) (fun _ _ _ => ⟨trivial, trivial⟩)
   ·
    have dd11 := hd 11 (by kernel_rfl)
    clear hd
    try generalize xF 11 = yy11 at *
    obtain rfl := dd11
    rw [if_pos (by rfl)]
    go_simp
    exact hK.out _ _ (Below.refl _ _) (rfl) (fun _ _ _ => ⟨trivial, trivial⟩)
   ·
    have dd1 := hd 1 (by kernel_rfl)
    have dd12 := hd 12 (by kernel_rfl)
    clear hd
    try generalize xF 1 = yy1 at *
    try generalize xF 12 = yy12 at *
    obtain rfl := dd1
    obtain rfl := dd12
    rw [if_pos (by rfl)]
    go_simp
    exact hK.out _ _ (Below.refl _ _) (rfl) (fun _ _ _ => ⟨trivial, trivial⟩)
  intro xF w6 hR hF hP
  clear hP
  have dd0 := hF 0 (by omega) (by decide)
  have dd1 := hF 1 (by omega) (by decide)
  have dd2 := hF 2 (by omega) (by decide)
  have dd3 := hF 3 (by omega) (by decide)
  have dd4 := hF 4 (by omega) (by decide)
  have dd5 := hF 5 (by omega) (by decide)
  have dd6 := hF 6 (by omega) (by decide)
  have dd7 := hF 7 (by omega) (by decide)
  have dd8 := hF 8 (by omega) (by decide)
  have dd9 := hF 9 (by omega) (by decide)
  have dd10 : (AppV B s i kk (xF 10) w6) := hF 10 (by omega) (by decide)
  have dd11 := hF 11 (by omega) (by decide)
  have dd12 := hF 12 (by omega) (by decide)
  have dd13 := hF 13 (by omega) (by decide)
  clear hF
  simp only [take_succ_cons, take_zero, drop_succ_cons, drop_zero, fillOf, Act.put, setIfInBounds_toArray, set_cons_zero, set_cons_succ, Nat.reduceAdd, Nat.zero_add]
  try generalize xF 0 = yy0 at *
  try generalize xF 1 = yy1 at *
  try generalize xF 2 = yy2 at *
  try generalize xF 3 = yy3 at *
  try generalize xF 4 = yy4 at *
  try generalize xF 5 = yy5 at *
  try generalize xF 6 = yy6 at *
  try generalize xF 7 = yy7 at *
  try generalize xF 8 = yy8 at *
  try generalize xF 9 = yy9 at *
  try generalize xF 10 = yy10 at *
  try generalize xF 11 = yy11 at *
  try generalize xF 12 = yy12 at *
  try generalize xF 13 = yy13 at *
  clear xF
  obtain rfl := dd0
  obtain rfl := dd1
  obtain rfl := dd2
  obtain rfl := dd3
  obtain rfl := dd4
  obtain rfl := dd5
  obtain rfl := dd6
  obtain rfl := dd7
  obtain rfl := dd8
  obtain rfl := dd9
  have hp10 := dd10
  obtain rfl := dd11
  obtain rfl := dd12
  obtain rfl := dd13
  have hRE := Lib.hid hR
  clear hR
  obtain ⟨a0, n0, c0, a1, n1, c1, a2, n2, c2, l2, cc2, rfl, hE6, hC6, hP6, hU6, m6, hI6⟩ := hp10
  have hb6 := HBX5.out.on hRE
  have k0 := hb6.cell (j := i * 3) (by omega)
  have k1 := hb6.cell (j := i * 3 + 1) (by omega)
  have k2 := hb6.cell (j := i * 3 + 2) (by omega)
  rw [HGE.out] at k0
  rw [HGC.out.1] at k1
  rw [HGC.out.2] at k2
  have f0 := hb6.fro (i * 3)
  have f1 := hb6.fro (i * 3 + 1)
  have f2 := hb6.fro (i * 3 + 2)
  obtain ⟨W7, hW7⟩ : ∃ W, W = ((w6.setCell ⟨q, i * 3, none⟩ (.slice a0 n0 c0)).setCell ⟨q, i * 3 + 1, none⟩ (.slice a1 n1 c1)).setCell ⟨q, i * 3 + 2, none⟩ (.slice a2 n2 c2) := ⟨_, rfl⟩
  have hk7 : Kt 43 w6 W7 := by rw [hW7]; exact kt3 hb6 _ _ _ _ _ _
  have hg7 : w6.grownBy W7 (some q) := by rw [hW7]; exact grown3 _ _ _ _ _ _
  obtain ⟨gT, hgT⟩ : ∃ f, f = upd (upd (upd g (i * 3) (.slice a0 n0 c0)) (i * 3 + 1) (.slice a1 n1 c1)) (i * 3 + 2) (.slice a2 n2 c2) := ⟨_, rfl⟩
  have HB7 : Hid (Box16 W7 q gT) := by show Box16 _ _ _; rw [hW7, hgT]; exact ((hb6.set (by omega) _).set (by omega) _).set (by omega) _
  have hp7 := ((HPI5.out.on hRE).kt hk7 (by decide) (by decide) (by decide) (by decide)).put hi3 (hE6.kt hk7 (by decide)) (hC6.kt hk7 (by decide))
  rw [← hgT] at hp7
  have HP7 := Lib.hid hp7
  have HL7 : Hid (Below B w W7) := (HL5.out.trans (hRE.mono (Nat.le_trans hB (Nat.le_of_lt HBX5.out.lt)))).trans ((Below.refl B w6).grown hg7 (Nat.le_trans hB (Nat.le_of_lt hb6.lt)) (fun j hj => by cases hj; exact hB))
  have HIA := Lib.hid (inv_app HINV.out hi3 HKL.out hP6 hU6 hI6)
  have HAP := Lib.hid (applies_any B q nC i kk gT s.has W7 HB7.out hp7.hin (fun j hj => by rw [HNC.out]; exact HINV.out.hasl j hj) hi3 (Nat.le_of_lt HKK.out) (by have := HINV.out.many; have := HNC.out; omega) hB)
  have HW7 := Lib.hid hW7
  clear hb6 hW7 hk7 hg7 hgT hp7 hRE hE6 hC6 hP6 hU6 hI6
  go_wp2_with fail
  rw [← HW7.out]
  (with_reducible refine HAP.out.mono ?_)
  rintro e w8 ⟨rfl, g8, hb8, hg8, hh8, hk8, hl8⟩
  have hp8 := HP7.out.hset hk8 hg8 hh8
  have HPZ : Hid (PIn B w8 g8 (s.app i kk l2 cc2)) := by
   rw [hasN_here HKK.out] at hp8
   exact hp8
  have HBZ := Lib.hid hb8
  have HLZ := Lib.hid (HL7.out.trans hl8)
  clear hb8 hg8 hh8 hk8 hl8 hp8 k0 k1 k2 f0 f1 f2
  go_wp2_with fail
  go_ret
  exact ⟨rfl, g8, _, HBZ.out, HPZ.out, HIA.out.mono (Nat.le_succ _), HLZ.out⟩
end Go.Proofs.YthpdmfkpiekonaaGreat
namespace Go.Proofs.YthpdmfkpiekonaaGreat
open Go Go.RowKit Go.ChangeShapes cl
theorem step_any (B q n : Nat) (s : PS) (g : Nat → Value) (oK oW oA oB : Int) (w : World) (hb : Box16 w q g) (hp : PIn B w g s) (hv : Inv n s) (hn : n ≤ 60) (hB : B ≤ q) (hm : MX w) (h0 : 0 < B) :
  Calls Tryz.prog 16 #[.pointer (some ⟨q, 0, none⟩), .agg #[.int .i64 oK, .int .i64 oW, .int .i64 oA, .int .i64 oB]] w (StepP B q n w) := by
 by_cases h1 : oK = 1
 ·
  subst h1; exact step_rem B q n s g oW oA oB w hb hp hv hn hB hm h0
 ·
  by_cases h2 : oK = 2
  ·
   subst h2; exact step_exp B q n s g oW oA oB w hb hp hv hn hB hm h0
  ·
   by_cases h3 : oK = 3
   ·
    subst h3; exact step_app B q n s g oW oA oB w hb hp hv hn hB hm h0
   ·
    exact step_add B q n s g oK oW oA oB w hb hp hv hn hB hm h0 (by simpa using h1) (by simpa using h2) (by simpa using h3)
set_option maxHeartbeats 3200000 in
set_option maxRecDepth 100000 in
theorem begun_any (w : World) : Calls Tryz.prog 15 #[] w fun e w' => e = .returned (.agg #[.slice none 0 0, .slice none 0 0, .slice none 0 0, .slice none 0 0, .slice none 0 0, .slice none 0 0, .slice none 0 0, .slice none 0 0, .slice none 0 0, .int .i64 0, .int .i64 0, .int .i64 0, .slice none 0 0, .slice none 0 0, .slice none 0 0, .slice none 0 0]) ∧ Below w.heap.size w w' := by
 obtain ⟨W1, hW1⟩ : ∃ W, W = w.alloc (.cells #[.slice none 0 0, .slice none 0 0, .slice none 0 0, .slice none 0 0, .slice none 0 0, .slice none 0 0, .slice none 0 0, .slice none 0 0, .slice none 0 0, .int .i64 0, .int .i64 0, .int .i64 0, .slice none 0 0, .slice none 0 0, .slice none 0 0, .slice none 0 0] 43) := ⟨_, rfl⟩
 have hb : Below w.heap.size w W1 := by rw [hW1]; exact below1
 have HW1 := Lib.hid hW1
 clear hW1
 go_enter Tryz.func15, Tryz.ntmps15
 go_wp2_with fail
 rw [← HW1.out]
 have hx : W1.heap[w.heap.size]? = some (.cells #[.slice none 0 0, .slice none 0 0, .slice none 0 0, .slice none 0 0, .slice none 0 0, .slice none 0 0, .slice none 0 0, .slice none 0 0, .slice none 0 0, .int .i64 0, .int .i64 0, .int .i64 0, .slice none 0 0, .slice none 0 0, .slice none 0 0, .slice none 0 0] 43 (0, 0)) := by rw [HW1.out]; exact heap_alloc_new w _
 have z0 := boxc hx 0 _ rfl
 have z1 := boxc hx 1 _ rfl
 have z2 := boxc hx 2 _ rfl
 have z3 := boxc hx 3 _ rfl
 have z4 := boxc hx 4 _ rfl
 have z5 := boxc hx 5 _ rfl
 have z6 := boxc hx 6 _ rfl
 have z7 := boxc hx 7 _ rfl
 have z8 := boxc hx 8 _ rfl
 have z9 := boxc hx 9 _ rfl
 have z10 := boxc hx 10 _ rfl
 have z11 := boxc hx 11 _ rfl
 have z12 := boxc hx 12 _ rfl
 have z13 := boxc hx 13 _ rfl
 have z14 := boxc hx 14 _ rfl
 have z15 := boxc hx 15 _ rfl
 exact bodyPost_ret (v := .agg #[.slice none 0 0, .slice none 0 0, .slice none 0 0, .slice none 0 0, .slice none 0 0, .slice none 0 0, .slice none 0 0, .slice none 0 0, .slice none 0 0, .int .i64 0, .int .i64 0, .int .i64 0, .slice none 0 0, .slice none 0 0, .slice none 0 0, .slice none 0 0]) (by simp [results, Tryz.results15, go_sem, z0, z1, z2, z3, z4, z5, z6, z7, z8, z9, z10, z11, z12, z13, z14, z15]) rfl ⟨rfl, hb⟩
end Go.Proofs.YthpdmfkpiekonaaGreat
namespace Go.Proofs.YthpdmfkpiekonaaGreat
open Go Go.RowKit Go.ChangeShapes cl Go.Sort
set_option maxHeartbeats 800000 in
set_option maxRecDepth 100000 in
theorem ins_one (b : Nat) (cap : Nat) (f : Value) (w : World) : Calls Tryz.prog 96 #[.slice (some ⟨b, 0, none⟩) 1 cap, .int .i64 0, .int .i64 1, f] w fun e w' => e = .returned (.tuple #[]) ∧ w' = w := by
 go_enter Tryz.func96, Tryz.ntmps96
 go_wp2
 refine wp_loop_rounds 1 ?_
 rw [rounds_succ]
 go_wp2
 go_end0
 exact ⟨rfl, rfl⟩
set_option maxHeartbeats 800000 in
set_option maxRecDepth 100000 in
theorem pdq_one (b : Nat) (cap : Nat) (k : Int) (f : Value) (w : World) : Calls Tryz.prog 84 #[.slice (some ⟨b, 0, none⟩) 1 cap, .int .i64 0, .int .i64 1, .int .i64 k, f] w fun e w' => e = .returned (.tuple #[]) ∧ w' = w := by
 have HI := Lib.hid (ins_one b cap f w)
 go_enter Tryz.func84, Tryz.ntmps84
 go_wp2
 refine wp_loop_rounds 1 ?_
 rw [rounds_succ]
 go_wp2_with fail
 (with_reducible refine HI.out.mono ?_)
 rintro e w1 ⟨rfl, rfl⟩
 go_wp2
 exact bodyPost_ret (v := .tuple #[]) (by simp [results, Tryz.results84, go_sem]) rfl ⟨rfl, rfl⟩
set_option maxHeartbeats 800000 in
set_option maxRecDepth 100000 in
theorem sort_one (b : Nat) (cap : Nat) (f : Value) (w : World) : Calls Tryz.prog 60 #[.slice (some ⟨b, 0, none⟩) 1 cap, f] w fun e w' => e = .returned (.tuple #[]) ∧ w' = w := by
 have HB := Lib.hid (Tryz.bits_Len 1 w (by omega) (by omega))
 have HP : Hid (∀ k : Int, Calls Tryz.prog 84 #[.slice (some ⟨b, 0, none⟩) 1 cap, .int .i64 0, .int .i64 1, .int .i64 k, f] w fun e w' => e = .returned (.tuple #[]) ∧ w' = w) := fun k => pdq_one b cap k f w
 go_enter Tryz.func60, Tryz.ntmps60
 go_wp2_with fail
 (with_reducible refine HB.out.mono ?_)
 rintro e w1 ⟨rfl, rfl⟩
 go_wp2_with fail
 (with_reducible refine (HP.out _).mono ?_)
 rintro e w2 ⟨rfl, rfl⟩
 go_wp2
 go_end0
 exact ⟨rfl, rfl⟩
theorem infoStrO : (Tryz.prog.info? 9).map (fun i => (i.zero, i.size, i.bytes)) = some (some (.string ⟨#[]⟩), 1, 16) := by kernel_rfl
theorem put_below {w : World} {q blk off B : Nat} {d : Array (List UInt8)} (hB : B ≤ blk) : Below B w (putRow encStr (Sort.ahead w q) blk off d) := by
 refine ⟨rfl, rfl, rfl, by simp [putRow, mapBlock, Sort.ahead], fun i hi => ?_⟩
 have hne : blk ≠ i := by omega
 simp [putRow, mapBlock, Sort.ahead, Array.getElem?_modify, hne]
set_option maxHeartbeats 1600000 in
set_option maxRecDepth 100000 in
theorem olist_one (x : Ent) (ve v1 v2 : Value) (w : World) (h : Ents w w.heap.size ve [x]) : Calls Tryz.prog 23 #[.agg #[ve, v1, v2]] w fun e w' => ∃ a cap, e = .returned (.slice a 1 cap) ∧ Below w.heap.size w w' := by
 obtain ⟨ao, cap, e0, _, _⟩ := h.form
 have e0 : ve = .slice ao 1 cap := e0
 subst e0
 have hA := below1 (w := w) (o := .cells #[.slice ao 1 cap, v1, v2] 27)
 obtain ⟨bb, off, rfl, hbB, p0, p1, p2, p3, p4⟩ := Ents.get (j := 0) (Cells.next h hA) rfl (by simp)
 simp only [Nat.zero_mul, Nat.add_zero] at p0 p1 p2 p3 p4
 have hx : ([x] : List Ent).getD 0 default = x := rfl
 rw [hx] at p0 p1 p2 p3
 have HB := Lib.hid hA
 clear h hA hx
 have HO0 : Hid (((w.alloc (.cells #[.slice (some ⟨bb, off, none⟩) 1 cap, v1, v2] 27)).alloc (.cells #[.string x.s, .int .i64 x.d.1, .int .i64 x.d.2, .int .i64 x.t, .slice none 0 0] 53)).ownsRow w.heap.size 9 1 (.slice none 0 0) 0 []) := World.ownsRow_nil _ _ _ _
 have hz0 : w.heap.size ≤ ((w.alloc (.cells #[.slice (some ⟨bb, off, none⟩) 1 cap, v1, v2] 27)).alloc (.cells #[.string x.s, .int .i64 x.d.1, .int .i64 x.d.2, .int .i64 x.t, .slice none 0 0] 53)).heap.size := by simp <;> omega
 have HZ0 := Lib.hid hz0
 clear hz0
 show Calls Tryz.prog 23 #[.agg #[.slice (some ⟨bb, off, none⟩) 1 cap, v1, v2]] w _
 go_enter Tryz.func23, Tryz.ntmps23
 go_wp2
 refine wp_loop_rounds 2 ?_
 rw [rounds_succ]
 go_wp2_with (at_builtin; refine app1g (.tmp 13) (.tmp 16) 55 rfl rfl w.heap.size Tryz.underlying55 infoStrO rfl (by decide) (by decide) HO0.out rfl (by show Value.slice (some ⟨w.heap.size + 1 + 1, 0, none⟩) 1 1 = Value.slice (some ⟨World.heap _ |>.size, 0, none⟩) 1 1; simp) rfl (by intro u hu; simp at hu; rcases hu with rfl; rfl) (by omega) HZ0.out ?_)
 intro v' w5 hown hg5
 have hb5 : Below w.heap.size w w5 := (below1.trans (below1.mono (by simp)) |>.alloc (by simp; omega) _).grown hg5 (by simp; omega) (fun j hj => by cases hj)
 rcases hown.2 with ⟨rfl, h0⟩ | ⟨g, gc, cur, rfl, hbg, hg, hnc, hcm, hcs, htk⟩
 ·
  cases h0
 have hH : Holds encStr w5 g 0 (([x.s.data.toList] : List (List UInt8)).toArray) := fun j hj => by
  have hj0 : j = 0 := by simpa using hj
  subst hj0
  refine ⟨?_, by simp [World.frozen?, hg]⟩
  have := hown.cells (g := g) rfl 0 (.string x.s) rfl
  rw [Addr.add_lit] at this
  simpa using this
 have HS := Lib.hid (sort_one g gc (.func (.func 61) #[] #[]) w5)
 have HC : Hid (Calls Tryz.prog 62 #[.slice (some ⟨g, 0, none⟩) 1 gc] w5 fun e w' => e = .returned (.slice (some ⟨g, 0, none⟩) 1 gc) ∧ ∃ (q : Nat) (d : Array (List UInt8)), w' = putRow encStr (Sort.ahead w5 q) g 0 d) :=
  (Tryz.slices_Compact_string g 0 gc [x.s.data.toList] w5 hH (by simp) (by simpa using hnc)).mono (by rintro e w' ⟨rfl, q, rfl⟩; exact ⟨rfl, q, _, rfl⟩)
 have HB5 := Lib.hid hb5
 have HBG := Lib.hid hbg
 clear hown hg5 hb5 hbg hg hnc hcm hcs htk hH
 go_wp2
 rw [rounds_succ]
 go_wp2_with fail
 (with_reducible refine HS.out.mono ?_)
 rintro e w6 ⟨rfl, rfl⟩
 go_wp2_with fail
 (with_reducible refine HC.out.mono ?_)
 rintro e w7 ⟨rfl, q, dd, hw7⟩
 have HB7 : Hid (Below w.heap.size w w7) := by
  show Below _ _ _
  rw [hw7]; exact HB5.out.trans (put_below HBG.out)
 clear hw7
 go_wp2
 go_ret
 exact ⟨_, _, rfl, HB7.out⟩
end Go.Proofs.YthpdmfkpiekonaaGreat
