/- texts put together: OrsDrop. -/
import Derived.Test.YtonknpdalemjkaaGreatDe15
import Derived.Test.YtonknpdalemjkaaGreatDe17
open List (setIfInBounds_toArray set_cons_zero set_cons_succ take_succ_cons take_zero drop_succ_cons drop_zero)
namespace Go.Proofs.YtonknpdalemjkaaGreat
open Go Go.RowKit Go.ChangeShapes cl
theorem OwnC.kept {B : Nat} {w w' : World} {v : Value} {c : dm.Ctx} {r : Option Nat} (h : OwnC B w v c) (hg : w.grownBy w' r) (hr : ∀ j, r = some j → j < B) : OwnC B w' v c := by
 obtain ⟨a1, c1, a2, c2, rfl, h1, h2⟩ := h
 have k : ∀ {x : Value} {n : Nat} {vs : List Value}, w.ownsRow B 51 2 x n vs → x.ownBlock = none ∨ x.ownBlock ≠ r := fun {x n vs} hx => by
  cases e : x.ownBlock with
  | none => exact Or.inl rfl
  | some g =>
   refine Or.inr fun e2 => ?_
   have h3 := (hx.lt g e).1
   have h4 := hr g e2.symm
   omega
 exact ⟨_, _, _, _, rfl, h1.kept hg (k h1), h2.kept hg (k h2)⟩
theorem own_far {w : World} {B k n g : Nat} {e : TypeId} {v : Value} {xs : List Value} (h : w.ownsRow B e k v n xs) (hg : g < B) : v.ownBlock = none ∨ v.ownBlock ≠ some g := by
 cases e2 : v.ownBlock with
 | none => exact Or.inl rfl
 | some j =>
  refine Or.inr fun e3 => ?_
  have h3 := (h.lt j e2).1
  have := Option.some.inj e3
  omega
theorem grown_far {w w1 w2 : World} {r r' : Option Nat} (h : w.grownBy w1 r) (h2 : w1.grownBy w2 r') (hr : ∀ j, r' = some j → w.heap.size ≤ j) : w.grownBy w2 r :=
 ⟨h2.os.trans h.os, h2.tape.trans h.tape, h2.output.trans h.output, Nat.le_trans h.size h2.size, fun k hk hne => (h2.block k (Nat.lt_of_lt_of_le hk h.size) (fun e => by have := hr k e.symm; omega)).trans (h.block k hk hne)⟩
theorem Asks.on {f : Nat} {fc : Array Value} {p : Ent → Bool} {w w' : World} (h : Asks f fc p w) (hb : Below w.heap.size w w') : Asks f fc p w' := ⟨h.en, fun x W hv hW => h.says x W hv (hb.trans (hW.mono hb.size))⟩
def DropN (va : Value) (w : World) (e : Ending) (w' : World) : Prop := e = .returned (.tuple #[va, .agg #[.slice none 0 0, .slice none 0 0, .slice none 0 0, .slice none 0 0]]) ∧ Below w.heap.size w w'
def DropY (p : Ent → Bool) (l : List Ent) (c : dm.Ctx) (d : Dot) (w : World) (e : Ending) (w' : World) : Prop :=
 ∃ (u0 u1 u2 t2 t3 : Value) (c' dc : dm.Ctx), e = .returned (.tuple #[.agg #[u0, u1, u2], .agg #[.slice none 0 0, .slice none 0 0, t2, t3]]) ∧ EntO w.heap.size w' u0 (staysOf p l) ∧ OwnC w.heap.size w' (.agg #[u1, u2]) c' ∧
  OwnC w.heap.size w' (.agg #[t2, t3]) dc ∧ dm.Is c' (fun e => dm.Knows c e ∨ e = d) (c.2.length + 1) ∧ (∃ m, dm.Is dc (fun e => valid e = true ∧ e ∈ goneOf p l ++ [d]) m) ∧ Below w.heap.size w w'
set_option maxHeartbeats 12800000 in
set_option maxRecDepth 100000 in
theorem odrop_any (f : Nat) (fc : Array Value) (p : Ent → Bool) (l : List Ent) (c : dm.Ctx) (d : Dot) (ve v1 v2 : Value) (w : World) (h : Ents w w.heap.size ve l) (hc : CtxAt w w.heap.size (.agg #[v1, v2]) c) (hr : RSet l c) (hd : valid d = true) (hn : ¬ dm.Knows c d) (hl : l.length ≤ 1000) (hcl : c.2.length ≤ 1000) (hm : MX w) (hq : Asks f fc p w) :
  Calls Tryz.prog 88 #[.agg #[ve, v1, v2], .agg #[.int .i64 d.1, .int .i64 d.2], .func (.func f) #[] fc] w fun e w' => (goneOf p l = [] ∧ DropN (.agg #[ve, v1, v2]) w e w') ∨ (goneOf p l ≠ [] ∧ DropY p l c d w e w') := by
 obtain ⟨n0, hn0⟩ : ∃ n, n = l.length := ⟨_, rfl⟩
 obtain ⟨ao, cap, rfl⟩ : ∃ ao cap, ve = .slice ao n0 cap := by
  obtain ⟨ao, cap, e, _⟩ := h.form
  exact ⟨ao, cap, by rw [hn0]; exact e⟩
 obtain ⟨s1, p1, c1, s2, p2, c2, e0, hp1, hp2⟩ := hc.form
 simp only [Value.agg.injEq, Array.mk.injEq, List.cons.injEq, and_true] at e0
 obtain ⟨rfl, rfl⟩ := e0
 clear hp1 hp2
 obtain ⟨WA, hWA⟩ : ∃ W, W = w.alloc (.cells #[.slice ao n0 cap, .slice s1 p1 c1, .slice s2 p2 c2] 27) := ⟨_, rfl⟩
 obtain ⟨WB, hWB⟩ : ∃ W, W = WA.alloc (.cells #[.int .i64 d.1, .int .i64 d.2] 51) := ⟨_, rfl⟩
 obtain ⟨WC, hWC⟩ : ∃ W, W = WB.alloc (.cells #[.slice none 0 0, .slice none 0 0, .slice none 0 0] 27) := ⟨_, rfl⟩
 obtain ⟨W4, hW4⟩ : ∃ W, W = WC.alloc (.cells #[.slice none 0 0, .slice none 0 0, .slice none 0 0, .slice none 0 0] 29) := ⟨_, rfl⟩
 have sA : WA.heap.size = w.heap.size + 1 := by rw [hWA]; simp
 have sB : WB.heap.size = w.heap.size + 2 := by rw [hWB]; simp [sA]
 have sC : WC.heap.size = w.heap.size + 3 := by rw [hWC]; simp [sB]
 have bA : Below w.heap.size w WA := by rw [hWA]; exact below1
 have bB : Below WA.heap.size WA WB := by rw [hWB]; exact below1
 have bC : Below WB.heap.size WB WC := by rw [hWC]; exact below1
 have bD : Below WC.heap.size WC W4 := by rw [hW4]; exact below1
 have b3 : Below WB.heap.size WB W4 := bC.trans (bD.mono bC.size)
 have b2 : Below WA.heap.size WA W4 := bB.trans (b3.mono bB.size)
 have b4 : Below w.heap.size w W4 := bA.trans (b2.mono bA.size)
 have x0 : W4.heap[w.heap.size]? = some (.cells #[.slice ao n0 cap, .slice s1 p1 c1, .slice s2 p2 c2] 27) := (b2.block _ (by omega)).trans (by rw [hWA]; exact heap_alloc_new w _)
 have x1 : W4.heap[w.heap.size + 1]? = some (.cells #[.int .i64 d.1, .int .i64 d.2] 51) := (b3.block _ (by omega)).trans (by rw [hWB, ← sA]; exact heap_alloc_new WA _)
 have x2 : W4.heap[w.heap.size + 2]? = some (.cells #[.slice none 0 0, .slice none 0 0, .slice none 0 0] 27) := (bD.block _ (by omega)).trans (by rw [hWC, ← sB]; exact heap_alloc_new WB _)
 have x3 : W4.heap[w.heap.size + 3]? = some (.cells #[.slice none 0 0, .slice none 0 0, .slice none 0 0, .slice none 0 0] 29) := by rw [hW4, ← sC]; exact heap_alloc_new WC _
 subst hWA hWB hWC
 have HW4 := Lib.hid hW4
 have X0 := Lib.hid x0
 have X1 := Lib.hid x1
 have X2 := Lib.hid x2
 have X3 := Lib.hid x3
 have HB4 := Lib.hid b4
 have HE := Lib.hid (Cells.next h b4)
 have HC := Lib.hid (hc.next b4)
 have HC0 := Lib.hid hc
 have HRS := Lib.hid hr
 have HDV := Lib.hid hd
 have HNK := Lib.hid hn
 have HMX := Lib.hid (MX.next hm b4)
 have HQ := Lib.hid hq
 clear h hc hr hd hn hm hq sA sB sC bA bB bC bD b3 b2 b4 x0 x1 x2 x3 hW4 hn0
 have HR := Lib.hid (oright_yes l c _ _ _ W4 HE.out HC.out HRS.out HMX.out)
 go_enter Tryz.func88, Tryz.ntmps88
 go_wp2_with fail
 rw [← HW4.out]
 (with_reducible refine HR.out.mono ?_)
 rintro e w5 ⟨rfl, hb5⟩
 have HB5 := Lib.hid hb5
 have HVD : Hid (Calls Tryz.prog 61 #[.agg #[.int .i64 d.1, .int .i64 d.2]] w5 (SaidD true w5)) := by
  have := valid_any d w5
  rwa [HDV.out] at this
 have y1 := (HB5.out.block _ (lt_of_block X1.out)).trans X1.out
 have e0 := boxc y1 0 _ rfl
 have e1 := boxc y1 1 _ rfl
 clear y1 hb5 HR
 go_wp2_with fail
 (with_reducible refine HVD.out.mono ?_)
 rintro e w6 ⟨rfl, hb6⟩
 have HB6 := Lib.hid (HB5.out.trans (hb6.mono HB5.out.size))
 have HHS : Hid (Calls Tryz.prog 27 #[.agg #[.slice s1 p1 c1, .slice s2 p2 c2], .agg #[.int .i64 d.1, .int .i64 d.2]] w6 (SaidD false w6)) := by
  have := has_any c d _ w6 (HC.out.next HB6.out)
  have hf : dm.hasF c d = false := by
   cases e : dm.hasF c d
   ·
    rfl
   ·
    exact absurd (dm.hasF_iff.1 e) HNK.out
  rwa [hf] at this
 have y1 := (HB6.out.block _ (lt_of_block X1.out)).trans X1.out
 have y0 := (HB6.out.block _ (lt_of_block X0.out)).trans X0.out
 have e0 := boxc y1 0 _ rfl
 have e1 := boxc y1 1 _ rfl
 have i1 := boxc y0 1 _ rfl
 have i2 := boxc y0 2 _ rfl
 clear y1 y0 hb6 HVD
 go_wp2_with fail
 (with_reducible refine HHS.out.mono ?_)
 rintro e w7 ⟨rfl, hb7⟩
 have HB7 := Lib.hid (HB6.out.trans (hb7.mono HB6.out.size))
 have y0 := (HB7.out.block _ (lt_of_block X0.out)).trans X0.out
 have HPT := Lib.hid (part_any f fc p l _ w7 (Cells.next HE.out HB7.out) (by omega) (HQ.out.on (HB4.out.trans (HB7.out.mono HB4.out.size))) (fun y hy => (HRS.out.fine y hy).ok))
 have i0 := boxc y0 0 _ rfl
 clear y0 hb7 HHS e0 e1 i1 i2
 go_wp2_with fail
 (with_reducible refine HPT.out.mono ?_)
 rintro e W1 ⟨a6, n6, c6, b8, m8, d8, rfl, hn6, hm8, hoE, hoD, hbP⟩
 unfold OwnE at hoE
 unfold OwnDs at hoD
 have hE1 : Ents W1 W1.heap.size (.slice a6 n6 c6) (staysOf p l) := Cells.own hoE
 rw [← hn6] at hoE
 rw [← hm8] at hoD
 have HM8 := Lib.hid hm8
 have HN6 := Lib.hid hn6
 have hm8l : m8 ≤ 1000 := by rw [hm8]; exact Nat.le_trans (gone_len _ _) hl
 have HOE := Lib.hid hoE
 have HOD := Lib.hid hoD
 have HBP := Lib.hid hbP
 have HB7P := Lib.hid (HB7.out.trans (hbP.mono HB7.out.size))
 have HNE := Lib.hid (own_ne hoE hoD (by decide))
 have HGK : Hid (∀ j, (Value.slice b8 m8 d8).ownBlock = some j → w7.heap.size ≤ j ∧ j < W1.heap.size) := fun j hj => hoD.lt j hj
 clear hoE hoD hbP HPT i0 hn6 hE1
 by_cases hz : m8 = 0
 ·
  have HG0 : Hid (goneOf p l = []) := List.eq_nil_of_length_eq_zero (by rw [← hm8]; exact hz)
  subst hz
  clear hm8
  obtain ⟨r3, hr3⟩ : ∃ r, r = w.heap.size + 1 + 1 + 1 := ⟨_, rfl⟩
  obtain ⟨r2, hr2⟩ : ∃ r, r = w.heap.size + 1 + 1 := ⟨_, rfl⟩
  have y0 := (HB7P.out.block _ (lt_of_block X0.out)).trans X0.out
  have y2 : W1.heap[r2]? = some (.cells #[.slice none 0 0, .slice none 0 0, .slice none 0 0] 27 (0, 0)) := by rw [hr2]; exact (HB7P.out.block _ (lt_of_block X2.out)).trans X2.out
  have y3 : W1.heap[r3]? = some (.cells #[.slice none 0 0, .slice none 0 0, .slice none 0 0, .slice none 0 0] 29 (0, 0)) := by rw [hr3]; exact (HB7P.out.block _ (lt_of_block X3.out)).trans X3.out
  have h32 : r3 ≠ r2 := by omega
  have i0 := boxc y0 0 _ rfl
  have i1 := boxc y0 1 _ rfl
  have i2 := boxc y0 2 _ rfl
  have j0 := boxc y2 0 _ rfl
  have j1 := boxc y2 1 _ rfl
  have j2 := boxc y2 2 _ rfl
  have fj0 := boxf y2 0
  have fj1 := boxf y2 1
  have fj2 := boxf y2 2
  have z0 := boxc y3 0 _ rfl
  have z1 := boxc y3 1 _ rfl
  have z2 := boxc y3 2 _ rfl
  have z3 := boxc y3 3 _ rfl
  have fz0 := boxf y3 0
  have fz1 := boxf y3 1
  have fz2 := boxf y3 2
  have fz3 := boxf y3 3
  obtain ⟨WM, hWM⟩ : ∃ W, W = ((W1.setCell ⟨r2, 0, none⟩ (.slice ao n0 cap)).setCell ⟨r2, 1, none⟩ (.slice s1 p1 c1)).setCell ⟨r2, 2, none⟩ (.slice s2 p2 c2) := ⟨_, rfl⟩
  obtain ⟨W3, hW3⟩ : ∃ W, W = (((WM.setCell ⟨r3, 0, none⟩ (.slice none 0 0)).setCell ⟨r3, 1, none⟩ (.slice none 0 0)).setCell ⟨r3, 2, none⟩ (.slice none 0 0)).setCell ⟨r3, 3, none⟩ (.slice none 0 0) := ⟨_, rfl⟩
  have hm2 : WM.heap[r2]? = some (.cells #[.slice ao n0 cap, .slice s1 p1 c1, .slice s2 p2 c2] 27 (0, 0)) := by
   rw [hWM]
   exact heap_setCell_same _ r2 2 _ _ _ (heap_setCell_same _ r2 1 _ _ _ (heap_setCell_same _ r2 0 _ _ _ y2))
  have hm3 : WM.heap[r3]? = some (.cells #[.slice none 0 0, .slice none 0 0, .slice none 0 0, .slice none 0 0] 29 (0, 0)) := by
   rw [hWM, Below.heap_setCell _ _ _ _ h32, Below.heap_setCell _ _ _ _ h32, Below.heap_setCell _ _ _ _ h32]
   exact y3
  have hv3 : W3.heap[r3]? = some (.cells #[.slice none 0 0, .slice none 0 0, .slice none 0 0, .slice none 0 0] 29 (0, 0)) := by
   rw [hW3]
   exact heap_setCell_same _ r3 3 _ _ _ (heap_setCell_same _ r3 2 _ _ _ (heap_setCell_same _ r3 1 _ _ _ (heap_setCell_same _ r3 0 _ _ _ hm3)))
  have hv2 : W3.heap[r2]? = some (.cells #[.slice ao n0 cap, .slice s1 p1 c1, .slice s2 p2 c2] 27 (0, 0)) := by
   rw [hW3, Below.heap_setCell _ _ _ _ h32.symm, Below.heap_setCell _ _ _ _ h32.symm, Below.heap_setCell _ _ _ _ h32.symm, Below.heap_setCell _ _ _ _ h32.symm]
   exact hm2
  have hz2 : w.heap.size ≤ r2 := by omega
  have hz3 : w.heap.size ≤ r3 := by omega
  have hb3 : Below w.heap.size w W3 := by
   rw [hW3, hWM]; exact (((((((HB4.out.trans (HB7P.out.mono HB4.out.size)).setCell hz2 _).setCell hz2 _).setCell hz2 _).setCell hz3 _).setCell hz3 _).setCell hz3 _).setCell hz3 _
  have HB3 := Lib.hid hb3
  have HV3 := Lib.hid hv3
  have HV2b := Lib.hid hv2
  rw [hWM] at hW3
  have HW3 := Lib.hid hW3
  have HRa := Lib.hid hr2
  have HRb := Lib.hid hr3
  have h23 : r2 ≠ r3 := h32.symm
  clear y0 y2 y3 hm2 hm3 hv3 hv2 hb3 hWM hW3 hz2 hz3
  rw [← hr3, ← hr2]
  clear hr2 hr3
  go_wp2_with fail
  rw [← HW3.out]
  have d0 := boxc HV3.out 0 _ rfl
  have d1 := boxc HV3.out 1 _ rfl
  have d2 := boxc HV3.out 2 _ rfl
  have d3 := boxc HV3.out 3 _ rfl
  have s0 := boxc HV2b.out 0 _ rfl
  have s1' := boxc HV2b.out 1 _ rfl
  have s2' := boxc HV2b.out 2 _ rfl
  exact bodyPost_ret (v := .tuple #[.agg #[.slice ao n0 cap, .slice s1 p1 c1, .slice s2 p2 c2], .agg #[.slice none 0 0, .slice none 0 0, .slice none 0 0, .slice none 0 0]]) (by simp [results, Tryz.results88, go_sem, d0, d1, d2, d3, s0, s1', s2']) rfl (Or.inl ⟨HG0.out, rfl, HB3.out⟩)
 ·
  have hzb : ((m8 : Int) == 0) = false := by simp; omega
  have HZ : Hid (goneOf p l ≠ []) := fun e => hz (by rw [hm8, e]; rfl)
  obtain ⟨r3, hr3⟩ : ∃ r, r = w.heap.size + 1 + 1 + 1 := ⟨_, rfl⟩
  obtain ⟨r2, hr2⟩ : ∃ r, r = w.heap.size + 1 + 1 := ⟨_, rfl⟩
  have y2 := (HB7P.out.block _ (lt_of_block X2.out)).trans X2.out
  have HR2 : Hid (W1.heap[r2]? = some (.cells #[.slice none 0 0, .slice none 0 0, .slice none 0 0] 27 (0, 0))) := by
   show _ = _
   rw [hr2]; exact y2
  have HR3 : Hid (w7.heap[r3]? = some (.cells #[.slice none 0 0, .slice none 0 0, .slice none 0 0, .slice none 0 0] 29 (0, 0))) := by
   show _ = _
   rw [hr3]; exact (HB7.out.block _ (lt_of_block X3.out)).trans X3.out
  have HR7 : Hid (r2 < w7.heap.size) := by
   show _ < _
   have h1 := lt_of_block X2.out
   have h2 := HB7.out.size
   omega
  have HR1 : Hid (r2 < W1.heap.size) := Nat.lt_of_lt_of_le HR7.out HBP.out.size
  clear y2
  have XB : Hid (∀ ww, w7.grownBy ww (some r2) → ww.cell? ⟨w.heap.size + 1, 0, none⟩ = some (.int .i64 d.1) ∧ ww.cell? ⟨w.heap.size + 1, 1, none⟩ = some (.int .i64 d.2)) := fun ww hw => by
   have y0 := (HB7.out.block _ (lt_of_block X1.out)).trans X1.out
   have y := (hw.block _ (lt_of_block y0) (fun e => by have := Option.some.inj e; omega)).trans y0
   exact ⟨boxc y 0 _ rfl, boxc y 1 _ rfl⟩
  have XS : Hid (∀ ww, w7.grownBy ww (some r2) → ww.cell? ⟨w.heap.size, 0, none⟩ = some (.slice ao n0 cap) ∧ ww.cell? ⟨w.heap.size, 1, none⟩ = some (.slice s1 p1 c1) ∧ ww.cell? ⟨w.heap.size, 2, none⟩ = some (.slice s2 p2 c2)) := fun ww hw => by
   have y0 := (HB7.out.block _ (lt_of_block X0.out)).trans X0.out
   have y := (hw.block _ (lt_of_block y0) (fun e => by have := Option.some.inj e; omega)).trans y0
   exact ⟨boxc y 0 _ rfl, boxc y 1 _ rfl, boxc y 2 _ rfl⟩
  have HAD : Hid (∀ ww, w7.grownBy ww (some r2) → Calls Tryz.prog 94 #[.agg #[.slice s1 p1 c1, .slice s2 p2 c2], .agg #[.int .i64 d.1, .int .i64 d.2]] ww (CtxO (fun e => dm.Knows c e ∨ e = d) (c.2.length + 1) ww)) := fun ww hw =>
   add_own c d _ ww (HC0.out.next ((HB4.out.trans (HB7.out.mono HB4.out.size)).grown hw (Nat.le_trans HB4.out.size HB7.out.size) (fun j hj => by cases hj; omega))) HDV.out HRS.out.right (by omega)
  have HFR : Hid (∀ (W : World) (ao : Option Addr) (cp : Nat), W.ownsRow w7.heap.size 51 2 (.slice ao (m8 + 1) cp) (m8 + 1) (dcells (goneOf p l ++ [d])) → Calls Tryz.prog 93 #[.slice ao (m8 + 1) cp] W (CtxO (fun e => valid e = true ∧ e ∈ goneOf p l ++ [d]) (m8 + 1) W)) := fun W ao cp hw => by
   have hln : m8 + 1 = (goneOf p l ++ [d]).length := by rw [List.length_append, ← HM8.out]; rfl
   rw [hln] at hw ⊢
   exact from_own _ _ W (Cells.own hw) (by rw [← hln]; omega)
  have HRa := Lib.hid hr2
  have HRb := Lib.hid hr3
  clear hz hm8
  go_wp2_with fail
  rw [← hr3, ← hr2]
  clear hr2 hr3
  refine wp_flowG 13 (fun kF => match kF with | 8 => 9 | _ => 1000) (fun ww => w7.grownBy ww (some r2) ∧ ww.ownsRow w7.heap.size 54 5 (.slice a6 n6 c6) n6 (ecells (staysOf p l)) ∧ W1.heap.size ≤ ww.heap.size) (fun i w w' => if i = 12 then (fun (w w' : World) => ∃ a0 n0 c0 a1 n1 c1 a2 n2 c2, w' = ((w.setCell ⟨r2, 0, none⟩ (.slice a0 n0 c0)).setCell ⟨r2, 1, none⟩ (.slice a1 n1 c1)).setCell ⟨r2, 2, none⟩ (.slice a2 n2 c2) ∧ w.heap[r2]? = some (.cells #[.slice none 0 0, .slice none 0 0, .slice none 0 0] 27 (0, 0))) w w' else if i = 9 then (fun (w w' : World) => w.grownBy w' (Value.ownBlock (.slice b8 m8 d8))) w w' else (fun (w w' : World) => RowKit.Below w.heap.size w w') w w') (fun sF wF => match sF with | 9 => (wF.ownsRow w7.heap.size 51 2 (.slice b8 m8 d8) m8 (dcells (goneOf p l))) | 12 => (wF.heap[r2]? = some (.cells #[.slice none 0 0, .slice none 0 0, .slice none 0 0] 27 (0, 0))) | _ => True) (fun kF vF wF => match kF with | 0 => (vF = .slice a6 n6 c6) | 1 => (vF = .pointer (some ⟨w.heap.size, 1, none⟩)) | 2 => (vF = .agg #[.slice s1 p1 c1, .slice s2 p2 c2]) | 3 => (vF = .agg #[.int .i64 d.1, .int .i64 d.2]) | 4 => (∃ cc f2a f2b f2c f2d f2e f2f, vF = .agg #[.slice f2a f2b f2c, .slice f2d f2e f2f] ∧ OwnC W1.heap.size wF (.agg #[.slice f2a f2b f2c, .slice f2d f2e f2f]) cc ∧ dm.Is cc (fun e => dm.Knows c e ∨ e = d) (c.2.length + 1)) | 5 => (∃ cc f2a f2b f2c f2d f2e f2f, vF = .agg #[.slice a6 n6 c6, .slice f2a f2b f2c, .slice f2d f2e f2f] ∧ OwnC W1.heap.size wF (.agg #[.slice f2a f2b f2c, .slice f2d f2e f2f]) cc ∧ dm.Is cc (fun e => dm.Knows c e ∨ e = d) (c.2.length + 1)) | 6 => (vF = .slice b8 m8 d8) | 7 => (vF = .agg #[.int .i64 d.1, .int .i64 d.2]) | 8 => (∃ g, vF = .slice (some ⟨g, 0, none⟩) 1 1 ∧ wF.heap[g]? = some (.cells #[.int .i64 d.1, .int .i64 d.2] 51 (0, 0)) ∧ W1.heap.size ≤ g) | 9 => (∃ ao cp, vF = .slice ao (m8 + 1) cp ∧ wF.ownsRow w7.heap.size 51 2 (.slice ao (m8 + 1) cp) (m8 + 1) (dcells (goneOf p l ++ [d]))) | 10 => (∃ cc f1a f1b f1c f1d f1e f1f, vF = .agg #[.slice f1a f1b f1c, .slice f1d f1e f1f] ∧ OwnC W1.heap.size wF (.agg #[.slice f1a f1b f1c, .slice f1d f1e f1f]) cc ∧ dm.Is cc (fun e => valid e = true ∧ e ∈ goneOf p l ++ [d]) (m8 + 1)) | 11 => (∃ cc f1a f1b f1c f1d f1e f1f, vF = .agg #[.slice none 0 0, .slice none 0 0, .slice f1a f1b f1c, .slice f1d f1e f1f] ∧ OwnC W1.heap.size wF (.agg #[.slice f1a f1b f1c, .slice f1d f1e f1f]) cc ∧ dm.Is cc (fun e => valid e = true ∧ e ∈ goneOf p l ++ [d]) (m8 + 1)) | 12 => (∃ cc f2a f2b f2c f2d f2e f2f, wF.heap[r2]? = some (.cells #[.slice a6 n6 c6, .slice f2a f2b f2c, .slice f2d f2e f2f] 27 (0, 0)) ∧ OwnC W1.heap.size wF (.agg #[.slice f2a f2b f2c, .slice f2d f2e f2f]) cc ∧ dm.Is cc (fun e => dm.Knows c e ∨ e = d) (c.2.length + 1)) | _ => True) (fun _ _ _ _ => True) (by kernel_rfl) (by kernel_rfl) ?_ ?_ ?_ ?_ ?_ ?_ ?_
  ·
   exact ⟨grown_below' (HBP.out.drew), own_stay HOE.out ((Below.refl _ _).drew), Nat.le_refl _⟩
  ·
   intro sF hsF
   rcases (by omega : sF = 0 ∨ sF = 1 ∨ sF = 2 ∨ sF = 3 ∨ sF = 4 ∨ sF = 5 ∨ sF = 6 ∨ sF = 7 ∨ sF = 8 ∨ sF = 9 ∨ sF = 10 ∨ sF = 11 ∨ sF = 12) with rfl | rfl | rfl | rfl | rfl | rfl | rfl | rfl | rfl | rfl | rfl | rfl | rfl
   iterate 9 exact trivial
   ·
    exact own_stay HOD.out ((Below.refl _ _).drew)
   iterate 2 exact trivial
   ·
    exact HR2.out
  ·
   intro iF wF1 wF2 hR hT
   have hT : (fun i w w' => if i = 12 then (fun (w w' : World) => ∃ a0 n0 c0 a1 n1 c1 a2 n2 c2, w' = ((w.setCell ⟨r2, 0, none⟩ (.slice a0 n0 c0)).setCell ⟨r2, 1, none⟩ (.slice a1 n1 c1)).setCell ⟨r2, 2, none⟩ (.slice a2 n2 c2) ∧ w.heap[r2]? = some (.cells #[.slice none 0 0, .slice none 0 0, .slice none 0 0] 27 (0, 0))) w w' else if i = 9 then (fun (w w' : World) => w.grownBy w' (Value.ownBlock (.slice b8 m8 d8))) w w' else (fun (w w' : World) => RowKit.Below w.heap.size w w') w w') iF wF1 wF2 := hT
   simp only at hT
   by_cases hi12 : iF = 12
   ·
    rw [if_pos hi12] at hT; (first | exact ⟨grown_far hR.1 hT (fun j hj => (HGK.out j hj).1), hR.2.1.kept hT HNE.out, Nat.le_trans hR.2.2 hT.size⟩ | (obtain ⟨_, _, _, _, _, _, _, _, _, rfl, hN⟩ := hT; exact ⟨grown_trans hR.1 (set3_grown _), hR.2.1.kept (set3_grown _) (own_far hR.2.1 HR7.out), Nat.le_trans hR.2.2 (set3_grown _).size⟩))
   rw [if_neg hi12] at hT
   by_cases hi9 : iF = 9
   ·
    rw [if_pos hi9] at hT; (first | exact ⟨grown_far hR.1 hT (fun j hj => (HGK.out j hj).1), hR.2.1.kept hT HNE.out, Nat.le_trans hR.2.2 hT.size⟩ | (obtain ⟨_, _, _, _, _, _, _, _, _, rfl, hN⟩ := hT; exact ⟨grown_trans hR.1 (set3_grown _), hR.2.1.kept (set3_grown _) (own_far hR.2.1 HR7.out), Nat.le_trans hR.2.2 (set3_grown _).size⟩))
   rw [if_neg hi9] at hT
   exact ⟨grown_trans hR.1 (grown_below' hT), own_stay hR.2.1 hT, Nat.le_trans hR.2.2 hT.size⟩
  ·
   intro sF hsF iF hiF hne hanc wF1 wF2 hRF hgF hT
   rcases (by omega : sF = 0 ∨ sF = 1 ∨ sF = 2 ∨ sF = 3 ∨ sF = 4 ∨ sF = 5 ∨ sF = 6 ∨ sF = 7 ∨ sF = 8 ∨ sF = 9 ∨ sF = 10 ∨ sF = 11 ∨ sF = 12) with rfl | rfl | rfl | rfl | rfl | rfl | rfl | rfl | rfl | rfl | rfl | rfl | rfl
   iterate 9 exact trivial
   ·
    have hg : (wF1.ownsRow w7.heap.size 51 2 (.slice b8 m8 d8) m8 (dcells (goneOf p l))) := hgF
    show (wF2.ownsRow w7.heap.size 51 2 (.slice b8 m8 d8) m8 (dcells (goneOf p l)))
    have hT : (fun i w w' => if i = 12 then (fun (w w' : World) => ∃ a0 n0 c0 a1 n1 c1 a2 n2 c2, w' = ((w.setCell ⟨r2, 0, none⟩ (.slice a0 n0 c0)).setCell ⟨r2, 1, none⟩ (.slice a1 n1 c1)).setCell ⟨r2, 2, none⟩ (.slice a2 n2 c2) ∧ w.heap[r2]? = some (.cells #[.slice none 0 0, .slice none 0 0, .slice none 0 0] 27 (0, 0))) w w' else if i = 9 then (fun (w w' : World) => w.grownBy w' (Value.ownBlock (.slice b8 m8 d8))) w w' else (fun (w w' : World) => RowKit.Below w.heap.size w w') w w') iF wF1 wF2 := hT
    simp only at hT
    by_cases hi12 : iF = 12
    ·
     rw [if_pos hi12] at hT
     obtain ⟨_, _, _, _, _, _, _, _, _, rfl, hN⟩ := hT
     exact hg.kept (set3_grown _) (own_far hg HR7.out)
    rw [if_neg hi12] at hT
    by_cases hi9 : iF = 9
    ·
     exact absurd hi9.symm hne
    rw [if_neg hi9] at hT
    exact own_stay hg hT
   iterate 2 exact trivial
   ·
    have hg : (wF1.heap[r2]? = some (.cells #[.slice none 0 0, .slice none 0 0, .slice none 0 0] 27 (0, 0))) := hgF
    show (wF2.heap[r2]? = some (.cells #[.slice none 0 0, .slice none 0 0, .slice none 0 0] 27 (0, 0)))
    have hT : (fun i w w' => if i = 12 then (fun (w w' : World) => ∃ a0 n0 c0 a1 n1 c1 a2 n2 c2, w' = ((w.setCell ⟨r2, 0, none⟩ (.slice a0 n0 c0)).setCell ⟨r2, 1, none⟩ (.slice a1 n1 c1)).setCell ⟨r2, 2, none⟩ (.slice a2 n2 c2) ∧ w.heap[r2]? = some (.cells #[.slice none 0 0, .slice none 0 0, .slice none 0 0] 27 (0, 0))) w w' else if i = 9 then (fun (w w' : World) => w.grownBy w' (Value.ownBlock (.slice b8 m8 d8))) w w' else (fun (w w' : World) => RowKit.Below w.heap.size w w') w w') iF wF1 wF2 := hT
    simp only at hT
    by_cases hi12 : iF = 12
    ·
     exact absurd hi12.symm hne
    rw [if_neg hi12] at hT
    by_cases hi9 : iF = 9
    ·
     rw [if_pos hi9] at hT
     exact (hT.block _ (lt_of_block hg) (fun e2 => by have := (HGK.out r2 e2.symm).1; have := HR7.out; omega)).trans hg
    rw [if_neg hi9] at hT
    exact (hT.block _ (lt_of_block hg)).trans hg
  ·
   intro kF hkF iF hiF hne hdd hanc hdan vF wF1 wF2 h hT
   rcases (by omega : kF = 0 ∨ kF = 1 ∨ kF = 2 ∨ kF = 3 ∨ kF = 4 ∨ kF = 5 ∨ kF = 6 ∨ kF = 7 ∨ kF = 8 ∨ kF = 9 ∨ kF = 10 ∨ kF = 11 ∨ kF = 12) with rfl | rfl | rfl | rfl | rfl | rfl | rfl | rfl | rfl | rfl | rfl | rfl | rfl
   iterate 4 exact h
   ·
    have h : (∃ cc f2a f2b f2c f2d f2e f2f, vF = .agg #[.slice f2a f2b f2c, .slice f2d f2e f2f] ∧ OwnC W1.heap.size wF1 (.agg #[.slice f2a f2b f2c, .slice f2d f2e f2f]) cc ∧ dm.Is cc (fun e => dm.Knows c e ∨ e = d) (c.2.length + 1)) := h
    show (∃ cc f2a f2b f2c f2d f2e f2f, vF = .agg #[.slice f2a f2b f2c, .slice f2d f2e f2f] ∧ OwnC W1.heap.size wF2 (.agg #[.slice f2a f2b f2c, .slice f2d f2e f2f]) cc ∧ dm.Is cc (fun e => dm.Knows c e ∨ e = d) (c.2.length + 1))
    have hT : (fun i w w' => if i = 12 then (fun (w w' : World) => ∃ a0 n0 c0 a1 n1 c1 a2 n2 c2, w' = ((w.setCell ⟨r2, 0, none⟩ (.slice a0 n0 c0)).setCell ⟨r2, 1, none⟩ (.slice a1 n1 c1)).setCell ⟨r2, 2, none⟩ (.slice a2 n2 c2) ∧ w.heap[r2]? = some (.cells #[.slice none 0 0, .slice none 0 0, .slice none 0 0] 27 (0, 0))) w w' else if i = 9 then (fun (w w' : World) => w.grownBy w' (Value.ownBlock (.slice b8 m8 d8))) w w' else (fun (w w' : World) => RowKit.Below w.heap.size w w') w w') iF wF1 wF2 := hT
    simp only at hT
    by_cases hi12 : iF = 12
    ·
     rw [if_pos hi12] at hT
     obtain ⟨cc, f2a, f2b, f2c, f2d, f2e, f2f, e, h1, h2⟩ := h
     first
      | exact ⟨cc, f2a, f2b, f2c, f2d, f2e, f2f, e, h1.kept hT (fun j hj => (HGK.out j hj).2), h2⟩
      | (obtain ⟨_, _, _, _, _, _, _, _, _, rfl, hN⟩ := hT; exact ⟨cc, f2a, f2b, f2c, f2d, f2e, f2f, e, h1.kept (set3_grown _) (fun j hj => by cases hj; exact HR1.out), h2⟩)
    rw [if_neg hi12] at hT
    by_cases hi9 : iF = 9
    ·
     rw [if_pos hi9] at hT
     obtain ⟨cc, f2a, f2b, f2c, f2d, f2e, f2f, e, h1, h2⟩ := h
     first
      | exact ⟨cc, f2a, f2b, f2c, f2d, f2e, f2f, e, h1.kept hT (fun j hj => (HGK.out j hj).2), h2⟩
      | (obtain ⟨_, _, _, _, _, _, _, _, _, rfl, hN⟩ := hT; exact ⟨cc, f2a, f2b, f2c, f2d, f2e, f2f, e, h1.kept (set3_grown _) (fun j hj => by cases hj; exact HR1.out), h2⟩)
    rw [if_neg hi9] at hT
    obtain ⟨cc, f2a, f2b, f2c, f2d, f2e, f2f, e, h1, h2⟩ := h
    exact ⟨cc, f2a, f2b, f2c, f2d, f2e, f2f, e, h1.kept (r := none) (grown_below' hT) (fun j hj => by cases hj), h2⟩
   ·
    have h : (∃ cc f2a f2b f2c f2d f2e f2f, vF = .agg #[.slice a6 n6 c6, .slice f2a f2b f2c, .slice f2d f2e f2f] ∧ OwnC W1.heap.size wF1 (.agg #[.slice f2a f2b f2c, .slice f2d f2e f2f]) cc ∧ dm.Is cc (fun e => dm.Knows c e ∨ e = d) (c.2.length + 1)) := h
    show (∃ cc f2a f2b f2c f2d f2e f2f, vF = .agg #[.slice a6 n6 c6, .slice f2a f2b f2c, .slice f2d f2e f2f] ∧ OwnC W1.heap.size wF2 (.agg #[.slice f2a f2b f2c, .slice f2d f2e f2f]) cc ∧ dm.Is cc (fun e => dm.Knows c e ∨ e = d) (c.2.length + 1))
    have hT : (fun i w w' => if i = 12 then (fun (w w' : World) => ∃ a0 n0 c0 a1 n1 c1 a2 n2 c2, w' = ((w.setCell ⟨r2, 0, none⟩ (.slice a0 n0 c0)).setCell ⟨r2, 1, none⟩ (.slice a1 n1 c1)).setCell ⟨r2, 2, none⟩ (.slice a2 n2 c2) ∧ w.heap[r2]? = some (.cells #[.slice none 0 0, .slice none 0 0, .slice none 0 0] 27 (0, 0))) w w' else if i = 9 then (fun (w w' : World) => w.grownBy w' (Value.ownBlock (.slice b8 m8 d8))) w w' else (fun (w w' : World) => RowKit.Below w.heap.size w w') w w') iF wF1 wF2 := hT
    simp only at hT
    by_cases hi12 : iF = 12
    ·
     rw [if_pos hi12] at hT
     obtain ⟨cc, f2a, f2b, f2c, f2d, f2e, f2f, e, h1, h2⟩ := h
     first
      | exact ⟨cc, f2a, f2b, f2c, f2d, f2e, f2f, e, h1.kept hT (fun j hj => (HGK.out j hj).2), h2⟩
      | (obtain ⟨_, _, _, _, _, _, _, _, _, rfl, hN⟩ := hT; exact ⟨cc, f2a, f2b, f2c, f2d, f2e, f2f, e, h1.kept (set3_grown _) (fun j hj => by cases hj; exact HR1.out), h2⟩)
    rw [if_neg hi12] at hT
    by_cases hi9 : iF = 9
    ·
     rw [if_pos hi9] at hT
     obtain ⟨cc, f2a, f2b, f2c, f2d, f2e, f2f, e, h1, h2⟩ := h
     first
      | exact ⟨cc, f2a, f2b, f2c, f2d, f2e, f2f, e, h1.kept hT (fun j hj => (HGK.out j hj).2), h2⟩
      | (obtain ⟨_, _, _, _, _, _, _, _, _, rfl, hN⟩ := hT; exact ⟨cc, f2a, f2b, f2c, f2d, f2e, f2f, e, h1.kept (set3_grown _) (fun j hj => by cases hj; exact HR1.out), h2⟩)
    rw [if_neg hi9] at hT
    obtain ⟨cc, f2a, f2b, f2c, f2d, f2e, f2f, e, h1, h2⟩ := h
    exact ⟨cc, f2a, f2b, f2c, f2d, f2e, f2f, e, h1.kept (r := none) (grown_below' hT) (fun j hj => by cases hj), h2⟩
   iterate 2 exact h
   ·
    have h : (∃ g, vF = .slice (some ⟨g, 0, none⟩) 1 1 ∧ wF1.heap[g]? = some (.cells #[.int .i64 d.1, .int .i64 d.2] 51 (0, 0)) ∧ W1.heap.size ≤ g) := h
    show (∃ g, vF = .slice (some ⟨g, 0, none⟩) 1 1 ∧ wF2.heap[g]? = some (.cells #[.int .i64 d.1, .int .i64 d.2] 51 (0, 0)) ∧ W1.heap.size ≤ g)
    have hT : (fun i w w' => if i = 12 then (fun (w w' : World) => ∃ a0 n0 c0 a1 n1 c1 a2 n2 c2, w' = ((w.setCell ⟨r2, 0, none⟩ (.slice a0 n0 c0)).setCell ⟨r2, 1, none⟩ (.slice a1 n1 c1)).setCell ⟨r2, 2, none⟩ (.slice a2 n2 c2) ∧ w.heap[r2]? = some (.cells #[.slice none 0 0, .slice none 0 0, .slice none 0 0] 27 (0, 0))) w w' else if i = 9 then (fun (w w' : World) => w.grownBy w' (Value.ownBlock (.slice b8 m8 d8))) w w' else (fun (w w' : World) => RowKit.Below w.heap.size w w') w w') iF wF1 wF2 := hT
    simp only at hT
    by_cases hi12 : iF = 12
    ·
     subst hi12; exact (anc_no hdan (by kernel_rfl)).elim
    rw [if_neg hi12] at hT
    by_cases hi9 : iF = 9
    ·
     exact absurd hi9.symm hdd
    rw [if_neg hi9] at hT
    obtain ⟨g, e, h1, h2⟩ := h
    exact ⟨g, e, (hT.block _ (lt_of_block h1)).trans h1, h2⟩
   ·
    have h : (∃ ao cp, vF = .slice ao (m8 + 1) cp ∧ wF1.ownsRow w7.heap.size 51 2 (.slice ao (m8 + 1) cp) (m8 + 1) (dcells (goneOf p l ++ [d]))) := h
    show (∃ ao cp, vF = .slice ao (m8 + 1) cp ∧ wF2.ownsRow w7.heap.size 51 2 (.slice ao (m8 + 1) cp) (m8 + 1) (dcells (goneOf p l ++ [d])))
    have hT : (fun i w w' => if i = 12 then (fun (w w' : World) => ∃ a0 n0 c0 a1 n1 c1 a2 n2 c2, w' = ((w.setCell ⟨r2, 0, none⟩ (.slice a0 n0 c0)).setCell ⟨r2, 1, none⟩ (.slice a1 n1 c1)).setCell ⟨r2, 2, none⟩ (.slice a2 n2 c2) ∧ w.heap[r2]? = some (.cells #[.slice none 0 0, .slice none 0 0, .slice none 0 0] 27 (0, 0))) w w' else if i = 9 then (fun (w w' : World) => w.grownBy w' (Value.ownBlock (.slice b8 m8 d8))) w w' else (fun (w w' : World) => RowKit.Below w.heap.size w w') w w') iF wF1 wF2 := hT
    simp only at hT
    by_cases hi12 : iF = 12
    ·
     rw [if_pos hi12] at hT
     obtain ⟨ao, cp, e, ho⟩ := h
     obtain ⟨_, _, _, _, _, _, _, _, _, rfl, hN⟩ := hT
     exact ⟨ao, cp, e, ho.kept (set3_grown _) (own_far ho HR7.out)⟩
    rw [if_neg hi12] at hT
    by_cases hi9 : iF = 9
    ·
     exact absurd hi9.symm hne
    rw [if_neg hi9] at hT
    obtain ⟨ao, cp, e, ho⟩ := h
    exact ⟨ao, cp, e, own_stay ho hT⟩
   ·
    have h : (∃ cc f1a f1b f1c f1d f1e f1f, vF = .agg #[.slice f1a f1b f1c, .slice f1d f1e f1f] ∧ OwnC W1.heap.size wF1 (.agg #[.slice f1a f1b f1c, .slice f1d f1e f1f]) cc ∧ dm.Is cc (fun e => valid e = true ∧ e ∈ goneOf p l ++ [d]) (m8 + 1)) := h
    show (∃ cc f1a f1b f1c f1d f1e f1f, vF = .agg #[.slice f1a f1b f1c, .slice f1d f1e f1f] ∧ OwnC W1.heap.size wF2 (.agg #[.slice f1a f1b f1c, .slice f1d f1e f1f]) cc ∧ dm.Is cc (fun e => valid e = true ∧ e ∈ goneOf p l ++ [d]) (m8 + 1))
    have hT : (fun i w w' => if i = 12 then (fun (w w' : World) => ∃ a0 n0 c0 a1 n1 c1 a2 n2 c2, w' = ((w.setCell ⟨r2, 0, none⟩ (.slice a0 n0 c0)).setCell ⟨r2, 1, none⟩ (.slice a1 n1 c1)).setCell ⟨r2, 2, none⟩ (.slice a2 n2 c2) ∧ w.heap[r2]? = some (.cells #[.slice none 0 0, .slice none 0 0, .slice none 0 0] 27 (0, 0))) w w' else if i = 9 then (fun (w w' : World) => w.grownBy w' (Value.ownBlock (.slice b8 m8 d8))) w w' else (fun (w w' : World) => RowKit.Below w.heap.size w w') w w') iF wF1 wF2 := hT
    simp only at hT
    by_cases hi12 : iF = 12
    ·
     rw [if_pos hi12] at hT
     obtain ⟨cc, f1a, f1b, f1c, f1d, f1e, f1f, e, h1, h2⟩ := h
     first
      | (obtain ⟨_, _, _, _, _, _, _, _, _, rfl, hN⟩ := hT; exact ⟨cc, f1a, f1b, f1c, f1d, f1e, f1f, e, h1.kt (set3_kt hN _ _ _) (by decide), h2⟩)
      | (subst hi9; exact (anc_no hanc (by kernel_rfl)).elim)
    rw [if_neg hi12] at hT
    by_cases hi9 : iF = 9
    ·
     rw [if_pos hi9] at hT
     obtain ⟨cc, f1a, f1b, f1c, f1d, f1e, f1f, e, h1, h2⟩ := h
     first
      | (obtain ⟨_, _, _, _, _, _, _, _, _, rfl, hN⟩ := hT; exact ⟨cc, f1a, f1b, f1c, f1d, f1e, f1f, e, h1.kt (set3_kt hN _ _ _) (by decide), h2⟩)
      | (subst hi9; exact (anc_no hanc (by kernel_rfl)).elim)
    rw [if_neg hi9] at hT
    obtain ⟨cc, f1a, f1b, f1c, f1d, f1e, f1f, e, h1, h2⟩ := h
    exact ⟨cc, f1a, f1b, f1c, f1d, f1e, f1f, e, h1.on hT, h2⟩
   ·
    have h : (∃ cc f1a f1b f1c f1d f1e f1f, vF = .agg #[.slice none 0 0, .slice none 0 0, .slice f1a f1b f1c, .slice f1d f1e f1f] ∧ OwnC W1.heap.size wF1 (.agg #[.slice f1a f1b f1c, .slice f1d f1e f1f]) cc ∧ dm.Is cc (fun e => valid e = true ∧ e ∈ goneOf p l ++ [d]) (m8 + 1)) := h
    show (∃ cc f1a f1b f1c f1d f1e f1f, vF = .agg #[.slice none 0 0, .slice none 0 0, .slice f1a f1b f1c, .slice f1d f1e f1f] ∧ OwnC W1.heap.size wF2 (.agg #[.slice f1a f1b f1c, .slice f1d f1e f1f]) cc ∧ dm.Is cc (fun e => valid e = true ∧ e ∈ goneOf p l ++ [d]) (m8 + 1))
    have hT : (fun i w w' => if i = 12 then (fun (w w' : World) => ∃ a0 n0 c0 a1 n1 c1 a2 n2 c2, w' = ((w.setCell ⟨r2, 0, none⟩ (.slice a0 n0 c0)).setCell ⟨r2, 1, none⟩ (.slice a1 n1 c1)).setCell ⟨r2, 2, none⟩ (.slice a2 n2 c2) ∧ w.heap[r2]? = some (.cells #[.slice none 0 0, .slice none 0 0, .slice none 0 0] 27 (0, 0))) w w' else if i = 9 then (fun (w w' : World) => w.grownBy w' (Value.ownBlock (.slice b8 m8 d8))) w w' else (fun (w w' : World) => RowKit.Below w.heap.size w w') w w') iF wF1 wF2 := hT
    simp only at hT
    by_cases hi12 : iF = 12
    ·
     rw [if_pos hi12] at hT
     obtain ⟨cc, f1a, f1b, f1c, f1d, f1e, f1f, e, h1, h2⟩ := h
     first
      | (obtain ⟨_, _, _, _, _, _, _, _, _, rfl, hN⟩ := hT; exact ⟨cc, f1a, f1b, f1c, f1d, f1e, f1f, e, h1.kt (set3_kt hN _ _ _) (by decide), h2⟩)
      | (subst hi9; exact (anc_no hanc (by kernel_rfl)).elim)
    rw [if_neg hi12] at hT
    by_cases hi9 : iF = 9
    ·
     rw [if_pos hi9] at hT
     obtain ⟨cc, f1a, f1b, f1c, f1d, f1e, f1f, e, h1, h2⟩ := h
     first
      | (obtain ⟨_, _, _, _, _, _, _, _, _, rfl, hN⟩ := hT; exact ⟨cc, f1a, f1b, f1c, f1d, f1e, f1f, e, h1.kt (set3_kt hN _ _ _) (by decide), h2⟩)
      | (subst hi9; exact (anc_no hanc (by kernel_rfl)).elim)
    rw [if_neg hi9] at hT
    obtain ⟨cc, f1a, f1b, f1c, f1d, f1e, f1f, e, h1, h2⟩ := h
    exact ⟨cc, f1a, f1b, f1c, f1d, f1e, f1f, e, h1.on hT, h2⟩
   ·
    have h : (∃ cc f2a f2b f2c f2d f2e f2f, wF1.heap[r2]? = some (.cells #[.slice a6 n6 c6, .slice f2a f2b f2c, .slice f2d f2e f2f] 27 (0, 0)) ∧ OwnC W1.heap.size wF1 (.agg #[.slice f2a f2b f2c, .slice f2d f2e f2f]) cc ∧ dm.Is cc (fun e => dm.Knows c e ∨ e = d) (c.2.length + 1)) := h
    show (∃ cc f2a f2b f2c f2d f2e f2f, wF2.heap[r2]? = some (.cells #[.slice a6 n6 c6, .slice f2a f2b f2c, .slice f2d f2e f2f] 27 (0, 0)) ∧ OwnC W1.heap.size wF2 (.agg #[.slice f2a f2b f2c, .slice f2d f2e f2f]) cc ∧ dm.Is cc (fun e => dm.Knows c e ∨ e = d) (c.2.length + 1))
    have hT : (fun i w w' => if i = 12 then (fun (w w' : World) => ∃ a0 n0 c0 a1 n1 c1 a2 n2 c2, w' = ((w.setCell ⟨r2, 0, none⟩ (.slice a0 n0 c0)).setCell ⟨r2, 1, none⟩ (.slice a1 n1 c1)).setCell ⟨r2, 2, none⟩ (.slice a2 n2 c2) ∧ w.heap[r2]? = some (.cells #[.slice none 0 0, .slice none 0 0, .slice none 0 0] 27 (0, 0))) w w' else if i = 9 then (fun (w w' : World) => w.grownBy w' (Value.ownBlock (.slice b8 m8 d8))) w w' else (fun (w w' : World) => RowKit.Below w.heap.size w w') w w') iF wF1 wF2 := hT
    simp only at hT
    by_cases hi12 : iF = 12
    ·
     exact absurd hi12.symm hne
    rw [if_neg hi12] at hT
    by_cases hi9 : iF = 9
    ·
     subst hi9; exact (anc_no hanc (by kernel_rfl)).elim
    rw [if_neg hi9] at hT
    obtain ⟨cc, f2a, f2b, f2c, f2d, f2e, f2f, e, h1, h2⟩ := h
    exact ⟨cc, f2a, f2b, f2c, f2d, f2e, f2f, (hT.block _ (lt_of_block e)).trans e, h1.on hT, h2⟩
  ·
   generalize hAF : fillOf _ _ _ = AF
   replace hAF := fun x => congrFun hAF x
   simp only [take_succ_cons, take_zero, fillOf, Act.put, setIfInBounds_toArray, set_cons_zero, set_cons_succ, Nat.reduceAdd, Nat.zero_add] at hAF
   refine .cons ?_ (.cons ?_ (.cons ?_ (.cons ?_ (.cons ?_ (.cons ?_ (.cons ?_ (.cons ?_ (.cons ?_ (.cons ?_ (.cons ?_ (.cons ?_ (.cons ?_ (.nil)))))))))))))
   all_goals
    intro xF w8 hR hg hd K hK
    first | simp only [← hAF, Act.put, setIfInBounds_toArray, set_cons_zero, set_cons_succ] at hK ⊢ | simp only [← hAF, Act.put] at hK ⊢
    clear hAF
    try simp only [Nat.zero_add, Nat.reduceAdd] at hK ⊢
   ·
    clear hg hd
    rw [if_pos (by rfl)]
    go_simp
    exact hK.out _ _ (Below.refl _ _) (rfl) (fun _ _ _ => ⟨trivial, trivial⟩)
   ·
    clear hg hd
    rw [if_pos (by rfl)]
    go_simp
    exact hK.out _ _ (Below.refl _ _) (rfl) (fun _ _ _ => ⟨trivial, trivial⟩)
   ·
    clear hg
    have dd1 := hd 1 (by kernel_rfl)
    clear hd
    try generalize xF 1 = yy1 at *
    obtain rfl := dd1
    obtain ⟨i0, i1, i2⟩ := XS.out _ hR.1
    rw [if_pos (by rfl)]
    go_simp
    exact hK.out _ _ (Below.refl _ _) (rfl) (fun _ _ _ => ⟨trivial, trivial⟩)
   ·
    clear hg hd
    obtain ⟨e0, e1⟩ := XB.out _ hR.1
    rw [if_pos (by rfl)]
    go_simp
    exact hK.out _ _ (Below.refl _ _) (rfl) (fun _ _ _ => ⟨trivial, trivial⟩)
   ·
    clear hg
    have dd2 := hd 2 (by kernel_rfl)
    have dd3 := hd 3 (by kernel_rfl)
    clear hd
    try generalize xF 2 = yy2 at *
    try generalize xF 3 = yy3 at *
    obtain rfl := dd2
    obtain rfl := dd3
    rw [if_pos (by rfl)]
    go_simp
    (go_at_call 94; (with_reducible refine (HAD.out _ hR.1).mono ?_); rintro e wK ⟨vK, ccK, rfl, hcK, hsK, hbK⟩; obtain ⟨f2a, f2b, f2c, f2d, f2e, f2f, rfl⟩ := hcK.form)
    try go_wp2_with fail
    exact hK.out _ _ (hbK) (⟨ccK, f2a, f2b, f2c, f2d, f2e, f2f, rfl, hcK.low hR.2.2, hsK⟩) (fun _ _ _ => ⟨trivial, trivial⟩)
   ·
    clear hg
    have dd0 := hd 0 (by kernel_rfl)
    have dd4 := hd 4 (by kernel_rfl)
    clear hd
    try generalize xF 0 = yy0 at *
    try generalize xF 4 = yy4 at *
    obtain rfl := dd0
    obtain ⟨cc4, f2a, f2b, f2c, f2d, f2e, f2f, rfl, hc4, hs4⟩ := dd4
    rw [if_pos (by rfl)]
    go_simp
    exact hK.out _ _ (Below.refl _ _) (⟨cc4, f2a, f2b, f2c, f2d, f2e, f2f, rfl, hc4, hs4⟩) (fun _ _ _ => ⟨trivial, trivial⟩)
   ·
    clear hg hd
    rw [if_pos (by rfl)]
    go_simp
    exact hK.out _ _ (Below.refl _ _) (rfl) (fun _ _ _ => ⟨trivial, trivial⟩)
   ·
    clear hg hd
    obtain ⟨e0, e1⟩ := XB.out _ hR.1
    rw [if_pos (by rfl)]
    go_simp
    exact hK.out _ _ (Below.refl _ _) (rfl) (fun _ _ _ => ⟨trivial, trivial⟩)
   ·
    clear hg
    have dd7 := hd 7 (by kernel_rfl)
    clear hd
    try generalize xF 7 = yy7 at *
    obtain rfl := dd7
    rw [if_pos (by rfl)]
    go_simp
    exact hK.out _ _ (below1) (⟨_, rfl, heap_alloc_new _ _, hR.2.2⟩) (fun _ _ _ => ⟨trivial, trivial⟩)
   ·
    have gg9 : (w8.ownsRow w7.heap.size 51 2 (.slice b8 m8 d8) m8 (dcells (goneOf p l))) := hg 9 (by omega) (by decide)
    clear hg
    have dd6 := hd 6 (by kernel_rfl)
    have dd8 := hd 8 (by kernel_rfl)
    clear hd
    try generalize xF 6 = yy6 at *
    try generalize xF 8 = yy8 at *
    obtain rfl := dd6
    obtain ⟨g8, rfl, hg8, hl8⟩ := dd8
    rw [if_pos (by rfl)]
    refine wp_of_list1 (fun Q' hQ' => ?_)
    refine appNg (.tmp 44) (.tmp 46) 23 rfl rfl w7.heap.size Tryz.underlying23 infoDot rfl (by decide) (by decide) gg9 rfl rfl (dcells [d]) rfl (fun j u hu => by rw [Addr.add_lit, Nat.zero_add]; exact boxc' hg8 j u (by simpa [dcells] using hu)) dcells_one (by omega) hR.1.size ?_
    intro vN wN hownN hgN
    refine hQ' _ _ ?_
    obtain ⟨aoN, cpN, rfl⟩ := own_slice hownN
    simp only [Act.put, setIfInBounds_toArray, set_cons_zero, set_cons_succ]
    exact hK.out _ _ (hgN) (⟨aoN, cpN, rfl, by rw [dcells_app]; exact hownN⟩) (fun _ _ _ => ⟨trivial, trivial⟩)
   ·
    clear hg
    have dd9 := hd 9 (by kernel_rfl)
    clear hd
    try generalize xF 9 = yy9 at *
    obtain ⟨ao9, cp9, rfl, ho9⟩ := dd9
    rw [if_pos (by rfl)]
    go_simp
    (go_at_call 93; (with_reducible refine (HFR.out _ _ _ ho9).mono ?_); rintro e wK ⟨vK, ccK, rfl, hcK, hsK, hbK⟩; obtain ⟨f1a, f1b, f1c, f1d, f1e, f1f, rfl⟩ := hcK.form)
    try go_wp2_with fail
    exact hK.out _ _ (hbK) (⟨ccK, f1a, f1b, f1c, f1d, f1e, f1f, rfl, hcK.low hR.2.2, hsK⟩) (fun _ _ _ => ⟨trivial, trivial⟩)
   ·
    clear hg
    have dd10 := hd 10 (by kernel_rfl)
    clear hd
    try generalize xF 10 = yy10 at *
    obtain ⟨cc10, f1a, f1b, f1c, f1d, f1e, f1f, rfl, hc10, hs10⟩ := dd10
    rw [if_pos (by rfl)]
    go_simp
    exact hK.out _ _ (Below.refl _ _) (⟨cc10, f1a, f1b, f1c, f1d, f1e, f1f, rfl, hc10, hs10⟩) (fun _ _ _ => ⟨trivial, trivial⟩)
   ·
    have gg12 : (w8.heap[r2]? = some (.cells #[.slice none 0 0, .slice none 0 0, .slice none 0 0] 27 (0, 0))) := hg 12 (by omega) (by decide)
    clear hg
    have dd5 := hd 5 (by kernel_rfl)
    clear hd
    try generalize xF 5 = yy5 at *
    obtain ⟨ccS, q2a, q2b, q2c, q2d, q2e, q2f, rfl, hcS, hsS⟩ := dd5
    have k0 := boxc gg12 0 _ rfl
    have k1 := boxc gg12 1 _ rfl
    have k2 := boxc gg12 2 _ rfl
    have g0 := boxf gg12 0
    have g1 := boxf gg12 1
    have g2 := boxf gg12 2
    rw [if_pos (by rfl)]
    go_simp
    exact hK.out undef _ (⟨_, _, _, _, _, _, _, _, _, rfl, gg12⟩) (⟨ccS, q2a, q2b, q2c, q2d, q2e, q2f, heap_setCell_same _ r2 2 _ _ _ (heap_setCell_same _ r2 1 _ _ _ (heap_setCell_same _ r2 0 _ _ _ gg12)), hcS.kt (set3_kt gg12 _ _ _) (by decide), hsS⟩) (fun _ _ _ => ⟨trivial, trivial⟩)
  intro xF w8 hR hF hP
  clear hP
  have dd0 := hF 0 (by omega) (by decide)
  have dd1 := hF 1 (by omega) (by decide)
  have dd2 := hF 2 (by omega) (by decide)
  have dd3 := hF 3 (by omega) (by decide)
  have dd4 := hF 4 (by omega) (by decide)
  have dd5 := hF 5 (by omega) (by decide)
  have dd6 := hF 6 (by omega) (by decide)
  have dd7 := hF 7 (by omega) (by decide)
  have dd9 := hF 9 (by omega) (by decide)
  have dd10 := hF 10 (by omega) (by decide)
  have dd11 := hF 11 (by omega) (by decide)
  have dd12 := hF 12 (by omega) (by decide)
  clear hF
  simp only [take_succ_cons, take_zero, drop_succ_cons, drop_zero, fillOf, Act.put, setIfInBounds_toArray, set_cons_zero, set_cons_succ, Nat.reduceAdd, Nat.zero_add]
  try generalize xF 0 = yy0 at *
  try generalize xF 1 = yy1 at *
  try generalize xF 2 = yy2 at *
  try generalize xF 3 = yy3 at *
  try generalize xF 4 = yy4 at *
  try generalize xF 5 = yy5 at *
  try generalize xF 6 = yy6 at *
  try generalize xF 7 = yy7 at *
  try generalize xF 8 = yy8 at *
  try generalize xF 9 = yy9 at *
  try generalize xF 10 = yy10 at *
  try generalize xF 11 = yy11 at *
  try generalize xF 12 = yy12 at *
  clear xF
  obtain rfl := dd0
  obtain rfl := dd1
  obtain rfl := dd2
  obtain rfl := dd3
  obtain ⟨cc4, f2a, f2b, f2c, f2d, f2e, f2f, rfl, hc4, hs4⟩ := dd4
  obtain ⟨ccS, q2a, q2b, q2c, q2d, q2e, q2f, rfl, hcS, hsS⟩ := dd5
  obtain rfl := dd6
  obtain rfl := dd7
  obtain ⟨ao9, cp9, rfl, ho9⟩ := dd9
  obtain ⟨cc10, f1a, f1b, f1c, f1d, f1e, f1f, rfl, hc10, hs10⟩ := dd10
  obtain ⟨ccF, k1a, k1b, k1c, k1d, k1e, k1f, rfl, hcF, hsF⟩ := dd11
  obtain ⟨ccR, w2a, w2b, w2c, w2d, w2e, w2f, hRS, hcR, hsR⟩ := dd12
  have hRE := Lib.hid hR
  clear hR
  have hg9 : w7.grownBy w8 (some r2) := hRE.out.1
  have hoE8 := hRE.out.2.1
  have h32 : r3 ≠ r2 := by have := HRa.out; have := HRb.out; omega
  have y3 : w8.heap[r3]? = some (.cells #[.slice none 0 0, .slice none 0 0, .slice none 0 0, .slice none 0 0] 29 (0, 0)) := (hg9.block _ (lt_of_block HR3.out) (fun e => h32 (Option.some.inj e))).trans HR3.out
  have sb := sl_blk4 y3
  have hBW := HB7.out.size
  have hBW2 := HBP.out.size
  have hBW3 := HB4.out.size
  have hE8 : EntO w.heap.size w8 (.slice a6 n6 c6) (staysOf p l) := by
   have := own_base hoE8 (by omega : w.heap.size ≤ w7.heap.size)
   unfold EntO
   rwa [← HN6.out]
  replace hcF := hcF.low (by omega : w.heap.size ≤ W1.heap.size)
  replace hcR := hcR.low (by omega : w.heap.size ≤ W1.heap.size)
  have hb9 : Below w.heap.size w w8 := (HB4.out.trans (HB7.out.mono HB4.out.size)).grown hg9 (Nat.le_trans HB4.out.size HB7.out.size) (fun j hj => by cases hj; have := HRa.out; omega)
  obtain ⟨W3, hW3⟩ : ∃ W, W = (((w8.setCell ⟨r3, 0, none⟩ (.slice none 0 0)).setCell ⟨r3, 1, none⟩ (.slice none 0 0)).setCell ⟨r3, 2, none⟩ (.slice k1a k1b k1c)).setCell ⟨r3, 3, none⟩ (.slice k1d k1e k1f) := ⟨_, rfl⟩
  have hs3 : W3.heap.size = w8.heap.size := by rw [hW3]; simp
  have hk3 : Kt 29 w8 W3 := by rw [hW3]; exact set4_kt y3 _ _ _ _
  have hE3 := hE8.kt hk3 (by decide)
  have hc3 := hcF.kt hk3 (by decide)
  have hr3 := hcR.kt hk3 (by decide)
  have hv3 : W3.heap[r3]? = some (.cells #[.slice none 0 0, .slice none 0 0, .slice k1a k1b k1c, .slice k1d k1e k1f] 29 (0, 0)) := by
   rw [hW3]
   exact heap_setCell_same _ r3 3 _ _ _ (heap_setCell_same _ r3 2 _ _ _ (heap_setCell_same _ r3 1 _ _ _ (heap_setCell_same _ r3 0 _ _ _ y3)))
  have hv2 : W3.heap[r2]? = some (.cells #[.slice a6 n6 c6, .slice w2a w2b w2c, .slice w2d w2e w2f] 27 (0, 0)) := by
   rw [hW3, Below.heap_setCell _ _ _ _ h32.symm, Below.heap_setCell _ _ _ _ h32.symm, Below.heap_setCell _ _ _ _ h32.symm, Below.heap_setCell _ _ _ _ h32.symm]
   exact hRS
  have hz3 : w.heap.size ≤ r3 := by have := HRb.out; omega
  have hb3 : Below w.heap.size w W3 := by
   rw [hW3]; exact (((hb9.setCell hz3 _).setCell hz3 _).setCell hz3 _).setCell hz3 _
  have HRET : Hid (DropY p l c d w (.returned (.tuple #[.agg #[.slice a6 n6 c6, .slice w2a w2b w2c, .slice w2d w2e w2f], .agg #[.slice none 0 0, .slice none 0 0, .slice k1a k1b k1c, .slice k1d k1e k1f]])) W3) :=
   ⟨_, _, _, _, _, ccR, ccF, rfl, hE3, hr3, hc3, hsR, ⟨_, hsF⟩, hb3⟩
  have z0 := boxc y3 0 _ rfl
  have z1 := boxc y3 1 _ rfl
  have z2 := boxc y3 2 _ rfl
  have z3 := boxc y3 3 _ rfl
  have fz0 := boxf y3 0
  have fz1 := boxf y3 1
  have fz2 := boxf y3 2
  have fz3 := boxf y3 3
  have HW3 := Lib.hid hW3
  have HV3 := Lib.hid hv3
  have HV2b := Lib.hid hv2
  clear hg9 y3 sb hE8 hoE8 hb9 hs3 hE3 hc3 hr3 hv3 hv2 hb3 hW3 hcR hsR hRS hcF hsF h32 hz3
  go_wp2_with fail
  rw [← HW3.out]
  have d0 := boxc HV3.out 0 _ rfl
  have d1 := boxc HV3.out 1 _ rfl
  have d2 := boxc HV3.out 2 _ rfl
  have d3 := boxc HV3.out 3 _ rfl
  have s0 := boxc HV2b.out 0 _ rfl
  have s1' := boxc HV2b.out 1 _ rfl
  have s2' := boxc HV2b.out 2 _ rfl
  exact bodyPost_ret (v := .tuple #[.agg #[.slice a6 n6 c6, .slice w2a w2b w2c, .slice w2d w2e w2f], .agg #[.slice none 0 0, .slice none 0 0, .slice k1a k1b k1c, .slice k1d k1e k1f]]) (by simp [results, Tryz.results88, go_sem, d0, d1, d2, d3, s0, s1', s2']) rfl (Or.inr ⟨HZ.out, HRET.out⟩)
end Go.Proofs.YtonknpdalemjkaaGreat
