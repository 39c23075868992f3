/- texts put together: DelCtx, DelSin, OrsSame. -/
import Derived.Test.YtonknpdalemjkaaGreatDe02
import Derived.Test.YtonknpdalemjkaaGreatDe06
import Derived.Test.YtonknpdalemjkaaGreatDe15
import Derived.Test.YtonknpdalemjkaaGreatDe16
import Derived.Test.YtonknpdalemjkaaGreatDe21
open List (setIfInBounds_toArray set_cons_zero set_cons_succ take_succ_cons take_zero drop_succ_cons drop_zero)
namespace Go.Proofs.YtonknpdalemjkaaGreat
open Go Go.RowKit Go.ChangeShapes cl
set_option maxHeartbeats 6400000 in
set_option maxRecDepth 100000 in
theorem tctx_any (c : dm.Ctx) (v1 v2 : Value) (w : World) (hc : CtxAt w w.heap.size (.agg #[v1, v2]) c) (h1 : c.1.length ≤ 1000000) (h2 : c.2.length ≤ 1000000) :
  Calls Tryz.prog 32 #[.agg #[v1, v2]] w fun e w' => ∃ u1 u2, e = .returned (.agg #[u1, u2]) ∧ OwnC w.heap.size w' (.agg #[u1, u2]) c ∧ Below w.heap.size w w' := by
 obtain ⟨a1, n1, c1, a2, n2, c2, e0, -, -⟩ := hc.form
 simp only [Value.agg.injEq, Array.mk.injEq, List.cons.injEq, and_true] at e0
 obtain ⟨rfl, rfl⟩ := e0
 obtain ⟨w1, hw1⟩ : ∃ W, W = w.alloc (.cells #[.slice a1 n1 c1, .slice a2 n2 c2] 25) := ⟨_, rfl⟩
 obtain ⟨w2, hw2⟩ : ∃ W, W = w1.alloc (.cells #[.slice none 0 0, .slice none 0 0] 25) := ⟨_, rfl⟩
 have s1 : w1.heap.size = w.heap.size + 1 := by rw [hw1]; simp
 have b1 : Below w.heap.size w w1 := by rw [hw1]; exact below1
 have b2 : Below w1.heap.size w1 w2 := by rw [hw2]; exact below1
 have x0 : w2.heap[w.heap.size]? = some (.cells #[.slice a1 n1 c1, .slice a2 n2 c2] 25 (0, 0)) := (b2.block _ (by omega)).trans (by rw [hw1]; exact heap_alloc_new w _)
 have x1 : w2.heap[w.heap.size + 1]? = some (.cells #[.slice none 0 0, .slice none 0 0] 25 (0, 0)) := by rw [hw2, ← s1]; exact heap_alloc_new w1 _
 have HB2 := Lib.hid (b1.trans (b2.mono b1.size))
 have X0 := Lib.hid x0
 have X1 := Lib.hid x1
 have HD := Lib.hid (hc.next HB2.out).parts
 have HC1 : Hid (∀ W, Below w2.heap.size w2 W → Calls Tryz.prog 68 #[.slice a1 n1 c1] W (OwnD c.1 W)) := fun W hW => clone_any c.1 _ W (Cells.next HD.out.1 hW) h1
 have HC2 : Hid (∀ W, Below w2.heap.size w2 W → Calls Tryz.prog 68 #[.slice a2 n2 c2] W (OwnD c.2 W)) := fun W hW => clone_any c.2 _ W (Cells.next HD.out.2 hW) h2
 subst hw1
 have HW2 := Lib.hid hw2
 clear hc h1 h2 s1 b1 b2 x0 x1 hw2
 go_enter Tryz.func32, Tryz.ntmps32
 go_wp2_with fail
 rw [← HW2.out]
 refine wp_flow 7 (fun _ => 1000) (fun ww => RowKit.Below w2.heap.size w2 ww) (fun _ w w' => (fun (w w' : World) => RowKit.Below w.heap.size w w') w w') (fun kF vF wF => match kF with | 0 => (vF = .pointer (some ⟨w.heap.size, 0, none⟩)) | 1 => (vF = .slice a1 n1 c1) | 2 => (∃ a cap, vF = .slice a c.1.length cap ∧ DotO w.heap.size wF (.slice a c.1.length cap) c.1) | 3 => (vF = .pointer (some ⟨w.heap.size, 1, none⟩)) | 4 => (vF = .slice a2 n2 c2) | 5 => (∃ a cap, vF = .slice a c.2.length cap ∧ DotO w.heap.size wF (.slice a c.2.length cap) c.2) | 6 => (∃ u, vF = u ∧ OwnC w.heap.size wF u c ∧ ∃ a1 n1 c1 a2 n2 c2, u = .agg #[.slice a1 n1 c1, .slice a2 n2 c2]) | _ => True) (fun _ _ _ _ => True) (by kernel_rfl) (by kernel_rfl) ?_ ?_ ?_ ?_ ?_
 ·
  exact (Below.refl _ _).drew
 ·
  intro iF wF1 wF2 hR hT; exact hR.trans (hT.mono hR.size)
 ·
  intro kF hkF iF hiF hne hdd hanc hdan vF wF1 wF2 h hT
  rcases (by omega : kF = 0 ∨ kF = 1 ∨ kF = 2 ∨ kF = 3 ∨ kF = 4 ∨ kF = 5 ∨ kF = 6) with rfl | rfl | rfl | rfl | rfl | rfl | rfl
  iterate 2 exact h
  ·
   have h : (∃ a cap, vF = .slice a c.1.length cap ∧ DotO w.heap.size wF1 (.slice a c.1.length cap) c.1) := h
   show (∃ a cap, vF = .slice a c.1.length cap ∧ DotO w.heap.size wF2 (.slice a c.1.length cap) c.1)
   have hT : (fun (w w' : World) => RowKit.Below w.heap.size w w') wF1 wF2 := hT
   simp only at hT
   obtain ⟨a, cap, e, h1⟩ := h
   exact ⟨a, cap, e, h1.on hT⟩
  iterate 2 exact h
  ·
   have h : (∃ a cap, vF = .slice a c.2.length cap ∧ DotO w.heap.size wF1 (.slice a c.2.length cap) c.2) := h
   show (∃ a cap, vF = .slice a c.2.length cap ∧ DotO w.heap.size wF2 (.slice a c.2.length cap) c.2)
   have hT : (fun (w w' : World) => RowKit.Below w.heap.size w w') wF1 wF2 := hT
   simp only at hT
   obtain ⟨a, cap, e, h1⟩ := h
   exact ⟨a, cap, e, h1.on hT⟩
  ·
   have h : (∃ u, vF = u ∧ OwnC w.heap.size wF1 u c ∧ ∃ a1 n1 c1 a2 n2 c2, u = .agg #[.slice a1 n1 c1, .slice a2 n2 c2]) := h
   show (∃ u, vF = u ∧ OwnC w.heap.size wF2 u c ∧ ∃ a1 n1 c1 a2 n2 c2, u = .agg #[.slice a1 n1 c1, .slice a2 n2 c2])
   have hT : (fun (w w' : World) => RowKit.Below w.heap.size w w') wF1 wF2 := hT
   simp only at hT
   obtain ⟨u, e, h1, h2⟩ := h
   exact ⟨u, e, h1.on hT, h2⟩
 ·
  generalize hAF : fillOf _ _ _ = AF
  replace hAF := fun x => congrFun hAF x
  simp only [take_succ_cons, take_zero, fillOf, Act.put, setIfInBounds_toArray, set_cons_zero, set_cons_succ, Nat.reduceAdd, Nat.zero_add] at hAF
  refine .cons ?_ (.cons ?_ (.cons ?_ (.cons ?_ (.cons ?_ (.cons ?_ (.cons ?_ (.nil)))))))
  all_goals
   intro xF w3 hR hd K hK
   first | simp only [← hAF, Act.put, setIfInBounds_toArray, set_cons_zero, set_cons_succ] at hK ⊢ | simp only [← hAF, Act.put] at hK ⊢
   clear hAF
   try simp only [Nat.zero_add, Nat.reduceAdd] at hK ⊢
  ·
   clear hd
   rw [if_pos (by rfl)]
   go_simp
   exact hK.out _ _ (Below.refl _ _) (rfl) (fun _ _ _ => ⟨trivial, trivial⟩)
  ·
   have dd0 := hd 0 (by kernel_rfl)
   clear hd
   try generalize xF 0 = yy0 at *
   obtain rfl := dd0
   have e0 := (hR.cell (p := ⟨w.heap.size, 0, none⟩) (lt_of_block X0.out)).trans (boxc X0.out 0 _ rfl)
   rw [if_pos (by rfl)]
   go_simp
   exact hK.out _ _ (Below.refl _ _) (rfl) (fun _ _ _ => ⟨trivial, trivial⟩)
  ·
   have dd1 := hd 1 (by kernel_rfl)
   clear hd
   try generalize xF 1 = yy1 at *
   obtain rfl := dd1
   rw [if_pos (by rfl)]
   go_simp
   (go_at_call 68; (with_reducible refine (HC1.out _ hR).mono ?_); rintro e wK ⟨vK, rfl, hV, hbK⟩; obtain ⟨aK, cK, rfl⟩ := own_slice hV)
   try go_wp2_with fail
   exact hK.out _ _ (hbK) (⟨aK, cK, rfl, own_base hV (Nat.le_trans HB2.out.size hR.size)⟩) (fun _ _ _ => ⟨trivial, trivial⟩)
  ·
   clear hd
   rw [if_pos (by rfl)]
   go_simp
   exact hK.out _ _ (Below.refl _ _) (rfl) (fun _ _ _ => ⟨trivial, trivial⟩)
  ·
   have dd3 := hd 3 (by kernel_rfl)
   clear hd
   try generalize xF 3 = yy3 at *
   obtain rfl := dd3
   have e1 := (hR.cell (p := ⟨w.heap.size, 1, none⟩) (lt_of_block X0.out)).trans (boxc X0.out 1 _ rfl)
   rw [if_pos (by rfl)]
   go_simp
   exact hK.out _ _ (Below.refl _ _) (rfl) (fun _ _ _ => ⟨trivial, trivial⟩)
  ·
   have dd4 := hd 4 (by kernel_rfl)
   clear hd
   try generalize xF 4 = yy4 at *
   obtain rfl := dd4
   rw [if_pos (by rfl)]
   go_simp
   (go_at_call 68; (with_reducible refine (HC2.out _ hR).mono ?_); rintro e wK ⟨vK, rfl, hV, hbK⟩; obtain ⟨aK, cK, rfl⟩ := own_slice hV)
   try go_wp2_with fail
   exact hK.out _ _ (hbK) (⟨aK, cK, rfl, own_base hV (Nat.le_trans HB2.out.size hR.size)⟩) (fun _ _ _ => ⟨trivial, trivial⟩)
  ·
   have dd2 := hd 2 (by kernel_rfl)
   have dd5 := hd 5 (by kernel_rfl)
   clear hd
   try generalize xF 2 = yy2 at *
   try generalize xF 5 = yy5 at *
   obtain ⟨b1, p1, rfl, ho1⟩ := dd2
   obtain ⟨b2, p2, rfl, ho2⟩ := dd5
   rw [if_pos (by rfl)]
   go_simp
   exact hK.out _ _ (Below.refl _ _) (⟨_, rfl, ⟨_, _, _, _, rfl, ho1, ho2⟩, _, _, _, _, _, _, rfl⟩) (fun _ _ _ => ⟨trivial, trivial⟩)
 intro xF w3 hR hF hP
 clear hP
 have dd0 := hF 0 (by omega) (by decide)
 have dd1 := hF 1 (by omega) (by decide)
 have dd2 := hF 2 (by omega) (by decide)
 have dd3 := hF 3 (by omega) (by decide)
 have dd4 := hF 4 (by omega) (by decide)
 have dd5 := hF 5 (by omega) (by decide)
 have dd6 := hF 6 (by omega) (by decide)
 clear hF
 simp only [take_succ_cons, take_zero, drop_succ_cons, drop_zero, fillOf, Act.put, setIfInBounds_toArray, set_cons_zero, set_cons_succ, Nat.reduceAdd, Nat.zero_add]
 try generalize xF 0 = yy0 at *
 try generalize xF 1 = yy1 at *
 try generalize xF 2 = yy2 at *
 try generalize xF 3 = yy3 at *
 try generalize xF 4 = yy4 at *
 try generalize xF 5 = yy5 at *
 try generalize xF 6 = yy6 at *
 clear xF
 obtain rfl := dd0
 obtain rfl := dd1
 obtain ⟨b1, p1, rfl, ho1⟩ := dd2
 obtain rfl := dd3
 obtain rfl := dd4
 obtain ⟨b2, p2, rfl, ho2⟩ := dd5
 obtain ⟨u6, rfl, ho6, y1, z1, t1, y2, z2, t2, rfl⟩ := dd6
 have hRE := Lib.hid hR
 clear hR
 have x1 := (hRE.out.block _ (lt_of_block X1.out)).trans X1.out
 have k0 := boxc x1 0 _ rfl
 have k1 := boxc x1 1 _ rfl
 have HO := Lib.hid ho6
 have HRL := Lib.hid (HB2.out.trans (hRE.out.mono HB2.out.size))
 obtain ⟨w4, hw4⟩ : ∃ W, W = (w3.setCell ⟨w.heap.size + 1, 0, none⟩ (.slice y1 z1 t1)).setCell ⟨w.heap.size + 1, 1, none⟩ (.slice y2 z2 t2) := ⟨_, rfl⟩
 have q0 := boxf x1 0
 have q1 := boxf x1 1
 have HOK := Lib.hid (show OwnC w.heap.size w4 _ c by rw [hw4]; exact HO.out.kt ((Kt.set x1 0 _).trans (Kt.set (heap_setCell_same _ _ 0 _ _ _ x1) 1 _)) (by decide))
 have HBK := Lib.hid (show Below w.heap.size w w4 by rw [hw4]; exact (HRL.out.setCell (by simp) _).setCell (by simp) _)
 have x4 : w4.heap[w.heap.size + 1]? = some (.cells #[.slice y1 z1 t1, .slice y2 z2 t2] 25 (0, 0)) := by rw [hw4]; exact heap_setCell_same _ _ 1 _ _ _ (heap_setCell_same _ _ 0 _ _ _ x1)
 have X4 := Lib.hid x4
 have HW4 := Lib.hid hw4
 clear x1 ho6 x4 hw4
 go_wp2_with fail
 rw [← HW4.out]
 have l0 := boxc X4.out 0 _ rfl
 have l1 := boxc X4.out 1 _ rfl
 exact bodyPost_ret (v := .agg #[.slice y1 z1 t1, .slice y2 z2 t2]) (by simp [results, Tryz.results32, go_sem, l0, l1]) rfl ⟨_, _, rfl, HOK.out, HBK.out⟩
end Go.Proofs.YtonknpdalemjkaaGreat
namespace Go.Proofs.YtonknpdalemjkaaGreat
open Go Go.RowKit Go.ChangeShapes cl Go.WideMaps Go.Maps
theorem blk_kt {T U : TypeId} {w w' : World} {g : Nat} {arr : Array Value} {fr : Nat × Nat} (h : w.heap[g]? = some (.cells arr U fr)) (hk : Kt T w w') (hne : U ≠ T) : w'.heap[g]? = some (.cells arr U fr) := by
 rw [hk.keep g (lt_of_block h) (fun cur fr e => by
  rw [h] at e
  simp only [Option.some.injEq, Obj.cells.injEq] at e
  exact hne e.2.1)]
 exact h
theorem own_neB {w : World} {B k n g : Nat} {e U : TypeId} {v : Value} {xs : List Value} {arr : Array Value} {fr : Nat × Nat} (h : w.ownsRow B e k v n xs) (hb : w.heap[g]? = some (.cells arr U fr)) (hne : U ≠ e) : v.ownBlock ≠ some g := by
 intro h2
 rcases h.2 with ⟨rfl, _⟩ | ⟨g', cap, cur, rfl, _, hg, _⟩
 ·
  cases h2
 ·
  cases h2
  rw [hb] at hg
  simp only [Option.some.injEq, Obj.cells.injEq] at hg
  exact hne hg.2.1
def SinceP (l : List Ent) (c dc : dm.Ctx) (w : World) (e : Ending) (w' : World) : Prop :=
 ∃ (u0 ua u1 u2 : Value), e = .returned (.agg #[u0, ua, u1, u2]) ∧ EntO w.heap.size w' u0 (newOf dc l) ∧ DotO w.heap.size w' ua (l.map Ent.d) ∧ OwnC w.heap.size w' (.agg #[u1, u2]) c ∧ Below w.heap.size w w'
set_option maxHeartbeats 12800000 in
set_option maxRecDepth 100000 in
theorem since_yes (l : List Ent) (c dc : dm.Ctx) (ve v1 v2 u1 u2 : Value) (w : World) (h : Ents w w.heap.size ve l) (hc : CtxAt w w.heap.size (.agg #[v1, v2]) c) (hdc : CtxAt w w.heap.size (.agg #[u1, u2]) dc)
  (hr : RSet l c) (hrd : dm.Right dc) (hl : l.length ≤ 1000) (hc1 : c.1.length ≤ 1000) (hc2 : c.2.length ≤ 1000) (hm : MX w) :
  Calls Tryz.prog 13 #[.agg #[ve, v1, v2], .agg #[u1, u2]] w (SinceP l c dc w) := by
 obtain ⟨n, hn⟩ : ∃ n, n = l.length := ⟨_, rfl⟩
 obtain ⟨ao, cap, rfl⟩ : ∃ ao cap, ve = .slice ao n cap := by
  obtain ⟨ao, cap, e, _⟩ := h.form
  exact ⟨ao, cap, by rw [hn]; exact e⟩
 have HN := Lib.hid hn
 have hn6 : n ≤ 1000 := by omega
 obtain ⟨s1, p1, c1, s2, p2, c2, e0, -, -⟩ := hc.form
 simp only [Value.agg.injEq, Array.mk.injEq, List.cons.injEq, and_true] at e0
 obtain ⟨rfl, rfl⟩ := e0
 obtain ⟨s3, p3, c3, s4, p4, c4, e0, -, -⟩ := hdc.form
 simp only [Value.agg.injEq, Array.mk.injEq, List.cons.injEq, and_true] at e0
 obtain ⟨rfl, rfl⟩ := e0
 obtain ⟨WA, hWA⟩ : ∃ W, W = w.alloc (.cells #[.slice ao n cap, .slice s1 p1 c1, .slice s2 p2 c2] 27) := ⟨_, rfl⟩
 obtain ⟨WB, hWB⟩ : ∃ W, W = WA.alloc (.cells #[.slice s3 p3 c3, .slice s4 p4 c4] 25) := ⟨_, rfl⟩
 obtain ⟨W4, hW4⟩ : ∃ W, W = WB.alloc (.cells #[.slice none 0 0, .slice none 0 0, .slice none 0 0, .slice none 0 0] 29) := ⟨_, rfl⟩
 have sA : WA.heap.size = w.heap.size + 1 := by rw [hWA]; simp
 have sB : WB.heap.size = w.heap.size + 2 := by rw [hWB]; simp [sA]
 have bA : Below w.heap.size w WA := by rw [hWA]; exact below1
 have bB : Below WA.heap.size WA WB := by rw [hWB]; exact below1
 have bC : Below WB.heap.size WB W4 := by rw [hW4]; exact below1
 have b2 : Below WA.heap.size WA W4 := bB.trans (bC.mono bB.size)
 have b4 : Below w.heap.size w W4 := bA.trans (b2.mono bA.size)
 have x0 : W4.heap[w.heap.size]? = some (.cells #[.slice ao n cap, .slice s1 p1 c1, .slice s2 p2 c2] 27 (0, 0)) := (b2.block _ (by omega)).trans (by rw [hWA]; exact heap_alloc_new w _)
 have x1 : W4.heap[w.heap.size + 1]? = some (.cells #[.slice s3 p3 c3, .slice s4 p4 c4] 25 (0, 0)) := (bC.block _ (by omega)).trans (by rw [hWB, ← sA]; exact heap_alloc_new WA _)
 have x2 : W4.heap[w.heap.size + 2]? = some (.cells #[.slice none 0 0, .slice none 0 0, .slice none 0 0, .slice none 0 0] 29 (0, 0)) := by rw [hW4, ← sB]; exact heap_alloc_new WB _
 subst hWA hWB
 have HW4 := Lib.hid hW4
 have X0 := Lib.hid x0
 have X1 := Lib.hid x1
 have X2 := Lib.hid x2
 have HB4 := Lib.hid b4
 have HE := Lib.hid (Cells.next h b4)
 have HC := Lib.hid (hc.next b4)
 have HD := Lib.hid (hdc.next b4)
 have HRS := Lib.hid hr
 have HRD := Lib.hid hrd
 have HMX := Lib.hid (MX.next hm b4)
 have HTW : Hid (∀ (x : Ent) (W : World), Calls Tryz.prog 33 #[.agg #[.string x.s, .int .i64 x.d.1, .int .i64 x.d.2, .int .i64 x.t, .slice none 0 0]] W fun e w' => e = .returned (.agg #[.string x.s, .int .i64 x.d.1, .int .i64 x.d.2, .int .i64 x.t, .slice none 0 0]) ∧ Below W.heap.size W w') := fun x W => twent_any x W
 clear h hc hdc hr hrd hm sA sB bA bB bC b2 b4 x0 x1 x2 hW4 hn
 have HR := Lib.hid (oright_yes l c _ _ _ W4 HE.out HC.out HRS.out HMX.out)
 go_enter Tryz.func13, Tryz.ntmps13
 go_wp2_with fail
 rw [← HW4.out]
 (with_reducible refine HR.out.mono ?_)
 rintro e w5 ⟨rfl, hb5⟩
 have HB5 := Lib.hid hb5
 have HRDL := Lib.hid (right_yes HRD.out _ w5 (HD.out.next hb5))
 have y1 := (hb5.block _ (lt_of_block X1.out)).trans X1.out
 have e0 := boxc y1 0 _ rfl
 have e1 := boxc y1 1 _ rfl
 clear y1 hb5 HR
 go_wp2_with fail
 (with_reducible refine HRDL.out.mono ?_)
 rintro e w6 ⟨rfl, hb6⟩
 have HB6 := Lib.hid (HB5.out.trans (hb6.mono HB5.out.size))
 have HTC := Lib.hid (tctx_any c _ _ w6 (HC.out.next HB6.out) (by omega) (by omega))
 have y0 := (HB6.out.block _ (lt_of_block X0.out)).trans X0.out
 have e1 := boxc y0 1 _ rfl
 have e2 := boxc y0 2 _ rfl
 clear y0 hb6 HRDL e0 hc1 hc2
 go_wp2_with fail
 (with_reducible refine HTC.out.mono ?_)
 rintro e wC ⟨x1, x2, rfl, hoC, hbC⟩
 obtain ⟨c7, z7, t7, c8, z8, t8, e0⟩ := hoC.form
 simp only [Value.agg.injEq, Array.mk.injEq, List.cons.injEq, and_true] at e0
 obtain ⟨rfl, rfl⟩ := e0
 have HBC := Lib.hid (HB6.out.trans (hbC.mono HB6.out.size))
 obtain ⟨b5, hb5e⟩ : ∃ b, b = wC.heap.size := ⟨_, rfl⟩
 obtain ⟨w8, hw8⟩ : ∃ W, W = wC.alloc (.cells #[.slice none 0 0, .slice none 0 0, .slice c7 z7 t7, .slice c8 z8 t8] 29) := ⟨_, rfl⟩
 have hb8 : Below wC.heap.size wC w8 := by rw [hw8]; exact below1
 have x8 : w8.heap[b5]? = some (.cells #[.slice none 0 0, .slice none 0 0, .slice c7 z7 t7, .slice c8 z8 t8] 29 (0, 0)) := by rw [hw8, hb5e]; exact heap_alloc_new wC _
 have HB8 := Lib.hid (HBC.out.trans (hb8.mono HBC.out.size))
 have HOC := Lib.hid (hoC.low (Nat.le_trans HB4.out.size HB6.out.size))
 have HEC := Lib.hid (Cells.next HE.out HBC.out)
 have HDC := Lib.hid (HD.out.next HBC.out)
 have HLC := Lib.hid (HB4.out.trans (HBC.out.mono HB4.out.size))
 have XC1 := Lib.hid ((HBC.out.block _ (lt_of_block X1.out)).trans X1.out)
 have XC2 := Lib.hid ((HBC.out.block _ (lt_of_block X2.out)).trans X2.out)
 have HB8' := Lib.hid hb8
 have y0 := (HB8.out.block _ (lt_of_block X0.out)).trans X0.out
 have i0 := boxc y0 0 _ rfl
 have X8 := Lib.hid x8
 have HW8 := Lib.hid hw8
 have HBE := Lib.hid hb5e
 rw [hw8] at i0
 have hb5n : wC.heap.size ≤ b5 := by omega
 have hb2n : w.heap.size + 2 < wC.heap.size := lt_of_block XC2.out
 clear y0 hoC hbC hb8 x8 hw8 hb5e HTC e1 e2
 go_wp2_with fail
 rw [← HW8.out, ← HBE.out]
 clear i0
 go_loopw [24] (fun i wr => ∃ (k : Nat) (a : Option Addr) (q cq : Nat) (a' : Option Addr) (cq' : Nat), i = .int .i64 k ∧ k ≤ n ∧ q ≤ k ∧ Hid (q = (newOf dc (l.take k)).length) ∧ Hid (wr.heap[b5]? = some (.cells #[.slice a q cq, .slice a' k cq', .slice c7 z7 t7, .slice c8 z8 t8] 29 (0, 0))) ∧ Hid (wr.ownsRow wC.heap.size 54 5 (.slice a q cq) q (ecells (newOf dc (l.take k)))) ∧ Hid (wr.ownsRow wC.heap.size 51 2 (.slice a' k cq') k (dcells ((l.map Ent.d).take k))) ∧ Hid (Below wC.heap.size wC wr)) (fun i _ => n - (intOf i).toNat)
 case atStart => exact ⟨0, none, 0, 0, none, 0, rfl, by omega, by omega, rfl, X8.out, World.ownsRow_nil _ _ _ _, World.ownsRow_nil _ _ _ _, HB8'.out⟩
 case round =>
  obtain ⟨k, a, q, cq, a', cq', rfl, hk, hq, HQN, HX, HO, HA, HB⟩ := hrel
  have hz : wC.heap.size ≤ wr.heap.size := HB.out.size
  by_cases hlt : k < n
  ·
   have hkI : (k : Int) < (n : Int) := by omega
   obtain ⟨bb, off, rfl, hbB, q0, q1, q2, q3, q4⟩ := Ents.get (Cells.next HEC.out HB.out) HN.out hlt
   obtain ⟨x, hx⟩ : ∃ x, x = l.getD k default := ⟨_, rfl⟩
   rw [← hx] at q0 q1 q2 q3
   have HXT : Hid (l.take (k + 1) = l.take k ++ [x]) := by
    show _ = _
    rw [hx]; exact take_one l k default (by rw [← HN.out]; exact hlt)
   obtain ⟨g0, hg0⟩ : ∃ q, q = wr.heap.size := ⟨_, rfl⟩
   obtain ⟨WE, hWE⟩ : ∃ W1, W1 = wr.alloc (.cells #[.string x.s, .int .i64 x.d.1, .int .i64 x.d.2, .int .i64 x.t, .slice none 0 0] 54) := ⟨_, rfl⟩
   have hb1 : Below wr.heap.size wr WE := by rw [hWE]; exact below1
   have y1 : WE.heap[g0]? = some (.cells #[.string x.s, .int .i64 x.d.1, .int .i64 x.d.2, .int .i64 x.t, .slice none 0 0] 54 (0, 0)) := by rw [hWE, hg0]; exact heap_alloc_new wr _
   have x5 := (hb1.block _ (lt_of_block HX.out)).trans HX.out
   have i1 := boxc x5 1 _ rfl
   have j1 := boxc y1 1 _ rfl
   have j2 := boxc y1 2 _ rfl
   have hne5 : ¬ b5 = g0 := by
    have := lt_of_block HX.out
    omega
   have HX5 := Lib.hid x5
   have HY1 := Lib.hid y1
   have HAE := Lib.hid (own_stay HA.out hb1)
   have HOE := Lib.hid (own_stay HO.out hb1)
   have HBE1 := Lib.hid (HB.out.trans (hb1.mono HB.out.size))
   have hzE : wC.heap.size ≤ WE.heap.size := HBE1.out.size
   have HG3 : Hid (∀ j, (Value.slice a q cq).ownBlock = some j → j ≠ g0) := fun j hj => by
    have := (HO.out.lt j hj).2
    omega
   have HG1 : Hid (g0 + 1 = WE.heap.size) := by show _ = _; rw [hWE, hg0]; simp
   have HWE := Lib.hid hWE
   have HG0 := Lib.hid hg0
   rw [hWE] at i1 j1 j2
   rw [hg0] at j1 j2
   clear hx hb1 y1 x5 hWE hg0 hz
   go_wp2_with (at_builtin; rw [← HWE.out, ← HG0.out, HG1.out]; refine app1g (.tmp 29) (.tmp 32) 23 rfl rfl wC.heap.size Tryz.underlying23 infoDot rfl (by decide) (by decide) HAE.out rfl rfl rfl (by intro u hu; simp at hu; rcases hu with rfl | rfl <;> rfl) (by omega) hzE ?_)
   intro v' wU hown hgU
   clear i1 j1 j2 q0 q1 q2 q3 q4
   obtain ⟨aU, cU, rfl⟩ := own_slice hown
   have hbL : Below WE.heap.size WE (WE.alloc (.cells #[.int .i64 x.d.1, .int .i64 x.d.2] 51)) := below1
   have hoL := own_stay HAE.out hbL
   have hkU : Kt 51 WE wU := (Kt.of_below hbL).trans (Kt.append hoL hgU)
   have hbU : Below wC.heap.size wC wU := (HBE1.out.trans (hbL.mono HBE1.out.size)).trans (grown_below hoL (Nat.le_trans hzE hbL.size) hgU)
   have x5 := blk_kt HX5.out hkU (by decide)
   have f1 := boxf x5 1
   have f2 := boxc x5 1 _ rfl
   obtain ⟨W9, hW9⟩ : ∃ W, W = wU.setCell ⟨b5, 1, none⟩ (.slice aU (k + 1) cU) := ⟨_, rfl⟩
   have hk9 : Kt 29 wU W9 := by rw [hW9]; exact Kt.set x5 1 _
   have hb9 : Below wC.heap.size wC W9 := by rw [hW9]; exact hbU.setCell hb5n _
   have x9 : W9.heap[b5]? = some (.cells #[.slice a q cq, .slice aU (k + 1) cU, .slice c7 z7 t7, .slice c8 z8 t8] 29 (0, 0)) := by rw [hW9]; exact heap_setCell_same _ b5 1 _ _ _ x5
   have y9 := blk_kt (blk_kt HY1.out hkU (by decide)) hk9 (by decide)
   have HX9' := Lib.hid x9
   have HY9' := Lib.hid y9
   have HB9 := Lib.hid hb9
   have HA9 := Lib.hid (own_kt hown hk9 (by decide))
   have HO9 := Lib.hid (own_kt (own_kt HOE.out hkU (by decide)) hk9 (by decide))
   have HHS := Lib.hid (has_any dc x.d _ W9 (HDC.out.next hb9))
   have z1 := (hb9.block _ (lt_of_block XC1.out)).trans XC1.out
   have i1 := boxc z1 0 _ rfl
   have i2 := boxc z1 1 _ rfl
   have j1 := boxc y9 1 _ rfl
   have j2 := boxc y9 2 _ rfl
   have HW9 := Lib.hid hW9
   rw [hW9] at i1 i2 j1 j2
   clear hown hgU hbL hoL hkU hbU x5 hW9 hk9 hb9 x9 y9 z1 HAE HOE HBE1 hzE
   go_wp2_with fail
   rw [← HW9.out]
   clear f1 f2 i1 i2 j1 j2
   (with_reducible refine HHS.out.mono ?_)
   rintro e wH ⟨rfl, hbH⟩
   have HBH := Lib.hid (HB9.out.trans (hbH.mono HB9.out.size))
   have HXH := Lib.hid ((hbH.block _ (lt_of_block HX9'.out)).trans HX9'.out)
   have HYH := Lib.hid ((hbH.block _ (lt_of_block HY9'.out)).trans HY9'.out)
   have HAH := Lib.hid (own_stay HA9.out hbH)
   have HOH := Lib.hid (own_stay HO9.out hbH)
   have HDN : Hid (dcells ((l.map Ent.d).take k) ++ [.int .i64 x.d.1, .int .i64 x.d.2] = dcells ((l.map Ent.d).take (k + 1))) := by
    show _ = _
    rw [← List.map_take, ← List.map_take, HXT.out, List.map_append, dcells_app]; rfl
   clear hbH HHS HX9' HY9' HA9 HO9
   cases hk2 : dm.hasF dc x.d
   ·
    have HNW : Hid (newOf dc (l.take (k + 1)) = newOf dc (l.take k) ++ [x]) := by show _ = _; rw [HXT.out, newOf_snoc, hk2]; rfl
    clear hk2
    have HGK : Hid (∀ j, (Value.slice a q cq).ownBlock = some j → j < wH.heap.size ∧ j ≠ b5) := fun j hj => ⟨(HOH.out.lt j hj).2, fun e => own_neB HOH.out HXH.out (by decide) (by rw [hj, e])⟩
    have HX9 : Hid (∀ ww, wH.grownBy ww (Value.slice a q cq).ownBlock → ww.heap[b5]? = some (.cells #[.slice a q cq, .slice aU (k + 1) cU, .slice c7 z7 t7, .slice c8 z8 t8] 29 (0, 0))) := fun ww hw => (hw.block _ (lt_of_block HXH.out) (fun e => (HGK.out b5 e.symm).2 rfl)).trans HXH.out
    have HY9 : Hid (∀ ww, wH.grownBy ww (Value.slice a q cq).ownBlock → ww.heap[g0]? = some (.cells #[.string x.s, .int .i64 x.d.1, .int .i64 x.d.2, .int .i64 x.t, .slice none 0 0] 54 (0, 0))) := fun ww hw => (hw.block _ (lt_of_block HYH.out) (fun e => HG3.out g0 e.symm rfl)).trans HYH.out
    go_wp2_with fail
    refine wp_flowG 7 (fun kF => match kF with | 4 => 5 | _ => 1000) (fun ww => wH.grownBy ww (Value.slice a q cq).ownBlock) (fun i w w' => if i = 5 then (fun (w w' : World) => w.grownBy w' (Value.slice a q cq).ownBlock) w w' else (fun (w w' : World) => RowKit.Below w.heap.size w w') w w') (fun sF wF => match sF with | 5 => (wF.ownsRow wC.heap.size 54 5 (.slice a q cq) q (ecells (newOf dc (l.take k)))) | _ => True) (fun kF vF wF => match kF with | 0 => (vF = .pointer (some ⟨b5, 0, none⟩)) | 1 => (vF = .slice a q cq) | 2 => (vF = .agg #[.string x.s, .int .i64 x.d.1, .int .i64 x.d.2, .int .i64 x.t, .slice none 0 0]) | 3 => (vF = .agg #[.string x.s, .int .i64 x.d.1, .int .i64 x.d.2, .int .i64 x.t, .slice none 0 0]) | 4 => (∃ g, vF = .slice (some ⟨g, 0, none⟩) 1 1 ∧ wF.heap[g]? = some (.cells #[.string x.s, .int .i64 x.d.1, .int .i64 x.d.2, .int .i64 x.t, .slice none 0 0] 54 (0, 0)) ∧ wH.heap.size ≤ g) | 5 => (∃ aE cE, vF = .slice aE (q + 1) cE ∧ wF.ownsRow wC.heap.size 54 5 (.slice aE (q + 1) cE) (q + 1) (ecells (newOf dc (l.take k)) ++ ecells [x])) | 6 => (vF = .pointer (some ⟨b5, 0, none⟩)) | _ => True) (fun _ _ _ _ => True) (by kernel_rfl) (by kernel_rfl) ?_ ?_ ?_ ?_ ?_ ?_ ?_
    ·
     exact grown_below' ((Below.refl _ _).drew)
    ·
     intro sF hsF
     rcases (by omega : sF = 0 ∨ sF = 1 ∨ sF = 2 ∨ sF = 3 ∨ sF = 4 ∨ sF = 5 ∨ sF = 6) with rfl | rfl | rfl | rfl | rfl | rfl | rfl
     iterate 5 exact trivial
     ·
      exact own_stay HOH.out ((Below.refl _ _).drew)
     ·
      exact trivial
    ·
     intro iF wF1 wF2 hR hT
     have hT : (fun i w w' => if i = 5 then (fun (w w' : World) => w.grownBy w' (Value.slice a q cq).ownBlock) w w' else (fun (w w' : World) => RowKit.Below w.heap.size w w') w w') iF wF1 wF2 := hT
     simp only at hT
     by_cases hi5 : iF = 5
     ·
      rw [if_pos hi5] at hT; exact grown_trans hR hT
     rw [if_neg hi5] at hT
     exact grown_trans hR (grown_below' hT)
    ·
     intro sF hsF iF hiF hne hanc wF1 wF2 hRF hgF hT
     rcases (by omega : sF = 0 ∨ sF = 1 ∨ sF = 2 ∨ sF = 3 ∨ sF = 4 ∨ sF = 5 ∨ sF = 6) with rfl | rfl | rfl | rfl | rfl | rfl | rfl
     iterate 5 exact trivial
     ·
      have hg : (wF1.ownsRow wC.heap.size 54 5 (.slice a q cq) q (ecells (newOf dc (l.take k)))) := hgF
      show (wF2.ownsRow wC.heap.size 54 5 (.slice a q cq) q (ecells (newOf dc (l.take k))))
      have hT : (fun i w w' => if i = 5 then (fun (w w' : World) => w.grownBy w' (Value.slice a q cq).ownBlock) w w' else (fun (w w' : World) => RowKit.Below w.heap.size w w') w w') iF wF1 wF2 := hT
      simp only at hT
      by_cases hi5 : iF = 5
      ·
       exact absurd hi5.symm hne
      rw [if_neg hi5] at hT
      exact own_stay hg hT
     ·
      exact trivial
    ·
     intro kF hkF iF hiF hne hdd hanc hdan vF wF1 wF2 h hT
     rcases (by omega : kF = 0 ∨ kF = 1 ∨ kF = 2 ∨ kF = 3 ∨ kF = 4 ∨ kF = 5 ∨ kF = 6) with rfl | rfl | rfl | rfl | rfl | rfl | rfl
     iterate 4 exact h
     ·
      have h : (∃ g, vF = .slice (some ⟨g, 0, none⟩) 1 1 ∧ wF1.heap[g]? = some (.cells #[.string x.s, .int .i64 x.d.1, .int .i64 x.d.2, .int .i64 x.t, .slice none 0 0] 54 (0, 0)) ∧ wH.heap.size ≤ g) := h
      show (∃ g, vF = .slice (some ⟨g, 0, none⟩) 1 1 ∧ wF2.heap[g]? = some (.cells #[.string x.s, .int .i64 x.d.1, .int .i64 x.d.2, .int .i64 x.t, .slice none 0 0] 54 (0, 0)) ∧ wH.heap.size ≤ g)
      have hT : (fun i w w' => if i = 5 then (fun (w w' : World) => w.grownBy w' (Value.slice a q cq).ownBlock) w w' else (fun (w w' : World) => RowKit.Below w.heap.size w w') w w') iF wF1 wF2 := hT
      simp only at hT
      by_cases hi5 : iF = 5
      ·
       exact absurd hi5.symm hdd
      rw [if_neg hi5] at hT
      obtain ⟨g, e, h1, h2⟩ := h
      exact ⟨g, e, (hT.block _ (lt_of_block h1)).trans h1, h2⟩
     ·
      have h : (∃ aE cE, vF = .slice aE (q + 1) cE ∧ wF1.ownsRow wC.heap.size 54 5 (.slice aE (q + 1) cE) (q + 1) (ecells (newOf dc (l.take k)) ++ ecells [x])) := h
      show (∃ aE cE, vF = .slice aE (q + 1) cE ∧ wF2.ownsRow wC.heap.size 54 5 (.slice aE (q + 1) cE) (q + 1) (ecells (newOf dc (l.take k)) ++ ecells [x]))
      have hT : (fun i w w' => if i = 5 then (fun (w w' : World) => w.grownBy w' (Value.slice a q cq).ownBlock) w w' else (fun (w w' : World) => RowKit.Below w.heap.size w w') w w') iF wF1 wF2 := hT
      simp only at hT
      by_cases hi5 : iF = 5
      ·
       exact absurd hi5.symm hne
      rw [if_neg hi5] at hT
      obtain ⟨a, c, e, h1⟩ := h
      exact ⟨a, c, e, own_stay h1 hT⟩
     ·
      exact h
    ·
     generalize hAF : fillOf _ _ _ = AF
     replace hAF := fun x => congrFun hAF x
     simp only [take_succ_cons, take_zero, fillOf, Act.put, setIfInBounds_toArray, set_cons_zero, set_cons_succ, Nat.reduceAdd, Nat.zero_add] at hAF
     refine .cons ?_ (.cons ?_ (.cons ?_ (.cons ?_ (.cons ?_ (.cons ?_ (.cons ?_ (.nil)))))))
     all_goals
      intro xF w9 hR hg hd K hK
      first | simp only [← hAF, Act.put, setIfInBounds_toArray, set_cons_zero, set_cons_succ] at hK ⊢ | simp only [← hAF, Act.put] at hK ⊢
      clear hAF
      try simp only [Nat.zero_add, Nat.reduceAdd] at hK ⊢
     ·
      clear hg hd
      rw [if_pos (by rfl)]
      go_simp
      exact hK.out _ _ (Below.refl _ _) (rfl) (fun _ _ _ => ⟨trivial, trivial⟩)
     ·
      clear hg
      have dd0 := hd 0 (by kernel_rfl)
      clear hd
      try generalize xF 0 = yy0 at *
      obtain rfl := dd0
      have e5 := boxc (HX9.out _ hR) 0 _ rfl
      rw [if_pos (by rfl)]
      go_simp
      exact hK.out _ _ (Below.refl _ _) (rfl) (fun _ _ _ => ⟨trivial, trivial⟩)
     ·
      clear hg hd
      have y9 := HY9.out _ hR
      have q0 := boxc y9 0 _ rfl
      have q1 := boxc y9 1 _ rfl
      have q2 := boxc y9 2 _ rfl
      have q3 := boxc y9 3 _ rfl
      have q4 := boxc y9 4 _ rfl
      rw [if_pos (by rfl)]
      go_simp
      exact hK.out _ _ (Below.refl _ _) (rfl) (fun _ _ _ => ⟨trivial, trivial⟩)
     ·
      clear hg
      have dd2 := hd 2 (by kernel_rfl)
      clear hd
      try generalize xF 2 = yy2 at *
      obtain rfl := dd2
      rw [if_pos (by rfl)]
      go_simp
      (go_at_call 33; (with_reducible refine (HTW.out x _).mono ?_); rintro e wK ⟨rfl, hbK⟩)
      try go_wp2_with fail
      exact hK.out _ _ (hbK) (rfl) (fun _ _ _ => ⟨trivial, trivial⟩)
     ·
      clear hg
      have dd3 := hd 3 (by kernel_rfl)
      clear hd
      try generalize xF 3 = yy3 at *
      obtain rfl := dd3
      rw [if_pos (by rfl)]
      go_simp
      exact hK.out _ _ (below1) (⟨_, rfl, heap_alloc_new _ _, hR.size⟩) (fun _ _ _ => ⟨trivial, trivial⟩)
     ·
      have gg5 : (w9.ownsRow wC.heap.size 54 5 (.slice a q cq) q (ecells (newOf dc (l.take k)))) := hg 5 (by omega) (by decide)
      clear hg
      have dd1 := hd 1 (by kernel_rfl)
      have dd4 := hd 4 (by kernel_rfl)
      clear hd
      try generalize xF 1 = yy1 at *
      try generalize xF 4 = yy4 at *
      obtain rfl := dd1
      obtain ⟨gD, rfl, hgD, hlD⟩ := dd4
      rw [if_pos (by rfl)]
      refine wp_of_list1 (fun Q' hQ' => ?_)
      refine appNg (.tmp 41) (.tmp 44) 22 rfl rfl wC.heap.size Tryz.underlying22 infoEnt rfl (by decide) (by decide) gg5 rfl rfl (ecells [x]) rfl (fun j u hu => by rw [Addr.add_lit, Nat.zero_add]; exact boxc' hgD j u (by simpa [ecells, ecell] using hu)) (by intro u hu; simp [ecells, ecell] at hu; rcases hu with rfl | rfl | rfl | rfl | rfl <;> rfl) (by omega) (Nat.le_trans HBH.out.size hR.size) ?_
      intro vN wN hownN hgN
      refine hQ' _ _ ?_
      obtain ⟨aoN, cpN, rfl⟩ := own_slice hownN
      simp only [Act.put, setIfInBounds_toArray, set_cons_zero, set_cons_succ]
      exact hK.out _ _ (hgN) (⟨aoN, cpN, rfl, hownN⟩) (fun _ _ _ => ⟨trivial, trivial⟩)
     ·
      clear hg hd
      rw [if_pos (by rfl)]
      go_simp
      exact hK.out _ _ (Below.refl _ _) (rfl) (fun _ _ _ => ⟨trivial, trivial⟩)
    intro xF w9 hR hF hP
    clear hP
    have dd0 := hF 0 (by omega) (by decide)
    have dd1 := hF 1 (by omega) (by decide)
    have dd2 := hF 2 (by omega) (by decide)
    have dd3 := hF 3 (by omega) (by decide)
    have dd5 := hF 5 (by omega) (by decide)
    have dd6 := hF 6 (by omega) (by decide)
    clear hF
    simp only [take_succ_cons, take_zero, drop_succ_cons, drop_zero, fillOf, Act.put, setIfInBounds_toArray, set_cons_zero, set_cons_succ, Nat.reduceAdd, Nat.zero_add]
    try generalize xF 0 = yy0 at *
    try generalize xF 1 = yy1 at *
    try generalize xF 2 = yy2 at *
    try generalize xF 3 = yy3 at *
    try generalize xF 4 = yy4 at *
    try generalize xF 5 = yy5 at *
    try generalize xF 6 = yy6 at *
    clear xF
    obtain rfl := dd0
    obtain rfl := dd1
    obtain rfl := dd2
    obtain rfl := dd3
    obtain ⟨aE, cE, rfl, hoE⟩ := dd5
    obtain rfl := dd6
    have hRE := Lib.hid hR
    clear hR
    have x9 := HX9.out _ hRE.out
    have f0 := boxf x9 0
    have f2 := boxc x9 0 _ rfl
    have hkE : Kt 54 wH w9 := Kt.append HOH.out hRE.out
    have hbE : Below wC.heap.size wC w9 := HBH.out.trans (grown_below HOH.out HBH.out.size hRE.out)
    have hkD : Kt 29 w9 (w9.setCell ⟨b5, 0, none⟩ (.slice aE (q + 1) cE)) := Kt.set x9 0 _
    have HX' := Lib.hid (heap_setCell_same _ b5 0 _ _ (.slice aE (q + 1) cE) x9)
    have HO' : Hid ((w9.setCell ⟨b5, 0, none⟩ (.slice aE (q + 1) cE)).ownsRow wC.heap.size 54 5 (.slice aE (q + 1) cE) (q + 1) (ecells (newOf dc (l.take (k + 1))))) := by
     show World.ownsRow _ _ _ _ _ _ _
     rw [HNW.out, ecells_app]; exact own_kt hoE hkD (by decide)
    have HA' : Hid ((w9.setCell ⟨b5, 0, none⟩ (.slice aE (q + 1) cE)).ownsRow wC.heap.size 51 2 (.slice aU (k + 1) cU) (k + 1) (dcells ((l.map Ent.d).take (k + 1)))) := by
     show World.ownsRow _ _ _ _ _ _ _
     rw [← HDN.out]; exact own_kt (own_kt HAH.out hkE (by decide)) hkD (by decide)
    have HB' : Hid (Below wC.heap.size wC (w9.setCell ⟨b5, 0, none⟩ (.slice aE (q + 1) cE))) := hbE.setCell hb5n _
    have HQ2 : Hid (q + 1 = (newOf dc (l.take (k + 1))).length) := by
     show _ = _
     rw [HNW.out, List.length_append, ← HQN.out]; rfl
    clear x9 hkE hbE hkD hoE
    go_wp2
    go_roundw
    case rel => exact ⟨k + 1, aE, q + 1, cE, aU, cU, by go_num, by omega, by omega, HQ2, HX', HO', HA', HB'⟩
    case measure => simp [intOf]; omega
   ·
    have HNW : Hid (newOf dc (l.take (k + 1)) = newOf dc (l.take k)) := by show _ = _; rw [HXT.out, newOf_snoc, hk2]; rfl
    have HO' : Hid (wH.ownsRow wC.heap.size 54 5 (.slice a q cq) q (ecells (newOf dc (l.take (k + 1))))) := by
     show World.ownsRow _ _ _ _ _ _ _
     rw [HNW.out]; exact HOH.out
    have HA' : Hid (wH.ownsRow wC.heap.size 51 2 (.slice aU (k + 1) cU) (k + 1) (dcells ((l.map Ent.d).take (k + 1)))) := by
     show World.ownsRow _ _ _ _ _ _ _
     rw [← HDN.out]; exact HAH.out
    have HQ2 : Hid (q = (newOf dc (l.take (k + 1))).length) := by
     show _ = _
     rw [HNW.out, ← HQN.out]
    clear hk2
    go_wp2
    go_roundw
    case rel => exact ⟨k + 1, a, q, cq, aU, cU, by go_num, by omega, by omega, HQ2, HXH, HO', HA', HBH⟩
    case measure => simp [intOf]; omega
  ·
   obtain rfl : k = n := by omega
   have hTK : l.take k = l := List.take_of_length_le (by rw [← HN.out]; exact Nat.le_refl _)
   have hE : EntO w.heap.size wr (.slice a q cq) (newOf dc l) := by
    have h1 := HO.out
    have h2 := HQN.out
    rw [hTK] at h1 h2
    unfold EntO
    rw [← h2]; exact own_base h1 HLC.out.size
   have hA : DotO w.heap.size wr (.slice a' k cq') (l.map Ent.d) := by
    have h1 := HA.out
    rw [← List.map_take, hTK] at h1
    unfold DotO
    rw [List.length_map, ← HN.out]; exact own_base h1 HLC.out.size
   obtain ⟨r2, hr2⟩ : ∃ r, r = w.heap.size + 1 + 1 := ⟨_, rfl⟩
   have y2 : wr.heap[r2]? = some (.cells #[.slice none 0 0, .slice none 0 0, .slice none 0 0, .slice none 0 0] 29 (0, 0)) := by rw [hr2]; exact (HB.out.block _ hb2n).trans XC2.out
   obtain ⟨W3, hW3⟩ : ∃ W, W = (((wr.setCell ⟨r2, 0, none⟩ (.slice a q cq)).setCell ⟨r2, 1, none⟩ (.slice a' k cq')).setCell ⟨r2, 2, none⟩ (.slice c7 z7 t7)).setCell ⟨r2, 3, none⟩ (.slice c8 z8 t8) := ⟨_, rfl⟩
   have hk3 : Kt 29 wr W3 := by rw [hW3]; exact set4_kt y2 _ _ _ _
   have hv2 : W3.heap[r2]? = some (.cells #[.slice a q cq, .slice a' k cq', .slice c7 z7 t7, .slice c8 z8 t8] 29 (0, 0)) := by
    rw [hW3]
    exact heap_setCell_same _ r2 3 _ _ _ (heap_setCell_same _ r2 2 _ _ _ (heap_setCell_same _ r2 1 _ _ _ (heap_setCell_same _ r2 0 _ _ _ y2)))
   have hz2 : w.heap.size ≤ r2 := by omega
   have hb3 : Below w.heap.size w W3 := by
    rw [hW3]; exact ((((HLC.out.trans (HB.out.mono HLC.out.size)).setCell hz2 _).setCell hz2 _).setCell hz2 _).setCell hz2 _
   have HRET : Hid (SinceP l c dc w (.returned (.agg #[.slice a q cq, .slice a' k cq', .slice c7 z7 t7, .slice c8 z8 t8])) W3) :=
    ⟨_, _, _, _, rfl, hE.kt hk3 (by decide), hA.kt hk3 (by decide), (HOC.out.on HB.out).kt hk3 (by decide), hb3⟩
   have i0 := boxc HX.out 0 _ rfl
   have i1 := boxc HX.out 1 _ rfl
   have i2 := boxc HX.out 2 _ rfl
   have i3 := boxc HX.out 3 _ rfl
   have fj0 := boxf y2 0
   have fj1 := boxf y2 1
   have fj2 := boxf y2 2
   have fj3 := boxf y2 3
   have j0 := boxc y2 0 _ rfl
   have j1 := boxc y2 1 _ rfl
   have j2 := boxc y2 2 _ rfl
   have j3 := boxc y2 3 _ rfl
   have HV2 := Lib.hid hv2
   have HW3 := Lib.hid hW3
   clear hTK hE hA y2 hk3 hv2 hz2 hb3 hW3
   rw [← hr2]
   clear hr2
   go_wp2_with fail
   rw [← HW3.out]
   have s0 := boxc HV2.out 0 _ rfl
   have s1' := boxc HV2.out 1 _ rfl
   have s2' := boxc HV2.out 2 _ rfl
   have s3' := boxc HV2.out 3 _ rfl
   exact bodyPost_ret (v := .agg #[.slice a q cq, .slice a' k cq', .slice c7 z7 t7, .slice c8 z8 t8]) (by simp [results, Tryz.results13, go_sem, s0, s1', s2', s3']) rfl HRET.out
end Go.Proofs.YtonknpdalemjkaaGreat
namespace Go.Proofs.YtonknpdalemjkaaGreat
open Go Go.RowKit Go.ChangeShapes cl
set_option maxHeartbeats 800000 in
set_option maxRecDepth 100000 in
theorem leq_nil (w : World) : Calls Tryz.prog 97 #[.slice none 0 0, .slice none 0 0] w fun e w' => e = .returned (.bool true) ∧ w' = w := by
 go_enter Tryz.func97, Tryz.ntmps97
 go_wp2
 refine wp_loop_rounds 1 ?_
 rw [rounds_succ]
 go_wp2
 go_ret
 simp
set_option maxHeartbeats 1600000 in
set_option maxRecDepth 100000 in
theorem sent_yes (x : Ent) (w : World) : Calls Tryz.prog 60 #[.agg #[.string x.s, .int .i64 x.d.1, .int .i64 x.d.2, .int .i64 x.t, .slice none 0 0], .agg #[.string x.s, .int .i64 x.d.1, .int .i64 x.d.2, .int .i64 x.t, .slice none 0 0]] w (Said true w) := by
 have HL : Hid (∀ w, Calls Tryz.prog 97 #[.slice none 0 0, .slice none 0 0] w fun e w' => e = .returned (.bool true) ∧ w' = w) := leq_nil
 have hb : Below w.heap.size w ((w.alloc (.cells #[.string x.s, .int .i64 x.d.1, .int .i64 x.d.2, .int .i64 x.t, .slice none 0 0] 54)).alloc (.cells #[.string x.s, .int .i64 x.d.1, .int .i64 x.d.2, .int .i64 x.t, .slice none 0 0] 54)) := below1.trans (below1.mono (by simp))
 have HB := Lib.hid hb
 clear hb
 go_enter Tryz.func60, Tryz.ntmps60
 go_wp2_with fail
 (with_reducible refine (HL.out _).mono ?_)
 rintro e w1 ⟨rfl, rfl⟩
 go_wp2
 go_ret
 exact ⟨rfl, HB.out⟩
set_option maxHeartbeats 3200000 in
set_option maxRecDepth 100000 in
theorem eqf_yes (l : List Ent) (va vb : Value) (w : World) (ha : Ents w w.heap.size va l) (hb : Ents w w.heap.size vb l) :
  Calls Tryz.prog 59 #[va, vb, .func (.func 60) #[] #[]] w (Said true w) := by
 obtain ⟨n, hn⟩ : ∃ n, n = l.length := ⟨_, rfl⟩
 have HN := Lib.hid hn
 obtain ⟨ao, ca, rfl, hnm⟩ : ∃ ao cap, va = .slice ao n cap ∧ n ≤ 9223372036854775807 := by
  obtain ⟨ao, cap, e, _, h9⟩ := ha.form
  unfold maxLen at h9
  exact ⟨ao, cap, by rw [hn]; exact e, by rw [hn]; exact h9⟩
 obtain ⟨bo, cb, rfl⟩ : ∃ ao cap, vb = .slice ao n cap := by
  obtain ⟨ao, cap, e, _⟩ := hb.form
  exact ⟨ao, cap, by rw [hn]; exact e⟩
 have HA := Lib.hid ha
 have HC := Lib.hid hb
 have HS : Hid (∀ (x : Ent) (W : World), Calls Tryz.prog 60 #[.agg #[.string x.s, .int .i64 x.d.1, .int .i64 x.d.2, .int .i64 x.t, .slice none 0 0], .agg #[.string x.s, .int .i64 x.d.1, .int .i64 x.d.2, .int .i64 x.t, .slice none 0 0]] W (Said true W)) := fun x W => sent_yes x W
 clear ha hb hn
 go_enter Tryz.func59, Tryz.ntmps59
 go_wp2
 go_loopw [17] (fun i wr => ∃ (k : Nat), i = .int .i64 k ∧ k ≤ n ∧ Hid (Below w.heap.size w wr)) (fun i _ => n - (intOf i).toNat)
 case atStart => exact ⟨0, rfl, by omega, Below.refl _ _⟩
 case round =>
  obtain ⟨k, rfl, hk, HB⟩ := hrel
  by_cases hlt : k < n
  ·
   have hkI : (k : Int) < (n : Int) := by omega
   obtain ⟨ba, oa, rfl, hbA, p0, p1, p2, p3, p4⟩ := Ents.get (Cells.next HA.out HB.out) HN.out hlt
   obtain ⟨bb, ob, rfl, hbB, q0, q1, q2, q3, q4⟩ := Ents.get (Cells.next HC.out HB.out) HN.out hlt
   obtain ⟨x, hx⟩ : ∃ x, x = l.getD k default := ⟨_, rfl⟩
   rw [← hx] at p0 p1 p2 p3 q0 q1 q2 q3
   have n1 : ¬ ba = wr.heap.size := by omega
   have n2 : ¬ bb = wr.heap.size := by omega
   have hb2 : Below wr.heap.size wr ((wr.alloc (.cells #[.string x.s, .int .i64 x.d.1, .int .i64 x.d.2, .int .i64 x.t, .slice none 0 0] 54)).alloc (.cells #[.string x.s, .int .i64 x.d.1, .int .i64 x.d.2, .int .i64 x.t, .slice none 0 0] 54)) := below1.trans (below1.mono (by simp))
   have b1 : Below wr.heap.size wr (wr.alloc (.cells #[.string x.s, .int .i64 x.d.1, .int .i64 x.d.2, .int .i64 x.t, .slice none 0 0] 54)) := below1
   have r0 := (b1.cell (p := ⟨bb, ob + k * 5, none⟩) hbB).trans q0
   have r1 := (b1.cell (p := ⟨bb, ob + k * 5 + 1, none⟩) hbB).trans q1
   have r2 := (b1.cell (p := ⟨bb, ob + k * 5 + 2, none⟩) hbB).trans q2
   have r3 := (b1.cell (p := ⟨bb, ob + k * 5 + 3, none⟩) hbB).trans q3
   have r4 := (b1.cell (p := ⟨bb, ob + k * 5 + 4, none⟩) hbB).trans q4
   have HB2 := Lib.hid (HB.out.trans (hb2.mono HB.out.size))
   clear hx hb2 b1
   go_wp2_with fail
   (with_reducible refine (HS.out x _).mono ?_)
   rintro e w2 ⟨rfl, hb3⟩
   have HB3 := Lib.hid (HB2.out.trans (hb3.mono HB2.out.size))
   clear hb3 HB2 r0 r1 r2 r3 r4 q0 q1 q2 q3 q4 p0 p1 p2 p3 p4 n1 n2
   go_wp2
   go_roundw
   case rel => exact ⟨k + 1, by go_num, by omega, HB3⟩
   case measure => simp [intOf]; omega
  ·
   go_wp2
   go_ret
   exact ⟨rfl, HB.out⟩
set_option maxHeartbeats 1600000 in
set_option maxRecDepth 100000 in
theorem osame_yes (l : List Ent) (c : dm.Ctx) (va a1 a2 vb b1 b2 : Value) (w : World) (ha : Ents w w.heap.size va l) (hca : CtxAt w w.heap.size (.agg #[a1, a2]) c) (hb : Ents w w.heap.size vb l) (hcb : CtxAt w w.heap.size (.agg #[b1, b2]) c) :
  Calls Tryz.prog 25 #[.agg #[va, a1, a2], .agg #[vb, b1, b2]] w (Said true w) := by
 obtain ⟨w2, hw2⟩ : ∃ W, W = (w.alloc (.cells #[va, a1, a2] 27)).alloc (.cells #[vb, b1, b2] 27) := ⟨_, rfl⟩
 have b1' : Below w.heap.size w (w.alloc (.cells #[va, a1, a2] 27)) := below1
 have b2' : Below (w.alloc (.cells #[va, a1, a2] 27)).heap.size (w.alloc (.cells #[va, a1, a2] 27)) w2 := by rw [hw2]; exact below1
 have E2 := b1'.trans (b2'.mono b1'.size)
 have x1 : w2.heap[w.heap.size]? = some (.cells #[va, a1, a2] 27) := (b2'.block _ (by simp)).trans (heap_alloc_new w _)
 have x2 : w2.heap[w.heap.size + 1]? = some (.cells #[vb, b1, b2] 27) := by
  have := heap_alloc_new (w.alloc (.cells #[va, a1, a2] 27)) (.cells #[vb, b1, b2] 27)
  rw [World.size_alloc] at this
  rw [hw2]; exact this
 have HE := Lib.hid (eqf_yes l va vb w2 (Cells.next ha E2) (Cells.next hb E2))
 have HC : Hid (∀ W, Below w2.heap.size w2 W → Calls Tryz.prog 28 #[.agg #[a1, a2], .agg #[b1, b2]] W (SaidD true W)) := fun W hW => by
  have := csame_any c c _ _ W (hca.next (E2.trans (hW.mono E2.size))) (hcb.next (E2.trans (hW.mono E2.size)))
  rwa [decide_eq_true rfl] at this
 have X1 := Lib.hid x1
 have X2 := Lib.hid x2
 have HB := Lib.hid E2
 have HW := Lib.hid hw2
 clear ha hb hca hcb b1' b2' E2 x1 x2 hw2
 go_enter Tryz.func25, Tryz.ntmps25
 go_wp2_with fail
 rw [← HW.out]
 (with_reducible refine HE.out.mono ?_)
 rintro e w3 ⟨rfl, hb3⟩
 have y1 := (hb3.block _ (lt_of_block X1.out)).trans X1.out
 have y2 := (hb3.block _ (lt_of_block X2.out)).trans X2.out
 have i1 := boxc y1 1 _ rfl
 have i2 := boxc y1 2 _ rfl
 have j1 := boxc y2 1 _ rfl
 have j2 := boxc y2 2 _ rfl
 have HC3 := Lib.hid (HC.out w3 hb3)
 have HB3 := Lib.hid (HB.out.trans (hb3.mono HB.out.size))
 clear y1 y2 hb3
 go_wp2_with fail
 (with_reducible refine HC3.out.mono ?_)
 rintro e w4 ⟨rfl, hb4⟩
 have HB4 := Lib.hid (HB3.out.trans (hb4.mono HB3.out.size))
 go_wp2
 go_ret
 exact ⟨rfl, HB4.out⟩
end Go.Proofs.YtonknpdalemjkaaGreat
