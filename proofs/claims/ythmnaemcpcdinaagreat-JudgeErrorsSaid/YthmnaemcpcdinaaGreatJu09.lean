/- texts put together: MdOk. -/
import Derived.Test.YthmnaemcpcdinaaGreatJu08
open List (setIfInBounds_toArray set_cons_zero set_cons_succ take_succ_cons take_zero drop_succ_cons drop_zero)
namespace Go.Proofs.YthmnaemcpcdinaaGreat
open Go Go.RowKit Go.ChangeShapes cl Go.Sort
structure FitR (H : Nat) (s0 : ByteArray) (d0 : Dot) (t0 : Int) (lst : Value) (st : Bool) (w3 ww : World) : Prop where
 r0 : ww.cell? ⟨H, 0, none⟩ = some (.int .i64 3)
 r1 : ww.cell? ⟨H, 1, none⟩ = some (.string s0)
 r2 : ww.cell? ⟨H, 2, none⟩ = some (.int .i64 d0.1)
 r3 : ww.cell? ⟨H, 3, none⟩ = some (.int .i64 d0.2)
 r4 : ww.cell? ⟨H, 4, none⟩ = some (.int .i64 t0)
 r5 : ww.cell? ⟨H, 5, none⟩ = some (.slice none 0 0)
 r6 : ww.cell? ⟨H, 6, none⟩ = some lst
 r7 : ww.cell? ⟨H, 7, none⟩ = some (.int .i64 0)
 r8 : ww.cell? ⟨H, 8, none⟩ = some (.bool st)
 below : Below (H + 1) w3 ww
 size : H + 1 ≤ ww.heap.size
theorem FitR.step {H B : Nat} {s0 : ByteArray} {d0 : Dot} {t0 : Int} {lst : Value} {st : Bool} {w3 w w' : World} (h : FitR H s0 d0 t0 lst st w3 w) (hB : H + 1 ≤ B) (hT : Below B w w') : FitR H s0 d0 t0 lst st w3 w' := by
 have k : ∀ i, w'.cell? ⟨H, i, none⟩ = w.cell? ⟨H, i, none⟩ := fun i => hT.cell (p := ⟨H, i, none⟩) (by show H < _; omega)
 exact ⟨(k 0).trans h.r0, (k 1).trans h.r1, (k 2).trans h.r2, (k 3).trans h.r3, (k 4).trans h.r4, (k 5).trans h.r5, (k 6).trans h.r6, (k 7).trans h.r7, (k 8).trans h.r8, h.below.trans (hT.mono hB), Nat.le_trans h.size hT.size⟩
theorem FitR.start {H : Nat} {s0 : ByteArray} {d0 : Dot} {t0 : Int} {lst : Value} {st : Bool} {w3 w : World} (h : FitR H s0 d0 t0 lst st w3 w) : FitR H s0 d0 t0 lst st w3 w.drew := h.step h.size (below_drewN (Below.refl _ _) 1)
def OneAt (w : World) (v : Value) (s : ByteArray) : Prop := ∃ g cap, v = .slice (some ⟨g, 0, none⟩) 1 cap ∧ g < w.heap.size ∧ w.cell? ⟨g, 0, none⟩ = some (.string s)
theorem OneAt.next {w w' : World} {v : Value} {s : ByteArray} (h : OneAt w v s) (hb : Below w.heap.size w w') : OneAt w' v s := by
 obtain ⟨g, cap, rfl, h1, h2⟩ := h
 exact ⟨g, cap, rfl, Nat.lt_of_lt_of_le h1 hb.size, (hb.cell (p := ⟨g, 0, none⟩) h1).trans h2⟩
set_option maxHeartbeats 3200000 in
set_option maxRecDepth 100000 in
theorem fits_may (v : Value) (s0 : ByteArray) (d0 : Dot) (t0 : Int) (la : Option Addr) (ln lc : Nat) (w : World)
  (had : ∀ W, Below w.heap.size w W → Calls Tryz.prog 24 #[v, .agg #[.int .i64 3, .string s0, .int .i64 d0.1, .int .i64 d0.2, .int .i64 t0, .slice none 0 0, .slice la ln lc, .int .i64 0, .bool false]] W (Said true W)) :
  Calls Tryz.prog 11 #[v, .agg #[.int .i64 3, .string s0, .int .i64 d0.1, .int .i64 d0.2, .int .i64 t0, .slice none 0 0, .slice la ln lc, .int .i64 0, .bool false]] w (Said true w) := by
 obtain ⟨w2, hw2⟩ : ∃ W, W = w.alloc (.cells #[.int .i64 3, .string s0, .int .i64 d0.1, .int .i64 d0.2, .int .i64 t0, .slice none 0 0, .slice la ln lc, .int .i64 0, .bool false] 29) := ⟨_, rfl⟩
 have HB : Hid (Below w.heap.size w w2) := by show Below _ _ _; rw [hw2]; exact below1
 have hz2 : w2.heap.size = w.heap.size + 1 := by rw [hw2]; simp
 have x2 : w2.heap[w.heap.size]? = some (.cells #[.int .i64 3, .string s0, .int .i64 d0.1, .int .i64 d0.2, .int .i64 t0, .slice none 0 0, .slice la ln lc, .int .i64 0, .bool false] 29) := by rw [hw2]; exact heap_alloc_new w _
 have HR0 : Hid (FitR w.heap.size s0 d0 t0 (.slice la ln lc) false w2 w2) := ⟨boxc x2 0 _ rfl, boxc x2 1 _ rfl, boxc x2 2 _ rfl, boxc x2 3 _ rfl, boxc x2 4 _ rfl, boxc x2 5 _ rfl, boxc x2 6 _ rfl, boxc x2 7 _ rfl, boxc x2 8 _ rfl, Below.refl _ _, by omega⟩
 have HAD : Hid (∀ W, Below (w.heap.size + 1) w2 W → Calls Tryz.prog 24 #[v, .agg #[.int .i64 3, .string s0, .int .i64 d0.1, .int .i64 d0.2, .int .i64 t0, .slice none 0 0, .slice la ln lc, .int .i64 0, .bool false]] W (Said true W)) := fun W hW => had W (HB.out.trans (hW.mono (by omega)))
 have HW := Lib.hid hw2
 clear had x2 hz2 hw2
 go_enter Tryz.func11, Tryz.ntmps11
 go_wp2_with fail
 rw [← HW.out]
 refine wp_flow 19 (fun _ => 1000) (fun ww => FitR w.heap.size s0 d0 t0 (.slice la ln lc) false w2 ww) (fun _ w w' => (fun (w w' : World) => RowKit.Below w.heap.size w w') w w') (fun kF vF wF => match kF with | 0 => (vF = v) | 1 => (vF = .agg #[.int .i64 3, .string s0, .int .i64 d0.1, .int .i64 d0.2, .int .i64 t0, .slice none 0 0, .slice la ln lc, .int .i64 0, .bool false]) | 2 => (vF = .bool true) | 3 => (vF = .bool true) | 4 => (vF = .pointer (some ⟨w.heap.size, 8, none⟩)) | 5 => (vF = .bool false) | 6 => (vF = .bool true) | 7 => (vF = .bool true) | 8 => (vF = undef) | 9 => (vF = undef) | 10 => (vF = undef) | 11 => (vF = undef) | 12 => (vF = undef) | 13 => (vF = undef) | 14 => (vF = undef) | 15 => (vF = undef) | 16 => (vF = .bool true) | 17 => (vF = .bool true) | 18 => (vF = .bool true) | _ => True) (fun _ _ _ _ => True) (by kernel_rfl) (by kernel_rfl) ?_ ?_ ?_ ?_ ?_
 ·
  exact FitR.start HR0.out
 ·
  intro iF wF1 wF2 hR hT; exact hR.step hR.size hT
 ·
  intro kF hkF iF hiF hne hdd hanc hdan vF wF1 wF2 h hT
  rcases (by omega : kF = 0 ∨ kF = 1 ∨ kF = 2 ∨ kF = 3 ∨ kF = 4 ∨ kF = 5 ∨ kF = 6 ∨ kF = 7 ∨ kF = 8 ∨ kF = 9 ∨ kF = 10 ∨ kF = 11 ∨ kF = 12 ∨ kF = 13 ∨ kF = 14 ∨ kF = 15 ∨ kF = 16 ∨ kF = 17 ∨ kF = 18) with rfl | rfl | rfl | rfl | rfl | rfl | rfl | rfl | rfl | rfl | rfl | rfl | rfl | rfl | rfl | rfl | rfl | rfl | rfl
  iterate 19 exact h
 ·
  generalize hAF : fillOf _ _ _ = AF
  replace hAF := fun x => congrFun hAF x
  simp only [take_succ_cons, take_zero, fillOf, Act.put, setIfInBounds_toArray, set_cons_zero, set_cons_succ, Nat.reduceAdd, Nat.zero_add] at hAF
  refine .cons ?_ (.cons ?_ (.cons ?_ (.cons ?_ (.cons ?_ (.cons ?_ (.cons ?_ (.cons ?_ (.cons ?_ (.cons ?_ (.cons ?_ (.cons ?_ (.cons ?_ (.cons ?_ (.cons ?_ (.cons ?_ (.cons ?_ (.cons ?_ (.cons ?_ (.nil)))))))))))))))))))
  all_goals
   intro xF ww hR hd K hK
   first | simp only [← hAF, Act.put, setIfInBounds_toArray, set_cons_zero, set_cons_succ] at hK ⊢ | simp only [← hAF, Act.put] at hK ⊢
   clear hAF
   try simp only [Nat.zero_add, Nat.reduceAdd] at hK ⊢
  ·
   clear hd
   obtain ⟨r0, r1, r2, r3, r4, r5, r6, r7, r8, hbl, hsz⟩ := id hR
   rw [if_pos (by rfl)]
   go_simp
   exact hK.out _ _ (Below.refl _ _) (rfl) (fun _ _ _ => ⟨trivial, trivial⟩)
  ·
   clear hd
   obtain ⟨r0, r1, r2, r3, r4, r5, r6, r7, r8, hbl, hsz⟩ := id hR
   rw [if_pos (by rfl)]
   go_simp
   exact hK.out _ _ (Below.refl _ _) (rfl) (fun _ _ _ => ⟨trivial, trivial⟩)
  ·
   have dd0 := hd 0 (by kernel_rfl)
   have dd1 := hd 1 (by kernel_rfl)
   clear hd
   try generalize xF 0 = yy0 at *
   try generalize xF 1 = yy1 at *
   obtain rfl := dd0
   obtain rfl := dd1
   obtain ⟨r0, r1, r2, r3, r4, r5, r6, r7, r8, hbl, hsz⟩ := id hR
   rw [if_pos (by rfl)]
   go_simp
   (go_at_call 24; (with_reducible refine (HAD.out _ hR.below).mono ?_); rintro e wK ⟨rfl, hbK⟩)
   try go_wp2_with fail
   exact hK.out _ _ (hbK) (rfl) (fun _ _ _ => ⟨trivial, trivial⟩)
  ·
   have dd2 := hd 2 (by kernel_rfl)
   clear hd
   try generalize xF 2 = yy2 at *
   obtain rfl := dd2
   obtain ⟨r0, r1, r2, r3, r4, r5, r6, r7, r8, hbl, hsz⟩ := id hR
   rw [if_pos (by rfl)]
   go_simp
   exact hK.out _ _ (Below.refl _ _) (rfl) (fun _ _ _ => ⟨trivial, trivial⟩)
  ·
   have dd3 := hd 3 (by kernel_rfl)
   clear hd
   try generalize xF 3 = yy3 at *
   obtain rfl := dd3
   obtain ⟨r0, r1, r2, r3, r4, r5, r6, r7, r8, hbl, hsz⟩ := id hR
   rw [if_pos (by rfl)]
   go_simp
   exact hK.out _ _ (Below.refl _ _) (rfl) (fun _ _ _ => ⟨trivial, trivial⟩)
  ·
   have dd3 := hd 3 (by kernel_rfl)
   have dd4 := hd 4 (by kernel_rfl)
   clear hd
   try generalize xF 3 = yy3 at *
   try generalize xF 4 = yy4 at *
   obtain rfl := dd3
   obtain rfl := dd4
   obtain ⟨r0, r1, r2, r3, r4, r5, r6, r7, r8, hbl, hsz⟩ := id hR
   rw [if_pos (by rfl)]
   go_simp
   exact hK.out _ _ (Below.refl _ _) (rfl) (fun _ _ _ => ⟨trivial, trivial⟩)
  ·
   have dd3 := hd 3 (by kernel_rfl)
   have dd5 := hd 5 (by kernel_rfl)
   clear hd
   try generalize xF 3 = yy3 at *
   try generalize xF 5 = yy5 at *
   obtain rfl := dd3
   obtain rfl := dd5
   obtain ⟨r0, r1, r2, r3, r4, r5, r6, r7, r8, hbl, hsz⟩ := id hR
   rw [if_pos (by rfl)]
   go_simp
   exact hK.out _ _ (Below.refl _ _) (rfl) (fun _ _ _ => ⟨trivial, trivial⟩)
  ·
   have dd3 := hd 3 (by kernel_rfl)
   have dd6 := hd 6 (by kernel_rfl)
   clear hd
   try generalize xF 3 = yy3 at *
   try generalize xF 6 = yy6 at *
   obtain rfl := dd3
   obtain rfl := dd6
   obtain ⟨r0, r1, r2, r3, r4, r5, r6, r7, r8, hbl, hsz⟩ := id hR
   rw [if_pos (by rfl)]
   go_simp
   exact hK.out _ _ (Below.refl _ _) (rfl) (fun _ _ _ => ⟨trivial, trivial⟩)
  ·
   have dd7 := hd 7 (by kernel_rfl)
   clear hd
   try generalize xF 7 = yy7 at *
   obtain rfl := dd7
   obtain ⟨r0, r1, r2, r3, r4, r5, r6, r7, r8, hbl, hsz⟩ := id hR
   rw [if_neg (by intro h; exact absurd (show false = true from h) Bool.false_ne_true)]
   try simp only [Act.put, setIfInBounds_toArray, set_cons_zero, set_cons_succ]
   exact hK.out _ _ (Below.refl _ _) (rfl) (fun _ _ _ => ⟨trivial, trivial⟩)
  ·
   have dd7 := hd 7 (by kernel_rfl)
   clear hd
   try generalize xF 7 = yy7 at *
   obtain rfl := dd7
   obtain ⟨r0, r1, r2, r3, r4, r5, r6, r7, r8, hbl, hsz⟩ := id hR
   rw [if_neg (by intro h; exact absurd (show false = true from h) Bool.false_ne_true)]
   try simp only [Act.put, setIfInBounds_toArray, set_cons_zero, set_cons_succ]
   exact hK.out _ _ (Below.refl _ _) (rfl) (fun _ _ _ => ⟨trivial, trivial⟩)
  ·
   have dd7 := hd 7 (by kernel_rfl)
   clear hd
   try generalize xF 7 = yy7 at *
   obtain rfl := dd7
   obtain ⟨r0, r1, r2, r3, r4, r5, r6, r7, r8, hbl, hsz⟩ := id hR
   rw [if_neg (by intro h; exact absurd (show false = true from h) Bool.false_ne_true)]
   try simp only [Act.put, setIfInBounds_toArray, set_cons_zero, set_cons_succ]
   exact hK.out _ _ (Below.refl _ _) (rfl) (fun _ _ _ => ⟨trivial, trivial⟩)
  ·
   have dd7 := hd 7 (by kernel_rfl)
   clear hd
   try generalize xF 7 = yy7 at *
   obtain rfl := dd7
   obtain ⟨r0, r1, r2, r3, r4, r5, r6, r7, r8, hbl, hsz⟩ := id hR
   rw [if_neg (by intro h; exact absurd (show false = true from h) Bool.false_ne_true)]
   try simp only [Act.put, setIfInBounds_toArray, set_cons_zero, set_cons_succ]
   exact hK.out _ _ (Below.refl _ _) (rfl) (fun _ _ _ => ⟨trivial, trivial⟩)
  ·
   have dd7 := hd 7 (by kernel_rfl)
   clear hd
   try generalize xF 7 = yy7 at *
   obtain rfl := dd7
   obtain ⟨r0, r1, r2, r3, r4, r5, r6, r7, r8, hbl, hsz⟩ := id hR
   rw [if_neg (by intro h; exact absurd (show false = true from h) Bool.false_ne_true)]
   try simp only [Act.put, setIfInBounds_toArray, set_cons_zero, set_cons_succ]
   exact hK.out _ _ (Below.refl _ _) (rfl) (fun _ _ _ => ⟨trivial, trivial⟩)
  ·
   have dd7 := hd 7 (by kernel_rfl)
   clear hd
   try generalize xF 7 = yy7 at *
   obtain rfl := dd7
   obtain ⟨r0, r1, r2, r3, r4, r5, r6, r7, r8, hbl, hsz⟩ := id hR
   rw [if_neg (by intro h; exact absurd (show false = true from h) Bool.false_ne_true)]
   try simp only [Act.put, setIfInBounds_toArray, set_cons_zero, set_cons_succ]
   exact hK.out _ _ (Below.refl _ _) (rfl) (fun _ _ _ => ⟨trivial, trivial⟩)
  ·
   have dd7 := hd 7 (by kernel_rfl)
   clear hd
   try generalize xF 7 = yy7 at *
   obtain rfl := dd7
   obtain ⟨r0, r1, r2, r3, r4, r5, r6, r7, r8, hbl, hsz⟩ := id hR
   rw [if_neg (by intro h; exact absurd (show false = true from h) Bool.false_ne_true)]
   try simp only [Act.put, setIfInBounds_toArray, set_cons_zero, set_cons_succ]
   exact hK.out _ _ (Below.refl _ _) (rfl) (fun _ _ _ => ⟨trivial, trivial⟩)
  ·
   have dd7 := hd 7 (by kernel_rfl)
   clear hd
   try generalize xF 7 = yy7 at *
   obtain rfl := dd7
   obtain ⟨r0, r1, r2, r3, r4, r5, r6, r7, r8, hbl, hsz⟩ := id hR
   rw [if_neg (by intro h; exact absurd (show false = true from h) Bool.false_ne_true)]
   try simp only [Act.put, setIfInBounds_toArray, set_cons_zero, set_cons_succ]
   exact hK.out _ _ (Below.refl _ _) (rfl) (fun _ _ _ => ⟨trivial, trivial⟩)
  ·
   have dd3 := hd 3 (by kernel_rfl)
   have dd7 := hd 7 (by kernel_rfl)
   clear hd
   try generalize xF 3 = yy3 at *
   try generalize xF 7 = yy7 at *
   obtain rfl := dd3
   obtain rfl := dd7
   obtain ⟨r0, r1, r2, r3, r4, r5, r6, r7, r8, hbl, hsz⟩ := id hR
   rw [if_pos (by rfl)]
   go_simp
   exact hK.out _ _ (Below.refl _ _) (rfl) (fun _ _ _ => ⟨trivial, trivial⟩)
  ·
   have dd3 := hd 3 (by kernel_rfl)
   have dd16 := hd 16 (by kernel_rfl)
   clear hd
   try generalize xF 3 = yy3 at *
   try generalize xF 16 = yy16 at *
   obtain rfl := dd3
   obtain rfl := dd16
   obtain ⟨r0, r1, r2, r3, r4, r5, r6, r7, r8, hbl, hsz⟩ := id hR
   rw [if_pos (by rfl)]
   go_simp
   exact hK.out _ _ (Below.refl _ _) (rfl) (fun _ _ _ => ⟨trivial, trivial⟩)
  ·
   have dd17 := hd 17 (by kernel_rfl)
   clear hd
   try generalize xF 17 = yy17 at *
   obtain rfl := dd17
   obtain ⟨r0, r1, r2, r3, r4, r5, r6, r7, r8, hbl, hsz⟩ := id hR
   rw [if_pos (by rfl)]
   go_simp
   exact hK.out _ _ (Below.refl _ _) (rfl) (fun _ _ _ => ⟨trivial, trivial⟩)
 intro xF ww hR hF hP
 clear hP
 have dd0 := hF 0 (by omega) (by decide)
 have dd1 := hF 1 (by omega) (by decide)
 have dd2 := hF 2 (by omega) (by decide)
 have dd3 := hF 3 (by omega) (by decide)
 have dd4 := hF 4 (by omega) (by decide)
 have dd5 := hF 5 (by omega) (by decide)
 have dd6 := hF 6 (by omega) (by decide)
 have dd7 := hF 7 (by omega) (by decide)
 have dd8 := hF 8 (by omega) (by decide)
 have dd9 := hF 9 (by omega) (by decide)
 have dd10 := hF 10 (by omega) (by decide)
 have dd11 := hF 11 (by omega) (by decide)
 have dd12 := hF 12 (by omega) (by decide)
 have dd13 := hF 13 (by omega) (by decide)
 have dd14 := hF 14 (by omega) (by decide)
 have dd15 := hF 15 (by omega) (by decide)
 have dd16 := hF 16 (by omega) (by decide)
 have dd17 := hF 17 (by omega) (by decide)
 have dd18 := hF 18 (by omega) (by decide)
 clear hF
 simp only [take_succ_cons, take_zero, drop_succ_cons, drop_zero, fillOf, Act.put, setIfInBounds_toArray, set_cons_zero, set_cons_succ, Nat.reduceAdd, Nat.zero_add]
 try generalize xF 0 = yy0 at *
 try generalize xF 1 = yy1 at *
 try generalize xF 2 = yy2 at *
 try generalize xF 3 = yy3 at *
 try generalize xF 4 = yy4 at *
 try generalize xF 5 = yy5 at *
 try generalize xF 6 = yy6 at *
 try generalize xF 7 = yy7 at *
 try generalize xF 8 = yy8 at *
 try generalize xF 9 = yy9 at *
 try generalize xF 10 = yy10 at *
 try generalize xF 11 = yy11 at *
 try generalize xF 12 = yy12 at *
 try generalize xF 13 = yy13 at *
 try generalize xF 14 = yy14 at *
 try generalize xF 15 = yy15 at *
 try generalize xF 16 = yy16 at *
 try generalize xF 17 = yy17 at *
 try generalize xF 18 = yy18 at *
 clear xF
 obtain rfl := dd0
 obtain rfl := dd1
 obtain rfl := dd2
 obtain rfl := dd3
 obtain rfl := dd4
 obtain rfl := dd5
 obtain rfl := dd6
 obtain rfl := dd7
 obtain rfl := dd8
 obtain rfl := dd9
 obtain rfl := dd10
 obtain rfl := dd11
 obtain rfl := dd12
 obtain rfl := dd13
 obtain rfl := dd14
 obtain rfl := dd15
 obtain rfl := dd16
 obtain rfl := dd17
 obtain rfl := dd18
 have hRE := Lib.hid hR
 clear hR
 have HB9 : Hid (Below w.heap.size w ww) := HB.out.trans (hRE.out.below.mono (by omega))
 go_wp2
 go_ret
 exact ⟨rfl, HB9.out⟩
set_option maxHeartbeats 3200000 in
set_option maxRecDepth 100000 in
theorem fits_yes (v : Value) (s0 : ByteArray) (d0 : Dot) (t0 : Int) (la : Option Addr) (ln lc : Nat) (w : World)
  (had : ∀ W, Below w.heap.size w W → Calls Tryz.prog 24 #[v, .agg #[.int .i64 3, .string s0, .int .i64 d0.1, .int .i64 d0.2, .int .i64 t0, .slice none 0 0, .slice la ln lc, .int .i64 0, .bool true]] W (Said true W)) (y : Lv)
  (hlv : ∀ W, Below w.heap.size w W → Calls Tryz.prog 14 #[v] W fun e w' => ∃ u, e = .returned u ∧ Cells w' w'.heap.size u 1 4 (lcell y) ∧ Below W.heap.size W w')
  (hex : ∀ W u, Below w.heap.size w W → Cells W W.heap.size u 1 4 (lcell y) → Calls Tryz.prog 13 #[u, .slice none 0 0] W fun e w' => ∃ u', e = .returned u' ∧ OneAt w' u' y.s ∧ Below W.heap.size W w')
  (heq : ∀ W u, Below w.heap.size w W → OneAt W u y.s → Calls Tryz.prog 25 #[.slice la ln lc, u] W (Said true W)) :
  Calls Tryz.prog 11 #[v, .agg #[.int .i64 3, .string s0, .int .i64 d0.1, .int .i64 d0.2, .int .i64 t0, .slice none 0 0, .slice la ln lc, .int .i64 0, .bool true]] w (Said true w) := by
 obtain ⟨w2, hw2⟩ : ∃ W, W = w.alloc (.cells #[.int .i64 3, .string s0, .int .i64 d0.1, .int .i64 d0.2, .int .i64 t0, .slice none 0 0, .slice la ln lc, .int .i64 0, .bool true] 29) := ⟨_, rfl⟩
 have HB : Hid (Below w.heap.size w w2) := by show Below _ _ _; rw [hw2]; exact below1
 have hz2 : w2.heap.size = w.heap.size + 1 := by rw [hw2]; simp
 have x2 : w2.heap[w.heap.size]? = some (.cells #[.int .i64 3, .string s0, .int .i64 d0.1, .int .i64 d0.2, .int .i64 t0, .slice none 0 0, .slice la ln lc, .int .i64 0, .bool true] 29) := by rw [hw2]; exact heap_alloc_new w _
 have HR0 : Hid (FitR w.heap.size s0 d0 t0 (.slice la ln lc) true w2 w2) := ⟨boxc x2 0 _ rfl, boxc x2 1 _ rfl, boxc x2 2 _ rfl, boxc x2 3 _ rfl, boxc x2 4 _ rfl, boxc x2 5 _ rfl, boxc x2 6 _ rfl, boxc x2 7 _ rfl, boxc x2 8 _ rfl, Below.refl _ _, by omega⟩
 have HAD : Hid (∀ W, Below (w.heap.size + 1) w2 W → Calls Tryz.prog 24 #[v, .agg #[.int .i64 3, .string s0, .int .i64 d0.1, .int .i64 d0.2, .int .i64 t0, .slice none 0 0, .slice la ln lc, .int .i64 0, .bool true]] W (Said true W)) := fun W hW => had W (HB.out.trans (hW.mono (by omega)))
 have HLV : Hid (∀ W, Below (w.heap.size + 1) w2 W → Calls Tryz.prog 14 #[v] W fun e w' => ∃ u, e = .returned u ∧ Cells w' w'.heap.size u 1 4 (lcell y) ∧ Below W.heap.size W w') := fun W hW => hlv W (HB.out.trans (hW.mono (by omega)))
 have HEX : Hid (∀ W u, Below (w.heap.size + 1) w2 W → Cells W W.heap.size u 1 4 (lcell y) → Calls Tryz.prog 13 #[u, .slice none 0 0] W fun e w' => ∃ u', e = .returned u' ∧ OneAt w' u' y.s ∧ Below W.heap.size W w') := fun W u hW => hex W u (HB.out.trans (hW.mono (by omega)))
 have HEQ : Hid (∀ W u, Below (w.heap.size + 1) w2 W → OneAt W u y.s → Calls Tryz.prog 25 #[.slice la ln lc, u] W (Said true W)) := fun W u hW => heq W u (HB.out.trans (hW.mono (by omega)))
 clear hlv hex heq
 have HW := Lib.hid hw2
 clear had x2 hz2 hw2
 go_enter Tryz.func11, Tryz.ntmps11
 go_wp2_with fail
 rw [← HW.out]
 refine wp_flow 19 (fun _ => 1000) (fun ww => FitR w.heap.size s0 d0 t0 (.slice la ln lc) true w2 ww) (fun _ w w' => (fun (w w' : World) => RowKit.Below w.heap.size w w') w w') (fun kF vF wF => match kF with | 0 => (vF = v) | 1 => (vF = .agg #[.int .i64 3, .string s0, .int .i64 d0.1, .int .i64 d0.2, .int .i64 t0, .slice none 0 0, .slice la ln lc, .int .i64 0, .bool true]) | 2 => (vF = .bool true) | 3 => (vF = .bool true) | 4 => (vF = .pointer (some ⟨w.heap.size, 8, none⟩)) | 5 => (vF = .bool true) | 6 => (vF = .bool false) | 7 => (vF = .bool false) | 8 => (vF = .pointer (some ⟨w.heap.size, 6, none⟩)) | 9 => (vF = .slice la ln lc) | 10 => (vF = v) | 11 => (Cells wF wF.heap.size vF 1 4 (lcell y)) | 12 => (vF = .pointer (some ⟨w.heap.size, 5, none⟩)) | 13 => (vF = .slice none 0 0) | 14 => (OneAt wF vF y.s) | 15 => (vF = .bool true) | 16 => (vF = .bool true) | 17 => (vF = .bool true) | 18 => (vF = .bool true) | _ => True) (fun _ _ _ _ => True) (by kernel_rfl) (by kernel_rfl) ?_ ?_ ?_ ?_ ?_
 ·
  exact FitR.start HR0.out
 ·
  intro iF wF1 wF2 hR hT; exact hR.step hR.size hT
 ·
  intro kF hkF iF hiF hne hdd hanc hdan vF wF1 wF2 h hT
  rcases (by omega : kF = 0 ∨ kF = 1 ∨ kF = 2 ∨ kF = 3 ∨ kF = 4 ∨ kF = 5 ∨ kF = 6 ∨ kF = 7 ∨ kF = 8 ∨ kF = 9 ∨ kF = 10 ∨ kF = 11 ∨ kF = 12 ∨ kF = 13 ∨ kF = 14 ∨ kF = 15 ∨ kF = 16 ∨ kF = 17 ∨ kF = 18) with rfl | rfl | rfl | rfl | rfl | rfl | rfl | rfl | rfl | rfl | rfl | rfl | rfl | rfl | rfl | rfl | rfl | rfl | rfl
  iterate 11 exact h
  ·
   have h : (Cells wF1 wF1.heap.size vF 1 4 (lcell y)) := h
   show (Cells wF2 wF2.heap.size vF 1 4 (lcell y))
   have hT : (fun (w w' : World) => RowKit.Below w.heap.size w w') wF1 wF2 := hT
   simp only at hT
   exact Cells.next h hT
  iterate 2 exact h
  ·
   have h : (OneAt wF1 vF y.s) := h
   show (OneAt wF2 vF y.s)
   have hT : (fun (w w' : World) => RowKit.Below w.heap.size w w') wF1 wF2 := hT
   simp only at hT
   exact OneAt.next h hT
  iterate 4 exact h
 ·
  generalize hAF : fillOf _ _ _ = AF
  replace hAF := fun x => congrFun hAF x
  simp only [take_succ_cons, take_zero, fillOf, Act.put, setIfInBounds_toArray, set_cons_zero, set_cons_succ, Nat.reduceAdd, Nat.zero_add] at hAF
  refine .cons ?_ (.cons ?_ (.cons ?_ (.cons ?_ (.cons ?_ (.cons ?_ (.cons ?_ (.cons ?_ (.cons ?_ (.cons ?_ (.cons ?_ (.cons ?_ (.cons ?_ (.cons ?_ (.cons ?_ (.cons ?_ (.cons ?_ (.cons ?_ (.cons ?_ (.nil)))))))))))))))))))
  all_goals
   intro xF ww hR hd K hK
   first | simp only [← hAF, Act.put, setIfInBounds_toArray, set_cons_zero, set_cons_succ] at hK ⊢ | simp only [← hAF, Act.put] at hK ⊢
   clear hAF
   try simp only [Nat.zero_add, Nat.reduceAdd] at hK ⊢
  ·
   clear hd
   obtain ⟨r0, r1, r2, r3, r4, r5, r6, r7, r8, hbl, hsz⟩ := id hR
   rw [if_pos (by rfl)]
   go_simp
   exact hK.out _ _ (Below.refl _ _) (rfl) (fun _ _ _ => ⟨trivial, trivial⟩)
  ·
   clear hd
   obtain ⟨r0, r1, r2, r3, r4, r5, r6, r7, r8, hbl, hsz⟩ := id hR
   rw [if_pos (by rfl)]
   go_simp
   exact hK.out _ _ (Below.refl _ _) (rfl) (fun _ _ _ => ⟨trivial, trivial⟩)
  ·
   have dd0 := hd 0 (by kernel_rfl)
   have dd1 := hd 1 (by kernel_rfl)
   clear hd
   try generalize xF 0 = yy0 at *
   try generalize xF 1 = yy1 at *
   obtain rfl := dd0
   obtain rfl := dd1
   obtain ⟨r0, r1, r2, r3, r4, r5, r6, r7, r8, hbl, hsz⟩ := id hR
   rw [if_pos (by rfl)]
   go_simp
   (go_at_call 24; (with_reducible refine (HAD.out _ hR.below).mono ?_); rintro e wK ⟨rfl, hbK⟩)
   try go_wp2_with fail
   exact hK.out _ _ (hbK) (rfl) (fun _ _ _ => ⟨trivial, trivial⟩)
  ·
   have dd2 := hd 2 (by kernel_rfl)
   clear hd
   try generalize xF 2 = yy2 at *
   obtain rfl := dd2
   obtain ⟨r0, r1, r2, r3, r4, r5, r6, r7, r8, hbl, hsz⟩ := id hR
   rw [if_pos (by rfl)]
   go_simp
   exact hK.out _ _ (Below.refl _ _) (rfl) (fun _ _ _ => ⟨trivial, trivial⟩)
  ·
   have dd3 := hd 3 (by kernel_rfl)
   clear hd
   try generalize xF 3 = yy3 at *
   obtain rfl := dd3
   obtain ⟨r0, r1, r2, r3, r4, r5, r6, r7, r8, hbl, hsz⟩ := id hR
   rw [if_pos (by rfl)]
   go_simp
   exact hK.out _ _ (Below.refl _ _) (rfl) (fun _ _ _ => ⟨trivial, trivial⟩)
  ·
   have dd3 := hd 3 (by kernel_rfl)
   have dd4 := hd 4 (by kernel_rfl)
   clear hd
   try generalize xF 3 = yy3 at *
   try generalize xF 4 = yy4 at *
   obtain rfl := dd3
   obtain rfl := dd4
   obtain ⟨r0, r1, r2, r3, r4, r5, r6, r7, r8, hbl, hsz⟩ := id hR
   rw [if_pos (by rfl)]
   go_simp
   exact hK.out _ _ (Below.refl _ _) (rfl) (fun _ _ _ => ⟨trivial, trivial⟩)
  ·
   have dd3 := hd 3 (by kernel_rfl)
   have dd5 := hd 5 (by kernel_rfl)
   clear hd
   try generalize xF 3 = yy3 at *
   try generalize xF 5 = yy5 at *
   obtain rfl := dd3
   obtain rfl := dd5
   obtain ⟨r0, r1, r2, r3, r4, r5, r6, r7, r8, hbl, hsz⟩ := id hR
   rw [if_pos (by rfl)]
   go_simp
   exact hK.out _ _ (Below.refl _ _) (rfl) (fun _ _ _ => ⟨trivial, trivial⟩)
  ·
   have dd3 := hd 3 (by kernel_rfl)
   have dd6 := hd 6 (by kernel_rfl)
   clear hd
   try generalize xF 3 = yy3 at *
   try generalize xF 6 = yy6 at *
   obtain rfl := dd3
   obtain rfl := dd6
   obtain ⟨r0, r1, r2, r3, r4, r5, r6, r7, r8, hbl, hsz⟩ := id hR
   rw [if_pos (by rfl)]
   go_simp
   exact hK.out _ _ (Below.refl _ _) (rfl) (fun _ _ _ => ⟨trivial, trivial⟩)
  ·
   have dd7 := hd 7 (by kernel_rfl)
   clear hd
   try generalize xF 7 = yy7 at *
   obtain rfl := dd7
   obtain ⟨r0, r1, r2, r3, r4, r5, r6, r7, r8, hbl, hsz⟩ := id hR
   rw [if_pos (by rfl)]
   go_simp
   exact hK.out _ _ (Below.refl _ _) (rfl) (fun _ _ _ => ⟨trivial, trivial⟩)
  ·
   have dd7 := hd 7 (by kernel_rfl)
   have dd8 := hd 8 (by kernel_rfl)
   clear hd
   try generalize xF 7 = yy7 at *
   try generalize xF 8 = yy8 at *
   obtain rfl := dd7
   obtain rfl := dd8
   obtain ⟨r0, r1, r2, r3, r4, r5, r6, r7, r8, hbl, hsz⟩ := id hR
   rw [if_pos (by rfl)]
   go_simp
   exact hK.out _ _ (Below.refl _ _) (rfl) (fun _ _ _ => ⟨trivial, trivial⟩)
  ·
   have dd7 := hd 7 (by kernel_rfl)
   clear hd
   try generalize xF 7 = yy7 at *
   obtain rfl := dd7
   obtain ⟨r0, r1, r2, r3, r4, r5, r6, r7, r8, hbl, hsz⟩ := id hR
   rw [if_pos (by rfl)]
   go_simp
   exact hK.out _ _ (Below.refl _ _) (rfl) (fun _ _ _ => ⟨trivial, trivial⟩)
  ·
   have dd7 := hd 7 (by kernel_rfl)
   have dd10 := hd 10 (by kernel_rfl)
   clear hd
   try generalize xF 7 = yy7 at *
   try generalize xF 10 = yy10 at *
   obtain rfl := dd7
   obtain rfl := dd10
   obtain ⟨r0, r1, r2, r3, r4, r5, r6, r7, r8, hbl, hsz⟩ := id hR
   rw [if_pos (by rfl)]
   go_simp
   (go_at_call 14; (with_reducible refine (HLV.out _ hR.below).mono ?_); rintro e wK ⟨u9, rfl, hlv, hbK⟩)
   try go_wp2_with fail
   exact hK.out _ _ (hbK) (hlv) (fun _ _ _ => ⟨trivial, trivial⟩)
  ·
   have dd7 := hd 7 (by kernel_rfl)
   clear hd
   try generalize xF 7 = yy7 at *
   obtain rfl := dd7
   obtain ⟨r0, r1, r2, r3, r4, r5, r6, r7, r8, hbl, hsz⟩ := id hR
   rw [if_pos (by rfl)]
   go_simp
   exact hK.out _ _ (Below.refl _ _) (rfl) (fun _ _ _ => ⟨trivial, trivial⟩)
  ·
   have dd7 := hd 7 (by kernel_rfl)
   have dd12 := hd 12 (by kernel_rfl)
   clear hd
   try generalize xF 7 = yy7 at *
   try generalize xF 12 = yy12 at *
   obtain rfl := dd7
   obtain rfl := dd12
   obtain ⟨r0, r1, r2, r3, r4, r5, r6, r7, r8, hbl, hsz⟩ := id hR
   rw [if_pos (by rfl)]
   go_simp
   exact hK.out _ _ (Below.refl _ _) (rfl) (fun _ _ _ => ⟨trivial, trivial⟩)
  ·
   have dd7 := hd 7 (by kernel_rfl)
   have dd11 : (Cells ww ww.heap.size (xF 11) 1 4 (lcell y)) := hd 11 (by kernel_rfl)
   have dd13 := hd 13 (by kernel_rfl)
   clear hd
   try generalize xF 7 = yy7 at *
   try generalize xF 11 = yy11 at *
   try generalize xF 13 = yy13 at *
   obtain rfl := dd7
   have hlv := dd11
   obtain rfl := dd13
   obtain ⟨r0, r1, r2, r3, r4, r5, r6, r7, r8, hbl, hsz⟩ := id hR
   rw [if_pos (by rfl)]
   go_simp
   (go_at_call 13; (with_reducible refine (HEX.out _ _ hR.below hlv).mono ?_); rintro e wK ⟨u8, rfl, hone, hbK⟩)
   try go_wp2_with fail
   exact hK.out _ _ (hbK) (hone) (fun _ _ _ => ⟨trivial, trivial⟩)
  ·
   have dd7 := hd 7 (by kernel_rfl)
   have dd9 := hd 9 (by kernel_rfl)
   have dd14 : (OneAt ww (xF 14) y.s) := hd 14 (by kernel_rfl)
   clear hd
   try generalize xF 7 = yy7 at *
   try generalize xF 9 = yy9 at *
   try generalize xF 14 = yy14 at *
   obtain rfl := dd7
   obtain rfl := dd9
   have hone := dd14
   obtain ⟨r0, r1, r2, r3, r4, r5, r6, r7, r8, hbl, hsz⟩ := id hR
   rw [if_pos (by rfl)]
   go_simp
   (go_at_call 25; (with_reducible refine (HEQ.out _ _ hR.below hone).mono ?_); rintro e wK ⟨rfl, hbK⟩)
   try go_wp2_with fail
   exact hK.out _ _ (hbK) (rfl) (fun _ _ _ => ⟨trivial, trivial⟩)
  ·
   have dd3 := hd 3 (by kernel_rfl)
   have dd7 := hd 7 (by kernel_rfl)
   have dd15 := hd 15 (by kernel_rfl)
   clear hd
   try generalize xF 3 = yy3 at *
   try generalize xF 7 = yy7 at *
   try generalize xF 15 = yy15 at *
   obtain rfl := dd3
   obtain rfl := dd7
   obtain rfl := dd15
   obtain ⟨r0, r1, r2, r3, r4, r5, r6, r7, r8, hbl, hsz⟩ := id hR
   rw [if_pos (by rfl)]
   go_simp
   exact hK.out _ _ (Below.refl _ _) (rfl) (fun _ _ _ => ⟨trivial, trivial⟩)
  ·
   have dd3 := hd 3 (by kernel_rfl)
   have dd16 := hd 16 (by kernel_rfl)
   clear hd
   try generalize xF 3 = yy3 at *
   try generalize xF 16 = yy16 at *
   obtain rfl := dd3
   obtain rfl := dd16
   obtain ⟨r0, r1, r2, r3, r4, r5, r6, r7, r8, hbl, hsz⟩ := id hR
   rw [if_pos (by rfl)]
   go_simp
   exact hK.out _ _ (Below.refl _ _) (rfl) (fun _ _ _ => ⟨trivial, trivial⟩)
  ·
   have dd17 := hd 17 (by kernel_rfl)
   clear hd
   try generalize xF 17 = yy17 at *
   obtain rfl := dd17
   obtain ⟨r0, r1, r2, r3, r4, r5, r6, r7, r8, hbl, hsz⟩ := id hR
   rw [if_pos (by rfl)]
   go_simp
   exact hK.out _ _ (Below.refl _ _) (rfl) (fun _ _ _ => ⟨trivial, trivial⟩)
 intro xF ww hR hF hP
 clear hP
 have dd0 := hF 0 (by omega) (by decide)
 have dd1 := hF 1 (by omega) (by decide)
 have dd2 := hF 2 (by omega) (by decide)
 have dd3 := hF 3 (by omega) (by decide)
 have dd4 := hF 4 (by omega) (by decide)
 have dd5 := hF 5 (by omega) (by decide)
 have dd6 := hF 6 (by omega) (by decide)
 have dd7 := hF 7 (by omega) (by decide)
 have dd8 := hF 8 (by omega) (by decide)
 have dd9 := hF 9 (by omega) (by decide)
 have dd10 := hF 10 (by omega) (by decide)
 have dd11 : (Cells ww ww.heap.size (xF 11) 1 4 (lcell y)) := hF 11 (by omega) (by decide)
 have dd12 := hF 12 (by omega) (by decide)
 have dd13 := hF 13 (by omega) (by decide)
 have dd14 : (OneAt ww (xF 14) y.s) := hF 14 (by omega) (by decide)
 have dd15 := hF 15 (by omega) (by decide)
 have dd16 := hF 16 (by omega) (by decide)
 have dd17 := hF 17 (by omega) (by decide)
 have dd18 := hF 18 (by omega) (by decide)
 clear hF
 simp only [take_succ_cons, take_zero, drop_succ_cons, drop_zero, fillOf, Act.put, setIfInBounds_toArray, set_cons_zero, set_cons_succ, Nat.reduceAdd, Nat.zero_add]
 try generalize xF 0 = yy0 at *
 try generalize xF 1 = yy1 at *
 try generalize xF 2 = yy2 at *
 try generalize xF 3 = yy3 at *
 try generalize xF 4 = yy4 at *
 try generalize xF 5 = yy5 at *
 try generalize xF 6 = yy6 at *
 try generalize xF 7 = yy7 at *
 try generalize xF 8 = yy8 at *
 try generalize xF 9 = yy9 at *
 try generalize xF 10 = yy10 at *
 try generalize xF 11 = yy11 at *
 try generalize xF 12 = yy12 at *
 try generalize xF 13 = yy13 at *
 try generalize xF 14 = yy14 at *
 try generalize xF 15 = yy15 at *
 try generalize xF 16 = yy16 at *
 try generalize xF 17 = yy17 at *
 try generalize xF 18 = yy18 at *
 clear xF
 obtain rfl := dd0
 obtain rfl := dd1
 obtain rfl := dd2
 obtain rfl := dd3
 obtain rfl := dd4
 obtain rfl := dd5
 obtain rfl := dd6
 obtain rfl := dd7
 obtain rfl := dd8
 obtain rfl := dd9
 obtain rfl := dd10
 have hlv := dd11
 obtain rfl := dd12
 obtain rfl := dd13
 have hone := dd14
 obtain rfl := dd15
 obtain rfl := dd16
 obtain rfl := dd17
 obtain rfl := dd18
 have hRE := Lib.hid hR
 clear hR
 have HB9 : Hid (Below w.heap.size w ww) := HB.out.trans (hRE.out.below.mono (by omega))
 go_wp2
 go_ret
 exact ⟨rfl, HB9.out⟩
set_option maxHeartbeats 3200000 in
set_option maxRecDepth 100000 in
theorem fits_no (v : Value) (s0 : ByteArray) (d0 : Dot) (t0 : Int) (la : Option Addr) (ln lc : Nat) (w : World)
  (had : ∀ W, Below w.heap.size w W → Calls Tryz.prog 24 #[v, .agg #[.int .i64 3, .string s0, .int .i64 d0.1, .int .i64 d0.2, .int .i64 t0, .slice none 0 0, .slice la ln lc, .int .i64 0, .bool true]] W (Said true W)) (y : Lv)
  (hlv : ∀ W, Below w.heap.size w W → Calls Tryz.prog 14 #[v] W fun e w' => ∃ u, e = .returned u ∧ Cells w' w'.heap.size u 1 4 (lcell y) ∧ Below W.heap.size W w')
  (hex : ∀ W u, Below w.heap.size w W → Cells W W.heap.size u 1 4 (lcell y) → Calls Tryz.prog 13 #[u, .slice none 0 0] W fun e w' => ∃ u', e = .returned u' ∧ OneAt w' u' y.s ∧ Below W.heap.size W w')
  (heq : ∀ W u, Below w.heap.size w W → OneAt W u y.s → Calls Tryz.prog 25 #[.slice la ln lc, u] W (Said false W)) :
  Calls Tryz.prog 11 #[v, .agg #[.int .i64 3, .string s0, .int .i64 d0.1, .int .i64 d0.2, .int .i64 t0, .slice none 0 0, .slice la ln lc, .int .i64 0, .bool true]] w (Said false w) := by
 obtain ⟨w2, hw2⟩ : ∃ W, W = w.alloc (.cells #[.int .i64 3, .string s0, .int .i64 d0.1, .int .i64 d0.2, .int .i64 t0, .slice none 0 0, .slice la ln lc, .int .i64 0, .bool true] 29) := ⟨_, rfl⟩
 have HB : Hid (Below w.heap.size w w2) := by show Below _ _ _; rw [hw2]; exact below1
 have hz2 : w2.heap.size = w.heap.size + 1 := by rw [hw2]; simp
 have x2 : w2.heap[w.heap.size]? = some (.cells #[.int .i64 3, .string s0, .int .i64 d0.1, .int .i64 d0.2, .int .i64 t0, .slice none 0 0, .slice la ln lc, .int .i64 0, .bool true] 29) := by rw [hw2]; exact heap_alloc_new w _
 have HR0 : Hid (FitR w.heap.size s0 d0 t0 (.slice la ln lc) true w2 w2) := ⟨boxc x2 0 _ rfl, boxc x2 1 _ rfl, boxc x2 2 _ rfl, boxc x2 3 _ rfl, boxc x2 4 _ rfl, boxc x2 5 _ rfl, boxc x2 6 _ rfl, boxc x2 7 _ rfl, boxc x2 8 _ rfl, Below.refl _ _, by omega⟩
 have HAD : Hid (∀ W, Below (w.heap.size + 1) w2 W → Calls Tryz.prog 24 #[v, .agg #[.int .i64 3, .string s0, .int .i64 d0.1, .int .i64 d0.2, .int .i64 t0, .slice none 0 0, .slice la ln lc, .int .i64 0, .bool true]] W (Said true W)) := fun W hW => had W (HB.out.trans (hW.mono (by omega)))
 have HLV : Hid (∀ W, Below (w.heap.size + 1) w2 W → Calls Tryz.prog 14 #[v] W fun e w' => ∃ u, e = .returned u ∧ Cells w' w'.heap.size u 1 4 (lcell y) ∧ Below W.heap.size W w') := fun W hW => hlv W (HB.out.trans (hW.mono (by omega)))
 have HEX : Hid (∀ W u, Below (w.heap.size + 1) w2 W → Cells W W.heap.size u 1 4 (lcell y) → Calls Tryz.prog 13 #[u, .slice none 0 0] W fun e w' => ∃ u', e = .returned u' ∧ OneAt w' u' y.s ∧ Below W.heap.size W w') := fun W u hW => hex W u (HB.out.trans (hW.mono (by omega)))
 have HEQ : Hid (∀ W u, Below (w.heap.size + 1) w2 W → OneAt W u y.s → Calls Tryz.prog 25 #[.slice la ln lc, u] W (Said false W)) := fun W u hW => heq W u (HB.out.trans (hW.mono (by omega)))
 clear hlv hex heq
 have HW := Lib.hid hw2
 clear had x2 hz2 hw2
 go_enter Tryz.func11, Tryz.ntmps11
 go_wp2_with fail
 rw [← HW.out]
 refine wp_flow 19 (fun _ => 1000) (fun ww => FitR w.heap.size s0 d0 t0 (.slice la ln lc) true w2 ww) (fun _ w w' => (fun (w w' : World) => RowKit.Below w.heap.size w w') w w') (fun kF vF wF => match kF with | 0 => (vF = v) | 1 => (vF = .agg #[.int .i64 3, .string s0, .int .i64 d0.1, .int .i64 d0.2, .int .i64 t0, .slice none 0 0, .slice la ln lc, .int .i64 0, .bool true]) | 2 => (vF = .bool true) | 3 => (vF = .bool true) | 4 => (vF = .pointer (some ⟨w.heap.size, 8, none⟩)) | 5 => (vF = .bool true) | 6 => (vF = .bool false) | 7 => (vF = .bool false) | 8 => (vF = .pointer (some ⟨w.heap.size, 6, none⟩)) | 9 => (vF = .slice la ln lc) | 10 => (vF = v) | 11 => (Cells wF wF.heap.size vF 1 4 (lcell y)) | 12 => (vF = .pointer (some ⟨w.heap.size, 5, none⟩)) | 13 => (vF = .slice none 0 0) | 14 => (OneAt wF vF y.s) | 15 => (vF = .bool false) | 16 => (vF = .bool false) | 17 => (vF = .bool false) | 18 => (vF = .bool false) | _ => True) (fun _ _ _ _ => True) (by kernel_rfl) (by kernel_rfl) ?_ ?_ ?_ ?_ ?_
 ·
  exact FitR.start HR0.out
 ·
  intro iF wF1 wF2 hR hT; exact hR.step hR.size hT
 ·
  intro kF hkF iF hiF hne hdd hanc hdan vF wF1 wF2 h hT
  rcases (by omega : kF = 0 ∨ kF = 1 ∨ kF = 2 ∨ kF = 3 ∨ kF = 4 ∨ kF = 5 ∨ kF = 6 ∨ kF = 7 ∨ kF = 8 ∨ kF = 9 ∨ kF = 10 ∨ kF = 11 ∨ kF = 12 ∨ kF = 13 ∨ kF = 14 ∨ kF = 15 ∨ kF = 16 ∨ kF = 17 ∨ kF = 18) with rfl | rfl | rfl | rfl | rfl | rfl | rfl | rfl | rfl | rfl | rfl | rfl | rfl | rfl | rfl | rfl | rfl | rfl | rfl
  iterate 11 exact h
  ·
   have h : (Cells wF1 wF1.heap.size vF 1 4 (lcell y)) := h
   show (Cells wF2 wF2.heap.size vF 1 4 (lcell y))
   have hT : (fun (w w' : World) => RowKit.Below w.heap.size w w') wF1 wF2 := hT
   simp only at hT
   exact Cells.next h hT
  iterate 2 exact h
  ·
   have h : (OneAt wF1 vF y.s) := h
   show (OneAt wF2 vF y.s)
   have hT : (fun (w w' : World) => RowKit.Below w.heap.size w w') wF1 wF2 := hT
   simp only at hT
   exact OneAt.next h hT
  iterate 4 exact h
 ·
  generalize hAF : fillOf _ _ _ = AF
  replace hAF := fun x => congrFun hAF x
  simp only [take_succ_cons, take_zero, fillOf, Act.put, setIfInBounds_toArray, set_cons_zero, set_cons_succ, Nat.reduceAdd, Nat.zero_add] at hAF
  refine .cons ?_ (.cons ?_ (.cons ?_ (.cons ?_ (.cons ?_ (.cons ?_ (.cons ?_ (.cons ?_ (.cons ?_ (.cons ?_ (.cons ?_ (.cons ?_ (.cons ?_ (.cons ?_ (.cons ?_ (.cons ?_ (.cons ?_ (.cons ?_ (.cons ?_ (.nil)))))))))))))))))))
  all_goals
   intro xF ww hR hd K hK
   first | simp only [← hAF, Act.put, setIfInBounds_toArray, set_cons_zero, set_cons_succ] at hK ⊢ | simp only [← hAF, Act.put] at hK ⊢
   clear hAF
   try simp only [Nat.zero_add, Nat.reduceAdd] at hK ⊢
  ·
   clear hd
   obtain ⟨r0, r1, r2, r3, r4, r5, r6, r7, r8, hbl, hsz⟩ := id hR
   rw [if_pos (by rfl)]
   go_simp
   exact hK.out _ _ (Below.refl _ _) (rfl) (fun _ _ _ => ⟨trivial, trivial⟩)
  ·
   clear hd
   obtain ⟨r0, r1, r2, r3, r4, r5, r6, r7, r8, hbl, hsz⟩ := id hR
   rw [if_pos (by rfl)]
   go_simp
   exact hK.out _ _ (Below.refl _ _) (rfl) (fun _ _ _ => ⟨trivial, trivial⟩)
  ·
   have dd0 := hd 0 (by kernel_rfl)
   have dd1 := hd 1 (by kernel_rfl)
   clear hd
   try generalize xF 0 = yy0 at *
   try generalize xF 1 = yy1 at *
   obtain rfl := dd0
   obtain rfl := dd1
   obtain ⟨r0, r1, r2, r3, r4, r5, r6, r7, r8, hbl, hsz⟩ := id hR
   rw [if_pos (by rfl)]
   go_simp
   (go_at_call 24; (with_reducible refine (HAD.out _ hR.below).mono ?_); rintro e wK ⟨rfl, hbK⟩)
   try go_wp2_with fail
   exact hK.out _ _ (hbK) (rfl) (fun _ _ _ => ⟨trivial, trivial⟩)
  ·
   have dd2 := hd 2 (by kernel_rfl)
   clear hd
   try generalize xF 2 = yy2 at *
   obtain rfl := dd2
   obtain ⟨r0, r1, r2, r3, r4, r5, r6, r7, r8, hbl, hsz⟩ := id hR
   rw [if_pos (by rfl)]
   go_simp
   exact hK.out _ _ (Below.refl _ _) (rfl) (fun _ _ _ => ⟨trivial, trivial⟩)
  ·
   have dd3 := hd 3 (by kernel_rfl)
   clear hd
   try generalize xF 3 = yy3 at *
   obtain rfl := dd3
   obtain ⟨r0, r1, r2, r3, r4, r5, r6, r7, r8, hbl, hsz⟩ := id hR
   rw [if_pos (by rfl)]
   go_simp
   exact hK.out _ _ (Below.refl _ _) (rfl) (fun _ _ _ => ⟨trivial, trivial⟩)
  ·
   have dd3 := hd 3 (by kernel_rfl)
   have dd4 := hd 4 (by kernel_rfl)
   clear hd
   try generalize xF 3 = yy3 at *
   try generalize xF 4 = yy4 at *
   obtain rfl := dd3
   obtain rfl := dd4
   obtain ⟨r0, r1, r2, r3, r4, r5, r6, r7, r8, hbl, hsz⟩ := id hR
   rw [if_pos (by rfl)]
   go_simp
   exact hK.out _ _ (Below.refl _ _) (rfl) (fun _ _ _ => ⟨trivial, trivial⟩)
  ·
   have dd3 := hd 3 (by kernel_rfl)
   have dd5 := hd 5 (by kernel_rfl)
   clear hd
   try generalize xF 3 = yy3 at *
   try generalize xF 5 = yy5 at *
   obtain rfl := dd3
   obtain rfl := dd5
   obtain ⟨r0, r1, r2, r3, r4, r5, r6, r7, r8, hbl, hsz⟩ := id hR
   rw [if_pos (by rfl)]
   go_simp
   exact hK.out _ _ (Below.refl _ _) (rfl) (fun _ _ _ => ⟨trivial, trivial⟩)
  ·
   have dd3 := hd 3 (by kernel_rfl)
   have dd6 := hd 6 (by kernel_rfl)
   clear hd
   try generalize xF 3 = yy3 at *
   try generalize xF 6 = yy6 at *
   obtain rfl := dd3
   obtain rfl := dd6
   obtain ⟨r0, r1, r2, r3, r4, r5, r6, r7, r8, hbl, hsz⟩ := id hR
   rw [if_pos (by rfl)]
   go_simp
   exact hK.out _ _ (Below.refl _ _) (rfl) (fun _ _ _ => ⟨trivial, trivial⟩)
  ·
   have dd7 := hd 7 (by kernel_rfl)
   clear hd
   try generalize xF 7 = yy7 at *
   obtain rfl := dd7
   obtain ⟨r0, r1, r2, r3, r4, r5, r6, r7, r8, hbl, hsz⟩ := id hR
   rw [if_pos (by rfl)]
   go_simp
   exact hK.out _ _ (Below.refl _ _) (rfl) (fun _ _ _ => ⟨trivial, trivial⟩)
  ·
   have dd7 := hd 7 (by kernel_rfl)
   have dd8 := hd 8 (by kernel_rfl)
   clear hd
   try generalize xF 7 = yy7 at *
   try generalize xF 8 = yy8 at *
   obtain rfl := dd7
   obtain rfl := dd8
   obtain ⟨r0, r1, r2, r3, r4, r5, r6, r7, r8, hbl, hsz⟩ := id hR
   rw [if_pos (by rfl)]
   go_simp
   exact hK.out _ _ (Below.refl _ _) (rfl) (fun _ _ _ => ⟨trivial, trivial⟩)
  ·
   have dd7 := hd 7 (by kernel_rfl)
   clear hd
   try generalize xF 7 = yy7 at *
   obtain rfl := dd7
   obtain ⟨r0, r1, r2, r3, r4, r5, r6, r7, r8, hbl, hsz⟩ := id hR
   rw [if_pos (by rfl)]
   go_simp
   exact hK.out _ _ (Below.refl _ _) (rfl) (fun _ _ _ => ⟨trivial, trivial⟩)
  ·
   have dd7 := hd 7 (by kernel_rfl)
   have dd10 := hd 10 (by kernel_rfl)
   clear hd
   try generalize xF 7 = yy7 at *
   try generalize xF 10 = yy10 at *
   obtain rfl := dd7
   obtain rfl := dd10
   obtain ⟨r0, r1, r2, r3, r4, r5, r6, r7, r8, hbl, hsz⟩ := id hR
   rw [if_pos (by rfl)]
   go_simp
   (go_at_call 14; (with_reducible refine (HLV.out _ hR.below).mono ?_); rintro e wK ⟨u9, rfl, hlv, hbK⟩)
   try go_wp2_with fail
   exact hK.out _ _ (hbK) (hlv) (fun _ _ _ => ⟨trivial, trivial⟩)
  ·
   have dd7 := hd 7 (by kernel_rfl)
   clear hd
   try generalize xF 7 = yy7 at *
   obtain rfl := dd7
   obtain ⟨r0, r1, r2, r3, r4, r5, r6, r7, r8, hbl, hsz⟩ := id hR
   rw [if_pos (by rfl)]
   go_simp
   exact hK.out _ _ (Below.refl _ _) (rfl) (fun _ _ _ => ⟨trivial, trivial⟩)
  ·
   have dd7 := hd 7 (by kernel_rfl)
   have dd12 := hd 12 (by kernel_rfl)
   clear hd
   try generalize xF 7 = yy7 at *
   try generalize xF 12 = yy12 at *
   obtain rfl := dd7
   obtain rfl := dd12
   obtain ⟨r0, r1, r2, r3, r4, r5, r6, r7, r8, hbl, hsz⟩ := id hR
   rw [if_pos (by rfl)]
   go_simp
   exact hK.out _ _ (Below.refl _ _) (rfl) (fun _ _ _ => ⟨trivial, trivial⟩)
  ·
   have dd7 := hd 7 (by kernel_rfl)
   have dd11 : (Cells ww ww.heap.size (xF 11) 1 4 (lcell y)) := hd 11 (by kernel_rfl)
   have dd13 := hd 13 (by kernel_rfl)
   clear hd
   try generalize xF 7 = yy7 at *
   try generalize xF 11 = yy11 at *
   try generalize xF 13 = yy13 at *
   obtain rfl := dd7
   have hlv := dd11
   obtain rfl := dd13
   obtain ⟨r0, r1, r2, r3, r4, r5, r6, r7, r8, hbl, hsz⟩ := id hR
   rw [if_pos (by rfl)]
   go_simp
   (go_at_call 13; (with_reducible refine (HEX.out _ _ hR.below hlv).mono ?_); rintro e wK ⟨u8, rfl, hone, hbK⟩)
   try go_wp2_with fail
   exact hK.out _ _ (hbK) (hone) (fun _ _ _ => ⟨trivial, trivial⟩)
  ·
   have dd7 := hd 7 (by kernel_rfl)
   have dd9 := hd 9 (by kernel_rfl)
   have dd14 : (OneAt ww (xF 14) y.s) := hd 14 (by kernel_rfl)
   clear hd
   try generalize xF 7 = yy7 at *
   try generalize xF 9 = yy9 at *
   try generalize xF 14 = yy14 at *
   obtain rfl := dd7
   obtain rfl := dd9
   have hone := dd14
   obtain ⟨r0, r1, r2, r3, r4, r5, r6, r7, r8, hbl, hsz⟩ := id hR
   rw [if_pos (by rfl)]
   go_simp
   (go_at_call 25; (with_reducible refine (HEQ.out _ _ hR.below hone).mono ?_); rintro e wK ⟨rfl, hbK⟩)
   try go_wp2_with fail
   exact hK.out _ _ (hbK) (rfl) (fun _ _ _ => ⟨trivial, trivial⟩)
  ·
   have dd3 := hd 3 (by kernel_rfl)
   have dd7 := hd 7 (by kernel_rfl)
   have dd15 := hd 15 (by kernel_rfl)
   clear hd
   try generalize xF 3 = yy3 at *
   try generalize xF 7 = yy7 at *
   try generalize xF 15 = yy15 at *
   obtain rfl := dd3
   obtain rfl := dd7
   obtain rfl := dd15
   obtain ⟨r0, r1, r2, r3, r4, r5, r6, r7, r8, hbl, hsz⟩ := id hR
   rw [if_pos (by rfl)]
   go_simp
   exact hK.out _ _ (Below.refl _ _) (rfl) (fun _ _ _ => ⟨trivial, trivial⟩)
  ·
   have dd3 := hd 3 (by kernel_rfl)
   have dd16 := hd 16 (by kernel_rfl)
   clear hd
   try generalize xF 3 = yy3 at *
   try generalize xF 16 = yy16 at *
   obtain rfl := dd3
   obtain rfl := dd16
   obtain ⟨r0, r1, r2, r3, r4, r5, r6, r7, r8, hbl, hsz⟩ := id hR
   rw [if_pos (by rfl)]
   go_simp
   exact hK.out _ _ (Below.refl _ _) (rfl) (fun _ _ _ => ⟨trivial, trivial⟩)
  ·
   have dd17 := hd 17 (by kernel_rfl)
   clear hd
   try generalize xF 17 = yy17 at *
   obtain rfl := dd17
   obtain ⟨r0, r1, r2, r3, r4, r5, r6, r7, r8, hbl, hsz⟩ := id hR
   rw [if_pos (by rfl)]
   go_simp
   exact hK.out _ _ (Below.refl _ _) (rfl) (fun _ _ _ => ⟨trivial, trivial⟩)
 intro xF ww hR hF hP
 clear hP
 have dd0 := hF 0 (by omega) (by decide)
 have dd1 := hF 1 (by omega) (by decide)
 have dd2 := hF 2 (by omega) (by decide)
 have dd3 := hF 3 (by omega) (by decide)
 have dd4 := hF 4 (by omega) (by decide)
 have dd5 := hF 5 (by omega) (by decide)
 have dd6 := hF 6 (by omega) (by decide)
 have dd7 := hF 7 (by omega) (by decide)
 have dd8 := hF 8 (by omega) (by decide)
 have dd9 := hF 9 (by omega) (by decide)
 have dd10 := hF 10 (by omega) (by decide)
 have dd11 : (Cells ww ww.heap.size (xF 11) 1 4 (lcell y)) := hF 11 (by omega) (by decide)
 have dd12 := hF 12 (by omega) (by decide)
 have dd13 := hF 13 (by omega) (by decide)
 have dd14 : (OneAt ww (xF 14) y.s) := hF 14 (by omega) (by decide)
 have dd15 := hF 15 (by omega) (by decide)
 have dd16 := hF 16 (by omega) (by decide)
 have dd17 := hF 17 (by omega) (by decide)
 have dd18 := hF 18 (by omega) (by decide)
 clear hF
 simp only [take_succ_cons, take_zero, drop_succ_cons, drop_zero, fillOf, Act.put, setIfInBounds_toArray, set_cons_zero, set_cons_succ, Nat.reduceAdd, Nat.zero_add]
 try generalize xF 0 = yy0 at *
 try generalize xF 1 = yy1 at *
 try generalize xF 2 = yy2 at *
 try generalize xF 3 = yy3 at *
 try generalize xF 4 = yy4 at *
 try generalize xF 5 = yy5 at *
 try generalize xF 6 = yy6 at *
 try generalize xF 7 = yy7 at *
 try generalize xF 8 = yy8 at *
 try generalize xF 9 = yy9 at *
 try generalize xF 10 = yy10 at *
 try generalize xF 11 = yy11 at *
 try generalize xF 12 = yy12 at *
 try generalize xF 13 = yy13 at *
 try generalize xF 14 = yy14 at *
 try generalize xF 15 = yy15 at *
 try generalize xF 16 = yy16 at *
 try generalize xF 17 = yy17 at *
 try generalize xF 18 = yy18 at *
 clear xF
 obtain rfl := dd0
 obtain rfl := dd1
 obtain rfl := dd2
 obtain rfl := dd3
 obtain rfl := dd4
 obtain rfl := dd5
 obtain rfl := dd6
 obtain rfl := dd7
 obtain rfl := dd8
 obtain rfl := dd9
 obtain rfl := dd10
 have hlv := dd11
 obtain rfl := dd12
 obtain rfl := dd13
 have hone := dd14
 obtain rfl := dd15
 obtain rfl := dd16
 obtain rfl := dd17
 obtain rfl := dd18
 have hRE := Lib.hid hR
 clear hR
 have HB9 : Hid (Below w.heap.size w ww) := HB.out.trans (hRE.out.below.mono (by omega))
 go_wp2
 go_ret
 exact ⟨rfl, HB9.out⟩
end Go.Proofs.YthmnaemcpcdinaaGreat
