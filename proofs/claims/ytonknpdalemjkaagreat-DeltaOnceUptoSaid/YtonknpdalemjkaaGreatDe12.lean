/- texts put together: OrsRgt, OrsKey. -/
import Derived.Test.YtonknpdalemjkaaGreatDe05
import Derived.Test.YtonknpdalemjkaaGreatDe06
import Derived.Test.YtonknpdalemjkaaGreatDe11
import Derived.DeepKeys4
import Derived.Maps.Own
import Derived.Maps.OwnSet
import Derived.Maps.Views
open List (setIfInBounds_toArray set_cons_zero set_cons_succ take_succ_cons take_zero drop_succ_cons drop_zero)
namespace Go.Proofs.YtonknpdalemjkaaGreat
open Go Go.RowKit Go.ChangeShapes cl Go.Sort
structure RSet (l : List Ent) (c : dm.Ctx) : Prop where
 right : dm.Right c
 up : os.Up l
 fine : ∀ x ∈ l, os.Fine x
 kn : ∀ x ∈ l, dm.Knows c x.d
theorem up_at {l : List Ent} (h : os.Up l) {i : Nat} (hi : i + 1 < l.length) : dless (l.getD i default).d (l.getD (i + 1) default).d = true := by
 have := List.pairwise_iff_getElem.1 h i (i + 1) (by omega) hi (by omega)
 simpa [List.getD, hi, show i < l.length by omega] using this
theorem getD_memE {l : List Ent} {j : Nat} (hj : j < l.length) : l.getD j default ∈ l := by
 rw [List.getD_eq_getElem?_getD, List.getElem?_eq_getElem hj]
 exact List.getElem_mem _
set_option maxHeartbeats 6400000 in
set_option maxRecDepth 100000 in
theorem rents_yes (l : List Ent) (c : dm.Ctx) (v vc : Value) (w : World) (h : Ents w w.heap.size v l) (hc : CtxAt w w.heap.size vc c) (hr : RSet l c) (hm : MX w) :
  Calls Tryz.prog 65 #[v, vc] w (Said true w) := by
 obtain ⟨n, hn⟩ : ∃ n, n = l.length := ⟨_, rfl⟩
 have HN := Lib.hid hn
 obtain ⟨ao, cap, rfl, hnm⟩ : ∃ ao cap, v = .slice ao n cap ∧ n ≤ 9223372036854775807 := by
  obtain ⟨ao, cap, e, _, h9⟩ := h.form
  unfold maxLen at h9
  exact ⟨ao, cap, by rw [hn]; exact e, by rw [hn]; exact h9⟩
 obtain ⟨a1, m1, c1, a2, m2, c2, rfl, hm1, hm2⟩ := hc.form
 have HC := Lib.hid h
 have HX := Lib.hid hc
 have HR := Lib.hid hr
 have HM := Lib.hid hm
 have hbx := below1 (w := w) (o := .cells #[.slice a1 m1 c1, .slice a2 m2 c2] 25)
 have hx0 := heap_alloc_new w (.cells #[.slice a1 m1 c1, .slice a2 m2 c2] 25)
 obtain ⟨w0, hw0⟩ : ∃ W, W = w.alloc (.cells #[.slice a1 m1 c1, .slice a2 m2 c2] 25) := ⟨_, rfl⟩
 rw [← hw0] at hbx hx0
 have HBX := Lib.hid hbx
 have HX0 := Lib.hid hx0
 have HW0 := Lib.hid hw0
 clear h hc hr hm hn hbx hx0 hw0 hm1 hm2
 go_enter Tryz.func65, Tryz.ntmps65
 go_wp2
 rw [← HW0.out]
 go_loopw [9] (fun i wr => ∃ (k : Nat), i = .int .i64 k ∧ k ≤ n ∧ Hid (Below w0.heap.size w0 wr)) (fun i _ => n - (intOf i).toNat)
 case atStart => exact ⟨0, rfl, by omega, Below.refl _ _⟩
 case round =>
  obtain ⟨k, rfl, hk, HB⟩ := hrel
  have HB0 := Lib.hid (HBX.out.trans (HB.out.mono HBX.out.size))
  by_cases hlt : k < n
  ·
   have hkI : (k : Int) < (n : Int) := by omega
   obtain ⟨bb, off, rfl, hbB, p0, p1, p2, p3, p4⟩ := Ents.get (Cells.next HC.out HB0.out) HN.out hlt
   obtain ⟨x, hx⟩ : ∃ x, x = l.getD k default := ⟨_, rfl⟩
   rw [← hx] at p0 p1 p2 p3
   have hxm : x ∈ l := by rw [hx]; exact getD_memE (by rw [← HN.out]; exact hlt)
   obtain ⟨q0, hq0⟩ : ∃ q, q = wr.heap.size := ⟨_, rfl⟩
   obtain ⟨W1, hW1⟩ : ∃ W1, W1 = wr.alloc (.cells #[.string x.s, .int .i64 x.d.1, .int .i64 x.d.2, .int .i64 x.t, .slice none 0 0] 54) := ⟨_, rfl⟩
   have hb1 : Below wr.heap.size wr W1 := by rw [hW1]; exact below1
   have y1 : W1.heap[q0]? = some (.cells #[.string x.s, .int .i64 x.d.1, .int .i64 x.d.2, .int .i64 x.t, .slice none 0 0] 54) := by rw [hW1, hq0]; exact heap_alloc_new wr _
   have hbW := HB0.out.trans (hb1.mono HB0.out.size)
   have hxW := ((HB.out.trans (hb1.mono HB.out.size)).block _ (lt_of_block HX0.out)).trans HX0.out
   have XE : Hid (∀ ww, Below W1.heap.size W1 ww → ww.cell? ⟨q0, 0, none⟩ = some (.string x.s) ∧ ww.cell? ⟨q0, 1, none⟩ = some (.int .i64 x.d.1) ∧ ww.cell? ⟨q0, 2, none⟩ = some (.int .i64 x.d.2) ∧ ww.cell? ⟨q0, 3, none⟩ = some (.int .i64 x.t) ∧ ww.cell? ⟨q0, 4, none⟩ = some (.slice none 0 0)) := fun ww hw => by
    have y := (hw.block _ (lt_of_block y1)).trans y1
    exact ⟨boxc y 0 _ rfl, boxc y 1 _ rfl, boxc y 2 _ rfl, boxc y 3 _ rfl, boxc y 4 _ rfl⟩
   have XC : Hid (∀ ww, Below W1.heap.size W1 ww → ww.cell? ⟨w.heap.size, 0, none⟩ = some (.slice a1 m1 c1) ∧ ww.cell? ⟨w.heap.size, 1, none⟩ = some (.slice a2 m2 c2)) := fun ww hw => by
    have y := (hw.block _ (lt_of_block hxW)).trans hxW
    exact ⟨boxc y 0 _ rfl, boxc y 1 _ rfl⟩
   have HHS : Hid (∀ ww, Below W1.heap.size W1 ww → Calls Tryz.prog 27 #[.agg #[.slice a1 m1 c1, .slice a2 m2 c2], .agg #[.int .i64 x.d.1, .int .i64 x.d.2]] ww (SaidD true ww)) := fun ww hw => by
    have := has_any c x.d _ ww (HX.out.next (hbW.trans (hw.mono hbW.size)))
    rwa [(dm.hasF_iff).2 (HR.out.kn x hxm)] at this
   have HMY : Hid (∀ ww, Below W1.heap.size W1 ww → Calls Tryz.prog 91 #[.agg #[.string x.s, .int .i64 x.d.1, .int .i64 x.d.2, .int .i64 x.t, .slice none 0 0]] ww (Said true ww)) := fun ww hw => may_yes x ww (HR.out.fine x hxm) (MX.next HM.out (hbW.trans (hw.mono hbW.size)))
   have HBW := Lib.hid (HB.out.trans (hb1.mono HB.out.size))
   clear hb1 y1 hbW hxW hxm
   by_cases hk0 : k = 0
   ·
    subst hk0
    clear hx
    rw [Nat.zero_mul, Nat.add_zero] at p0 p1 p2 p3 p4
    go_wp2_with fail
    rw [← hq0, ← hW1]
    clear hq0 hW1 p0 p1 p2 p3 p4
    refine wp_flow 26 (fun _ => 1000) (fun ww => RowKit.Below W1.heap.size W1 ww) (fun _ w w' => (fun (w w' : World) => RowKit.Below w.heap.size w w') w w') (fun kF vF wF => match kF with | 0 => (vF = .int .i64 ((0 : Nat) : Int)) | 1 => (vF = .bool false) | 2 => (vF = .bool false) | 3 => (vF = undef) | 4 => (vF = undef) | 5 => (vF = undef) | 6 => (vF = undef) | 7 => (vF = undef) | 8 => (vF = undef) | 9 => (vF = undef) | 10 => (vF = undef) | 11 => (vF = undef) | 12 => (vF = undef) | 13 => (vF = .bool false) | 14 => (vF = .bool false) | 15 => (vF = .agg #[.slice a1 m1 c1, .slice a2 m2 c2]) | 16 => (vF = .pointer (some ⟨q0, 1, none⟩)) | 17 => (vF = .agg #[.int .i64 x.d.1, .int .i64 x.d.2]) | 18 => (vF = .bool true) | 19 => (vF = .bool false) | 20 => (vF = .bool false) | 21 => (vF = .bool false) | 22 => (vF = .agg #[.string x.s, .int .i64 x.d.1, .int .i64 x.d.2, .int .i64 x.t, .slice none 0 0]) | 23 => (vF = .bool true) | 24 => (vF = .bool false) | 25 => (vF = .bool false) | _ => True) (fun _ _ _ _ => True) (by kernel_rfl) (by kernel_rfl) ?_ ?_ ?_ ?_ ?_
    ·
     exact (Below.refl _ _).drew
    ·
     intro iF wF1 wF2 hR hT; exact hR.trans (hT.mono hR.size)
    ·
     intro kF hkF iF hiF hne hdd hanc hdan vF wF1 wF2 h hT
     rcases (by omega : kF = 0 ∨ kF = 1 ∨ kF = 2 ∨ kF = 3 ∨ kF = 4 ∨ kF = 5 ∨ kF = 6 ∨ kF = 7 ∨ kF = 8 ∨ kF = 9 ∨ kF = 10 ∨ kF = 11 ∨ kF = 12 ∨ kF = 13 ∨ kF = 14 ∨ kF = 15 ∨ kF = 16 ∨ kF = 17 ∨ kF = 18 ∨ kF = 19 ∨ kF = 20 ∨ kF = 21 ∨ kF = 22 ∨ kF = 23 ∨ kF = 24 ∨ kF = 25) with rfl | rfl | rfl | rfl | rfl | rfl | rfl | rfl | rfl | rfl | rfl | rfl | rfl | rfl | rfl | rfl | rfl | rfl | rfl | rfl | rfl | rfl | rfl | rfl | rfl | rfl
     iterate 26 exact h
    ·
     generalize hAF : fillOf _ _ _ = AF
     replace hAF := fun x => congrFun hAF x
     simp only [take_succ_cons, take_zero, fillOf, Act.put, setIfInBounds_toArray, set_cons_zero, set_cons_succ, Nat.reduceAdd, Nat.zero_add] at hAF
     refine .cons ?_ (.cons ?_ (.cons ?_ (.cons ?_ (.cons ?_ (.cons ?_ (.cons ?_ (.cons ?_ (.cons ?_ (.cons ?_ (.cons ?_ (.cons ?_ (.cons ?_ (.cons ?_ (.cons ?_ (.cons ?_ (.cons ?_ (.cons ?_ (.cons ?_ (.cons ?_ (.cons ?_ (.cons ?_ (.cons ?_ (.cons ?_ (.cons ?_ (.cons ?_ (.nil))))))))))))))))))))))))))
     all_goals
      intro xF wq hR hd K hK
      first | simp only [← hAF, Act.put, setIfInBounds_toArray, set_cons_zero, set_cons_succ] at hK ⊢ | simp only [← hAF, Act.put] at hK ⊢
      clear hAF
      try simp only [Nat.zero_add, Nat.reduceAdd] at hK ⊢
     ·
      clear hd
      obtain hbR := id hR
      rw [if_pos (by rfl)]
      go_simp
      exact hK.out _ _ (Below.refl _ _) (rfl) (fun _ _ _ => ⟨trivial, trivial⟩)
     ·
      have dd0 := hd 0 (by kernel_rfl)
      clear hd
      try generalize xF 0 = yy0 at *
      obtain rfl := dd0
      obtain hbR := id hR
      rw [if_pos (by rfl)]
      go_simp
      exact hK.out _ _ (Below.refl _ _) (rfl) (fun _ _ _ => ⟨trivial, trivial⟩)
     ·
      have dd1 := hd 1 (by kernel_rfl)
      clear hd
      try generalize xF 1 = yy1 at *
      obtain rfl := dd1
      obtain hbR := id hR
      rw [if_pos (by rfl)]
      go_simp
      exact hK.out _ _ (Below.refl _ _) (rfl) (fun _ _ _ => ⟨trivial, trivial⟩)
     ·
      have dd2 := hd 2 (by kernel_rfl)
      clear hd
      try generalize xF 2 = yy2 at *
      obtain rfl := dd2
      obtain hbR := id hR
      rw [if_neg (by intro h; exact absurd (show false = true from h) Bool.false_ne_true)]
      try simp only [Act.put, setIfInBounds_toArray, set_cons_zero, set_cons_succ]
      exact hK.out _ _ (Below.refl _ _) (rfl) (fun _ _ _ => ⟨trivial, trivial⟩)
     ·
      have dd2 := hd 2 (by kernel_rfl)
      clear hd
      try generalize xF 2 = yy2 at *
      obtain rfl := dd2
      obtain hbR := id hR
      rw [if_neg (by intro h; exact absurd (show false = true from h) Bool.false_ne_true)]
      try simp only [Act.put, setIfInBounds_toArray, set_cons_zero, set_cons_succ]
      exact hK.out _ _ (Below.refl _ _) (rfl) (fun _ _ _ => ⟨trivial, trivial⟩)
     ·
      have dd2 := hd 2 (by kernel_rfl)
      clear hd
      try generalize xF 2 = yy2 at *
      obtain rfl := dd2
      obtain hbR := id hR
      rw [if_neg (by intro h; exact absurd (show false = true from h) Bool.false_ne_true)]
      try simp only [Act.put, setIfInBounds_toArray, set_cons_zero, set_cons_succ]
      exact hK.out _ _ (Below.refl _ _) (rfl) (fun _ _ _ => ⟨trivial, trivial⟩)
     ·
      have dd2 := hd 2 (by kernel_rfl)
      clear hd
      try generalize xF 2 = yy2 at *
      obtain rfl := dd2
      obtain hbR := id hR
      rw [if_neg (by intro h; exact absurd (show false = true from h) Bool.false_ne_true)]
      try simp only [Act.put, setIfInBounds_toArray, set_cons_zero, set_cons_succ]
      exact hK.out _ _ (Below.refl _ _) (rfl) (fun _ _ _ => ⟨trivial, trivial⟩)
     ·
      have dd2 := hd 2 (by kernel_rfl)
      clear hd
      try generalize xF 2 = yy2 at *
      obtain rfl := dd2
      obtain hbR := id hR
      rw [if_neg (by intro h; exact absurd (show false = true from h) Bool.false_ne_true)]
      try simp only [Act.put, setIfInBounds_toArray, set_cons_zero, set_cons_succ]
      exact hK.out _ _ (Below.refl _ _) (rfl) (fun _ _ _ => ⟨trivial, trivial⟩)
     ·
      have dd2 := hd 2 (by kernel_rfl)
      clear hd
      try generalize xF 2 = yy2 at *
      obtain rfl := dd2
      obtain hbR := id hR
      rw [if_neg (by intro h; exact absurd (show false = true from h) Bool.false_ne_true)]
      try simp only [Act.put, setIfInBounds_toArray, set_cons_zero, set_cons_succ]
      exact hK.out _ _ (Below.refl _ _) (rfl) (fun _ _ _ => ⟨trivial, trivial⟩)
     ·
      have dd2 := hd 2 (by kernel_rfl)
      clear hd
      try generalize xF 2 = yy2 at *
      obtain rfl := dd2
      obtain hbR := id hR
      rw [if_neg (by intro h; exact absurd (show false = true from h) Bool.false_ne_true)]
      try simp only [Act.put, setIfInBounds_toArray, set_cons_zero, set_cons_succ]
      exact hK.out _ _ (Below.refl _ _) (rfl) (fun _ _ _ => ⟨trivial, trivial⟩)
     ·
      have dd2 := hd 2 (by kernel_rfl)
      clear hd
      try generalize xF 2 = yy2 at *
      obtain rfl := dd2
      obtain hbR := id hR
      rw [if_neg (by intro h; exact absurd (show false = true from h) Bool.false_ne_true)]
      try simp only [Act.put, setIfInBounds_toArray, set_cons_zero, set_cons_succ]
      exact hK.out _ _ (Below.refl _ _) (rfl) (fun _ _ _ => ⟨trivial, trivial⟩)
     ·
      have dd2 := hd 2 (by kernel_rfl)
      clear hd
      try generalize xF 2 = yy2 at *
      obtain rfl := dd2
      obtain hbR := id hR
      rw [if_neg (by intro h; exact absurd (show false = true from h) Bool.false_ne_true)]
      try simp only [Act.put, setIfInBounds_toArray, set_cons_zero, set_cons_succ]
      exact hK.out _ _ (Below.refl _ _) (rfl) (fun _ _ _ => ⟨trivial, trivial⟩)
     ·
      have dd2 := hd 2 (by kernel_rfl)
      clear hd
      try generalize xF 2 = yy2 at *
      obtain rfl := dd2
      obtain hbR := id hR
      rw [if_neg (by intro h; exact absurd (show false = true from h) Bool.false_ne_true)]
      try simp only [Act.put, setIfInBounds_toArray, set_cons_zero, set_cons_succ]
      exact hK.out _ _ (Below.refl _ _) (rfl) (fun _ _ _ => ⟨trivial, trivial⟩)
     ·
      have dd2 := hd 2 (by kernel_rfl)
      have dd12 := hd 12 (by kernel_rfl)
      clear hd
      try generalize xF 2 = yy2 at *
      try generalize xF 12 = yy12 at *
      obtain rfl := dd2
      obtain rfl := dd12
      obtain hbR := id hR
      rw [if_pos (by rfl)]
      go_simp
      exact hK.out _ _ (Below.refl _ _) (rfl) (fun _ _ _ => ⟨trivial, trivial⟩)
     ·
      have dd13 := hd 13 (by kernel_rfl)
      clear hd
      try generalize xF 13 = yy13 at *
      obtain rfl := dd13
      obtain hbR := id hR
      rw [if_pos (by rfl)]
      go_simp
      exact hK.out _ _ (Below.refl _ _) (rfl) (fun _ _ _ => ⟨trivial, trivial⟩)
     ·
      have dd14 := hd 14 (by kernel_rfl)
      clear hd
      try generalize xF 14 = yy14 at *
      obtain rfl := dd14
      obtain hbR := id hR
      obtain ⟨x0, x1⟩ := XC.out _ hR
      rw [if_pos (by rfl)]
      go_simp
      exact hK.out _ _ (Below.refl _ _) (rfl) (fun _ _ _ => ⟨trivial, trivial⟩)
     ·
      have dd14 := hd 14 (by kernel_rfl)
      clear hd
      try generalize xF 14 = yy14 at *
      obtain rfl := dd14
      obtain hbR := id hR
      rw [if_pos (by rfl)]
      go_simp
      exact hK.out _ _ (Below.refl _ _) (rfl) (fun _ _ _ => ⟨trivial, trivial⟩)
     ·
      have dd14 := hd 14 (by kernel_rfl)
      have dd16 := hd 16 (by kernel_rfl)
      clear hd
      try generalize xF 14 = yy14 at *
      try generalize xF 16 = yy16 at *
      obtain rfl := dd14
      obtain rfl := dd16
      obtain hbR := id hR
      obtain ⟨e0, e1, e2, e3, e4⟩ := XE.out _ hR
      rw [if_pos (by rfl)]
      go_simp
      exact hK.out _ _ (Below.refl _ _) (rfl) (fun _ _ _ => ⟨trivial, trivial⟩)
     ·
      have dd14 := hd 14 (by kernel_rfl)
      have dd15 := hd 15 (by kernel_rfl)
      have dd17 := hd 17 (by kernel_rfl)
      clear hd
      try generalize xF 14 = yy14 at *
      try generalize xF 15 = yy15 at *
      try generalize xF 17 = yy17 at *
      obtain rfl := dd14
      obtain rfl := dd15
      obtain rfl := dd17
      obtain hbR := id hR
      rw [if_pos (by rfl)]
      go_simp
      (go_at_call 27; (with_reducible refine (HHS.out _ hR).mono ?_); rintro e wK ⟨rfl, hbK⟩)
      try go_wp2_with fail
      exact hK.out _ _ (hbK) (rfl) (fun _ _ _ => ⟨trivial, trivial⟩)
     ·
      have dd14 := hd 14 (by kernel_rfl)
      have dd18 := hd 18 (by kernel_rfl)
      clear hd
      try generalize xF 14 = yy14 at *
      try generalize xF 18 = yy18 at *
      obtain rfl := dd14
      obtain rfl := dd18
      obtain hbR := id hR
      rw [if_pos (by rfl)]
      go_simp
      exact hK.out _ _ (Below.refl _ _) (rfl) (fun _ _ _ => ⟨trivial, trivial⟩)
     ·
      have dd14 := hd 14 (by kernel_rfl)
      have dd19 := hd 19 (by kernel_rfl)
      clear hd
      try generalize xF 14 = yy14 at *
      try generalize xF 19 = yy19 at *
      obtain rfl := dd14
      obtain rfl := dd19
      obtain hbR := id hR
      rw [if_pos (by rfl)]
      go_simp
      exact hK.out _ _ (Below.refl _ _) (rfl) (fun _ _ _ => ⟨trivial, trivial⟩)
     ·
      have dd20 := hd 20 (by kernel_rfl)
      clear hd
      try generalize xF 20 = yy20 at *
      obtain rfl := dd20
      obtain hbR := id hR
      rw [if_pos (by rfl)]
      go_simp
      exact hK.out _ _ (Below.refl _ _) (rfl) (fun _ _ _ => ⟨trivial, trivial⟩)
     ·
      have dd21 := hd 21 (by kernel_rfl)
      clear hd
      try generalize xF 21 = yy21 at *
      obtain rfl := dd21
      obtain hbR := id hR
      obtain ⟨e0, e1, e2, e3, e4⟩ := XE.out _ hR
      rw [if_pos (by rfl)]
      go_simp
      exact hK.out _ _ (Below.refl _ _) (rfl) (fun _ _ _ => ⟨trivial, trivial⟩)
     ·
      have dd21 := hd 21 (by kernel_rfl)
      have dd22 := hd 22 (by kernel_rfl)
      clear hd
      try generalize xF 21 = yy21 at *
      try generalize xF 22 = yy22 at *
      obtain rfl := dd21
      obtain rfl := dd22
      obtain hbR := id hR
      rw [if_pos (by rfl)]
      go_simp
      (go_at_call 91; (with_reducible refine (HMY.out _ hR).mono ?_); rintro e wK ⟨rfl, hbK⟩)
      try go_wp2_with fail
      exact hK.out _ _ (hbK) (rfl) (fun _ _ _ => ⟨trivial, trivial⟩)
     ·
      have dd21 := hd 21 (by kernel_rfl)
      have dd23 := hd 23 (by kernel_rfl)
      clear hd
      try generalize xF 21 = yy21 at *
      try generalize xF 23 = yy23 at *
      obtain rfl := dd21
      obtain rfl := dd23
      obtain hbR := id hR
      rw [if_pos (by rfl)]
      go_simp
      exact hK.out _ _ (Below.refl _ _) (rfl) (fun _ _ _ => ⟨trivial, trivial⟩)
     ·
      have dd21 := hd 21 (by kernel_rfl)
      have dd24 := hd 24 (by kernel_rfl)
      clear hd
      try generalize xF 21 = yy21 at *
      try generalize xF 24 = yy24 at *
      obtain rfl := dd21
      obtain rfl := dd24
      obtain hbR := id hR
      rw [if_pos (by rfl)]
      go_simp
      exact hK.out _ _ (Below.refl _ _) (rfl) (fun _ _ _ => ⟨trivial, trivial⟩)
    intro xF wq hR hF hP
    clear hP
    have dd0 := hF 0 (by omega) (by decide)
    have dd1 := hF 1 (by omega) (by decide)
    have dd2 := hF 2 (by omega) (by decide)
    have dd3 := hF 3 (by omega) (by decide)
    have dd4 := hF 4 (by omega) (by decide)
    have dd5 := hF 5 (by omega) (by decide)
    have dd6 := hF 6 (by omega) (by decide)
    have dd7 := hF 7 (by omega) (by decide)
    have dd8 := hF 8 (by omega) (by decide)
    have dd9 := hF 9 (by omega) (by decide)
    have dd10 := hF 10 (by omega) (by decide)
    have dd11 := hF 11 (by omega) (by decide)
    have dd12 := hF 12 (by omega) (by decide)
    have dd13 := hF 13 (by omega) (by decide)
    have dd14 := hF 14 (by omega) (by decide)
    have dd15 := hF 15 (by omega) (by decide)
    have dd16 := hF 16 (by omega) (by decide)
    have dd17 := hF 17 (by omega) (by decide)
    have dd18 := hF 18 (by omega) (by decide)
    have dd19 := hF 19 (by omega) (by decide)
    have dd20 := hF 20 (by omega) (by decide)
    have dd21 := hF 21 (by omega) (by decide)
    have dd22 := hF 22 (by omega) (by decide)
    have dd23 := hF 23 (by omega) (by decide)
    have dd24 := hF 24 (by omega) (by decide)
    have dd25 := hF 25 (by omega) (by decide)
    clear hF
    simp only [take_succ_cons, take_zero, drop_succ_cons, drop_zero, fillOf, Act.put, setIfInBounds_toArray, set_cons_zero, set_cons_succ, Nat.reduceAdd, Nat.zero_add]
    try generalize xF 0 = yy0 at *
    try generalize xF 1 = yy1 at *
    try generalize xF 2 = yy2 at *
    try generalize xF 3 = yy3 at *
    try generalize xF 4 = yy4 at *
    try generalize xF 5 = yy5 at *
    try generalize xF 6 = yy6 at *
    try generalize xF 7 = yy7 at *
    try generalize xF 8 = yy8 at *
    try generalize xF 9 = yy9 at *
    try generalize xF 10 = yy10 at *
    try generalize xF 11 = yy11 at *
    try generalize xF 12 = yy12 at *
    try generalize xF 13 = yy13 at *
    try generalize xF 14 = yy14 at *
    try generalize xF 15 = yy15 at *
    try generalize xF 16 = yy16 at *
    try generalize xF 17 = yy17 at *
    try generalize xF 18 = yy18 at *
    try generalize xF 19 = yy19 at *
    try generalize xF 20 = yy20 at *
    try generalize xF 21 = yy21 at *
    try generalize xF 22 = yy22 at *
    try generalize xF 23 = yy23 at *
    try generalize xF 24 = yy24 at *
    try generalize xF 25 = yy25 at *
    clear xF
    obtain rfl := dd0
    obtain rfl := dd1
    obtain rfl := dd2
    obtain rfl := dd3
    obtain rfl := dd4
    obtain rfl := dd5
    obtain rfl := dd6
    obtain rfl := dd7
    obtain rfl := dd8
    obtain rfl := dd9
    obtain rfl := dd10
    obtain rfl := dd11
    obtain rfl := dd12
    obtain rfl := dd13
    obtain rfl := dd14
    obtain rfl := dd15
    obtain rfl := dd16
    obtain rfl := dd17
    obtain rfl := dd18
    obtain rfl := dd19
    obtain rfl := dd20
    obtain rfl := dd21
    obtain rfl := dd22
    obtain rfl := dd23
    obtain rfl := dd24
    obtain rfl := dd25
    have hRE := Lib.hid hR
    clear hR
    have HB2 := Lib.hid (HBW.out.trans (hRE.out.mono HBW.out.size))
    go_wp2
    go_roundw
    case rel => exact ⟨0 + 1, by go_num, by omega, HB2⟩
    case measure => simp [intOf]; omega
   ·
    obtain ⟨i, hki⟩ : ∃ i, k = i + 1 := ⟨k - 1, by omega⟩
    obtain ⟨y, hy⟩ : ∃ y, y = l.getD i default := ⟨_, rfl⟩
    have hxy : dless y.d x.d = true := by
     rw [hx, hy, hki]; exact up_at HR.out.up (by rw [← HN.out, ← hki]; exact hlt)
    have hw1 : IntKind.i64.wrap ((k : Int) - 1) = (i : Int) := by rw [hki]; push_cast; rw [Int.add_sub_cancel]; exact IntWalk.i64_in _ (by omega)
    have hiI : (i : Int) < (n : Int) := by omega
    have hi0 : (0 : Int) ≤ (i : Int) := by omega
    have hkp : (0 : Int) < (k : Int) := by omega
    have hkd : decide (0 < k) = true := decide_eq_true (by omega)
    have HLS : Hid (∀ ww, Calls Tryz.prog 66 #[.agg #[.int .i64 y.d.1, .int .i64 y.d.2], .agg #[.int .i64 x.d.1, .int .i64 x.d.2]] ww (SaidD true ww)) := fun ww => by
     have := less_any y.d x.d ww
     rwa [hxy] at this
    obtain ⟨bb', off', e', _, _, r1, r2, _, _⟩ := Ents.get (Cells.next HC.out (HBX.out.trans (HBW.out.mono HBX.out.size))) HN.out (show i < n by omega)
    simp only [Option.some.injEq, Addr.mk.injEq, and_true] at e'
    obtain ⟨rfl, rfl⟩ := e'
    rw [← hy] at r1 r2
    have XY : Hid (∀ ww, Below W1.heap.size W1 ww → ww.cell? ⟨bb, off + i * 5 + 1, none⟩ = some (.int .i64 y.d.1) ∧ ww.cell? ⟨bb, off + i * 5 + 2, none⟩ = some (.int .i64 y.d.2)) := fun ww hw =>
     ⟨(hw.cell (p := ⟨bb, off + i * 5 + 1, none⟩) (World.block_lt_of_cell? _ _ r1)).trans r1, (hw.cell (p := ⟨bb, off + i * 5 + 2, none⟩) (World.block_lt_of_cell? _ _ r2)).trans r2⟩
    have HKI := Lib.hid hki
    clear hx hy hxy r1 r2 hki
    go_wp2_with fail
    rw [← hq0, ← hW1]
    clear hq0 hW1 p0 p1 p2 p3 p4
    refine wp_flow 26 (fun _ => 1000) (fun ww => RowKit.Below W1.heap.size W1 ww) (fun _ w w' => (fun (w w' : World) => RowKit.Below w.heap.size w w') w w') (fun kF vF wF => match kF with | 0 => (vF = .int .i64 (k : Int)) | 1 => (vF = .bool true) | 2 => (vF = .bool true) | 3 => (vF = .slice (some ⟨bb, off, none⟩) n cap) | 4 => (vF = .int .i64 (k : Int)) | 5 => (vF = .int .i64 (i : Int)) | 6 => (vF = .pointer (some ⟨bb, off + i * 5, none⟩)) | 7 => (vF = .pointer (some ⟨bb, off + i * 5 + 1, none⟩)) | 8 => (vF = .agg #[.int .i64 y.d.1, .int .i64 y.d.2]) | 9 => (vF = .pointer (some ⟨q0, 1, none⟩)) | 10 => (vF = .agg #[.int .i64 x.d.1, .int .i64 x.d.2]) | 11 => (vF = .bool true) | 12 => (vF = .bool false) | 13 => (vF = .bool false) | 14 => (vF = .bool false) | 15 => (vF = .agg #[.slice a1 m1 c1, .slice a2 m2 c2]) | 16 => (vF = .pointer (some ⟨q0, 1, none⟩)) | 17 => (vF = .agg #[.int .i64 x.d.1, .int .i64 x.d.2]) | 18 => (vF = .bool true) | 19 => (vF = .bool false) | 20 => (vF = .bool false) | 21 => (vF = .bool false) | 22 => (vF = .agg #[.string x.s, .int .i64 x.d.1, .int .i64 x.d.2, .int .i64 x.t, .slice none 0 0]) | 23 => (vF = .bool true) | 24 => (vF = .bool false) | 25 => (vF = .bool false) | _ => True) (fun _ _ _ _ => True) (by kernel_rfl) (by kernel_rfl) ?_ ?_ ?_ ?_ ?_
    ·
     exact (Below.refl _ _).drew
    ·
     intro iF wF1 wF2 hR hT; exact hR.trans (hT.mono hR.size)
    ·
     intro kF hkF iF hiF hne hdd hanc hdan vF wF1 wF2 h hT
     rcases (by omega : kF = 0 ∨ kF = 1 ∨ kF = 2 ∨ kF = 3 ∨ kF = 4 ∨ kF = 5 ∨ kF = 6 ∨ kF = 7 ∨ kF = 8 ∨ kF = 9 ∨ kF = 10 ∨ kF = 11 ∨ kF = 12 ∨ kF = 13 ∨ kF = 14 ∨ kF = 15 ∨ kF = 16 ∨ kF = 17 ∨ kF = 18 ∨ kF = 19 ∨ kF = 20 ∨ kF = 21 ∨ kF = 22 ∨ kF = 23 ∨ kF = 24 ∨ kF = 25) with rfl | rfl | rfl | rfl | rfl | rfl | rfl | rfl | rfl | rfl | rfl | rfl | rfl | rfl | rfl | rfl | rfl | rfl | rfl | rfl | rfl | rfl | rfl | rfl | rfl | rfl
     iterate 26 exact h
    ·
     generalize hAF : fillOf _ _ _ = AF
     replace hAF := fun x => congrFun hAF x
     simp only [take_succ_cons, take_zero, fillOf, Act.put, setIfInBounds_toArray, set_cons_zero, set_cons_succ, Nat.reduceAdd, Nat.zero_add] at hAF
     refine .cons ?_ (.cons ?_ (.cons ?_ (.cons ?_ (.cons ?_ (.cons ?_ (.cons ?_ (.cons ?_ (.cons ?_ (.cons ?_ (.cons ?_ (.cons ?_ (.cons ?_ (.cons ?_ (.cons ?_ (.cons ?_ (.cons ?_ (.cons ?_ (.cons ?_ (.cons ?_ (.cons ?_ (.cons ?_ (.cons ?_ (.cons ?_ (.cons ?_ (.cons ?_ (.nil))))))))))))))))))))))))))
     all_goals
      intro xF wq hR hd K hK
      first | simp only [← hAF, Act.put, setIfInBounds_toArray, set_cons_zero, set_cons_succ] at hK ⊢ | simp only [← hAF, Act.put] at hK ⊢
      clear hAF
      try simp only [Nat.zero_add, Nat.reduceAdd] at hK ⊢
     ·
      clear hd
      obtain hbR := id hR
      rw [if_pos (by rfl)]
      go_simp
      exact hK.out _ _ (Below.refl _ _) (rfl) (fun _ _ _ => ⟨trivial, trivial⟩)
     ·
      have dd0 := hd 0 (by kernel_rfl)
      clear hd
      try generalize xF 0 = yy0 at *
      obtain rfl := dd0
      obtain hbR := id hR
      rw [if_pos (by rfl)]
      go_simp
      exact hK.out _ _ (Below.refl _ _) (rfl) (fun _ _ _ => ⟨trivial, trivial⟩)
     ·
      have dd1 := hd 1 (by kernel_rfl)
      clear hd
      try generalize xF 1 = yy1 at *
      obtain rfl := dd1
      obtain hbR := id hR
      rw [if_pos (by rfl)]
      go_simp
      exact hK.out _ _ (Below.refl _ _) (rfl) (fun _ _ _ => ⟨trivial, trivial⟩)
     ·
      have dd2 := hd 2 (by kernel_rfl)
      clear hd
      try generalize xF 2 = yy2 at *
      obtain rfl := dd2
      obtain hbR := id hR
      rw [if_pos (by rfl)]
      go_simp
      exact hK.out _ _ (Below.refl _ _) (rfl) (fun _ _ _ => ⟨trivial, trivial⟩)
     ·
      have dd2 := hd 2 (by kernel_rfl)
      clear hd
      try generalize xF 2 = yy2 at *
      obtain rfl := dd2
      obtain hbR := id hR
      rw [if_pos (by rfl)]
      go_simp
      exact hK.out _ _ (Below.refl _ _) (rfl) (fun _ _ _ => ⟨trivial, trivial⟩)
     ·
      have dd2 := hd 2 (by kernel_rfl)
      have dd4 := hd 4 (by kernel_rfl)
      clear hd
      try generalize xF 2 = yy2 at *
      try generalize xF 4 = yy4 at *
      obtain rfl := dd2
      obtain rfl := dd4
      obtain hbR := id hR
      rw [if_pos (by rfl)]
      go_simp
      exact hK.out _ _ (Below.refl _ _) (rfl) (fun _ _ _ => ⟨trivial, trivial⟩)
     ·
      have dd2 := hd 2 (by kernel_rfl)
      have dd3 := hd 3 (by kernel_rfl)
      have dd5 := hd 5 (by kernel_rfl)
      clear hd
      try generalize xF 2 = yy2 at *
      try generalize xF 3 = yy3 at *
      try generalize xF 5 = yy5 at *
      obtain rfl := dd2
      obtain rfl := dd3
      obtain rfl := dd5
      obtain hbR := id hR
      rw [if_pos (by rfl)]
      go_simp
      exact hK.out _ _ (Below.refl _ _) (rfl) (fun _ _ _ => ⟨trivial, trivial⟩)
     ·
      have dd2 := hd 2 (by kernel_rfl)
      have dd6 := hd 6 (by kernel_rfl)
      clear hd
      try generalize xF 2 = yy2 at *
      try generalize xF 6 = yy6 at *
      obtain rfl := dd2
      obtain rfl := dd6
      obtain hbR := id hR
      rw [if_pos (by rfl)]
      go_simp
      exact hK.out _ _ (Below.refl _ _) (rfl) (fun _ _ _ => ⟨trivial, trivial⟩)
     ·
      have dd2 := hd 2 (by kernel_rfl)
      have dd7 := hd 7 (by kernel_rfl)
      clear hd
      try generalize xF 2 = yy2 at *
      try generalize xF 7 = yy7 at *
      obtain rfl := dd2
      obtain rfl := dd7
      obtain hbR := id hR
      obtain ⟨y1, y2⟩ := XY.out _ hR
      rw [if_pos (by rfl)]
      go_simp
      exact hK.out _ _ (Below.refl _ _) (rfl) (fun _ _ _ => ⟨trivial, trivial⟩)
     ·
      have dd2 := hd 2 (by kernel_rfl)
      clear hd
      try generalize xF 2 = yy2 at *
      obtain rfl := dd2
      obtain hbR := id hR
      rw [if_pos (by rfl)]
      go_simp
      exact hK.out _ _ (Below.refl _ _) (rfl) (fun _ _ _ => ⟨trivial, trivial⟩)
     ·
      have dd2 := hd 2 (by kernel_rfl)
      have dd9 := hd 9 (by kernel_rfl)
      clear hd
      try generalize xF 2 = yy2 at *
      try generalize xF 9 = yy9 at *
      obtain rfl := dd2
      obtain rfl := dd9
      obtain hbR := id hR
      obtain ⟨e0, e1, e2, e3, e4⟩ := XE.out _ hR
      rw [if_pos (by rfl)]
      go_simp
      exact hK.out _ _ (Below.refl _ _) (rfl) (fun _ _ _ => ⟨trivial, trivial⟩)
     ·
      have dd2 := hd 2 (by kernel_rfl)
      have dd8 := hd 8 (by kernel_rfl)
      have dd10 := hd 10 (by kernel_rfl)
      clear hd
      try generalize xF 2 = yy2 at *
      try generalize xF 8 = yy8 at *
      try generalize xF 10 = yy10 at *
      obtain rfl := dd2
      obtain rfl := dd8
      obtain rfl := dd10
      obtain hbR := id hR
      rw [if_pos (by rfl)]
      go_simp
      (go_at_call 66; (with_reducible refine (HLS.out _).mono ?_); rintro e wK ⟨rfl, hbK⟩)
      try go_wp2_with fail
      exact hK.out _ _ (hbK) (rfl) (fun _ _ _ => ⟨trivial, trivial⟩)
     ·
      have dd2 := hd 2 (by kernel_rfl)
      have dd11 := hd 11 (by kernel_rfl)
      clear hd
      try generalize xF 2 = yy2 at *
      try generalize xF 11 = yy11 at *
      obtain rfl := dd2
      obtain rfl := dd11
      obtain hbR := id hR
      rw [if_pos (by rfl)]
      go_simp
      exact hK.out _ _ (Below.refl _ _) (rfl) (fun _ _ _ => ⟨trivial, trivial⟩)
     ·
      have dd2 := hd 2 (by kernel_rfl)
      have dd12 := hd 12 (by kernel_rfl)
      clear hd
      try generalize xF 2 = yy2 at *
      try generalize xF 12 = yy12 at *
      obtain rfl := dd2
      obtain rfl := dd12
      obtain hbR := id hR
      rw [if_pos (by rfl)]
      go_simp
      exact hK.out _ _ (Below.refl _ _) (rfl) (fun _ _ _ => ⟨trivial, trivial⟩)
     ·
      have dd13 := hd 13 (by kernel_rfl)
      clear hd
      try generalize xF 13 = yy13 at *
      obtain rfl := dd13
      obtain hbR := id hR
      rw [if_pos (by rfl)]
      go_simp
      exact hK.out _ _ (Below.refl _ _) (rfl) (fun _ _ _ => ⟨trivial, trivial⟩)
     ·
      have dd14 := hd 14 (by kernel_rfl)
      clear hd
      try generalize xF 14 = yy14 at *
      obtain rfl := dd14
      obtain hbR := id hR
      obtain ⟨x0, x1⟩ := XC.out _ hR
      rw [if_pos (by rfl)]
      go_simp
      exact hK.out _ _ (Below.refl _ _) (rfl) (fun _ _ _ => ⟨trivial, trivial⟩)
     ·
      have dd14 := hd 14 (by kernel_rfl)
      clear hd
      try generalize xF 14 = yy14 at *
      obtain rfl := dd14
      obtain hbR := id hR
      rw [if_pos (by rfl)]
      go_simp
      exact hK.out _ _ (Below.refl _ _) (rfl) (fun _ _ _ => ⟨trivial, trivial⟩)
     ·
      have dd14 := hd 14 (by kernel_rfl)
      have dd16 := hd 16 (by kernel_rfl)
      clear hd
      try generalize xF 14 = yy14 at *
      try generalize xF 16 = yy16 at *
      obtain rfl := dd14
      obtain rfl := dd16
      obtain hbR := id hR
      obtain ⟨e0, e1, e2, e3, e4⟩ := XE.out _ hR
      rw [if_pos (by rfl)]
      go_simp
      exact hK.out _ _ (Below.refl _ _) (rfl) (fun _ _ _ => ⟨trivial, trivial⟩)
     ·
      have dd14 := hd 14 (by kernel_rfl)
      have dd15 := hd 15 (by kernel_rfl)
      have dd17 := hd 17 (by kernel_rfl)
      clear hd
      try generalize xF 14 = yy14 at *
      try generalize xF 15 = yy15 at *
      try generalize xF 17 = yy17 at *
      obtain rfl := dd14
      obtain rfl := dd15
      obtain rfl := dd17
      obtain hbR := id hR
      rw [if_pos (by rfl)]
      go_simp
      (go_at_call 27; (with_reducible refine (HHS.out _ hR).mono ?_); rintro e wK ⟨rfl, hbK⟩)
      try go_wp2_with fail
      exact hK.out _ _ (hbK) (rfl) (fun _ _ _ => ⟨trivial, trivial⟩)
     ·
      have dd14 := hd 14 (by kernel_rfl)
      have dd18 := hd 18 (by kernel_rfl)
      clear hd
      try generalize xF 14 = yy14 at *
      try generalize xF 18 = yy18 at *
      obtain rfl := dd14
      obtain rfl := dd18
      obtain hbR := id hR
      rw [if_pos (by rfl)]
      go_simp
      exact hK.out _ _ (Below.refl _ _) (rfl) (fun _ _ _ => ⟨trivial, trivial⟩)
     ·
      have dd14 := hd 14 (by kernel_rfl)
      have dd19 := hd 19 (by kernel_rfl)
      clear hd
      try generalize xF 14 = yy14 at *
      try generalize xF 19 = yy19 at *
      obtain rfl := dd14
      obtain rfl := dd19
      obtain hbR := id hR
      rw [if_pos (by rfl)]
      go_simp
      exact hK.out _ _ (Below.refl _ _) (rfl) (fun _ _ _ => ⟨trivial, trivial⟩)
     ·
      have dd20 := hd 20 (by kernel_rfl)
      clear hd
      try generalize xF 20 = yy20 at *
      obtain rfl := dd20
      obtain hbR := id hR
      rw [if_pos (by rfl)]
      go_simp
      exact hK.out _ _ (Below.refl _ _) (rfl) (fun _ _ _ => ⟨trivial, trivial⟩)
     ·
      have dd21 := hd 21 (by kernel_rfl)
      clear hd
      try generalize xF 21 = yy21 at *
      obtain rfl := dd21
      obtain hbR := id hR
      obtain ⟨e0, e1, e2, e3, e4⟩ := XE.out _ hR
      rw [if_pos (by rfl)]
      go_simp
      exact hK.out _ _ (Below.refl _ _) (rfl) (fun _ _ _ => ⟨trivial, trivial⟩)
     ·
      have dd21 := hd 21 (by kernel_rfl)
      have dd22 := hd 22 (by kernel_rfl)
      clear hd
      try generalize xF 21 = yy21 at *
      try generalize xF 22 = yy22 at *
      obtain rfl := dd21
      obtain rfl := dd22
      obtain hbR := id hR
      rw [if_pos (by rfl)]
      go_simp
      (go_at_call 91; (with_reducible refine (HMY.out _ hR).mono ?_); rintro e wK ⟨rfl, hbK⟩)
      try go_wp2_with fail
      exact hK.out _ _ (hbK) (rfl) (fun _ _ _ => ⟨trivial, trivial⟩)
     ·
      have dd21 := hd 21 (by kernel_rfl)
      have dd23 := hd 23 (by kernel_rfl)
      clear hd
      try generalize xF 21 = yy21 at *
      try generalize xF 23 = yy23 at *
      obtain rfl := dd21
      obtain rfl := dd23
      obtain hbR := id hR
      rw [if_pos (by rfl)]
      go_simp
      exact hK.out _ _ (Below.refl _ _) (rfl) (fun _ _ _ => ⟨trivial, trivial⟩)
     ·
      have dd21 := hd 21 (by kernel_rfl)
      have dd24 := hd 24 (by kernel_rfl)
      clear hd
      try generalize xF 21 = yy21 at *
      try generalize xF 24 = yy24 at *
      obtain rfl := dd21
      obtain rfl := dd24
      obtain hbR := id hR
      rw [if_pos (by rfl)]
      go_simp
      exact hK.out _ _ (Below.refl _ _) (rfl) (fun _ _ _ => ⟨trivial, trivial⟩)
    intro xF wq hR hF hP
    clear hP
    have dd0 := hF 0 (by omega) (by decide)
    have dd1 := hF 1 (by omega) (by decide)
    have dd2 := hF 2 (by omega) (by decide)
    have dd3 := hF 3 (by omega) (by decide)
    have dd4 := hF 4 (by omega) (by decide)
    have dd5 := hF 5 (by omega) (by decide)
    have dd6 := hF 6 (by omega) (by decide)
    have dd7 := hF 7 (by omega) (by decide)
    have dd8 := hF 8 (by omega) (by decide)
    have dd9 := hF 9 (by omega) (by decide)
    have dd10 := hF 10 (by omega) (by decide)
    have dd11 := hF 11 (by omega) (by decide)
    have dd12 := hF 12 (by omega) (by decide)
    have dd13 := hF 13 (by omega) (by decide)
    have dd14 := hF 14 (by omega) (by decide)
    have dd15 := hF 15 (by omega) (by decide)
    have dd16 := hF 16 (by omega) (by decide)
    have dd17 := hF 17 (by omega) (by decide)
    have dd18 := hF 18 (by omega) (by decide)
    have dd19 := hF 19 (by omega) (by decide)
    have dd20 := hF 20 (by omega) (by decide)
    have dd21 := hF 21 (by omega) (by decide)
    have dd22 := hF 22 (by omega) (by decide)
    have dd23 := hF 23 (by omega) (by decide)
    have dd24 := hF 24 (by omega) (by decide)
    have dd25 := hF 25 (by omega) (by decide)
    clear hF
    simp only [take_succ_cons, take_zero, drop_succ_cons, drop_zero, fillOf, Act.put, setIfInBounds_toArray, set_cons_zero, set_cons_succ, Nat.reduceAdd, Nat.zero_add]
    try generalize xF 0 = yy0 at *
    try generalize xF 1 = yy1 at *
    try generalize xF 2 = yy2 at *
    try generalize xF 3 = yy3 at *
    try generalize xF 4 = yy4 at *
    try generalize xF 5 = yy5 at *
    try generalize xF 6 = yy6 at *
    try generalize xF 7 = yy7 at *
    try generalize xF 8 = yy8 at *
    try generalize xF 9 = yy9 at *
    try generalize xF 10 = yy10 at *
    try generalize xF 11 = yy11 at *
    try generalize xF 12 = yy12 at *
    try generalize xF 13 = yy13 at *
    try generalize xF 14 = yy14 at *
    try generalize xF 15 = yy15 at *
    try generalize xF 16 = yy16 at *
    try generalize xF 17 = yy17 at *
    try generalize xF 18 = yy18 at *
    try generalize xF 19 = yy19 at *
    try generalize xF 20 = yy20 at *
    try generalize xF 21 = yy21 at *
    try generalize xF 22 = yy22 at *
    try generalize xF 23 = yy23 at *
    try generalize xF 24 = yy24 at *
    try generalize xF 25 = yy25 at *
    clear xF
    obtain rfl := dd0
    obtain rfl := dd1
    obtain rfl := dd2
    obtain rfl := dd3
    obtain rfl := dd4
    obtain rfl := dd5
    obtain rfl := dd6
    obtain rfl := dd7
    obtain rfl := dd8
    obtain rfl := dd9
    obtain rfl := dd10
    obtain rfl := dd11
    obtain rfl := dd12
    obtain rfl := dd13
    obtain rfl := dd14
    obtain rfl := dd15
    obtain rfl := dd16
    obtain rfl := dd17
    obtain rfl := dd18
    obtain rfl := dd19
    obtain rfl := dd20
    obtain rfl := dd21
    obtain rfl := dd22
    obtain rfl := dd23
    obtain rfl := dd24
    obtain rfl := dd25
    have hRE := Lib.hid hR
    clear hR
    have HB2 := Lib.hid (HBW.out.trans (hRE.out.mono HBW.out.size))
    go_wp2
    go_roundw
    case rel => exact ⟨k + 1, by go_num, by omega, HB2⟩
    case measure => simp [intOf]; omega
  ·
   go_wp2
   go_ret
   exact ⟨rfl, HB0.out⟩
end Go.Proofs.YtonknpdalemjkaaGreat
namespace Go.Proofs.YtonknpdalemjkaaGreat
open Go Go.RowKit Go.ChangeShapes cl Go.WideMaps Go.Maps
def dval (d : Dot) : Value := .agg #[.int .i64 d.1, .int .i64 d.2]
def DWf (d : Dot) : Prop := (Lit.int .i64 d.1).wf = true ∧ (Lit.int .i64 d.2).wf = true
theorem dwf_valid {d : Dot} (h : valid d = true) : DWf d := by
 have := (dm.valid_iff d).1 h
 exact ⟨WalkArith.wf_i64 (by omega), WalkArith.wf_i64 (by omega)⟩
theorem dkeyed : Keyed Tryz.prog 51 := Keyed.of_law (deep_law_laid (P := Tryz.prog) (by kernel_rfl) (m := 2) (by omega) (of_decide_eq_true (by kernel_rfl)) (by kernel_rfl) (by kernel_rfl))
theorem dsize : ∃ m, Tryz.prog.types.size = m + 1 := ⟨Tryz.prog.types.size - 1, by
 have : 0 < Tryz.prog.types.size := of_decide_eq_true (by kernel_rfl)
 omega⟩
theorem dcell2 : Tryz.prog.cellsOf 51 = 2 := by kernel_rfl
theorem icell1 : Tryz.prog.cellsOf 3 = 1 := by kernel_rfl
theorem ilits {m : Nat} {a : Int} (h : (Lit.int .i64 a).wf = true) : Tryz.prog.keyLits (m + 1) 3 [.int .i64 a] = some [.int .i64 a] := by
 have hu := Tryz.underlying3
 unfold Program.keyLits
 simp [hu, h]
theorem dkey_some {d : Dot} (h : DWf d) : ∃ l, keyOf Tryz.prog 51 (dval d) = some l := by
 obtain ⟨h1, h2⟩ := h
 have hu := Tryz.underlying51
 have hk : Tryz.prog.keyType 51 = true := by kernel_rfl
 have hf : (dval d).formed Tryz.prog 51 = true := by simp [dval, Value.formed, hu, dcell2]
 obtain ⟨m, hm⟩ := dsize
 have hl : ∃ ls, Tryz.prog.keyLits (Tryz.prog.types.size + 1) 51 (dval d).cells.toList = some ls := by
  rw [hm]
  have hc : (dval d).cells.toList = [.int .i64 d.1, .int .i64 d.2] := rfl
  rw [hc]
  unfold Program.keyLits
  simp [hu, dcell2, icell1, ilits h1, ilits h2]
 obtain ⟨ls, hl⟩ := hl
 unfold keyOf
 rw [hu]
 simp only [hk, hf, hl]
 exact ⟨_, rfl⟩
noncomputable def dkey (d : Dot) : Lit := (keyOf Tryz.prog 51 (dval d)).getD (.bool true)
theorem dkey_of {d : Dot} (h : DWf d) : keyOf Tryz.prog 51 (dval d) = some (dkey d) := by
 obtain ⟨l, hl⟩ := dkey_some h
 unfold dkey
 rw [hl]; rfl
theorem dkey_ne {d e : Dot} (hd : DWf d) (he : DWf e) (h : d ≠ e) : dkey d ≠ dkey e := fun hx => h (by
 have h1 := dkey_of hd
 have h2 := dkey_of he
 rw [← hx] at h2
 have := dkeyed.inj h1 h2
 obtain ⟨a, b⟩ := d
 obtain ⟨c, f⟩ := e
 simp only [dval, Value.agg.injEq, Array.mk.injEq, List.cons.injEq, Value.int.injEq, true_and, and_true] at this
 exact Prod.ext this.1 this.2)
def HasD (D : DataW Unit) (l : List Dot) : Prop := ∀ d, DWf d → (Maps.has D (dkey d) = true ↔ d ∈ l)
theorem hasD_nil : HasD (.map []) [] := fun d _ => ⟨fun h => by simp [Maps.has] at h, fun h => by cases h⟩
set_option maxRecDepth 100000 in
theorem dkey_lit {d : Dot} (h : DWf d) : WideAt.IsKeyLit (dkey d) := by
 have h2 := dkey_of h
 generalize dkey d = k at h2 ⊢
 exact dkeyed.key h2
set_option maxRecDepth 100000 in
theorem hasD_put {D : DataW Unit} {l : List Dot} {x : Dot} (h : HasD D l) (hD : IsMap D) (hx : DWf x) (v : DataW Unit) : HasD (D.put (dkey x) v) (l ++ [x]) := by
 intro d hd
 by_cases e : d = x
 ·
  subst e
  have hk := dkey_lit hd
  generalize dkey d = k at hk ⊢
  exact ⟨fun _ => by simp, fun _ => has_put_same hD hk v⟩
 ·
  rw [has_put_other (dkey_ne hd hx e), h d hd]
  simp [e]
end Go.Proofs.YtonknpdalemjkaaGreat
