/- texts put together: OrsRd, OrsSort. -/
import Derived.Test.YtonknpdalemjkaaGreatDe09
import Derived.Test.YtonknpdalemjkaaGreatDe13
open List (setIfInBounds_toArray set_cons_zero set_cons_succ take_succ_cons take_zero drop_succ_cons drop_zero)
namespace Go.Proofs.YtonknpdalemjkaaGreat
open Go Go.RowKit Go.ChangeShapes cl Go.WideMaps Go.Maps
structure RDel (L : List Ent) (A : List Dot) (c : dm.Ctx) : Prop where
 set : RSet L c
 up : A.Pairwise fun a b => dless a b = true
 kn : ∀ d ∈ A, dm.Knows c d
 mem : ∀ x ∈ L, x.d ∈ A
theorem knows_valid {c : dm.Ctx} {d : Dot} (h : dm.Knows c d) : valid d = true := h.1
theorem up_atD {l : List Dot} (h : l.Pairwise fun a b => dless a b = true) {i : Nat} (hi : i + 1 < l.length) : dless (l.getD i (0, 0)) (l.getD (i + 1) (0, 0)) = true := by
 have := List.pairwise_iff_getElem.1 h i (i + 1) (by omega) hi (by omega)
 simpa [List.getD, hi, show i < l.length by omega] using this
theorem getD_memD {l : List Dot} {j : Nat} (hj : j < l.length) : l.getD j (0, 0) ∈ l := by
 rw [List.getD_eq_getElem?_getD, List.getElem?_eq_getElem hj]
 exact List.getElem_mem _
set_option maxHeartbeats 6400000 in
set_option maxRecDepth 100000 in
theorem rdelta_yes (L : List Ent) (A : List Dot) (c : dm.Ctx) (ue ua v1 v2 : Value) (w : World) (hu : Ents w w.heap.size ue L) (ha : Dots w w.heap.size ua A) (hc : CtxAt w w.heap.size (.agg #[v1, v2]) c) (hr : RDel L A c) (hA : A.length ≤ 100000) (hm : MX w) :
  Calls Tryz.prog 29 #[.agg #[ue, ua, v1, v2]] w (Said true w) := by
 obtain ⟨n, hn⟩ : ∃ n, n = L.length := ⟨_, rfl⟩
 have HN := Lib.hid hn
 obtain ⟨ao, cap, rfl, hnm⟩ : ∃ ao cap, ue = .slice ao n cap ∧ n ≤ 9223372036854775807 := by
  obtain ⟨ao, cap, e, _, h9⟩ := hu.form
  unfold maxLen at h9
  exact ⟨ao, cap, by rw [hn]; exact e, by rw [hn]; exact h9⟩
 obtain ⟨m, hmA⟩ : ∃ m, m = A.length := ⟨_, rfl⟩
 have HM := Lib.hid hmA
 obtain ⟨ad, dcap, rfl⟩ : ∃ ao cap, ua = .slice ao m cap := by
  obtain ⟨ao, cap, e, _⟩ := ha.form
  exact ⟨ao, cap, by rw [hmA]; exact e⟩
 have hm6 : m ≤ 100000 := by omega
 obtain ⟨a1, m1, c1, a2, m2, c2, e0, hm1, hm2⟩ := hc.form
 simp only [Value.agg.injEq, Array.mk.injEq, List.cons.injEq, and_true] at e0
 obtain ⟨rfl, rfl⟩ := e0
 obtain ⟨w0, hw0⟩ : ∃ W, W = w.alloc (.cells #[.slice ao n cap, .slice ad m dcap, .slice a1 m1 c1, .slice a2 m2 c2] 29) := ⟨_, rfl⟩
 have hb0 : Below w.heap.size w w0 := by rw [hw0]; exact below1
 have x0 : w0.heap[w.heap.size]? = some (.cells #[.slice ao n cap, .slice ad m dcap, .slice a1 m1 c1, .slice a2 m2 c2] 29) := by rw [hw0]; exact heap_alloc_new w _
 have HU := Lib.hid (Cells.next hu hb0)
 have HA := Lib.hid (Cells.next ha hb0)
 have HC := Lib.hid (hc.next hb0)
 have HR := Lib.hid hr
 have HMX := Lib.hid (MX.next hm hb0)
 have X0 := Lib.hid x0
 have HB0 := Lib.hid hb0
 have HW := Lib.hid hw0
 have HDR := Lib.hid (right_yes hr.set.right _ w0 (hc.next hb0))
 have HRE : Hid (∀ W, Below w0.heap.size w0 W → Calls Tryz.prog 65 #[.slice ao n cap, .agg #[.slice a1 m1 c1, .slice a2 m2 c2]] W (Said true W)) := fun W hW =>
  rents_yes L c _ _ W (Cells.next HU.out hW) (HC.out.next hW) HR.out.set (MX.next HMX.out hW)
 have HPL : Hid (∀ W, Below w0.heap.size w0 W → Calls Tryz.prog 55 #[.slice ad m dcap] W (PlacesP A W)) := fun W hW =>
  places_any A _ W (Cells.next HA.out hW) hA (fun d hd => knows_valid (HR.out.kn d hd))
 clear hu ha hc hr hm hb0 x0 hw0 hn hmA hm1 hm2 hA
 go_enter Tryz.func29, Tryz.ntmps29
 go_wp2_with fail
 rw [← HW.out]
 (with_reducible refine HDR.out.mono ?_)
 rintro e wa ⟨rfl, hba⟩
 have ya := (hba.block _ (lt_of_block X0.out)).trans X0.out
 have ya0 := boxc ya 0 _ rfl
 have ya1 := boxc ya 1 _ rfl
 have ya2 := boxc ya 2 _ rfl
 have ya3 := boxc ya 3 _ rfl
 have HRE2 := Lib.hid (HRE.out wa hba)
 have HBA := Lib.hid hba
 clear ya hba
 go_wp2_with fail
 (with_reducible refine HRE2.out.mono ?_)
 rintro e wb ⟨rfl, hbb⟩
 have HBB := Lib.hid (HBA.out.trans (hbb.mono HBA.out.size))
 have yb := (HBB.out.block _ (lt_of_block X0.out)).trans X0.out
 have yb0 := boxc yb 0 _ rfl
 have yb1 := boxc yb 1 _ rfl
 have yb2 := boxc yb 2 _ rfl
 have yb3 := boxc yb 3 _ rfl
 clear hbb yb HRE2 ya0 ya1 ya2 ya3
 go_wp2
 go_loopw [25] (fun i wr => ∃ (k : Nat), i = .int .i64 k ∧ k ≤ m ∧ Hid (Below w0.heap.size w0 wr)) (fun i _ => m - (intOf i).toNat)
 case atStart => exact ⟨0, rfl, by omega, HBB.out⟩
 case round =>
  obtain ⟨k, rfl, hk, HB⟩ := hrel
  clear yb0 yb1 yb2 yb3
  by_cases hlt : k < m
  ·
   have hkI : (k : Int) < (m : Int) := by omega
   obtain ⟨bb, off, rfl, hbB, p0, p1⟩ := Dots.get (Cells.next HA.out HB.out) HM.out hlt
   obtain ⟨x, hx⟩ : ∃ x, x = A.getD k (0, 0) := ⟨_, rfl⟩
   rw [← hx] at p0 p1
   have hxm : x ∈ A := by rw [hx]; exact getD_memD (by rw [← HM.out]; exact hlt)
   obtain ⟨q0, hq0⟩ : ∃ q, q = wr.heap.size := ⟨_, rfl⟩
   obtain ⟨W1, hW1⟩ : ∃ W1, W1 = wr.alloc (.cells #[.int .i64 x.1, .int .i64 x.2] 51) := ⟨_, rfl⟩
   have hb1 : Below wr.heap.size wr W1 := by rw [hW1]; exact below1
   have y1 : W1.heap[q0]? = some (.cells #[.int .i64 x.1, .int .i64 x.2] 51) := by rw [hW1, hq0]; exact heap_alloc_new wr _
   have hbW := HB.out.trans (hb1.mono HB.out.size)
   have hxW := (hbW.block _ (lt_of_block X0.out)).trans X0.out
   have XE : Hid (∀ ww, Below W1.heap.size W1 ww → ww.cell? ⟨q0, 0, none⟩ = some (.int .i64 x.1) ∧ ww.cell? ⟨q0, 1, none⟩ = some (.int .i64 x.2)) := fun ww hw => by
    have y := (hw.block _ (lt_of_block y1)).trans y1
    exact ⟨boxc y 0 _ rfl, boxc y 1 _ rfl⟩
   have XC : Hid (∀ ww, Below W1.heap.size W1 ww → ww.cell? ⟨w.heap.size, 0, none⟩ = some (.slice ao n cap) ∧ ww.cell? ⟨w.heap.size, 1, none⟩ = some (.slice (some ⟨bb, off, none⟩) m dcap) ∧ ww.cell? ⟨w.heap.size, 2, none⟩ = some (.slice a1 m1 c1) ∧ ww.cell? ⟨w.heap.size, 3, none⟩ = some (.slice a2 m2 c2)) := fun ww hw => by
    have y := (hw.block _ (lt_of_block hxW)).trans hxW
    exact ⟨boxc y 0 _ rfl, boxc y 1 _ rfl, boxc y 2 _ rfl, boxc y 3 _ rfl⟩
   have HHS : Hid (∀ ww, Below W1.heap.size W1 ww → Calls Tryz.prog 27 #[.agg #[.slice a1 m1 c1, .slice a2 m2 c2], .agg #[.int .i64 x.1, .int .i64 x.2]] ww (SaidD true ww)) := fun ww hw => by
    have := has_any c x _ ww (HC.out.next (hbW.trans (hw.mono hbW.size)))
    rwa [(dm.hasF_iff).2 (HR.out.kn x hxm)] at this
   have HBW := Lib.hid hbW
   clear hb1 y1 hbW hxW hxm
   by_cases hk0 : k = 0
   ·
    subst hk0
    clear hx
    rw [Nat.zero_mul, Nat.add_zero] at p0 p1
    go_wp2_with fail
    rw [← hq0, ← hW1]
    clear hq0 hW1 p0 p1
    refine wp_flow 20 (fun _ => 1000) (fun ww => RowKit.Below W1.heap.size W1 ww) (fun _ w w' => (fun (w w' : World) => RowKit.Below w.heap.size w w') w w') (fun kF vF wF => match kF with | 0 => (vF = .int .i64 ((0 : Nat) : Int)) | 1 => (vF = .bool false) | 2 => (vF = .bool false) | 3 => (vF = undef) | 4 => (vF = undef) | 5 => (vF = undef) | 6 => (vF = undef) | 7 => (vF = undef) | 8 => (vF = undef) | 9 => (vF = undef) | 10 => (vF = undef) | 11 => (vF = undef) | 12 => (vF = .bool false) | 13 => (vF = .bool false) | 14 => (vF = .pointer (some ⟨w.heap.size, 2, none⟩)) | 15 => (vF = .agg #[.slice a1 m1 c1, .slice a2 m2 c2]) | 16 => (vF = .agg #[.int .i64 x.1, .int .i64 x.2]) | 17 => (vF = .bool true) | 18 => (vF = .bool false) | 19 => (vF = .bool false) | _ => True) (fun _ _ _ _ => True) (by kernel_rfl) (by kernel_rfl) ?_ ?_ ?_ ?_ ?_
    ·
     exact (Below.refl _ _).drew
    ·
     intro iF wF1 wF2 hR hT; exact hR.trans (hT.mono hR.size)
    ·
     intro kF hkF iF hiF hne hdd hanc hdan vF wF1 wF2 h hT
     rcases (by omega : kF = 0 ∨ kF = 1 ∨ kF = 2 ∨ kF = 3 ∨ kF = 4 ∨ kF = 5 ∨ kF = 6 ∨ kF = 7 ∨ kF = 8 ∨ kF = 9 ∨ kF = 10 ∨ kF = 11 ∨ kF = 12 ∨ kF = 13 ∨ kF = 14 ∨ kF = 15 ∨ kF = 16 ∨ kF = 17 ∨ kF = 18 ∨ kF = 19) with rfl | rfl | rfl | rfl | rfl | rfl | rfl | rfl | rfl | rfl | rfl | rfl | rfl | rfl | rfl | rfl | rfl | rfl | rfl | rfl
     iterate 20 exact h
    ·
     generalize hAF : fillOf _ _ _ = AF
     replace hAF := fun x => congrFun hAF x
     simp only [take_succ_cons, take_zero, fillOf, Act.put, setIfInBounds_toArray, set_cons_zero, set_cons_succ, Nat.reduceAdd, Nat.zero_add] at hAF
     refine .cons ?_ (.cons ?_ (.cons ?_ (.cons ?_ (.cons ?_ (.cons ?_ (.cons ?_ (.cons ?_ (.cons ?_ (.cons ?_ (.cons ?_ (.cons ?_ (.cons ?_ (.cons ?_ (.cons ?_ (.cons ?_ (.cons ?_ (.cons ?_ (.cons ?_ (.cons ?_ (.nil))))))))))))))))))))
     all_goals
      intro xF wq hR hd K hK
      first | simp only [← hAF, Act.put, setIfInBounds_toArray, set_cons_zero, set_cons_succ] at hK ⊢ | simp only [← hAF, Act.put] at hK ⊢
      clear hAF
      try simp only [Nat.zero_add, Nat.reduceAdd] at hK ⊢
     ·
      clear hd
      obtain hbR := id hR
      rw [if_pos (by rfl)]
      go_simp
      exact hK.out _ _ (Below.refl _ _) (rfl) (fun _ _ _ => ⟨trivial, trivial⟩)
     ·
      have dd0 := hd 0 (by kernel_rfl)
      clear hd
      try generalize xF 0 = yy0 at *
      obtain rfl := dd0
      obtain hbR := id hR
      rw [if_pos (by rfl)]
      go_simp
      exact hK.out _ _ (Below.refl _ _) (rfl) (fun _ _ _ => ⟨trivial, trivial⟩)
     ·
      have dd1 := hd 1 (by kernel_rfl)
      clear hd
      try generalize xF 1 = yy1 at *
      obtain rfl := dd1
      obtain hbR := id hR
      rw [if_pos (by rfl)]
      go_simp
      exact hK.out _ _ (Below.refl _ _) (rfl) (fun _ _ _ => ⟨trivial, trivial⟩)
     ·
      have dd2 := hd 2 (by kernel_rfl)
      clear hd
      try generalize xF 2 = yy2 at *
      obtain rfl := dd2
      obtain hbR := id hR
      rw [if_neg (by intro h; exact absurd (show false = true from h) Bool.false_ne_true)]
      try simp only [Act.put, setIfInBounds_toArray, set_cons_zero, set_cons_succ]
      exact hK.out _ _ (Below.refl _ _) (rfl) (fun _ _ _ => ⟨trivial, trivial⟩)
     ·
      have dd2 := hd 2 (by kernel_rfl)
      clear hd
      try generalize xF 2 = yy2 at *
      obtain rfl := dd2
      obtain hbR := id hR
      rw [if_neg (by intro h; exact absurd (show false = true from h) Bool.false_ne_true)]
      try simp only [Act.put, setIfInBounds_toArray, set_cons_zero, set_cons_succ]
      exact hK.out _ _ (Below.refl _ _) (rfl) (fun _ _ _ => ⟨trivial, trivial⟩)
     ·
      have dd2 := hd 2 (by kernel_rfl)
      clear hd
      try generalize xF 2 = yy2 at *
      obtain rfl := dd2
      obtain hbR := id hR
      rw [if_neg (by intro h; exact absurd (show false = true from h) Bool.false_ne_true)]
      try simp only [Act.put, setIfInBounds_toArray, set_cons_zero, set_cons_succ]
      exact hK.out _ _ (Below.refl _ _) (rfl) (fun _ _ _ => ⟨trivial, trivial⟩)
     ·
      have dd2 := hd 2 (by kernel_rfl)
      clear hd
      try generalize xF 2 = yy2 at *
      obtain rfl := dd2
      obtain hbR := id hR
      rw [if_neg (by intro h; exact absurd (show false = true from h) Bool.false_ne_true)]
      try simp only [Act.put, setIfInBounds_toArray, set_cons_zero, set_cons_succ]
      exact hK.out _ _ (Below.refl _ _) (rfl) (fun _ _ _ => ⟨trivial, trivial⟩)
     ·
      have dd2 := hd 2 (by kernel_rfl)
      clear hd
      try generalize xF 2 = yy2 at *
      obtain rfl := dd2
      obtain hbR := id hR
      rw [if_neg (by intro h; exact absurd (show false = true from h) Bool.false_ne_true)]
      try simp only [Act.put, setIfInBounds_toArray, set_cons_zero, set_cons_succ]
      exact hK.out _ _ (Below.refl _ _) (rfl) (fun _ _ _ => ⟨trivial, trivial⟩)
     ·
      have dd2 := hd 2 (by kernel_rfl)
      clear hd
      try generalize xF 2 = yy2 at *
      obtain rfl := dd2
      obtain hbR := id hR
      rw [if_neg (by intro h; exact absurd (show false = true from h) Bool.false_ne_true)]
      try simp only [Act.put, setIfInBounds_toArray, set_cons_zero, set_cons_succ]
      exact hK.out _ _ (Below.refl _ _) (rfl) (fun _ _ _ => ⟨trivial, trivial⟩)
     ·
      have dd2 := hd 2 (by kernel_rfl)
      clear hd
      try generalize xF 2 = yy2 at *
      obtain rfl := dd2
      obtain hbR := id hR
      rw [if_neg (by intro h; exact absurd (show false = true from h) Bool.false_ne_true)]
      try simp only [Act.put, setIfInBounds_toArray, set_cons_zero, set_cons_succ]
      exact hK.out _ _ (Below.refl _ _) (rfl) (fun _ _ _ => ⟨trivial, trivial⟩)
     ·
      have dd2 := hd 2 (by kernel_rfl)
      clear hd
      try generalize xF 2 = yy2 at *
      obtain rfl := dd2
      obtain hbR := id hR
      rw [if_neg (by intro h; exact absurd (show false = true from h) Bool.false_ne_true)]
      try simp only [Act.put, setIfInBounds_toArray, set_cons_zero, set_cons_succ]
      exact hK.out _ _ (Below.refl _ _) (rfl) (fun _ _ _ => ⟨trivial, trivial⟩)
     ·
      have dd2 := hd 2 (by kernel_rfl)
      clear hd
      try generalize xF 2 = yy2 at *
      obtain rfl := dd2
      obtain hbR := id hR
      rw [if_neg (by intro h; exact absurd (show false = true from h) Bool.false_ne_true)]
      try simp only [Act.put, setIfInBounds_toArray, set_cons_zero, set_cons_succ]
      exact hK.out _ _ (Below.refl _ _) (rfl) (fun _ _ _ => ⟨trivial, trivial⟩)
     ·
      have dd2 := hd 2 (by kernel_rfl)
      have dd11 := hd 11 (by kernel_rfl)
      clear hd
      try generalize xF 2 = yy2 at *
      try generalize xF 11 = yy11 at *
      obtain rfl := dd2
      obtain rfl := dd11
      obtain hbR := id hR
      rw [if_pos (by rfl)]
      go_simp
      exact hK.out _ _ (Below.refl _ _) (rfl) (fun _ _ _ => ⟨trivial, trivial⟩)
     ·
      have dd12 := hd 12 (by kernel_rfl)
      clear hd
      try generalize xF 12 = yy12 at *
      obtain rfl := dd12
      obtain hbR := id hR
      rw [if_pos (by rfl)]
      go_simp
      exact hK.out _ _ (Below.refl _ _) (rfl) (fun _ _ _ => ⟨trivial, trivial⟩)
     ·
      have dd13 := hd 13 (by kernel_rfl)
      clear hd
      try generalize xF 13 = yy13 at *
      obtain rfl := dd13
      obtain hbR := id hR
      rw [if_pos (by rfl)]
      go_simp
      exact hK.out _ _ (Below.refl _ _) (rfl) (fun _ _ _ => ⟨trivial, trivial⟩)
     ·
      have dd13 := hd 13 (by kernel_rfl)
      have dd14 := hd 14 (by kernel_rfl)
      clear hd
      try generalize xF 13 = yy13 at *
      try generalize xF 14 = yy14 at *
      obtain rfl := dd13
      obtain rfl := dd14
      obtain hbR := id hR
      obtain ⟨x0, x1, x2, x3⟩ := XC.out _ hR
      rw [if_pos (by rfl)]
      go_simp
      exact hK.out _ _ (Below.refl _ _) (rfl) (fun _ _ _ => ⟨trivial, trivial⟩)
     ·
      have dd13 := hd 13 (by kernel_rfl)
      clear hd
      try generalize xF 13 = yy13 at *
      obtain rfl := dd13
      obtain hbR := id hR
      obtain ⟨e0, e1⟩ := XE.out _ hR
      rw [if_pos (by rfl)]
      go_simp
      exact hK.out _ _ (Below.refl _ _) (rfl) (fun _ _ _ => ⟨trivial, trivial⟩)
     ·
      have dd13 := hd 13 (by kernel_rfl)
      have dd15 := hd 15 (by kernel_rfl)
      have dd16 := hd 16 (by kernel_rfl)
      clear hd
      try generalize xF 13 = yy13 at *
      try generalize xF 15 = yy15 at *
      try generalize xF 16 = yy16 at *
      obtain rfl := dd13
      obtain rfl := dd15
      obtain rfl := dd16
      obtain hbR := id hR
      rw [if_pos (by rfl)]
      go_simp
      (go_at_call 27; (with_reducible refine (HHS.out _ hR).mono ?_); rintro e wK ⟨rfl, hbK⟩)
      try go_wp2_with fail
      exact hK.out _ _ (hbK) (rfl) (fun _ _ _ => ⟨trivial, trivial⟩)
     ·
      have dd13 := hd 13 (by kernel_rfl)
      have dd17 := hd 17 (by kernel_rfl)
      clear hd
      try generalize xF 13 = yy13 at *
      try generalize xF 17 = yy17 at *
      obtain rfl := dd13
      obtain rfl := dd17
      obtain hbR := id hR
      rw [if_pos (by rfl)]
      go_simp
      exact hK.out _ _ (Below.refl _ _) (rfl) (fun _ _ _ => ⟨trivial, trivial⟩)
     ·
      have dd13 := hd 13 (by kernel_rfl)
      have dd18 := hd 18 (by kernel_rfl)
      clear hd
      try generalize xF 13 = yy13 at *
      try generalize xF 18 = yy18 at *
      obtain rfl := dd13
      obtain rfl := dd18
      obtain hbR := id hR
      rw [if_pos (by rfl)]
      go_simp
      exact hK.out _ _ (Below.refl _ _) (rfl) (fun _ _ _ => ⟨trivial, trivial⟩)
    intro xF wq hR hF hP
    clear hP
    have dd0 := hF 0 (by omega) (by decide)
    have dd1 := hF 1 (by omega) (by decide)
    have dd2 := hF 2 (by omega) (by decide)
    have dd3 := hF 3 (by omega) (by decide)
    have dd4 := hF 4 (by omega) (by decide)
    have dd5 := hF 5 (by omega) (by decide)
    have dd6 := hF 6 (by omega) (by decide)
    have dd7 := hF 7 (by omega) (by decide)
    have dd8 := hF 8 (by omega) (by decide)
    have dd9 := hF 9 (by omega) (by decide)
    have dd10 := hF 10 (by omega) (by decide)
    have dd11 := hF 11 (by omega) (by decide)
    have dd12 := hF 12 (by omega) (by decide)
    have dd13 := hF 13 (by omega) (by decide)
    have dd14 := hF 14 (by omega) (by decide)
    have dd15 := hF 15 (by omega) (by decide)
    have dd16 := hF 16 (by omega) (by decide)
    have dd17 := hF 17 (by omega) (by decide)
    have dd18 := hF 18 (by omega) (by decide)
    have dd19 := hF 19 (by omega) (by decide)
    clear hF
    simp only [take_succ_cons, take_zero, drop_succ_cons, drop_zero, fillOf, Act.put, setIfInBounds_toArray, set_cons_zero, set_cons_succ, Nat.reduceAdd, Nat.zero_add]
    try generalize xF 0 = yy0 at *
    try generalize xF 1 = yy1 at *
    try generalize xF 2 = yy2 at *
    try generalize xF 3 = yy3 at *
    try generalize xF 4 = yy4 at *
    try generalize xF 5 = yy5 at *
    try generalize xF 6 = yy6 at *
    try generalize xF 7 = yy7 at *
    try generalize xF 8 = yy8 at *
    try generalize xF 9 = yy9 at *
    try generalize xF 10 = yy10 at *
    try generalize xF 11 = yy11 at *
    try generalize xF 12 = yy12 at *
    try generalize xF 13 = yy13 at *
    try generalize xF 14 = yy14 at *
    try generalize xF 15 = yy15 at *
    try generalize xF 16 = yy16 at *
    try generalize xF 17 = yy17 at *
    try generalize xF 18 = yy18 at *
    try generalize xF 19 = yy19 at *
    clear xF
    obtain rfl := dd0
    obtain rfl := dd1
    obtain rfl := dd2
    obtain rfl := dd3
    obtain rfl := dd4
    obtain rfl := dd5
    obtain rfl := dd6
    obtain rfl := dd7
    obtain rfl := dd8
    obtain rfl := dd9
    obtain rfl := dd10
    obtain rfl := dd11
    obtain rfl := dd12
    obtain rfl := dd13
    obtain rfl := dd14
    obtain rfl := dd15
    obtain rfl := dd16
    obtain rfl := dd17
    obtain rfl := dd18
    obtain rfl := dd19
    have hRE := Lib.hid hR
    clear hR
    have HB2 := Lib.hid (HBW.out.trans (hRE.out.mono HBW.out.size))
    go_wp2
    go_roundw
    case rel => exact ⟨0 + 1, by go_num, by omega, HB2⟩
    case measure => simp [intOf]; omega
   ·
    obtain ⟨i, hki⟩ : ∃ i, k = i + 1 := ⟨k - 1, by omega⟩
    obtain ⟨y, hy⟩ : ∃ y, y = A.getD i (0, 0) := ⟨_, rfl⟩
    have hxy : dless y x = true := by
     rw [hx, hy, hki]; exact up_atD HR.out.up (by rw [← HM.out, ← hki]; exact hlt)
    have hw1 : IntKind.i64.wrap ((k : Int) - 1) = (i : Int) := by rw [hki]; push_cast; rw [Int.add_sub_cancel]; exact IntWalk.i64_in _ (by omega)
    have hiI : (i : Int) < (m : Int) := by omega
    have hi0 : (0 : Int) ≤ (i : Int) := by omega
    have hkp : (0 : Int) < (k : Int) := by omega
    have hkd : decide (0 < k) = true := decide_eq_true (by omega)
    have HLS : Hid (∀ ww, Calls Tryz.prog 66 #[.agg #[.int .i64 y.1, .int .i64 y.2], .agg #[.int .i64 x.1, .int .i64 x.2]] ww (SaidD true ww)) := fun ww => by
     have := less_any y x ww
     rwa [hxy] at this
    obtain ⟨bb', off', e', _, r1, r2⟩ := Dots.get (Cells.next HA.out HBW.out) HM.out (show i < m by omega)
    simp only [Option.some.injEq, Addr.mk.injEq, and_true] at e'
    obtain ⟨rfl, rfl⟩ := e'
    rw [← hy] at r1 r2
    have XY : Hid (∀ ww, Below W1.heap.size W1 ww → ww.cell? ⟨bb, off + i * 2, none⟩ = some (.int .i64 y.1) ∧ ww.cell? ⟨bb, off + i * 2 + 1, none⟩ = some (.int .i64 y.2)) := fun ww hw =>
     ⟨(hw.cell (p := ⟨bb, off + i * 2, none⟩) (World.block_lt_of_cell? _ _ r1)).trans r1, (hw.cell (p := ⟨bb, off + i * 2 + 1, none⟩) (World.block_lt_of_cell? _ _ r2)).trans r2⟩
    have HKI := Lib.hid hki
    clear hx hy hxy r1 r2 hki
    go_wp2_with fail
    rw [← hq0, ← hW1]
    clear hq0 hW1 p0 p1
    refine wp_flow 20 (fun _ => 1000) (fun ww => RowKit.Below W1.heap.size W1 ww) (fun _ w w' => (fun (w w' : World) => RowKit.Below w.heap.size w w') w w') (fun kF vF wF => match kF with | 0 => (vF = .int .i64 (k : Int)) | 1 => (vF = .bool true) | 2 => (vF = .bool true) | 3 => (vF = .pointer (some ⟨w.heap.size, 1, none⟩)) | 4 => (vF = .slice (some ⟨bb, off, none⟩) m dcap) | 5 => (vF = .int .i64 (k : Int)) | 6 => (vF = .int .i64 (i : Int)) | 7 => (vF = .pointer (some ⟨bb, off + i * 2, none⟩)) | 8 => (vF = .agg #[.int .i64 y.1, .int .i64 y.2]) | 9 => (vF = .agg #[.int .i64 x.1, .int .i64 x.2]) | 10 => (vF = .bool true) | 11 => (vF = .bool false) | 12 => (vF = .bool false) | 13 => (vF = .bool false) | 14 => (vF = .pointer (some ⟨w.heap.size, 2, none⟩)) | 15 => (vF = .agg #[.slice a1 m1 c1, .slice a2 m2 c2]) | 16 => (vF = .agg #[.int .i64 x.1, .int .i64 x.2]) | 17 => (vF = .bool true) | 18 => (vF = .bool false) | 19 => (vF = .bool false) | _ => True) (fun _ _ _ _ => True) (by kernel_rfl) (by kernel_rfl) ?_ ?_ ?_ ?_ ?_
    ·
     exact (Below.refl _ _).drew
    ·
     intro iF wF1 wF2 hR hT; exact hR.trans (hT.mono hR.size)
    ·
     intro kF hkF iF hiF hne hdd hanc hdan vF wF1 wF2 h hT
     rcases (by omega : kF = 0 ∨ kF = 1 ∨ kF = 2 ∨ kF = 3 ∨ kF = 4 ∨ kF = 5 ∨ kF = 6 ∨ kF = 7 ∨ kF = 8 ∨ kF = 9 ∨ kF = 10 ∨ kF = 11 ∨ kF = 12 ∨ kF = 13 ∨ kF = 14 ∨ kF = 15 ∨ kF = 16 ∨ kF = 17 ∨ kF = 18 ∨ kF = 19) with rfl | rfl | rfl | rfl | rfl | rfl | rfl | rfl | rfl | rfl | rfl | rfl | rfl | rfl | rfl | rfl | rfl | rfl | rfl | rfl
     iterate 20 exact h
    ·
     generalize hAF : fillOf _ _ _ = AF
     replace hAF := fun x => congrFun hAF x
     simp only [take_succ_cons, take_zero, fillOf, Act.put, setIfInBounds_toArray, set_cons_zero, set_cons_succ, Nat.reduceAdd, Nat.zero_add] at hAF
     refine .cons ?_ (.cons ?_ (.cons ?_ (.cons ?_ (.cons ?_ (.cons ?_ (.cons ?_ (.cons ?_ (.cons ?_ (.cons ?_ (.cons ?_ (.cons ?_ (.cons ?_ (.cons ?_ (.cons ?_ (.cons ?_ (.cons ?_ (.cons ?_ (.cons ?_ (.cons ?_ (.nil))))))))))))))))))))
     all_goals
      intro xF wq hR hd K hK
      first | simp only [← hAF, Act.put, setIfInBounds_toArray, set_cons_zero, set_cons_succ] at hK ⊢ | simp only [← hAF, Act.put] at hK ⊢
      clear hAF
      try simp only [Nat.zero_add, Nat.reduceAdd] at hK ⊢
     ·
      clear hd
      obtain hbR := id hR
      rw [if_pos (by rfl)]
      go_simp
      exact hK.out _ _ (Below.refl _ _) (rfl) (fun _ _ _ => ⟨trivial, trivial⟩)
     ·
      have dd0 := hd 0 (by kernel_rfl)
      clear hd
      try generalize xF 0 = yy0 at *
      obtain rfl := dd0
      obtain hbR := id hR
      rw [if_pos (by rfl)]
      go_simp
      exact hK.out _ _ (Below.refl _ _) (rfl) (fun _ _ _ => ⟨trivial, trivial⟩)
     ·
      have dd1 := hd 1 (by kernel_rfl)
      clear hd
      try generalize xF 1 = yy1 at *
      obtain rfl := dd1
      obtain hbR := id hR
      rw [if_pos (by rfl)]
      go_simp
      exact hK.out _ _ (Below.refl _ _) (rfl) (fun _ _ _ => ⟨trivial, trivial⟩)
     ·
      have dd2 := hd 2 (by kernel_rfl)
      clear hd
      try generalize xF 2 = yy2 at *
      obtain rfl := dd2
      obtain hbR := id hR
      rw [if_pos (by rfl)]
      go_simp
      exact hK.out _ _ (Below.refl _ _) (rfl) (fun _ _ _ => ⟨trivial, trivial⟩)
     ·
      have dd2 := hd 2 (by kernel_rfl)
      have dd3 := hd 3 (by kernel_rfl)
      clear hd
      try generalize xF 2 = yy2 at *
      try generalize xF 3 = yy3 at *
      obtain rfl := dd2
      obtain rfl := dd3
      obtain hbR := id hR
      obtain ⟨x0, x1, x2, x3⟩ := XC.out _ hR
      rw [if_pos (by rfl)]
      go_simp
      exact hK.out _ _ (Below.refl _ _) (rfl) (fun _ _ _ => ⟨trivial, trivial⟩)
     ·
      have dd2 := hd 2 (by kernel_rfl)
      clear hd
      try generalize xF 2 = yy2 at *
      obtain rfl := dd2
      obtain hbR := id hR
      rw [if_pos (by rfl)]
      go_simp
      exact hK.out _ _ (Below.refl _ _) (rfl) (fun _ _ _ => ⟨trivial, trivial⟩)
     ·
      have dd2 := hd 2 (by kernel_rfl)
      have dd5 := hd 5 (by kernel_rfl)
      clear hd
      try generalize xF 2 = yy2 at *
      try generalize xF 5 = yy5 at *
      obtain rfl := dd2
      obtain rfl := dd5
      obtain hbR := id hR
      rw [if_pos (by rfl)]
      go_simp
      exact hK.out _ _ (Below.refl _ _) (rfl) (fun _ _ _ => ⟨trivial, trivial⟩)
     ·
      have dd2 := hd 2 (by kernel_rfl)
      have dd4 := hd 4 (by kernel_rfl)
      have dd6 := hd 6 (by kernel_rfl)
      clear hd
      try generalize xF 2 = yy2 at *
      try generalize xF 4 = yy4 at *
      try generalize xF 6 = yy6 at *
      obtain rfl := dd2
      obtain rfl := dd4
      obtain rfl := dd6
      obtain hbR := id hR
      rw [if_pos (by rfl)]
      go_simp
      exact hK.out _ _ (Below.refl _ _) (rfl) (fun _ _ _ => ⟨trivial, trivial⟩)
     ·
      have dd2 := hd 2 (by kernel_rfl)
      have dd7 := hd 7 (by kernel_rfl)
      clear hd
      try generalize xF 2 = yy2 at *
      try generalize xF 7 = yy7 at *
      obtain rfl := dd2
      obtain rfl := dd7
      obtain hbR := id hR
      obtain ⟨y1, y2⟩ := XY.out _ hR
      rw [if_pos (by rfl)]
      go_simp
      exact hK.out _ _ (Below.refl _ _) (rfl) (fun _ _ _ => ⟨trivial, trivial⟩)
     ·
      have dd2 := hd 2 (by kernel_rfl)
      clear hd
      try generalize xF 2 = yy2 at *
      obtain rfl := dd2
      obtain hbR := id hR
      obtain ⟨e0, e1⟩ := XE.out _ hR
      rw [if_pos (by rfl)]
      go_simp
      exact hK.out _ _ (Below.refl _ _) (rfl) (fun _ _ _ => ⟨trivial, trivial⟩)
     ·
      have dd2 := hd 2 (by kernel_rfl)
      have dd8 := hd 8 (by kernel_rfl)
      have dd9 := hd 9 (by kernel_rfl)
      clear hd
      try generalize xF 2 = yy2 at *
      try generalize xF 8 = yy8 at *
      try generalize xF 9 = yy9 at *
      obtain rfl := dd2
      obtain rfl := dd8
      obtain rfl := dd9
      obtain hbR := id hR
      rw [if_pos (by rfl)]
      go_simp
      (go_at_call 66; (with_reducible refine (HLS.out _).mono ?_); rintro e wK ⟨rfl, hbK⟩)
      try go_wp2_with fail
      exact hK.out _ _ (hbK) (rfl) (fun _ _ _ => ⟨trivial, trivial⟩)
     ·
      have dd2 := hd 2 (by kernel_rfl)
      have dd10 := hd 10 (by kernel_rfl)
      clear hd
      try generalize xF 2 = yy2 at *
      try generalize xF 10 = yy10 at *
      obtain rfl := dd2
      obtain rfl := dd10
      obtain hbR := id hR
      rw [if_pos (by rfl)]
      go_simp
      exact hK.out _ _ (Below.refl _ _) (rfl) (fun _ _ _ => ⟨trivial, trivial⟩)
     ·
      have dd2 := hd 2 (by kernel_rfl)
      have dd11 := hd 11 (by kernel_rfl)
      clear hd
      try generalize xF 2 = yy2 at *
      try generalize xF 11 = yy11 at *
      obtain rfl := dd2
      obtain rfl := dd11
      obtain hbR := id hR
      rw [if_pos (by rfl)]
      go_simp
      exact hK.out _ _ (Below.refl _ _) (rfl) (fun _ _ _ => ⟨trivial, trivial⟩)
     ·
      have dd12 := hd 12 (by kernel_rfl)
      clear hd
      try generalize xF 12 = yy12 at *
      obtain rfl := dd12
      obtain hbR := id hR
      rw [if_pos (by rfl)]
      go_simp
      exact hK.out _ _ (Below.refl _ _) (rfl) (fun _ _ _ => ⟨trivial, trivial⟩)
     ·
      have dd13 := hd 13 (by kernel_rfl)
      clear hd
      try generalize xF 13 = yy13 at *
      obtain rfl := dd13
      obtain hbR := id hR
      rw [if_pos (by rfl)]
      go_simp
      exact hK.out _ _ (Below.refl _ _) (rfl) (fun _ _ _ => ⟨trivial, trivial⟩)
     ·
      have dd13 := hd 13 (by kernel_rfl)
      have dd14 := hd 14 (by kernel_rfl)
      clear hd
      try generalize xF 13 = yy13 at *
      try generalize xF 14 = yy14 at *
      obtain rfl := dd13
      obtain rfl := dd14
      obtain hbR := id hR
      obtain ⟨x0, x1, x2, x3⟩ := XC.out _ hR
      rw [if_pos (by rfl)]
      go_simp
      exact hK.out _ _ (Below.refl _ _) (rfl) (fun _ _ _ => ⟨trivial, trivial⟩)
     ·
      have dd13 := hd 13 (by kernel_rfl)
      clear hd
      try generalize xF 13 = yy13 at *
      obtain rfl := dd13
      obtain hbR := id hR
      obtain ⟨e0, e1⟩ := XE.out _ hR
      rw [if_pos (by rfl)]
      go_simp
      exact hK.out _ _ (Below.refl _ _) (rfl) (fun _ _ _ => ⟨trivial, trivial⟩)
     ·
      have dd13 := hd 13 (by kernel_rfl)
      have dd15 := hd 15 (by kernel_rfl)
      have dd16 := hd 16 (by kernel_rfl)
      clear hd
      try generalize xF 13 = yy13 at *
      try generalize xF 15 = yy15 at *
      try generalize xF 16 = yy16 at *
      obtain rfl := dd13
      obtain rfl := dd15
      obtain rfl := dd16
      obtain hbR := id hR
      rw [if_pos (by rfl)]
      go_simp
      (go_at_call 27; (with_reducible refine (HHS.out _ hR).mono ?_); rintro e wK ⟨rfl, hbK⟩)
      try go_wp2_with fail
      exact hK.out _ _ (hbK) (rfl) (fun _ _ _ => ⟨trivial, trivial⟩)
     ·
      have dd13 := hd 13 (by kernel_rfl)
      have dd17 := hd 17 (by kernel_rfl)
      clear hd
      try generalize xF 13 = yy13 at *
      try generalize xF 17 = yy17 at *
      obtain rfl := dd13
      obtain rfl := dd17
      obtain hbR := id hR
      rw [if_pos (by rfl)]
      go_simp
      exact hK.out _ _ (Below.refl _ _) (rfl) (fun _ _ _ => ⟨trivial, trivial⟩)
     ·
      have dd13 := hd 13 (by kernel_rfl)
      have dd18 := hd 18 (by kernel_rfl)
      clear hd
      try generalize xF 13 = yy13 at *
      try generalize xF 18 = yy18 at *
      obtain rfl := dd13
      obtain rfl := dd18
      obtain hbR := id hR
      rw [if_pos (by rfl)]
      go_simp
      exact hK.out _ _ (Below.refl _ _) (rfl) (fun _ _ _ => ⟨trivial, trivial⟩)
    intro xF wq hR hF hP
    clear hP
    have dd0 := hF 0 (by omega) (by decide)
    have dd1 := hF 1 (by omega) (by decide)
    have dd2 := hF 2 (by omega) (by decide)
    have dd3 := hF 3 (by omega) (by decide)
    have dd4 := hF 4 (by omega) (by decide)
    have dd5 := hF 5 (by omega) (by decide)
    have dd6 := hF 6 (by omega) (by decide)
    have dd7 := hF 7 (by omega) (by decide)
    have dd8 := hF 8 (by omega) (by decide)
    have dd9 := hF 9 (by omega) (by decide)
    have dd10 := hF 10 (by omega) (by decide)
    have dd11 := hF 11 (by omega) (by decide)
    have dd12 := hF 12 (by omega) (by decide)
    have dd13 := hF 13 (by omega) (by decide)
    have dd14 := hF 14 (by omega) (by decide)
    have dd15 := hF 15 (by omega) (by decide)
    have dd16 := hF 16 (by omega) (by decide)
    have dd17 := hF 17 (by omega) (by decide)
    have dd18 := hF 18 (by omega) (by decide)
    have dd19 := hF 19 (by omega) (by decide)
    clear hF
    simp only [take_succ_cons, take_zero, drop_succ_cons, drop_zero, fillOf, Act.put, setIfInBounds_toArray, set_cons_zero, set_cons_succ, Nat.reduceAdd, Nat.zero_add]
    try generalize xF 0 = yy0 at *
    try generalize xF 1 = yy1 at *
    try generalize xF 2 = yy2 at *
    try generalize xF 3 = yy3 at *
    try generalize xF 4 = yy4 at *
    try generalize xF 5 = yy5 at *
    try generalize xF 6 = yy6 at *
    try generalize xF 7 = yy7 at *
    try generalize xF 8 = yy8 at *
    try generalize xF 9 = yy9 at *
    try generalize xF 10 = yy10 at *
    try generalize xF 11 = yy11 at *
    try generalize xF 12 = yy12 at *
    try generalize xF 13 = yy13 at *
    try generalize xF 14 = yy14 at *
    try generalize xF 15 = yy15 at *
    try generalize xF 16 = yy16 at *
    try generalize xF 17 = yy17 at *
    try generalize xF 18 = yy18 at *
    try generalize xF 19 = yy19 at *
    clear xF
    obtain rfl := dd0
    obtain rfl := dd1
    obtain rfl := dd2
    obtain rfl := dd3
    obtain rfl := dd4
    obtain rfl := dd5
    obtain rfl := dd6
    obtain rfl := dd7
    obtain rfl := dd8
    obtain rfl := dd9
    obtain rfl := dd10
    obtain rfl := dd11
    obtain rfl := dd12
    obtain rfl := dd13
    obtain rfl := dd14
    obtain rfl := dd15
    obtain rfl := dd16
    obtain rfl := dd17
    obtain rfl := dd18
    obtain rfl := dd19
    have hRE := Lib.hid hR
    clear hR
    have HB2 := Lib.hid (HBW.out.trans (hRE.out.mono HBW.out.size))
    go_wp2
    go_roundw
    case rel => exact ⟨k + 1, by go_num, by omega, HB2⟩
    case measure => simp [intOf]; omega
  ·
   have y2 := (HB.out.block _ (lt_of_block X0.out)).trans X0.out
   have y20 := boxc y2 0 _ rfl
   have y21 := boxc y2 1 _ rfl
   have HPL2 := Lib.hid (HPL.out wr HB.out)
   clear y2
   go_wp2_with fail
   (with_reducible refine HPL2.out.mono ?_)
   rintro e wc ⟨mb, rfl, ⟨D, hD, hO, hmb⟩, hbc⟩
   have HD := Lib.hid hD
   have HO := Lib.hid hO
   have HBC := Lib.hid (HB.out.trans (hbc.mono HB.out.size))
   have y2 := (HBC.out.block _ (lt_of_block X0.out)).trans X0.out
   have y20 := boxc y2 0 _ rfl
   clear hD hO hmb hbc y2 HPL2 y21
   go_wp2
   go_loopw [57] (fun i wx => ∃ (j : Nat), i = .int .i64 j ∧ j ≤ n ∧ Hid (Below wc.heap.size wc wx)) (fun i _ => n - (intOf i).toNat)
   case atStart => exact ⟨0, rfl, by omega, Below.refl _ _⟩
   case round =>
    rename World => wx
    obtain ⟨j, rfl, hj, HBX⟩ := hrel
    have HB3 := Lib.hid (HBC.out.trans (HBX.out.mono HBC.out.size))
    by_cases hlt : j < n
    ·
     have hjI : (j : Int) < (n : Int) := by omega
     obtain ⟨bb, off, rfl, hbB, p0, p1, p2, p3, p4⟩ := Ents.get (Cells.next HU.out HB3.out) HN.out hlt
     obtain ⟨x, hx⟩ : ∃ x, x = L.getD j default := ⟨_, rfl⟩
     rw [← hx] at p0 p1 p2 p3
     have hxm : x ∈ L := by rw [hx]; exact getD_memE (by rw [← HN.out]; exact hlt)
     have hxv := (HR.out.set.fine x hxm).ok
     have HKEY : Hid (keyOf Tryz.prog 51 (.agg #[.int .i64 x.d.1, .int .i64 x.d.2]) = some (dkey x.d)) := dkey_of (dwf_valid hxv)
     have HHS : Hid (Maps.has D (dkey x.d) = true) := (HD.out x.d (dwf_valid hxv)).2 (HR.out.mem x hxm)
     have hb1 : Below wx.heap.size wx (wx.alloc (.cells #[.string x.s, .int .i64 x.d.1, .int .i64 x.d.2, .int .i64 x.t, .slice none 0 0] 54)) := below1
     have HOW := Lib.hid (own_map_keep HO.out (HBX.out.trans (hb1.mono HBX.out.size)))
     have HB4 := Lib.hid (HBX.out.trans (hb1.mono HBX.out.size))
     clear hx hxm hxv hb1
     go_wp2_with (at_lookup; refine look_ok rfl _ _ 81 rfl 51 3 .i64 dkeyed Tryz.underlying81 Tryz.underlying3 (zeroI _) mb A.length D rfl HOW.out _ _ rfl HKEY.out true HHS.out ?_; intro cv)
     go_roundw
     case rel => exact ⟨j + 1, by go_num, by omega, HB4⟩
     case measure => simp [intOf]; omega
    ·
     have HRR : Hid (Said true w (.returned (.bool true)) wx) := ⟨rfl, HB0.out.trans (HB3.out.mono HB0.out.size)⟩
     go_wp2
     go_ret
     exact HRR.out
end Go.Proofs.YtonknpdalemjkaaGreat
namespace Go.Proofs.YtonknpdalemjkaaGreat
open Go Go.RowKit Go.ChangeShapes cl Go.Sort Go.Shelf
def Lays (w w' : World) : Prop := ∃ q os, w' = grow (w.drewN q) os
theorem drewN_add (w : World) (p q : Nat) : (w.drewN p).drewN q = w.drewN (p + q) := by
 induction q with
 | zero => rfl
 | succ q ih =>
  have h1 : (w.drewN p).drewN (q + 1) = ((w.drewN p).drewN q).drew := rfl
  rw [h1, ih]; rfl
theorem Lays.trans {w w1 w2 : World} (h : Lays w w1) (h2 : Lays w1 w2) : Lays w w2 := by
 obtain ⟨p, os, rfl⟩ := h
 obtain ⟨q, os', rfl⟩ := h2
 refine ⟨p + q, os ++ os', ?_⟩
 show grow (grow ((w.drewN p).drewN q) os) os' = _
 rw [grow_grow, drewN_add]
theorem Lays.alloc (w : World) (o : Obj) : Lays w (w.alloc o) := ⟨0, #[o], alloc_eq_grow w o⟩
theorem Lays.below {w w' : World} (h : Lays w w') : Below w.heap.size w w' := by
 obtain ⟨q, os, rfl⟩ := h
 exact below_grow w q os
set_option maxHeartbeats 800000 in
set_option maxRecDepth 100000 in
theorem less_lays (x y : Dot) (w : World) : Calls Tryz.prog 66 #[.agg #[.int .i64 x.1, .int .i64 x.2], .agg #[.int .i64 y.1, .int .i64 y.2]] w fun e w' => e = .returned (.bool (dless x y)) ∧ Lays w w' := by
 obtain ⟨a, b⟩ := x
 obtain ⟨c, d⟩ := y
 have HL : Hid (Lays w ((w.alloc (.cells #[.int .i64 a, .int .i64 b] 51)).alloc (.cells #[.int .i64 c, .int .i64 d] 51))) := (Lays.alloc _ _).trans (Lays.alloc _ _)
 have HC : Hid (∀ W, Calls Tryz.prog 98 #[.agg #[.int .i64 a, .int .i64 b], .agg #[.int .i64 c, .int .i64 d]] W fun e w' => e = .returned (.int .i64 (cf (a, b) (c, d))) ∧ Lays W w') := fun W => compare_any cc (a, b) (c, d) W
 have hd : dless (a, b) (c, d) = decide (cf (a, b) (c, d) < 0) := by
  have := cf_neg (a, b) (c, d)
  by_cases h : cf (a, b) (c, d) < 0
  ·
   rw [decide_eq_true h]; exact this.1 h
  ·
   rw [decide_eq_false h]
   cases h2 : dless (a, b) (c, d) with
   | false => rfl
   | true => exact absurd (this.2 h2) h
 rw [hd]
 clear hd
 generalize cf (a, b) (c, d) = r at HC ⊢
 go_enter Tryz.func66, Tryz.ntmps66
 go_wp2_with fail
 (with_reducible refine (HC.out _).mono ?_)
 rintro e w1 ⟨rfl, l1⟩
 have HL1 := Lib.hid (HL.out.trans l1)
 go_wp2
 go_ret
 exact ⟨rfl, HL1.out⟩
def cfE (x y : Ent) : Int := if dless x.d y.d then -1 else if dless y.d x.d then 1 else 0
theorem ltOf_cfE (x y : Ent) : ltOf cfE x y = dless x.d y.d := by
 unfold ltOf cfE
 cases h : dless x.d y.d
 ·
  cases h2 : dless y.d x.d <;> simp
 ·
  simp
theorem swoE : SWO (ltOf cfE) where
 irrefl x := by rw [ltOf_cfE]; have := swo.irrefl x.d; rwa [ltOf_cf] at this
 trans x y z h1 h2 := by
  rw [ltOf_cfE] at *
  have := swo.trans x.d y.d z.d
  rw [ltOf_cf, ltOf_cf, ltOf_cf] at this
  exact this h1 h2
 ntrans x y z h1 h2 := by
  rw [ltOf_cfE] at *
  have := swo.ntrans x.d y.d z.d
  rw [ltOf_cf, ltOf_cf, ltOf_cf] at this
  exact this h1 h2
set_option maxHeartbeats 1600000 in
set_option maxRecDepth 100000 in
theorem byd1_any (x y : Ent) (w : World) : Calls Tryz.prog 96 #[.agg #[.string x.s, .int .i64 x.d.1, .int .i64 x.d.2, .int .i64 x.t, .slice none 0 0], .agg #[.string y.s, .int .i64 y.d.1, .int .i64 y.d.2, .int .i64 y.t, .slice none 0 0]] w fun e w' => e = .returned (.int .i64 (cfE x y)) ∧ Lays w w' := by
 obtain ⟨w2, hw2⟩ : ∃ W, W = (w.alloc (.cells #[.string x.s, .int .i64 x.d.1, .int .i64 x.d.2, .int .i64 x.t, .slice none 0 0] 54)).alloc (.cells #[.string y.s, .int .i64 y.d.1, .int .i64 y.d.2, .int .i64 y.t, .slice none 0 0] 54) := ⟨_, rfl⟩
 have L2 : Lays w w2 := by rw [hw2]; exact (Lays.alloc _ _).trans (Lays.alloc _ _)
 have x1 : w2.heap[w.heap.size]? = some (.cells #[.string x.s, .int .i64 x.d.1, .int .i64 x.d.2, .int .i64 x.t, .slice none 0 0] 54) := by
  rw [hw2]
  exact (below1.block _ (by simp)).trans (heap_alloc_new w _)
 have x2 : w2.heap[w.heap.size + 1]? = some (.cells #[.string y.s, .int .i64 y.d.1, .int .i64 y.d.2, .int .i64 y.t, .slice none 0 0] 54) := by
  have := heap_alloc_new (w.alloc (.cells #[.string x.s, .int .i64 x.d.1, .int .i64 x.d.2, .int .i64 x.t, .slice none 0 0] 54)) (.cells #[.string y.s, .int .i64 y.d.1, .int .i64 y.d.2, .int .i64 y.t, .slice none 0 0] 54)
  rw [World.size_alloc] at this
  rw [hw2]; exact this
 have HL1 : Hid (∀ W, Calls Tryz.prog 66 #[.agg #[.int .i64 x.d.1, .int .i64 x.d.2], .agg #[.int .i64 y.d.1, .int .i64 y.d.2]] W fun e w' => e = .returned (.bool (dless x.d y.d)) ∧ Lays W w') := fun W => less_lays x.d y.d W
 have HL2 : Hid (∀ W, Calls Tryz.prog 66 #[.agg #[.int .i64 y.d.1, .int .i64 y.d.2], .agg #[.int .i64 x.d.1, .int .i64 x.d.2]] W fun e w' => e = .returned (.bool (dless y.d x.d)) ∧ Lays W w') := fun W => less_lays y.d x.d W
 have HLW := Lib.hid L2
 have X1 := Lib.hid x1
 have X2 := Lib.hid x2
 have HW := Lib.hid hw2
 clear L2 x1 x2 hw2
 unfold cfE
 cases h1 : dless x.d y.d
 ·
  rw [h1] at HL1
  cases h2 : dless y.d x.d
  all_goals
   rw [h2] at HL2
   clear h1 h2
   go_enter Tryz.func96, Tryz.ntmps96
   go_wp2_with fail
   rw [← HW.out]
   (with_reducible refine (HL1.out _).mono ?_)
   rintro e w3 ⟨rfl, l3⟩
   have y1 := (l3.below.block _ (lt_of_block X1.out)).trans X1.out
   have y2 := (l3.below.block _ (lt_of_block X2.out)).trans X2.out
   have a1 := boxc y1 1 _ rfl
   have a2 := boxc y1 2 _ rfl
   have b1 := boxc y2 1 _ rfl
   have b2 := boxc y2 2 _ rfl
   have HL3 := Lib.hid (HLW.out.trans l3)
   clear y1 y2 l3
   go_wp2_with fail
   (with_reducible refine (HL2.out _).mono ?_)
   rintro e w4 ⟨rfl, l4⟩
   have HL4 := Lib.hid (HL3.out.trans l4)
   clear l4
   go_wp2
   go_ret
   exact ⟨rfl, HL4.out⟩
 ·
  rw [h1] at HL1
  clear h1 HL2
  go_enter Tryz.func96, Tryz.ntmps96
  go_wp2_with fail
  rw [← HW.out]
  (with_reducible refine (HL1.out _).mono ?_)
  rintro e w3 ⟨rfl, l3⟩
  have HL3 := Lib.hid (HLW.out.trans l3)
  clear l3
  go_wp2
  go_ret
  exact ⟨rfl, HL3.out⟩
def ESortA (B q : Nat) (v : Value) (L : List Ent) (w : World) (e : Ending) (w' : World) : Prop :=
 e = .returned (.tuple #[]) ∧ ∃ L' : List Ent, L'.Perm L ∧ L'.Pairwise (fun a b => dless b.d a.d = false) ∧ w'.ownsRow B 54 5 v q (ecells L') ∧ w.grownBy w' v.ownBlock
theorem eneedLays (blk off size : Nat) (w : World) : CmpLays Tryz.prog 96 #[] ecell 5 cfE blk off size w :=
 fun _ _ _ _ x y => byd1_any x y _
theorem esort_all (v : Value) (q B : Nat) (L : List Ent) (w : World) (hown : w.ownsRow B 54 5 v q (ecells L)) (hq : q = L.length) (hB : B ≤ w.heap.size) (hlen : q < 4611686018427387904) :
  Calls Tryz.prog 95 #[v, .func (.func 96) #[] #[]] w (ESortA B q v L w) := by
 subst hq
 rcases hown.2 with ⟨rfl, hq0⟩ | ⟨g, cap, cur, rfl, _⟩
 ·
  have hcon := AnyF.slices_SortFunc_none Tryz.sortEnt none 0 (.func (.func 96) #[] #[]) w
  change Calls Tryz.prog 95 _ _ _ at hcon
  refine hcon.mono ?_
  rintro e w' ⟨rfl, rfl⟩
  obtain rfl : L = [] := List.eq_nil_of_length_eq_zero hq0
  exact ⟨rfl, [], List.Perm.refl _, List.Pairwise.nil, hown, ⟨rfl, rfl, rfl, Nat.le_refl _, fun _ _ _ => rfl⟩⟩
 ·
  have hown' : w.ownsRow B 54 5 (.slice (some ⟨g, 0, none⟩) L.length cap) L.length (L.flatMap ecell) := hown
  obtain ⟨hH, hg, _, hafter⟩ := kit.sort_own (enc := ecell) (fun _ => rfl) (by decide) hown' rfl hB
  have eg : ∀ args w, (callFunc 96 args).run Tryz.prog w = .ok (.enter 96 args) w := enters_of Tryz.func96 (by kernel_rfl) rfl
  have hcon := AnyQ.slices_SortFunc Tryz.sortEnt 5 (fun w => Tryz.isAgg54 w) (fun w => Tryz.sizeOf54 w) ecell (fun _ => rfl) (fun x v hv => by simp [ecell] at hv; rcases hv with rfl | rfl | rfl | rfl | rfl <;> rfl) cfE swoE 96 #[] g 0 cap L.toArray w eg (eneedLays g 0 L.toArray.size w) hH hg (by simpa using hlen)
  change Calls Tryz.prog 95 _ _ _ at hcon
  rw [List.size_toArray] at hcon
  refine hcon.mono ?_
  rintro e w' ⟨rfl, d', n, os, hp, hs, rfl⟩
  obtain ⟨h1, _, h2⟩ := hp
  have hsz : d'.size = L.length := by rw [h1]; simp
  obtain ⟨o1, _⟩ := hafter d' n os hsz
  refine ⟨rfl, d'.toList, ?_, ?_, o1, sort_grown⟩
  ·
   have e1 : (d'.extract 0 L.length) = d' := by rw [← hsz]; simp
   have e2 : (L.toArray.extract 0 L.length).toList = L := by simp
   rw [e1, e2] at h2
   exact h2
  ·
   rw [List.pairwise_iff_getElem]
   intro i j hi hj hij
   have hi' : i < d'.size := by simpa using hi
   have hj' : j < d'.size := by simpa using hj
   have h3 := hs i j (Nat.zero_le _) hij (by rw [← hsz]; exact hj')
   rw [ltOf_cfE, getElem!_pos d' j hj', getElem!_pos d' i hi'] at h3
   rw [Array.getElem_toList, Array.getElem_toList]
   exact h3
theorem sorted_up {L L' : List Ent} (hp : L'.Perm L) (hs : L'.Pairwise (fun a b => dless b.d a.d = false)) (hn : (L.map Ent.d).Nodup) : os.Up L' := by
 have hn' : (L'.map Ent.d).Nodup := (hp.map Ent.d).nodup_iff.2 hn
 have hn2 : L'.Pairwise fun a b => a.d ≠ b.d := List.pairwise_map.1 hn'
 refine (hs.and hn2).imp fun {a b} ⟨h1, h2⟩ => ?_
 cases h : dless a.d b.d
 ·
  have h3 : ¬ (a.d.1 < b.d.1 ∨ a.d.1 = b.d.1 ∧ a.d.2 < b.d.2) := fun e => by rw [(dm.dless_iff _ _).2 e] at h; cases h
  have h4 : ¬ (b.d.1 < a.d.1 ∨ b.d.1 = a.d.1 ∧ b.d.2 < a.d.2) := fun e => by rw [(dm.dless_iff _ _).2 e] at h1; cases h1
  exact absurd (Prod.ext (by omega) (by omega)) h2
 ·
  rfl
set_option maxHeartbeats 800000 in
set_option maxRecDepth 100000 in
theorem byd_any (v : Value) (q B : Nat) (L : List Ent) (w : World) (hown : w.ownsRow B 54 5 v q (ecells L)) (hq : q = L.length) (hB : B ≤ w.heap.size) (hlen : q < 100000) (hn : (L.map Ent.d).Nodup) :
  Calls Tryz.prog 58 #[v] w fun e w' => e = .returned (.tuple #[]) ∧ ∃ L' : List Ent, L'.Perm L ∧ os.Up L' ∧ w'.ownsRow B 54 5 v q (ecells L') ∧ w.grownBy w' v.ownBlock := by
 have HC := Lib.hid (esort_all v q B L w hown hq hB (by omega))
 have HN := Lib.hid hn
 clear hown hn
 go_enter Tryz.func58, Tryz.ntmps58
 go_wp2_with fail
 (with_reducible refine HC.out.mono ?_)
 rintro e w1 ⟨rfl, L', hp, hs, ho, hg⟩
 have HP : Hid (∃ L' : List Ent, L'.Perm L ∧ os.Up L' ∧ w1.ownsRow B 54 5 v q (ecells L') ∧ w.grownBy w1 v.ownBlock) := ⟨L', hp, sorted_up hp hs HN.out, ho, hg⟩
 clear hp hs ho hg
 go_wp2
 go_end0
 exact ⟨rfl, HP.out⟩
end Go.Proofs.YtonknpdalemjkaaGreat
