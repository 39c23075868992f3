/- texts put together: MdJd. -/
import Derived.Test.YthmnaemcpcdinaaGreatJu10
open List (setIfInBounds_toArray set_cons_zero set_cons_succ take_succ_cons take_zero drop_succ_cons drop_zero)
namespace Go.Proofs.YthmnaemcpcdinaaGreat
open Go Go.RowKit Go.ChangeShapes cl Go.Sort
set_option maxHeartbeats 3200000 in
set_option maxRecDepth 100000 in
theorem judge_yes (g : Nat) (s : ByteArray) (d : Dot) (t : Int) (s0 : ByteArray) (d0 : Dot) (t0 : Int) (la : Option Addr) (ln lc : Nat) (w : World)
  (hA : ∀ i u, (#[.int .i64 1, .string s, .int .i64 d.1, .int .i64 d.2, .int .i64 t, .slice none 0 0, .slice none 0 0, .int .i64 0, .bool false] : Array Value)[i]? = some u → w.cell? ⟨g, i, none⟩ = some u) (hB : ∀ i u, (#[.int .i64 3, .string s0, .int .i64 d0.1, .int .i64 d0.2, .int .i64 t0, .slice none 0 0, .slice la ln lc, .int .i64 0, .bool true] : Array Value)[i]? = some u → w.cell? ⟨g, 9 + i, none⟩ = some u)
  (hd : ∀ W, Below w.heap.size w W → Calls Tryz.prog 21 #[.slice (some ⟨g, 0, none⟩) 2 2] W (Said true W))
  (hr : ∀ W, Below w.heap.size w W → Calls Tryz.prog 22 #[.slice (some ⟨g, 0, none⟩) 1 2, .agg #[.int .i64 3, .string s0, .int .i64 d0.1, .int .i64 d0.2, .int .i64 t0, .slice none 0 0, .slice la ln lc, .int .i64 0, .bool true]] W (Said true W)) :
  Calls Tryz.prog 9 #[.slice (some ⟨g, 0, none⟩) 2 2] w fun e w' => e = .returned (.tuple #[.int .i64 2, .bool true]) ∧ Below w.heap.size w w' := by
 have hg : g < w.heap.size := World.block_lt_of_cell? _ _ (hA 0 _ rfl)
 have HGA : Hid (∀ W, Below w.heap.size w W → ∀ i u, (#[.int .i64 1, .string s, .int .i64 d.1, .int .i64 d.2, .int .i64 t, .slice none 0 0, .slice none 0 0, .int .i64 0, .bool false] : Array Value)[i]? = some u → W.cell? ⟨g, i, none⟩ = some u) := fun W hW i u hu => (hW.cell (p := ⟨g, i, none⟩) hg).trans (hA i u hu)
 have HGB : Hid (∀ W, Below w.heap.size w W → ∀ i u, (#[.int .i64 3, .string s0, .int .i64 d0.1, .int .i64 d0.2, .int .i64 t0, .slice none 0 0, .slice la ln lc, .int .i64 0, .bool true] : Array Value)[i]? = some u → W.cell? ⟨g, 9 + i, none⟩ = some u) := fun W hW i u hu => (hW.cell (p := ⟨g, 9 + i, none⟩) hg).trans (hB i u hu)
 have HRT := Lib.hid hr
 obtain ⟨w1, hw1⟩ : ∃ W, W = w.alloc (.cells #[.slice (some ⟨g, 0, none⟩) 2 2] 22) := ⟨_, rfl⟩
 have HB1 : Hid (Below w.heap.size w w1) := by show Below _ _ _; rw [hw1]; exact below1
 have x1 : w1.heap[w.heap.size]? = some (.cells #[.slice (some ⟨g, 0, none⟩) 2 2] 22) := by rw [hw1]; exact heap_alloc_new w _
 have HK1 : Hid (w1.cell? ⟨w.heap.size, 0, none⟩ = some (.slice (some ⟨g, 0, none⟩) 2 2)) := boxc x1 0 _ rfl
 have HZ1 : Hid (w.heap.size < w1.heap.size) := lt_of_block x1
 have HS := Lib.hid (search_two w.heap.size g w1 HK1.out (hd w1 HB1.out))
 have HW1 := Lib.hid hw1
 clear hA hB hd hr x1 hw1
 go_enter Tryz.func9, Tryz.ntmps9
 go_wp2_with fail
 rw [← HW1.out]
 (with_reducible refine HS.out.mono ?_)
 rintro e w2 ⟨rfl, hb2⟩
 have D2 := Lib.hid hb2
 have k0 := (hb2.cell (p := ⟨w.heap.size, 0, none⟩) HZ1.out).trans HK1.out
 clear hb2
 go_wp2
 refine wp_loop_rounds 3 ?_
 rw [rounds_succ]
 obtain ⟨W3, hW3⟩ : ∃ W, W = w2.alloc (.cells #[.int .i64 1, .string s, .int .i64 d.1, .int .i64 d.2, .int .i64 t, .slice none 0 0, .slice none 0 0, .int .i64 0, .bool false] 29) := ⟨_, rfl⟩
 have bW3 : Below w2.heap.size w2 W3 := by rw [hW3]; exact below1
 have YW3 : Hid (W3.heap[w2.heap.size]? = some (.cells #[.int .i64 1, .string s, .int .i64 d.1, .int .i64 d.2, .int .i64 t, .slice none 0 0, .slice none 0 0, .int .i64 0, .bool false] 29)) := by show _ = _; rw [hW3]; exact heap_alloc_new w2 _
 have DW3 : Hid (Below w1.heap.size w1 W3) := D2.out.trans (bW3.mono D2.out.size)
 have HKW3 : Hid (W3.cell? ⟨w.heap.size, 0, none⟩ = some (.slice (some ⟨g, 0, none⟩) 2 2)) := (DW3.out.cell (p := ⟨w.heap.size, 0, none⟩) HZ1.out).trans HK1.out
 have HZW3 : Hid (w.heap.size < W3.heap.size) := Nat.lt_of_lt_of_le HZ1.out DW3.out.size
 have HWW3 := Lib.hid hW3
 clear bW3 hW3
 have p0 := HGA.out w2 (HB1.out.trans (D2.out.mono HB1.out.size)) 0 _ rfl
 have p1 := HGA.out w2 (HB1.out.trans (D2.out.mono HB1.out.size)) 1 _ rfl
 have p2 := HGA.out w2 (HB1.out.trans (D2.out.mono HB1.out.size)) 2 _ rfl
 have p3 := HGA.out w2 (HB1.out.trans (D2.out.mono HB1.out.size)) 3 _ rfl
 have p4 := HGA.out w2 (HB1.out.trans (D2.out.mono HB1.out.size)) 4 _ rfl
 have p5 := HGA.out w2 (HB1.out.trans (D2.out.mono HB1.out.size)) 5 _ rfl
 have p6 := HGA.out w2 (HB1.out.trans (D2.out.mono HB1.out.size)) 6 _ rfl
 have p7 := HGA.out w2 (HB1.out.trans (D2.out.mono HB1.out.size)) 7 _ rfl
 have p8 := HGA.out w2 (HB1.out.trans (D2.out.mono HB1.out.size)) 8 _ rfl
 go_wp2_with fail
 rw [← HWW3.out]
 clear p0 p1 p2 p3 p4 p5 p6 p7 p8 k0
 refine wp_flow 11 (fun _ => 1000) (fun ww => RowKit.Below W3.heap.size W3 ww) (fun _ w w' => (fun (w w' : World) => RowKit.Below w.heap.size w w') w w') (fun kF vF wF => match kF with | 0 => (vF = .int .i64 0) | 1 => (vF = .int .i64 2) | 2 => (vF = .bool false) | 3 => (vF = .bool false) | 4 => (vF = .slice (some ⟨g, 0, none⟩) 2 2) | 5 => (vF = .int .i64 0) | 6 => (vF = .slice (some ⟨g, 0, none⟩) 0 2) | 7 => (vF = .agg #[.int .i64 1, .string s, .int .i64 d.1, .int .i64 d.2, .int .i64 t, .slice none 0 0, .slice none 0 0, .int .i64 0, .bool false]) | 8 => (vF = .bool true) | 9 => (vF = .bool false) | 10 => (vF = .bool false) | _ => True) (fun _ _ _ _ => True) (by kernel_rfl) (by kernel_rfl) ?_ ?_ ?_ ?_ ?_
 ·
  exact (Below.refl _ _).drew
 ·
  intro iF wF1 wF2 hR hT; exact hR.trans (hT.mono hR.size)
 ·
  intro kF hkF iF hiF hne hdd hanc hdan vF wF1 wF2 h hT
  rcases (by omega : kF = 0 ∨ kF = 1 ∨ kF = 2 ∨ kF = 3 ∨ kF = 4 ∨ kF = 5 ∨ kF = 6 ∨ kF = 7 ∨ kF = 8 ∨ kF = 9 ∨ kF = 10) with rfl | rfl | rfl | rfl | rfl | rfl | rfl | rfl | rfl | rfl | rfl
  iterate 11 exact h
 ·
  generalize hAF : fillOf _ _ _ = AF
  replace hAF := fun x => congrFun hAF x
  simp only [take_succ_cons, take_zero, fillOf, Act.put, setIfInBounds_toArray, set_cons_zero, set_cons_succ, Nat.reduceAdd, Nat.zero_add] at hAF
  refine .cons ?_ (.cons ?_ (.cons ?_ (.cons ?_ (.cons ?_ (.cons ?_ (.cons ?_ (.cons ?_ (.cons ?_ (.cons ?_ (.cons ?_ (.nil)))))))))))
  all_goals
   intro xF ww1 hR hd K hK
   first | simp only [← hAF, Act.put, setIfInBounds_toArray, set_cons_zero, set_cons_succ] at hK ⊢ | simp only [← hAF, Act.put] at hK ⊢
   clear hAF
   try simp only [Nat.zero_add, Nat.reduceAdd] at hK ⊢
  ·
   clear hd
   obtain hbl := id hR
   rw [if_pos (by rfl)]
   go_simp
   exact hK.out _ _ (Below.refl _ _) (rfl) (fun _ _ _ => ⟨trivial, trivial⟩)
  ·
   clear hd
   obtain hbl := id hR
   rw [if_pos (by rfl)]
   go_simp
   exact hK.out _ _ (Below.refl _ _) (rfl) (fun _ _ _ => ⟨trivial, trivial⟩)
  ·
   have dd0 := hd 0 (by kernel_rfl)
   have dd1 := hd 1 (by kernel_rfl)
   clear hd
   try generalize xF 0 = yy0 at *
   try generalize xF 1 = yy1 at *
   obtain rfl := dd0
   obtain rfl := dd1
   obtain hbl := id hR
   rw [if_pos (by rfl)]
   go_simp
   exact hK.out _ _ (Below.refl _ _) (rfl) (fun _ _ _ => ⟨trivial, trivial⟩)
  ·
   have dd2 := hd 2 (by kernel_rfl)
   clear hd
   try generalize xF 2 = yy2 at *
   obtain rfl := dd2
   obtain hbl := id hR
   rw [if_pos (by rfl)]
   go_simp
   exact hK.out _ _ (Below.refl _ _) (rfl) (fun _ _ _ => ⟨trivial, trivial⟩)
  ·
   have dd3 := hd 3 (by kernel_rfl)
   clear hd
   try generalize xF 3 = yy3 at *
   obtain rfl := dd3
   obtain hbl := id hR
   have kb := (hR.cell (p := ⟨w.heap.size, 0, none⟩) HZW3.out).trans HKW3.out
   rw [if_pos (by rfl)]
   go_simp
   exact hK.out _ _ (Below.refl _ _) (rfl) (fun _ _ _ => ⟨trivial, trivial⟩)
  ·
   have dd3 := hd 3 (by kernel_rfl)
   clear hd
   try generalize xF 3 = yy3 at *
   obtain rfl := dd3
   obtain hbl := id hR
   rw [if_pos (by rfl)]
   go_simp
   exact hK.out _ _ (Below.refl _ _) (rfl) (fun _ _ _ => ⟨trivial, trivial⟩)
  ·
   have dd3 := hd 3 (by kernel_rfl)
   have dd4 := hd 4 (by kernel_rfl)
   have dd5 := hd 5 (by kernel_rfl)
   clear hd
   try generalize xF 3 = yy3 at *
   try generalize xF 4 = yy4 at *
   try generalize xF 5 = yy5 at *
   obtain rfl := dd3
   obtain rfl := dd4
   obtain rfl := dd5
   obtain hbl := id hR
   rw [if_pos (by rfl)]
   go_simp
   exact hK.out _ _ (Below.refl _ _) (rfl) (fun _ _ _ => ⟨trivial, trivial⟩)
  ·
   have dd3 := hd 3 (by kernel_rfl)
   clear hd
   try generalize xF 3 = yy3 at *
   obtain rfl := dd3
   obtain hbl := id hR
   have yy := (hR.block _ (lt_of_block YW3.out)).trans YW3.out
   have q0 := boxc yy 0 _ rfl
   have q1 := boxc yy 1 _ rfl
   have q2 := boxc yy 2 _ rfl
   have q3 := boxc yy 3 _ rfl
   have q4 := boxc yy 4 _ rfl
   have q5 := boxc yy 5 _ rfl
   have q6 := boxc yy 6 _ rfl
   have q7 := boxc yy 7 _ rfl
   have q8 := boxc yy 8 _ rfl
   rw [if_pos (by rfl)]
   go_simp
   exact hK.out _ _ (Below.refl _ _) (rfl) (fun _ _ _ => ⟨trivial, trivial⟩)
  ·
   have dd3 := hd 3 (by kernel_rfl)
   have dd6 := hd 6 (by kernel_rfl)
   have dd7 := hd 7 (by kernel_rfl)
   clear hd
   try generalize xF 3 = yy3 at *
   try generalize xF 6 = yy6 at *
   try generalize xF 7 = yy7 at *
   obtain rfl := dd3
   obtain rfl := dd6
   obtain rfl := dd7
   obtain hbl := id hR
   rw [if_pos (by rfl)]
   go_simp
   (go_at_call 22; (with_reducible refine (right_add _ s d t 0 none none 0 0 0 0 false _).mono ?_); rintro e wK ⟨rfl, hbK⟩)
   try go_wp2_with fail
   exact hK.out _ _ (hbK) (rfl) (fun _ _ _ => ⟨trivial, trivial⟩)
  ·
   have dd3 := hd 3 (by kernel_rfl)
   have dd8 := hd 8 (by kernel_rfl)
   clear hd
   try generalize xF 3 = yy3 at *
   try generalize xF 8 = yy8 at *
   obtain rfl := dd3
   obtain rfl := dd8
   obtain hbl := id hR
   rw [if_pos (by rfl)]
   go_simp
   exact hK.out _ _ (Below.refl _ _) (rfl) (fun _ _ _ => ⟨trivial, trivial⟩)
  ·
   have dd3 := hd 3 (by kernel_rfl)
   have dd9 := hd 9 (by kernel_rfl)
   clear hd
   try generalize xF 3 = yy3 at *
   try generalize xF 9 = yy9 at *
   obtain rfl := dd3
   obtain rfl := dd9
   obtain hbl := id hR
   rw [if_pos (by rfl)]
   go_simp
   exact hK.out _ _ (Below.refl _ _) (rfl) (fun _ _ _ => ⟨trivial, trivial⟩)
 intro xF ww1 hR hF hP
 clear hP
 have dd0 := hF 0 (by omega) (by decide)
 have dd1 := hF 1 (by omega) (by decide)
 have dd2 := hF 2 (by omega) (by decide)
 have dd3 := hF 3 (by omega) (by decide)
 have dd4 := hF 4 (by omega) (by decide)
 have dd5 := hF 5 (by omega) (by decide)
 have dd6 := hF 6 (by omega) (by decide)
 have dd7 := hF 7 (by omega) (by decide)
 have dd8 := hF 8 (by omega) (by decide)
 have dd9 := hF 9 (by omega) (by decide)
 have dd10 := hF 10 (by omega) (by decide)
 clear hF
 simp only [take_succ_cons, take_zero, drop_succ_cons, drop_zero, fillOf, Act.put, setIfInBounds_toArray, set_cons_zero, set_cons_succ, Nat.reduceAdd, Nat.zero_add]
 try generalize xF 0 = yy0 at *
 try generalize xF 1 = yy1 at *
 try generalize xF 2 = yy2 at *
 try generalize xF 3 = yy3 at *
 try generalize xF 4 = yy4 at *
 try generalize xF 5 = yy5 at *
 try generalize xF 6 = yy6 at *
 try generalize xF 7 = yy7 at *
 try generalize xF 8 = yy8 at *
 try generalize xF 9 = yy9 at *
 try generalize xF 10 = yy10 at *
 clear xF
 obtain rfl := dd0
 obtain rfl := dd1
 obtain rfl := dd2
 obtain rfl := dd3
 obtain rfl := dd4
 obtain rfl := dd5
 obtain rfl := dd6
 obtain rfl := dd7
 obtain rfl := dd8
 obtain rfl := dd9
 obtain rfl := dd10
 have hRE1 := Lib.hid hR
 clear hR
 have D5 : Hid (Below w1.heap.size w1 ww1) := DW3.out.trans (hRE1.out.mono DW3.out.size)
 go_wp2
 rw [rounds_succ]
 obtain ⟨W4, hW4⟩ : ∃ W, W = ww1.alloc (.cells #[.int .i64 3, .string s0, .int .i64 d0.1, .int .i64 d0.2, .int .i64 t0, .slice none 0 0, .slice la ln lc, .int .i64 0, .bool true] 29) := ⟨_, rfl⟩
 have bW4 : Below ww1.heap.size ww1 W4 := by rw [hW4]; exact below1
 have YW4 : Hid (W4.heap[ww1.heap.size]? = some (.cells #[.int .i64 3, .string s0, .int .i64 d0.1, .int .i64 d0.2, .int .i64 t0, .slice none 0 0, .slice la ln lc, .int .i64 0, .bool true] 29)) := by show _ = _; rw [hW4]; exact heap_alloc_new ww1 _
 have DW4 : Hid (Below w1.heap.size w1 W4) := D5.out.trans (bW4.mono D5.out.size)
 have HKW4 : Hid (W4.cell? ⟨w.heap.size, 0, none⟩ = some (.slice (some ⟨g, 0, none⟩) 2 2)) := (DW4.out.cell (p := ⟨w.heap.size, 0, none⟩) HZ1.out).trans HK1.out
 have HZW4 : Hid (w.heap.size < W4.heap.size) := Nat.lt_of_lt_of_le HZ1.out DW4.out.size
 have HWW4 := Lib.hid hW4
 clear bW4 hW4
 have p0 := HGB.out ww1 (HB1.out.trans (D5.out.mono HB1.out.size)) 0 _ rfl
 have p1 := HGB.out ww1 (HB1.out.trans (D5.out.mono HB1.out.size)) 1 _ rfl
 have p2 := HGB.out ww1 (HB1.out.trans (D5.out.mono HB1.out.size)) 2 _ rfl
 have p3 := HGB.out ww1 (HB1.out.trans (D5.out.mono HB1.out.size)) 3 _ rfl
 have p4 := HGB.out ww1 (HB1.out.trans (D5.out.mono HB1.out.size)) 4 _ rfl
 have p5 := HGB.out ww1 (HB1.out.trans (D5.out.mono HB1.out.size)) 5 _ rfl
 have p6 := HGB.out ww1 (HB1.out.trans (D5.out.mono HB1.out.size)) 6 _ rfl
 have p7 := HGB.out ww1 (HB1.out.trans (D5.out.mono HB1.out.size)) 7 _ rfl
 have p8 := HGB.out ww1 (HB1.out.trans (D5.out.mono HB1.out.size)) 8 _ rfl
 go_wp2_with fail
 rw [← HWW4.out]
 clear p0 p1 p2 p3 p4 p5 p6 p7 p8
 refine wp_flow 11 (fun _ => 1000) (fun ww => RowKit.Below W4.heap.size W4 ww) (fun _ w w' => (fun (w w' : World) => RowKit.Below w.heap.size w w') w w') (fun kF vF wF => match kF with | 0 => (vF = .int .i64 1) | 1 => (vF = .int .i64 2) | 2 => (vF = .bool false) | 3 => (vF = .bool false) | 4 => (vF = .slice (some ⟨g, 0, none⟩) 2 2) | 5 => (vF = .int .i64 1) | 6 => (vF = .slice (some ⟨g, 0, none⟩) 1 2) | 7 => (vF = .agg #[.int .i64 3, .string s0, .int .i64 d0.1, .int .i64 d0.2, .int .i64 t0, .slice none 0 0, .slice la ln lc, .int .i64 0, .bool true]) | 8 => (vF = .bool true) | 9 => (vF = .bool false) | 10 => (vF = .bool false) | _ => True) (fun _ _ _ _ => True) (by kernel_rfl) (by kernel_rfl) ?_ ?_ ?_ ?_ ?_
 ·
  exact (Below.refl _ _).drew
 ·
  intro iF wF1 wF2 hR hT; exact hR.trans (hT.mono hR.size)
 ·
  intro kF hkF iF hiF hne hdd hanc hdan vF wF1 wF2 h hT
  rcases (by omega : kF = 0 ∨ kF = 1 ∨ kF = 2 ∨ kF = 3 ∨ kF = 4 ∨ kF = 5 ∨ kF = 6 ∨ kF = 7 ∨ kF = 8 ∨ kF = 9 ∨ kF = 10) with rfl | rfl | rfl | rfl | rfl | rfl | rfl | rfl | rfl | rfl | rfl
  iterate 11 exact h
 ·
  generalize hAF : fillOf _ _ _ = AF
  replace hAF := fun x => congrFun hAF x
  simp only [take_succ_cons, take_zero, fillOf, Act.put, setIfInBounds_toArray, set_cons_zero, set_cons_succ, Nat.reduceAdd, Nat.zero_add] at hAF
  refine .cons ?_ (.cons ?_ (.cons ?_ (.cons ?_ (.cons ?_ (.cons ?_ (.cons ?_ (.cons ?_ (.cons ?_ (.cons ?_ (.cons ?_ (.nil)))))))))))
  all_goals
   intro xF ww2 hR hd K hK
   first | simp only [← hAF, Act.put, setIfInBounds_toArray, set_cons_zero, set_cons_succ] at hK ⊢ | simp only [← hAF, Act.put] at hK ⊢
   clear hAF
   try simp only [Nat.zero_add, Nat.reduceAdd] at hK ⊢
  ·
   clear hd
   obtain hbl := id hR
   rw [if_pos (by rfl)]
   go_simp
   exact hK.out _ _ (Below.refl _ _) (rfl) (fun _ _ _ => ⟨trivial, trivial⟩)
  ·
   clear hd
   obtain hbl := id hR
   rw [if_pos (by rfl)]
   go_simp
   exact hK.out _ _ (Below.refl _ _) (rfl) (fun _ _ _ => ⟨trivial, trivial⟩)
  ·
   have dd0 := hd 0 (by kernel_rfl)
   have dd1 := hd 1 (by kernel_rfl)
   clear hd
   try generalize xF 0 = yy0 at *
   try generalize xF 1 = yy1 at *
   obtain rfl := dd0
   obtain rfl := dd1
   obtain hbl := id hR
   rw [if_pos (by rfl)]
   go_simp
   exact hK.out _ _ (Below.refl _ _) (rfl) (fun _ _ _ => ⟨trivial, trivial⟩)
  ·
   have dd2 := hd 2 (by kernel_rfl)
   clear hd
   try generalize xF 2 = yy2 at *
   obtain rfl := dd2
   obtain hbl := id hR
   rw [if_pos (by rfl)]
   go_simp
   exact hK.out _ _ (Below.refl _ _) (rfl) (fun _ _ _ => ⟨trivial, trivial⟩)
  ·
   have dd3 := hd 3 (by kernel_rfl)
   clear hd
   try generalize xF 3 = yy3 at *
   obtain rfl := dd3
   obtain hbl := id hR
   have kb := (hR.cell (p := ⟨w.heap.size, 0, none⟩) HZW4.out).trans HKW4.out
   rw [if_pos (by rfl)]
   go_simp
   exact hK.out _ _ (Below.refl _ _) (rfl) (fun _ _ _ => ⟨trivial, trivial⟩)
  ·
   have dd3 := hd 3 (by kernel_rfl)
   clear hd
   try generalize xF 3 = yy3 at *
   obtain rfl := dd3
   obtain hbl := id hR
   rw [if_pos (by rfl)]
   go_simp
   exact hK.out _ _ (Below.refl _ _) (rfl) (fun _ _ _ => ⟨trivial, trivial⟩)
  ·
   have dd3 := hd 3 (by kernel_rfl)
   have dd4 := hd 4 (by kernel_rfl)
   have dd5 := hd 5 (by kernel_rfl)
   clear hd
   try generalize xF 3 = yy3 at *
   try generalize xF 4 = yy4 at *
   try generalize xF 5 = yy5 at *
   obtain rfl := dd3
   obtain rfl := dd4
   obtain rfl := dd5
   obtain hbl := id hR
   rw [if_pos (by rfl)]
   go_simp
   exact hK.out _ _ (Below.refl _ _) (rfl) (fun _ _ _ => ⟨trivial, trivial⟩)
  ·
   have dd3 := hd 3 (by kernel_rfl)
   clear hd
   try generalize xF 3 = yy3 at *
   obtain rfl := dd3
   obtain hbl := id hR
   have yy := (hR.block _ (lt_of_block YW4.out)).trans YW4.out
   have q0 := boxc yy 0 _ rfl
   have q1 := boxc yy 1 _ rfl
   have q2 := boxc yy 2 _ rfl
   have q3 := boxc yy 3 _ rfl
   have q4 := boxc yy 4 _ rfl
   have q5 := boxc yy 5 _ rfl
   have q6 := boxc yy 6 _ rfl
   have q7 := boxc yy 7 _ rfl
   have q8 := boxc yy 8 _ rfl
   rw [if_pos (by rfl)]
   go_simp
   exact hK.out _ _ (Below.refl _ _) (rfl) (fun _ _ _ => ⟨trivial, trivial⟩)
  ·
   have dd3 := hd 3 (by kernel_rfl)
   have dd6 := hd 6 (by kernel_rfl)
   have dd7 := hd 7 (by kernel_rfl)
   clear hd
   try generalize xF 3 = yy3 at *
   try generalize xF 6 = yy6 at *
   try generalize xF 7 = yy7 at *
   obtain rfl := dd3
   obtain rfl := dd6
   obtain rfl := dd7
   obtain hbl := id hR
   rw [if_pos (by rfl)]
   go_simp
   (go_at_call 22; (with_reducible refine (HRT.out _ (HB1.out.trans ((DW4.out.trans (hR.mono DW4.out.size)).mono HB1.out.size))).mono ?_); rintro e wK ⟨rfl, hbK⟩)
   try go_wp2_with fail
   exact hK.out _ _ (hbK) (rfl) (fun _ _ _ => ⟨trivial, trivial⟩)
  ·
   have dd3 := hd 3 (by kernel_rfl)
   have dd8 := hd 8 (by kernel_rfl)
   clear hd
   try generalize xF 3 = yy3 at *
   try generalize xF 8 = yy8 at *
   obtain rfl := dd3
   obtain rfl := dd8
   obtain hbl := id hR
   rw [if_pos (by rfl)]
   go_simp
   exact hK.out _ _ (Below.refl _ _) (rfl) (fun _ _ _ => ⟨trivial, trivial⟩)
  ·
   have dd3 := hd 3 (by kernel_rfl)
   have dd9 := hd 9 (by kernel_rfl)
   clear hd
   try generalize xF 3 = yy3 at *
   try generalize xF 9 = yy9 at *
   obtain rfl := dd3
   obtain rfl := dd9
   obtain hbl := id hR
   rw [if_pos (by rfl)]
   go_simp
   exact hK.out _ _ (Below.refl _ _) (rfl) (fun _ _ _ => ⟨trivial, trivial⟩)
 intro xF ww2 hR hF hP
 clear hP
 have dd0 := hF 0 (by omega) (by decide)
 have dd1 := hF 1 (by omega) (by decide)
 have dd2 := hF 2 (by omega) (by decide)
 have dd3 := hF 3 (by omega) (by decide)
 have dd4 := hF 4 (by omega) (by decide)
 have dd5 := hF 5 (by omega) (by decide)
 have dd6 := hF 6 (by omega) (by decide)
 have dd7 := hF 7 (by omega) (by decide)
 have dd8 := hF 8 (by omega) (by decide)
 have dd9 := hF 9 (by omega) (by decide)
 have dd10 := hF 10 (by omega) (by decide)
 clear hF
 simp only [take_succ_cons, take_zero, drop_succ_cons, drop_zero, fillOf, Act.put, setIfInBounds_toArray, set_cons_zero, set_cons_succ, Nat.reduceAdd, Nat.zero_add]
 try generalize xF 0 = yy0 at *
 try generalize xF 1 = yy1 at *
 try generalize xF 2 = yy2 at *
 try generalize xF 3 = yy3 at *
 try generalize xF 4 = yy4 at *
 try generalize xF 5 = yy5 at *
 try generalize xF 6 = yy6 at *
 try generalize xF 7 = yy7 at *
 try generalize xF 8 = yy8 at *
 try generalize xF 9 = yy9 at *
 try generalize xF 10 = yy10 at *
 clear xF
 obtain rfl := dd0
 obtain rfl := dd1
 obtain rfl := dd2
 obtain rfl := dd3
 obtain rfl := dd4
 obtain rfl := dd5
 obtain rfl := dd6
 obtain rfl := dd7
 obtain rfl := dd8
 obtain rfl := dd9
 obtain rfl := dd10
 have hRE2 := Lib.hid hR
 clear hR
 have HF : Hid (Below w.heap.size w ww2) := HB1.out.trans ((DW4.out.trans (hRE2.out.mono DW4.out.size)).mono HB1.out.size)
 have k1 := (hRE2.out.cell (p := ⟨w.heap.size, 0, none⟩) HZW4.out).trans HKW4.out
 go_wp2
 rw [rounds_succ]
 go_wp2
 exact bodyPost_ret (v := .tuple #[.int .i64 2, .bool true]) (by simp [results, Tryz.results9, go_sem]) rfl ⟨rfl, HF.out⟩
set_option maxHeartbeats 3200000 in
set_option maxRecDepth 100000 in
theorem judge_no (g : Nat) (s : ByteArray) (d : Dot) (t : Int) (s0 : ByteArray) (d0 : Dot) (t0 : Int) (la : Option Addr) (ln lc : Nat) (w : World)
  (hA : ∀ i u, (#[.int .i64 1, .string s, .int .i64 d.1, .int .i64 d.2, .int .i64 t, .slice none 0 0, .slice none 0 0, .int .i64 0, .bool false] : Array Value)[i]? = some u → w.cell? ⟨g, i, none⟩ = some u) (hB : ∀ i u, (#[.int .i64 3, .string s0, .int .i64 d0.1, .int .i64 d0.2, .int .i64 t0, .slice none 0 0, .slice la ln lc, .int .i64 0, .bool true] : Array Value)[i]? = some u → w.cell? ⟨g, 9 + i, none⟩ = some u)
  (hd : ∀ W, Below w.heap.size w W → Calls Tryz.prog 21 #[.slice (some ⟨g, 0, none⟩) 2 2] W (Said true W))
  (hr : ∀ W, Below w.heap.size w W → Calls Tryz.prog 22 #[.slice (some ⟨g, 0, none⟩) 1 2, .agg #[.int .i64 3, .string s0, .int .i64 d0.1, .int .i64 d0.2, .int .i64 t0, .slice none 0 0, .slice la ln lc, .int .i64 0, .bool true]] W (Said false W)) :
  Calls Tryz.prog 9 #[.slice (some ⟨g, 0, none⟩) 2 2] w fun e w' => e = .returned (.tuple #[.int .i64 1, .bool false]) ∧ Below w.heap.size w w' := by
 have hg : g < w.heap.size := World.block_lt_of_cell? _ _ (hA 0 _ rfl)
 have HGA : Hid (∀ W, Below w.heap.size w W → ∀ i u, (#[.int .i64 1, .string s, .int .i64 d.1, .int .i64 d.2, .int .i64 t, .slice none 0 0, .slice none 0 0, .int .i64 0, .bool false] : Array Value)[i]? = some u → W.cell? ⟨g, i, none⟩ = some u) := fun W hW i u hu => (hW.cell (p := ⟨g, i, none⟩) hg).trans (hA i u hu)
 have HGB : Hid (∀ W, Below w.heap.size w W → ∀ i u, (#[.int .i64 3, .string s0, .int .i64 d0.1, .int .i64 d0.2, .int .i64 t0, .slice none 0 0, .slice la ln lc, .int .i64 0, .bool true] : Array Value)[i]? = some u → W.cell? ⟨g, 9 + i, none⟩ = some u) := fun W hW i u hu => (hW.cell (p := ⟨g, 9 + i, none⟩) hg).trans (hB i u hu)
 have HRT := Lib.hid hr
 obtain ⟨w1, hw1⟩ : ∃ W, W = w.alloc (.cells #[.slice (some ⟨g, 0, none⟩) 2 2] 22) := ⟨_, rfl⟩
 have HB1 : Hid (Below w.heap.size w w1) := by show Below _ _ _; rw [hw1]; exact below1
 have x1 : w1.heap[w.heap.size]? = some (.cells #[.slice (some ⟨g, 0, none⟩) 2 2] 22) := by rw [hw1]; exact heap_alloc_new w _
 have HK1 : Hid (w1.cell? ⟨w.heap.size, 0, none⟩ = some (.slice (some ⟨g, 0, none⟩) 2 2)) := boxc x1 0 _ rfl
 have HZ1 : Hid (w.heap.size < w1.heap.size) := lt_of_block x1
 have HS := Lib.hid (search_two w.heap.size g w1 HK1.out (hd w1 HB1.out))
 have HW1 := Lib.hid hw1
 clear hA hB hd hr x1 hw1
 go_enter Tryz.func9, Tryz.ntmps9
 go_wp2_with fail
 rw [← HW1.out]
 (with_reducible refine HS.out.mono ?_)
 rintro e w2 ⟨rfl, hb2⟩
 have D2 := Lib.hid hb2
 have k0 := (hb2.cell (p := ⟨w.heap.size, 0, none⟩) HZ1.out).trans HK1.out
 clear hb2
 go_wp2
 refine wp_loop_rounds 3 ?_
 rw [rounds_succ]
 obtain ⟨W3, hW3⟩ : ∃ W, W = w2.alloc (.cells #[.int .i64 1, .string s, .int .i64 d.1, .int .i64 d.2, .int .i64 t, .slice none 0 0, .slice none 0 0, .int .i64 0, .bool false] 29) := ⟨_, rfl⟩
 have bW3 : Below w2.heap.size w2 W3 := by rw [hW3]; exact below1
 have YW3 : Hid (W3.heap[w2.heap.size]? = some (.cells #[.int .i64 1, .string s, .int .i64 d.1, .int .i64 d.2, .int .i64 t, .slice none 0 0, .slice none 0 0, .int .i64 0, .bool false] 29)) := by show _ = _; rw [hW3]; exact heap_alloc_new w2 _
 have DW3 : Hid (Below w1.heap.size w1 W3) := D2.out.trans (bW3.mono D2.out.size)
 have HKW3 : Hid (W3.cell? ⟨w.heap.size, 0, none⟩ = some (.slice (some ⟨g, 0, none⟩) 2 2)) := (DW3.out.cell (p := ⟨w.heap.size, 0, none⟩) HZ1.out).trans HK1.out
 have HZW3 : Hid (w.heap.size < W3.heap.size) := Nat.lt_of_lt_of_le HZ1.out DW3.out.size
 have HWW3 := Lib.hid hW3
 clear bW3 hW3
 have p0 := HGA.out w2 (HB1.out.trans (D2.out.mono HB1.out.size)) 0 _ rfl
 have p1 := HGA.out w2 (HB1.out.trans (D2.out.mono HB1.out.size)) 1 _ rfl
 have p2 := HGA.out w2 (HB1.out.trans (D2.out.mono HB1.out.size)) 2 _ rfl
 have p3 := HGA.out w2 (HB1.out.trans (D2.out.mono HB1.out.size)) 3 _ rfl
 have p4 := HGA.out w2 (HB1.out.trans (D2.out.mono HB1.out.size)) 4 _ rfl
 have p5 := HGA.out w2 (HB1.out.trans (D2.out.mono HB1.out.size)) 5 _ rfl
 have p6 := HGA.out w2 (HB1.out.trans (D2.out.mono HB1.out.size)) 6 _ rfl
 have p7 := HGA.out w2 (HB1.out.trans (D2.out.mono HB1.out.size)) 7 _ rfl
 have p8 := HGA.out w2 (HB1.out.trans (D2.out.mono HB1.out.size)) 8 _ rfl
 go_wp2_with fail
 rw [← HWW3.out]
 clear p0 p1 p2 p3 p4 p5 p6 p7 p8 k0
 refine wp_flow 11 (fun _ => 1000) (fun ww => RowKit.Below W3.heap.size W3 ww) (fun _ w w' => (fun (w w' : World) => RowKit.Below w.heap.size w w') w w') (fun kF vF wF => match kF with | 0 => (vF = .int .i64 0) | 1 => (vF = .int .i64 2) | 2 => (vF = .bool false) | 3 => (vF = .bool false) | 4 => (vF = .slice (some ⟨g, 0, none⟩) 2 2) | 5 => (vF = .int .i64 0) | 6 => (vF = .slice (some ⟨g, 0, none⟩) 0 2) | 7 => (vF = .agg #[.int .i64 1, .string s, .int .i64 d.1, .int .i64 d.2, .int .i64 t, .slice none 0 0, .slice none 0 0, .int .i64 0, .bool false]) | 8 => (vF = .bool true) | 9 => (vF = .bool false) | 10 => (vF = .bool false) | _ => True) (fun _ _ _ _ => True) (by kernel_rfl) (by kernel_rfl) ?_ ?_ ?_ ?_ ?_
 ·
  exact (Below.refl _ _).drew
 ·
  intro iF wF1 wF2 hR hT; exact hR.trans (hT.mono hR.size)
 ·
  intro kF hkF iF hiF hne hdd hanc hdan vF wF1 wF2 h hT
  rcases (by omega : kF = 0 ∨ kF = 1 ∨ kF = 2 ∨ kF = 3 ∨ kF = 4 ∨ kF = 5 ∨ kF = 6 ∨ kF = 7 ∨ kF = 8 ∨ kF = 9 ∨ kF = 10) with rfl | rfl | rfl | rfl | rfl | rfl | rfl | rfl | rfl | rfl | rfl
  iterate 11 exact h
 ·
  generalize hAF : fillOf _ _ _ = AF
  replace hAF := fun x => congrFun hAF x
  simp only [take_succ_cons, take_zero, fillOf, Act.put, setIfInBounds_toArray, set_cons_zero, set_cons_succ, Nat.reduceAdd, Nat.zero_add] at hAF
  refine .cons ?_ (.cons ?_ (.cons ?_ (.cons ?_ (.cons ?_ (.cons ?_ (.cons ?_ (.cons ?_ (.cons ?_ (.cons ?_ (.cons ?_ (.nil)))))))))))
  all_goals
   intro xF ww1 hR hd K hK
   first | simp only [← hAF, Act.put, setIfInBounds_toArray, set_cons_zero, set_cons_succ] at hK ⊢ | simp only [← hAF, Act.put] at hK ⊢
   clear hAF
   try simp only [Nat.zero_add, Nat.reduceAdd] at hK ⊢
  ·
   clear hd
   obtain hbl := id hR
   rw [if_pos (by rfl)]
   go_simp
   exact hK.out _ _ (Below.refl _ _) (rfl) (fun _ _ _ => ⟨trivial, trivial⟩)
  ·
   clear hd
   obtain hbl := id hR
   rw [if_pos (by rfl)]
   go_simp
   exact hK.out _ _ (Below.refl _ _) (rfl) (fun _ _ _ => ⟨trivial, trivial⟩)
  ·
   have dd0 := hd 0 (by kernel_rfl)
   have dd1 := hd 1 (by kernel_rfl)
   clear hd
   try generalize xF 0 = yy0 at *
   try generalize xF 1 = yy1 at *
   obtain rfl := dd0
   obtain rfl := dd1
   obtain hbl := id hR
   rw [if_pos (by rfl)]
   go_simp
   exact hK.out _ _ (Below.refl _ _) (rfl) (fun _ _ _ => ⟨trivial, trivial⟩)
  ·
   have dd2 := hd 2 (by kernel_rfl)
   clear hd
   try generalize xF 2 = yy2 at *
   obtain rfl := dd2
   obtain hbl := id hR
   rw [if_pos (by rfl)]
   go_simp
   exact hK.out _ _ (Below.refl _ _) (rfl) (fun _ _ _ => ⟨trivial, trivial⟩)
  ·
   have dd3 := hd 3 (by kernel_rfl)
   clear hd
   try generalize xF 3 = yy3 at *
   obtain rfl := dd3
   obtain hbl := id hR
   have kb := (hR.cell (p := ⟨w.heap.size, 0, none⟩) HZW3.out).trans HKW3.out
   rw [if_pos (by rfl)]
   go_simp
   exact hK.out _ _ (Below.refl _ _) (rfl) (fun _ _ _ => ⟨trivial, trivial⟩)
  ·
   have dd3 := hd 3 (by kernel_rfl)
   clear hd
   try generalize xF 3 = yy3 at *
   obtain rfl := dd3
   obtain hbl := id hR
   rw [if_pos (by rfl)]
   go_simp
   exact hK.out _ _ (Below.refl _ _) (rfl) (fun _ _ _ => ⟨trivial, trivial⟩)
  ·
   have dd3 := hd 3 (by kernel_rfl)
   have dd4 := hd 4 (by kernel_rfl)
   have dd5 := hd 5 (by kernel_rfl)
   clear hd
   try generalize xF 3 = yy3 at *
   try generalize xF 4 = yy4 at *
   try generalize xF 5 = yy5 at *
   obtain rfl := dd3
   obtain rfl := dd4
   obtain rfl := dd5
   obtain hbl := id hR
   rw [if_pos (by rfl)]
   go_simp
   exact hK.out _ _ (Below.refl _ _) (rfl) (fun _ _ _ => ⟨trivial, trivial⟩)
  ·
   have dd3 := hd 3 (by kernel_rfl)
   clear hd
   try generalize xF 3 = yy3 at *
   obtain rfl := dd3
   obtain hbl := id hR
   have yy := (hR.block _ (lt_of_block YW3.out)).trans YW3.out
   have q0 := boxc yy 0 _ rfl
   have q1 := boxc yy 1 _ rfl
   have q2 := boxc yy 2 _ rfl
   have q3 := boxc yy 3 _ rfl
   have q4 := boxc yy 4 _ rfl
   have q5 := boxc yy 5 _ rfl
   have q6 := boxc yy 6 _ rfl
   have q7 := boxc yy 7 _ rfl
   have q8 := boxc yy 8 _ rfl
   rw [if_pos (by rfl)]
   go_simp
   exact hK.out _ _ (Below.refl _ _) (rfl) (fun _ _ _ => ⟨trivial, trivial⟩)
  ·
   have dd3 := hd 3 (by kernel_rfl)
   have dd6 := hd 6 (by kernel_rfl)
   have dd7 := hd 7 (by kernel_rfl)
   clear hd
   try generalize xF 3 = yy3 at *
   try generalize xF 6 = yy6 at *
   try generalize xF 7 = yy7 at *
   obtain rfl := dd3
   obtain rfl := dd6
   obtain rfl := dd7
   obtain hbl := id hR
   rw [if_pos (by rfl)]
   go_simp
   (go_at_call 22; (with_reducible refine (right_add _ s d t 0 none none 0 0 0 0 false _).mono ?_); rintro e wK ⟨rfl, hbK⟩)
   try go_wp2_with fail
   exact hK.out _ _ (hbK) (rfl) (fun _ _ _ => ⟨trivial, trivial⟩)
  ·
   have dd3 := hd 3 (by kernel_rfl)
   have dd8 := hd 8 (by kernel_rfl)
   clear hd
   try generalize xF 3 = yy3 at *
   try generalize xF 8 = yy8 at *
   obtain rfl := dd3
   obtain rfl := dd8
   obtain hbl := id hR
   rw [if_pos (by rfl)]
   go_simp
   exact hK.out _ _ (Below.refl _ _) (rfl) (fun _ _ _ => ⟨trivial, trivial⟩)
  ·
   have dd3 := hd 3 (by kernel_rfl)
   have dd9 := hd 9 (by kernel_rfl)
   clear hd
   try generalize xF 3 = yy3 at *
   try generalize xF 9 = yy9 at *
   obtain rfl := dd3
   obtain rfl := dd9
   obtain hbl := id hR
   rw [if_pos (by rfl)]
   go_simp
   exact hK.out _ _ (Below.refl _ _) (rfl) (fun _ _ _ => ⟨trivial, trivial⟩)
 intro xF ww1 hR hF hP
 clear hP
 have dd0 := hF 0 (by omega) (by decide)
 have dd1 := hF 1 (by omega) (by decide)
 have dd2 := hF 2 (by omega) (by decide)
 have dd3 := hF 3 (by omega) (by decide)
 have dd4 := hF 4 (by omega) (by decide)
 have dd5 := hF 5 (by omega) (by decide)
 have dd6 := hF 6 (by omega) (by decide)
 have dd7 := hF 7 (by omega) (by decide)
 have dd8 := hF 8 (by omega) (by decide)
 have dd9 := hF 9 (by omega) (by decide)
 have dd10 := hF 10 (by omega) (by decide)
 clear hF
 simp only [take_succ_cons, take_zero, drop_succ_cons, drop_zero, fillOf, Act.put, setIfInBounds_toArray, set_cons_zero, set_cons_succ, Nat.reduceAdd, Nat.zero_add]
 try generalize xF 0 = yy0 at *
 try generalize xF 1 = yy1 at *
 try generalize xF 2 = yy2 at *
 try generalize xF 3 = yy3 at *
 try generalize xF 4 = yy4 at *
 try generalize xF 5 = yy5 at *
 try generalize xF 6 = yy6 at *
 try generalize xF 7 = yy7 at *
 try generalize xF 8 = yy8 at *
 try generalize xF 9 = yy9 at *
 try generalize xF 10 = yy10 at *
 clear xF
 obtain rfl := dd0
 obtain rfl := dd1
 obtain rfl := dd2
 obtain rfl := dd3
 obtain rfl := dd4
 obtain rfl := dd5
 obtain rfl := dd6
 obtain rfl := dd7
 obtain rfl := dd8
 obtain rfl := dd9
 obtain rfl := dd10
 have hRE1 := Lib.hid hR
 clear hR
 have D5 : Hid (Below w1.heap.size w1 ww1) := DW3.out.trans (hRE1.out.mono DW3.out.size)
 go_wp2
 rw [rounds_succ]
 obtain ⟨W4, hW4⟩ : ∃ W, W = ww1.alloc (.cells #[.int .i64 3, .string s0, .int .i64 d0.1, .int .i64 d0.2, .int .i64 t0, .slice none 0 0, .slice la ln lc, .int .i64 0, .bool true] 29) := ⟨_, rfl⟩
 have bW4 : Below ww1.heap.size ww1 W4 := by rw [hW4]; exact below1
 have YW4 : Hid (W4.heap[ww1.heap.size]? = some (.cells #[.int .i64 3, .string s0, .int .i64 d0.1, .int .i64 d0.2, .int .i64 t0, .slice none 0 0, .slice la ln lc, .int .i64 0, .bool true] 29)) := by show _ = _; rw [hW4]; exact heap_alloc_new ww1 _
 have DW4 : Hid (Below w1.heap.size w1 W4) := D5.out.trans (bW4.mono D5.out.size)
 have HKW4 : Hid (W4.cell? ⟨w.heap.size, 0, none⟩ = some (.slice (some ⟨g, 0, none⟩) 2 2)) := (DW4.out.cell (p := ⟨w.heap.size, 0, none⟩) HZ1.out).trans HK1.out
 have HZW4 : Hid (w.heap.size < W4.heap.size) := Nat.lt_of_lt_of_le HZ1.out DW4.out.size
 have HWW4 := Lib.hid hW4
 clear bW4 hW4
 have p0 := HGB.out ww1 (HB1.out.trans (D5.out.mono HB1.out.size)) 0 _ rfl
 have p1 := HGB.out ww1 (HB1.out.trans (D5.out.mono HB1.out.size)) 1 _ rfl
 have p2 := HGB.out ww1 (HB1.out.trans (D5.out.mono HB1.out.size)) 2 _ rfl
 have p3 := HGB.out ww1 (HB1.out.trans (D5.out.mono HB1.out.size)) 3 _ rfl
 have p4 := HGB.out ww1 (HB1.out.trans (D5.out.mono HB1.out.size)) 4 _ rfl
 have p5 := HGB.out ww1 (HB1.out.trans (D5.out.mono HB1.out.size)) 5 _ rfl
 have p6 := HGB.out ww1 (HB1.out.trans (D5.out.mono HB1.out.size)) 6 _ rfl
 have p7 := HGB.out ww1 (HB1.out.trans (D5.out.mono HB1.out.size)) 7 _ rfl
 have p8 := HGB.out ww1 (HB1.out.trans (D5.out.mono HB1.out.size)) 8 _ rfl
 go_wp2_with fail
 rw [← HWW4.out]
 clear p0 p1 p2 p3 p4 p5 p6 p7 p8
 refine wp_flow 11 (fun _ => 1000) (fun ww => RowKit.Below W4.heap.size W4 ww) (fun _ w w' => (fun (w w' : World) => RowKit.Below w.heap.size w w') w w') (fun kF vF wF => match kF with | 0 => (vF = .int .i64 1) | 1 => (vF = .int .i64 2) | 2 => (vF = .bool false) | 3 => (vF = .bool false) | 4 => (vF = .slice (some ⟨g, 0, none⟩) 2 2) | 5 => (vF = .int .i64 1) | 6 => (vF = .slice (some ⟨g, 0, none⟩) 1 2) | 7 => (vF = .agg #[.int .i64 3, .string s0, .int .i64 d0.1, .int .i64 d0.2, .int .i64 t0, .slice none 0 0, .slice la ln lc, .int .i64 0, .bool true]) | 8 => (vF = .bool false) | 9 => (vF = .bool true) | 10 => (vF = .bool true) | _ => True) (fun _ _ _ _ => True) (by kernel_rfl) (by kernel_rfl) ?_ ?_ ?_ ?_ ?_
 ·
  exact (Below.refl _ _).drew
 ·
  intro iF wF1 wF2 hR hT; exact hR.trans (hT.mono hR.size)
 ·
  intro kF hkF iF hiF hne hdd hanc hdan vF wF1 wF2 h hT
  rcases (by omega : kF = 0 ∨ kF = 1 ∨ kF = 2 ∨ kF = 3 ∨ kF = 4 ∨ kF = 5 ∨ kF = 6 ∨ kF = 7 ∨ kF = 8 ∨ kF = 9 ∨ kF = 10) with rfl | rfl | rfl | rfl | rfl | rfl | rfl | rfl | rfl | rfl | rfl
  iterate 11 exact h
 ·
  generalize hAF : fillOf _ _ _ = AF
  replace hAF := fun x => congrFun hAF x
  simp only [take_succ_cons, take_zero, fillOf, Act.put, setIfInBounds_toArray, set_cons_zero, set_cons_succ, Nat.reduceAdd, Nat.zero_add] at hAF
  refine .cons ?_ (.cons ?_ (.cons ?_ (.cons ?_ (.cons ?_ (.cons ?_ (.cons ?_ (.cons ?_ (.cons ?_ (.cons ?_ (.cons ?_ (.nil)))))))))))
  all_goals
   intro xF ww2 hR hd K hK
   first | simp only [← hAF, Act.put, setIfInBounds_toArray, set_cons_zero, set_cons_succ] at hK ⊢ | simp only [← hAF, Act.put] at hK ⊢
   clear hAF
   try simp only [Nat.zero_add, Nat.reduceAdd] at hK ⊢
  ·
   clear hd
   obtain hbl := id hR
   rw [if_pos (by rfl)]
   go_simp
   exact hK.out _ _ (Below.refl _ _) (rfl) (fun _ _ _ => ⟨trivial, trivial⟩)
  ·
   clear hd
   obtain hbl := id hR
   rw [if_pos (by rfl)]
   go_simp
   exact hK.out _ _ (Below.refl _ _) (rfl) (fun _ _ _ => ⟨trivial, trivial⟩)
  ·
   have dd0 := hd 0 (by kernel_rfl)
   have dd1 := hd 1 (by kernel_rfl)
   clear hd
   try generalize xF 0 = yy0 at *
   try generalize xF 1 = yy1 at *
   obtain rfl := dd0
   obtain rfl := dd1
   obtain hbl := id hR
   rw [if_pos (by rfl)]
   go_simp
   exact hK.out _ _ (Below.refl _ _) (rfl) (fun _ _ _ => ⟨trivial, trivial⟩)
  ·
   have dd2 := hd 2 (by kernel_rfl)
   clear hd
   try generalize xF 2 = yy2 at *
   obtain rfl := dd2
   obtain hbl := id hR
   rw [if_pos (by rfl)]
   go_simp
   exact hK.out _ _ (Below.refl _ _) (rfl) (fun _ _ _ => ⟨trivial, trivial⟩)
  ·
   have dd3 := hd 3 (by kernel_rfl)
   clear hd
   try generalize xF 3 = yy3 at *
   obtain rfl := dd3
   obtain hbl := id hR
   have kb := (hR.cell (p := ⟨w.heap.size, 0, none⟩) HZW4.out).trans HKW4.out
   rw [if_pos (by rfl)]
   go_simp
   exact hK.out _ _ (Below.refl _ _) (rfl) (fun _ _ _ => ⟨trivial, trivial⟩)
  ·
   have dd3 := hd 3 (by kernel_rfl)
   clear hd
   try generalize xF 3 = yy3 at *
   obtain rfl := dd3
   obtain hbl := id hR
   rw [if_pos (by rfl)]
   go_simp
   exact hK.out _ _ (Below.refl _ _) (rfl) (fun _ _ _ => ⟨trivial, trivial⟩)
  ·
   have dd3 := hd 3 (by kernel_rfl)
   have dd4 := hd 4 (by kernel_rfl)
   have dd5 := hd 5 (by kernel_rfl)
   clear hd
   try generalize xF 3 = yy3 at *
   try generalize xF 4 = yy4 at *
   try generalize xF 5 = yy5 at *
   obtain rfl := dd3
   obtain rfl := dd4
   obtain rfl := dd5
   obtain hbl := id hR
   rw [if_pos (by rfl)]
   go_simp
   exact hK.out _ _ (Below.refl _ _) (rfl) (fun _ _ _ => ⟨trivial, trivial⟩)
  ·
   have dd3 := hd 3 (by kernel_rfl)
   clear hd
   try generalize xF 3 = yy3 at *
   obtain rfl := dd3
   obtain hbl := id hR
   have yy := (hR.block _ (lt_of_block YW4.out)).trans YW4.out
   have q0 := boxc yy 0 _ rfl
   have q1 := boxc yy 1 _ rfl
   have q2 := boxc yy 2 _ rfl
   have q3 := boxc yy 3 _ rfl
   have q4 := boxc yy 4 _ rfl
   have q5 := boxc yy 5 _ rfl
   have q6 := boxc yy 6 _ rfl
   have q7 := boxc yy 7 _ rfl
   have q8 := boxc yy 8 _ rfl
   rw [if_pos (by rfl)]
   go_simp
   exact hK.out _ _ (Below.refl _ _) (rfl) (fun _ _ _ => ⟨trivial, trivial⟩)
  ·
   have dd3 := hd 3 (by kernel_rfl)
   have dd6 := hd 6 (by kernel_rfl)
   have dd7 := hd 7 (by kernel_rfl)
   clear hd
   try generalize xF 3 = yy3 at *
   try generalize xF 6 = yy6 at *
   try generalize xF 7 = yy7 at *
   obtain rfl := dd3
   obtain rfl := dd6
   obtain rfl := dd7
   obtain hbl := id hR
   rw [if_pos (by rfl)]
   go_simp
   (go_at_call 22; (with_reducible refine (HRT.out _ (HB1.out.trans ((DW4.out.trans (hR.mono DW4.out.size)).mono HB1.out.size))).mono ?_); rintro e wK ⟨rfl, hbK⟩)
   try go_wp2_with fail
   exact hK.out _ _ (hbK) (rfl) (fun _ _ _ => ⟨trivial, trivial⟩)
  ·
   have dd3 := hd 3 (by kernel_rfl)
   have dd8 := hd 8 (by kernel_rfl)
   clear hd
   try generalize xF 3 = yy3 at *
   try generalize xF 8 = yy8 at *
   obtain rfl := dd3
   obtain rfl := dd8
   obtain hbl := id hR
   rw [if_pos (by rfl)]
   go_simp
   exact hK.out _ _ (Below.refl _ _) (rfl) (fun _ _ _ => ⟨trivial, trivial⟩)
  ·
   have dd3 := hd 3 (by kernel_rfl)
   have dd9 := hd 9 (by kernel_rfl)
   clear hd
   try generalize xF 3 = yy3 at *
   try generalize xF 9 = yy9 at *
   obtain rfl := dd3
   obtain rfl := dd9
   obtain hbl := id hR
   rw [if_pos (by rfl)]
   go_simp
   exact hK.out _ _ (Below.refl _ _) (rfl) (fun _ _ _ => ⟨trivial, trivial⟩)
 intro xF ww2 hR hF hP
 clear hP
 have dd0 := hF 0 (by omega) (by decide)
 have dd1 := hF 1 (by omega) (by decide)
 have dd2 := hF 2 (by omega) (by decide)
 have dd3 := hF 3 (by omega) (by decide)
 have dd4 := hF 4 (by omega) (by decide)
 have dd5 := hF 5 (by omega) (by decide)
 have dd6 := hF 6 (by omega) (by decide)
 have dd7 := hF 7 (by omega) (by decide)
 have dd8 := hF 8 (by omega) (by decide)
 have dd9 := hF 9 (by omega) (by decide)
 have dd10 := hF 10 (by omega) (by decide)
 clear hF
 simp only [take_succ_cons, take_zero, drop_succ_cons, drop_zero, fillOf, Act.put, setIfInBounds_toArray, set_cons_zero, set_cons_succ, Nat.reduceAdd, Nat.zero_add]
 try generalize xF 0 = yy0 at *
 try generalize xF 1 = yy1 at *
 try generalize xF 2 = yy2 at *
 try generalize xF 3 = yy3 at *
 try generalize xF 4 = yy4 at *
 try generalize xF 5 = yy5 at *
 try generalize xF 6 = yy6 at *
 try generalize xF 7 = yy7 at *
 try generalize xF 8 = yy8 at *
 try generalize xF 9 = yy9 at *
 try generalize xF 10 = yy10 at *
 clear xF
 obtain rfl := dd0
 obtain rfl := dd1
 obtain rfl := dd2
 obtain rfl := dd3
 obtain rfl := dd4
 obtain rfl := dd5
 obtain rfl := dd6
 obtain rfl := dd7
 obtain rfl := dd8
 obtain rfl := dd9
 obtain rfl := dd10
 have hRE2 := Lib.hid hR
 clear hR
 have HF : Hid (Below w.heap.size w ww2) := HB1.out.trans ((DW4.out.trans (hRE2.out.mono DW4.out.size)).mono HB1.out.size)
 go_wp2
 exact bodyPost_ret (v := .tuple #[.int .i64 1, .bool false]) (by simp [results, Tryz.results9, go_sem]) rfl ⟨rfl, HF.out⟩
set_option maxHeartbeats 3200000 in
set_option maxRecDepth 100000 in
theorem judge_may (g : Nat) (s : ByteArray) (d : Dot) (t : Int) (s0 : ByteArray) (d0 : Dot) (t0 : Int) (la : Option Addr) (ln lc : Nat) (w : World)
  (hA : ∀ i u, (#[.int .i64 1, .string s, .int .i64 d.1, .int .i64 d.2, .int .i64 t, .slice none 0 0, .slice none 0 0, .int .i64 0, .bool false] : Array Value)[i]? = some u → w.cell? ⟨g, i, none⟩ = some u) (hB : ∀ i u, (#[.int .i64 3, .string s0, .int .i64 d0.1, .int .i64 d0.2, .int .i64 t0, .slice none 0 0, .slice la ln lc, .int .i64 0, .bool false] : Array Value)[i]? = some u → w.cell? ⟨g, 9 + i, none⟩ = some u)
  (hd : ∀ W, Below w.heap.size w W → Calls Tryz.prog 21 #[.slice (some ⟨g, 0, none⟩) 2 2] W (Said true W))
  (hr : ∀ W, Below w.heap.size w W → Calls Tryz.prog 22 #[.slice (some ⟨g, 0, none⟩) 1 2, .agg #[.int .i64 3, .string s0, .int .i64 d0.1, .int .i64 d0.2, .int .i64 t0, .slice none 0 0, .slice la ln lc, .int .i64 0, .bool false]] W (Said true W)) :
  Calls Tryz.prog 9 #[.slice (some ⟨g, 0, none⟩) 2 2] w fun e w' => e = .returned (.tuple #[.int .i64 2, .bool true]) ∧ Below w.heap.size w w' := by
 have hg : g < w.heap.size := World.block_lt_of_cell? _ _ (hA 0 _ rfl)
 have HGA : Hid (∀ W, Below w.heap.size w W → ∀ i u, (#[.int .i64 1, .string s, .int .i64 d.1, .int .i64 d.2, .int .i64 t, .slice none 0 0, .slice none 0 0, .int .i64 0, .bool false] : Array Value)[i]? = some u → W.cell? ⟨g, i, none⟩ = some u) := fun W hW i u hu => (hW.cell (p := ⟨g, i, none⟩) hg).trans (hA i u hu)
 have HGB : Hid (∀ W, Below w.heap.size w W → ∀ i u, (#[.int .i64 3, .string s0, .int .i64 d0.1, .int .i64 d0.2, .int .i64 t0, .slice none 0 0, .slice la ln lc, .int .i64 0, .bool false] : Array Value)[i]? = some u → W.cell? ⟨g, 9 + i, none⟩ = some u) := fun W hW i u hu => (hW.cell (p := ⟨g, 9 + i, none⟩) hg).trans (hB i u hu)
 have HRT := Lib.hid hr
 obtain ⟨w1, hw1⟩ : ∃ W, W = w.alloc (.cells #[.slice (some ⟨g, 0, none⟩) 2 2] 22) := ⟨_, rfl⟩
 have HB1 : Hid (Below w.heap.size w w1) := by show Below _ _ _; rw [hw1]; exact below1
 have x1 : w1.heap[w.heap.size]? = some (.cells #[.slice (some ⟨g, 0, none⟩) 2 2] 22) := by rw [hw1]; exact heap_alloc_new w _
 have HK1 : Hid (w1.cell? ⟨w.heap.size, 0, none⟩ = some (.slice (some ⟨g, 0, none⟩) 2 2)) := boxc x1 0 _ rfl
 have HZ1 : Hid (w.heap.size < w1.heap.size) := lt_of_block x1
 have HS := Lib.hid (search_two w.heap.size g w1 HK1.out (hd w1 HB1.out))
 have HW1 := Lib.hid hw1
 clear hA hB hd hr x1 hw1
 go_enter Tryz.func9, Tryz.ntmps9
 go_wp2_with fail
 rw [← HW1.out]
 (with_reducible refine HS.out.mono ?_)
 rintro e w2 ⟨rfl, hb2⟩
 have D2 := Lib.hid hb2
 have k0 := (hb2.cell (p := ⟨w.heap.size, 0, none⟩) HZ1.out).trans HK1.out
 clear hb2
 go_wp2
 refine wp_loop_rounds 3 ?_
 rw [rounds_succ]
 obtain ⟨W3, hW3⟩ : ∃ W, W = w2.alloc (.cells #[.int .i64 1, .string s, .int .i64 d.1, .int .i64 d.2, .int .i64 t, .slice none 0 0, .slice none 0 0, .int .i64 0, .bool false] 29) := ⟨_, rfl⟩
 have bW3 : Below w2.heap.size w2 W3 := by rw [hW3]; exact below1
 have YW3 : Hid (W3.heap[w2.heap.size]? = some (.cells #[.int .i64 1, .string s, .int .i64 d.1, .int .i64 d.2, .int .i64 t, .slice none 0 0, .slice none 0 0, .int .i64 0, .bool false] 29)) := by show _ = _; rw [hW3]; exact heap_alloc_new w2 _
 have DW3 : Hid (Below w1.heap.size w1 W3) := D2.out.trans (bW3.mono D2.out.size)
 have HKW3 : Hid (W3.cell? ⟨w.heap.size, 0, none⟩ = some (.slice (some ⟨g, 0, none⟩) 2 2)) := (DW3.out.cell (p := ⟨w.heap.size, 0, none⟩) HZ1.out).trans HK1.out
 have HZW3 : Hid (w.heap.size < W3.heap.size) := Nat.lt_of_lt_of_le HZ1.out DW3.out.size
 have HWW3 := Lib.hid hW3
 clear bW3 hW3
 have p0 := HGA.out w2 (HB1.out.trans (D2.out.mono HB1.out.size)) 0 _ rfl
 have p1 := HGA.out w2 (HB1.out.trans (D2.out.mono HB1.out.size)) 1 _ rfl
 have p2 := HGA.out w2 (HB1.out.trans (D2.out.mono HB1.out.size)) 2 _ rfl
 have p3 := HGA.out w2 (HB1.out.trans (D2.out.mono HB1.out.size)) 3 _ rfl
 have p4 := HGA.out w2 (HB1.out.trans (D2.out.mono HB1.out.size)) 4 _ rfl
 have p5 := HGA.out w2 (HB1.out.trans (D2.out.mono HB1.out.size)) 5 _ rfl
 have p6 := HGA.out w2 (HB1.out.trans (D2.out.mono HB1.out.size)) 6 _ rfl
 have p7 := HGA.out w2 (HB1.out.trans (D2.out.mono HB1.out.size)) 7 _ rfl
 have p8 := HGA.out w2 (HB1.out.trans (D2.out.mono HB1.out.size)) 8 _ rfl
 go_wp2_with fail
 rw [← HWW3.out]
 clear p0 p1 p2 p3 p4 p5 p6 p7 p8 k0
 refine wp_flow 11 (fun _ => 1000) (fun ww => RowKit.Below W3.heap.size W3 ww) (fun _ w w' => (fun (w w' : World) => RowKit.Below w.heap.size w w') w w') (fun kF vF wF => match kF with | 0 => (vF = .int .i64 0) | 1 => (vF = .int .i64 2) | 2 => (vF = .bool false) | 3 => (vF = .bool false) | 4 => (vF = .slice (some ⟨g, 0, none⟩) 2 2) | 5 => (vF = .int .i64 0) | 6 => (vF = .slice (some ⟨g, 0, none⟩) 0 2) | 7 => (vF = .agg #[.int .i64 1, .string s, .int .i64 d.1, .int .i64 d.2, .int .i64 t, .slice none 0 0, .slice none 0 0, .int .i64 0, .bool false]) | 8 => (vF = .bool true) | 9 => (vF = .bool false) | 10 => (vF = .bool false) | _ => True) (fun _ _ _ _ => True) (by kernel_rfl) (by kernel_rfl) ?_ ?_ ?_ ?_ ?_
 ·
  exact (Below.refl _ _).drew
 ·
  intro iF wF1 wF2 hR hT; exact hR.trans (hT.mono hR.size)
 ·
  intro kF hkF iF hiF hne hdd hanc hdan vF wF1 wF2 h hT
  rcases (by omega : kF = 0 ∨ kF = 1 ∨ kF = 2 ∨ kF = 3 ∨ kF = 4 ∨ kF = 5 ∨ kF = 6 ∨ kF = 7 ∨ kF = 8 ∨ kF = 9 ∨ kF = 10) with rfl | rfl | rfl | rfl | rfl | rfl | rfl | rfl | rfl | rfl | rfl
  iterate 11 exact h
 ·
  generalize hAF : fillOf _ _ _ = AF
  replace hAF := fun x => congrFun hAF x
  simp only [take_succ_cons, take_zero, fillOf, Act.put, setIfInBounds_toArray, set_cons_zero, set_cons_succ, Nat.reduceAdd, Nat.zero_add] at hAF
  refine .cons ?_ (.cons ?_ (.cons ?_ (.cons ?_ (.cons ?_ (.cons ?_ (.cons ?_ (.cons ?_ (.cons ?_ (.cons ?_ (.cons ?_ (.nil)))))))))))
  all_goals
   intro xF ww1 hR hd K hK
   first | simp only [← hAF, Act.put, setIfInBounds_toArray, set_cons_zero, set_cons_succ] at hK ⊢ | simp only [← hAF, Act.put] at hK ⊢
   clear hAF
   try simp only [Nat.zero_add, Nat.reduceAdd] at hK ⊢
  ·
   clear hd
   obtain hbl := id hR
   rw [if_pos (by rfl)]
   go_simp
   exact hK.out _ _ (Below.refl _ _) (rfl) (fun _ _ _ => ⟨trivial, trivial⟩)
  ·
   clear hd
   obtain hbl := id hR
   rw [if_pos (by rfl)]
   go_simp
   exact hK.out _ _ (Below.refl _ _) (rfl) (fun _ _ _ => ⟨trivial, trivial⟩)
  ·
   have dd0 := hd 0 (by kernel_rfl)
   have dd1 := hd 1 (by kernel_rfl)
   clear hd
   try generalize xF 0 = yy0 at *
   try generalize xF 1 = yy1 at *
   obtain rfl := dd0
   obtain rfl := dd1
   obtain hbl := id hR
   rw [if_pos (by rfl)]
   go_simp
   exact hK.out _ _ (Below.refl _ _) (rfl) (fun _ _ _ => ⟨trivial, trivial⟩)
  ·
   have dd2 := hd 2 (by kernel_rfl)
   clear hd
   try generalize xF 2 = yy2 at *
   obtain rfl := dd2
   obtain hbl := id hR
   rw [if_pos (by rfl)]
   go_simp
   exact hK.out _ _ (Below.refl _ _) (rfl) (fun _ _ _ => ⟨trivial, trivial⟩)
  ·
   have dd3 := hd 3 (by kernel_rfl)
   clear hd
   try generalize xF 3 = yy3 at *
   obtain rfl := dd3
   obtain hbl := id hR
   have kb := (hR.cell (p := ⟨w.heap.size, 0, none⟩) HZW3.out).trans HKW3.out
   rw [if_pos (by rfl)]
   go_simp
   exact hK.out _ _ (Below.refl _ _) (rfl) (fun _ _ _ => ⟨trivial, trivial⟩)
  ·
   have dd3 := hd 3 (by kernel_rfl)
   clear hd
   try generalize xF 3 = yy3 at *
   obtain rfl := dd3
   obtain hbl := id hR
   rw [if_pos (by rfl)]
   go_simp
   exact hK.out _ _ (Below.refl _ _) (rfl) (fun _ _ _ => ⟨trivial, trivial⟩)
  ·
   have dd3 := hd 3 (by kernel_rfl)
   have dd4 := hd 4 (by kernel_rfl)
   have dd5 := hd 5 (by kernel_rfl)
   clear hd
   try generalize xF 3 = yy3 at *
   try generalize xF 4 = yy4 at *
   try generalize xF 5 = yy5 at *
   obtain rfl := dd3
   obtain rfl := dd4
   obtain rfl := dd5
   obtain hbl := id hR
   rw [if_pos (by rfl)]
   go_simp
   exact hK.out _ _ (Below.refl _ _) (rfl) (fun _ _ _ => ⟨trivial, trivial⟩)
  ·
   have dd3 := hd 3 (by kernel_rfl)
   clear hd
   try generalize xF 3 = yy3 at *
   obtain rfl := dd3
   obtain hbl := id hR
   have yy := (hR.block _ (lt_of_block YW3.out)).trans YW3.out
   have q0 := boxc yy 0 _ rfl
   have q1 := boxc yy 1 _ rfl
   have q2 := boxc yy 2 _ rfl
   have q3 := boxc yy 3 _ rfl
   have q4 := boxc yy 4 _ rfl
   have q5 := boxc yy 5 _ rfl
   have q6 := boxc yy 6 _ rfl
   have q7 := boxc yy 7 _ rfl
   have q8 := boxc yy 8 _ rfl
   rw [if_pos (by rfl)]
   go_simp
   exact hK.out _ _ (Below.refl _ _) (rfl) (fun _ _ _ => ⟨trivial, trivial⟩)
  ·
   have dd3 := hd 3 (by kernel_rfl)
   have dd6 := hd 6 (by kernel_rfl)
   have dd7 := hd 7 (by kernel_rfl)
   clear hd
   try generalize xF 3 = yy3 at *
   try generalize xF 6 = yy6 at *
   try generalize xF 7 = yy7 at *
   obtain rfl := dd3
   obtain rfl := dd6
   obtain rfl := dd7
   obtain hbl := id hR
   rw [if_pos (by rfl)]
   go_simp
   (go_at_call 22; (with_reducible refine (right_add _ s d t 0 none none 0 0 0 0 false _).mono ?_); rintro e wK ⟨rfl, hbK⟩)
   try go_wp2_with fail
   exact hK.out _ _ (hbK) (rfl) (fun _ _ _ => ⟨trivial, trivial⟩)
  ·
   have dd3 := hd 3 (by kernel_rfl)
   have dd8 := hd 8 (by kernel_rfl)
   clear hd
   try generalize xF 3 = yy3 at *
   try generalize xF 8 = yy8 at *
   obtain rfl := dd3
   obtain rfl := dd8
   obtain hbl := id hR
   rw [if_pos (by rfl)]
   go_simp
   exact hK.out _ _ (Below.refl _ _) (rfl) (fun _ _ _ => ⟨trivial, trivial⟩)
  ·
   have dd3 := hd 3 (by kernel_rfl)
   have dd9 := hd 9 (by kernel_rfl)
   clear hd
   try generalize xF 3 = yy3 at *
   try generalize xF 9 = yy9 at *
   obtain rfl := dd3
   obtain rfl := dd9
   obtain hbl := id hR
   rw [if_pos (by rfl)]
   go_simp
   exact hK.out _ _ (Below.refl _ _) (rfl) (fun _ _ _ => ⟨trivial, trivial⟩)
 intro xF ww1 hR hF hP
 clear hP
 have dd0 := hF 0 (by omega) (by decide)
 have dd1 := hF 1 (by omega) (by decide)
 have dd2 := hF 2 (by omega) (by decide)
 have dd3 := hF 3 (by omega) (by decide)
 have dd4 := hF 4 (by omega) (by decide)
 have dd5 := hF 5 (by omega) (by decide)
 have dd6 := hF 6 (by omega) (by decide)
 have dd7 := hF 7 (by omega) (by decide)
 have dd8 := hF 8 (by omega) (by decide)
 have dd9 := hF 9 (by omega) (by decide)
 have dd10 := hF 10 (by omega) (by decide)
 clear hF
 simp only [take_succ_cons, take_zero, drop_succ_cons, drop_zero, fillOf, Act.put, setIfInBounds_toArray, set_cons_zero, set_cons_succ, Nat.reduceAdd, Nat.zero_add]
 try generalize xF 0 = yy0 at *
 try generalize xF 1 = yy1 at *
 try generalize xF 2 = yy2 at *
 try generalize xF 3 = yy3 at *
 try generalize xF 4 = yy4 at *
 try generalize xF 5 = yy5 at *
 try generalize xF 6 = yy6 at *
 try generalize xF 7 = yy7 at *
 try generalize xF 8 = yy8 at *
 try generalize xF 9 = yy9 at *
 try generalize xF 10 = yy10 at *
 clear xF
 obtain rfl := dd0
 obtain rfl := dd1
 obtain rfl := dd2
 obtain rfl := dd3
 obtain rfl := dd4
 obtain rfl := dd5
 obtain rfl := dd6
 obtain rfl := dd7
 obtain rfl := dd8
 obtain rfl := dd9
 obtain rfl := dd10
 have hRE1 := Lib.hid hR
 clear hR
 have D5 : Hid (Below w1.heap.size w1 ww1) := DW3.out.trans (hRE1.out.mono DW3.out.size)
 go_wp2
 rw [rounds_succ]
 obtain ⟨W4, hW4⟩ : ∃ W, W = ww1.alloc (.cells #[.int .i64 3, .string s0, .int .i64 d0.1, .int .i64 d0.2, .int .i64 t0, .slice none 0 0, .slice la ln lc, .int .i64 0, .bool false] 29) := ⟨_, rfl⟩
 have bW4 : Below ww1.heap.size ww1 W4 := by rw [hW4]; exact below1
 have YW4 : Hid (W4.heap[ww1.heap.size]? = some (.cells #[.int .i64 3, .string s0, .int .i64 d0.1, .int .i64 d0.2, .int .i64 t0, .slice none 0 0, .slice la ln lc, .int .i64 0, .bool false] 29)) := by show _ = _; rw [hW4]; exact heap_alloc_new ww1 _
 have DW4 : Hid (Below w1.heap.size w1 W4) := D5.out.trans (bW4.mono D5.out.size)
 have HKW4 : Hid (W4.cell? ⟨w.heap.size, 0, none⟩ = some (.slice (some ⟨g, 0, none⟩) 2 2)) := (DW4.out.cell (p := ⟨w.heap.size, 0, none⟩) HZ1.out).trans HK1.out
 have HZW4 : Hid (w.heap.size < W4.heap.size) := Nat.lt_of_lt_of_le HZ1.out DW4.out.size
 have HWW4 := Lib.hid hW4
 clear bW4 hW4
 have p0 := HGB.out ww1 (HB1.out.trans (D5.out.mono HB1.out.size)) 0 _ rfl
 have p1 := HGB.out ww1 (HB1.out.trans (D5.out.mono HB1.out.size)) 1 _ rfl
 have p2 := HGB.out ww1 (HB1.out.trans (D5.out.mono HB1.out.size)) 2 _ rfl
 have p3 := HGB.out ww1 (HB1.out.trans (D5.out.mono HB1.out.size)) 3 _ rfl
 have p4 := HGB.out ww1 (HB1.out.trans (D5.out.mono HB1.out.size)) 4 _ rfl
 have p5 := HGB.out ww1 (HB1.out.trans (D5.out.mono HB1.out.size)) 5 _ rfl
 have p6 := HGB.out ww1 (HB1.out.trans (D5.out.mono HB1.out.size)) 6 _ rfl
 have p7 := HGB.out ww1 (HB1.out.trans (D5.out.mono HB1.out.size)) 7 _ rfl
 have p8 := HGB.out ww1 (HB1.out.trans (D5.out.mono HB1.out.size)) 8 _ rfl
 go_wp2_with fail
 rw [← HWW4.out]
 clear p0 p1 p2 p3 p4 p5 p6 p7 p8
 refine wp_flow 11 (fun _ => 1000) (fun ww => RowKit.Below W4.heap.size W4 ww) (fun _ w w' => (fun (w w' : World) => RowKit.Below w.heap.size w w') w w') (fun kF vF wF => match kF with | 0 => (vF = .int .i64 1) | 1 => (vF = .int .i64 2) | 2 => (vF = .bool false) | 3 => (vF = .bool false) | 4 => (vF = .slice (some ⟨g, 0, none⟩) 2 2) | 5 => (vF = .int .i64 1) | 6 => (vF = .slice (some ⟨g, 0, none⟩) 1 2) | 7 => (vF = .agg #[.int .i64 3, .string s0, .int .i64 d0.1, .int .i64 d0.2, .int .i64 t0, .slice none 0 0, .slice la ln lc, .int .i64 0, .bool false]) | 8 => (vF = .bool true) | 9 => (vF = .bool false) | 10 => (vF = .bool false) | _ => True) (fun _ _ _ _ => True) (by kernel_rfl) (by kernel_rfl) ?_ ?_ ?_ ?_ ?_
 ·
  exact (Below.refl _ _).drew
 ·
  intro iF wF1 wF2 hR hT; exact hR.trans (hT.mono hR.size)
 ·
  intro kF hkF iF hiF hne hdd hanc hdan vF wF1 wF2 h hT
  rcases (by omega : kF = 0 ∨ kF = 1 ∨ kF = 2 ∨ kF = 3 ∨ kF = 4 ∨ kF = 5 ∨ kF = 6 ∨ kF = 7 ∨ kF = 8 ∨ kF = 9 ∨ kF = 10) with rfl | rfl | rfl | rfl | rfl | rfl | rfl | rfl | rfl | rfl | rfl
  iterate 11 exact h
 ·
  generalize hAF : fillOf _ _ _ = AF
  replace hAF := fun x => congrFun hAF x
  simp only [take_succ_cons, take_zero, fillOf, Act.put, setIfInBounds_toArray, set_cons_zero, set_cons_succ, Nat.reduceAdd, Nat.zero_add] at hAF
  refine .cons ?_ (.cons ?_ (.cons ?_ (.cons ?_ (.cons ?_ (.cons ?_ (.cons ?_ (.cons ?_ (.cons ?_ (.cons ?_ (.cons ?_ (.nil)))))))))))
  all_goals
   intro xF ww2 hR hd K hK
   first | simp only [← hAF, Act.put, setIfInBounds_toArray, set_cons_zero, set_cons_succ] at hK ⊢ | simp only [← hAF, Act.put] at hK ⊢
   clear hAF
   try simp only [Nat.zero_add, Nat.reduceAdd] at hK ⊢
  ·
   clear hd
   obtain hbl := id hR
   rw [if_pos (by rfl)]
   go_simp
   exact hK.out _ _ (Below.refl _ _) (rfl) (fun _ _ _ => ⟨trivial, trivial⟩)
  ·
   clear hd
   obtain hbl := id hR
   rw [if_pos (by rfl)]
   go_simp
   exact hK.out _ _ (Below.refl _ _) (rfl) (fun _ _ _ => ⟨trivial, trivial⟩)
  ·
   have dd0 := hd 0 (by kernel_rfl)
   have dd1 := hd 1 (by kernel_rfl)
   clear hd
   try generalize xF 0 = yy0 at *
   try generalize xF 1 = yy1 at *
   obtain rfl := dd0
   obtain rfl := dd1
   obtain hbl := id hR
   rw [if_pos (by rfl)]
   go_simp
   exact hK.out _ _ (Below.refl _ _) (rfl) (fun _ _ _ => ⟨trivial, trivial⟩)
  ·
   have dd2 := hd 2 (by kernel_rfl)
   clear hd
   try generalize xF 2 = yy2 at *
   obtain rfl := dd2
   obtain hbl := id hR
   rw [if_pos (by rfl)]
   go_simp
   exact hK.out _ _ (Below.refl _ _) (rfl) (fun _ _ _ => ⟨trivial, trivial⟩)
  ·
   have dd3 := hd 3 (by kernel_rfl)
   clear hd
   try generalize xF 3 = yy3 at *
   obtain rfl := dd3
   obtain hbl := id hR
   have kb := (hR.cell (p := ⟨w.heap.size, 0, none⟩) HZW4.out).trans HKW4.out
   rw [if_pos (by rfl)]
   go_simp
   exact hK.out _ _ (Below.refl _ _) (rfl) (fun _ _ _ => ⟨trivial, trivial⟩)
  ·
   have dd3 := hd 3 (by kernel_rfl)
   clear hd
   try generalize xF 3 = yy3 at *
   obtain rfl := dd3
   obtain hbl := id hR
   rw [if_pos (by rfl)]
   go_simp
   exact hK.out _ _ (Below.refl _ _) (rfl) (fun _ _ _ => ⟨trivial, trivial⟩)
  ·
   have dd3 := hd 3 (by kernel_rfl)
   have dd4 := hd 4 (by kernel_rfl)
   have dd5 := hd 5 (by kernel_rfl)
   clear hd
   try generalize xF 3 = yy3 at *
   try generalize xF 4 = yy4 at *
   try generalize xF 5 = yy5 at *
   obtain rfl := dd3
   obtain rfl := dd4
   obtain rfl := dd5
   obtain hbl := id hR
   rw [if_pos (by rfl)]
   go_simp
   exact hK.out _ _ (Below.refl _ _) (rfl) (fun _ _ _ => ⟨trivial, trivial⟩)
  ·
   have dd3 := hd 3 (by kernel_rfl)
   clear hd
   try generalize xF 3 = yy3 at *
   obtain rfl := dd3
   obtain hbl := id hR
   have yy := (hR.block _ (lt_of_block YW4.out)).trans YW4.out
   have q0 := boxc yy 0 _ rfl
   have q1 := boxc yy 1 _ rfl
   have q2 := boxc yy 2 _ rfl
   have q3 := boxc yy 3 _ rfl
   have q4 := boxc yy 4 _ rfl
   have q5 := boxc yy 5 _ rfl
   have q6 := boxc yy 6 _ rfl
   have q7 := boxc yy 7 _ rfl
   have q8 := boxc yy 8 _ rfl
   rw [if_pos (by rfl)]
   go_simp
   exact hK.out _ _ (Below.refl _ _) (rfl) (fun _ _ _ => ⟨trivial, trivial⟩)
  ·
   have dd3 := hd 3 (by kernel_rfl)
   have dd6 := hd 6 (by kernel_rfl)
   have dd7 := hd 7 (by kernel_rfl)
   clear hd
   try generalize xF 3 = yy3 at *
   try generalize xF 6 = yy6 at *
   try generalize xF 7 = yy7 at *
   obtain rfl := dd3
   obtain rfl := dd6
   obtain rfl := dd7
   obtain hbl := id hR
   rw [if_pos (by rfl)]
   go_simp
   (go_at_call 22; (with_reducible refine (HRT.out _ (HB1.out.trans ((DW4.out.trans (hR.mono DW4.out.size)).mono HB1.out.size))).mono ?_); rintro e wK ⟨rfl, hbK⟩)
   try go_wp2_with fail
   exact hK.out _ _ (hbK) (rfl) (fun _ _ _ => ⟨trivial, trivial⟩)
  ·
   have dd3 := hd 3 (by kernel_rfl)
   have dd8 := hd 8 (by kernel_rfl)
   clear hd
   try generalize xF 3 = yy3 at *
   try generalize xF 8 = yy8 at *
   obtain rfl := dd3
   obtain rfl := dd8
   obtain hbl := id hR
   rw [if_pos (by rfl)]
   go_simp
   exact hK.out _ _ (Below.refl _ _) (rfl) (fun _ _ _ => ⟨trivial, trivial⟩)
  ·
   have dd3 := hd 3 (by kernel_rfl)
   have dd9 := hd 9 (by kernel_rfl)
   clear hd
   try generalize xF 3 = yy3 at *
   try generalize xF 9 = yy9 at *
   obtain rfl := dd3
   obtain rfl := dd9
   obtain hbl := id hR
   rw [if_pos (by rfl)]
   go_simp
   exact hK.out _ _ (Below.refl _ _) (rfl) (fun _ _ _ => ⟨trivial, trivial⟩)
 intro xF ww2 hR hF hP
 clear hP
 have dd0 := hF 0 (by omega) (by decide)
 have dd1 := hF 1 (by omega) (by decide)
 have dd2 := hF 2 (by omega) (by decide)
 have dd3 := hF 3 (by omega) (by decide)
 have dd4 := hF 4 (by omega) (by decide)
 have dd5 := hF 5 (by omega) (by decide)
 have dd6 := hF 6 (by omega) (by decide)
 have dd7 := hF 7 (by omega) (by decide)
 have dd8 := hF 8 (by omega) (by decide)
 have dd9 := hF 9 (by omega) (by decide)
 have dd10 := hF 10 (by omega) (by decide)
 clear hF
 simp only [take_succ_cons, take_zero, drop_succ_cons, drop_zero, fillOf, Act.put, setIfInBounds_toArray, set_cons_zero, set_cons_succ, Nat.reduceAdd, Nat.zero_add]
 try generalize xF 0 = yy0 at *
 try generalize xF 1 = yy1 at *
 try generalize xF 2 = yy2 at *
 try generalize xF 3 = yy3 at *
 try generalize xF 4 = yy4 at *
 try generalize xF 5 = yy5 at *
 try generalize xF 6 = yy6 at *
 try generalize xF 7 = yy7 at *
 try generalize xF 8 = yy8 at *
 try generalize xF 9 = yy9 at *
 try generalize xF 10 = yy10 at *
 clear xF
 obtain rfl := dd0
 obtain rfl := dd1
 obtain rfl := dd2
 obtain rfl := dd3
 obtain rfl := dd4
 obtain rfl := dd5
 obtain rfl := dd6
 obtain rfl := dd7
 obtain rfl := dd8
 obtain rfl := dd9
 obtain rfl := dd10
 have hRE2 := Lib.hid hR
 clear hR
 have HF : Hid (Below w.heap.size w ww2) := HB1.out.trans ((DW4.out.trans (hRE2.out.mono DW4.out.size)).mono HB1.out.size)
 have k1 := (hRE2.out.cell (p := ⟨w.heap.size, 0, none⟩) HZW4.out).trans HKW4.out
 go_wp2
 rw [rounds_succ]
 go_wp2
 exact bodyPost_ret (v := .tuple #[.int .i64 2, .bool true]) (by simp [results, Tryz.results9, go_sem]) rfl ⟨rfl, HF.out⟩
end Go.Proofs.YthmnaemcpcdinaaGreat
