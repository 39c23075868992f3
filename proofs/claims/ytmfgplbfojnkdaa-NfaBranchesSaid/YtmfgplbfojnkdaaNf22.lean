/- texts put together: RfPar. -/
import Derived.Test.YtmfgplbfojnkdaaNf04
import Derived.Test.YtmfgplbfojnkdaaNf21
open List (setIfInBounds_toArray set_cons_zero set_cons_succ take_succ_cons take_zero drop_succ_cons drop_zero)
namespace Go.Proofs.Ytmfgplbfojnkdaa
open Go Go.RowKit Go.ChangeShapes cl rx
open rf
section
variable (q : Nat) (S : ByteArray) (hS : S.size ≤ 60)
include hS
theorem rf_rows_of (n : Nat) (hn : n ≤ 12) (dp : Int) (HO : ∀ (t : T) (W : World), t.p < S.size → RdT q S dp t W → Calls Try.prog 65 #[.pointer (some ⟨q, 0, none⟩)] W (RfA (3 * n + 1) q S dp (once (kit.bytes S) n t) W)) :
  ∀ (t : T) (W : World), t.p ≤ S.size → RdT q S dp t W → Calls Try.prog 54 #[.pointer (some ⟨q, 0, none⟩)] W (RfA (3 * n + 4) q S dp (rf.rows (kit.bytes S) (once (kit.bytes S) n) t) W) :=
 fun t W hp hW => rf_rows (3 * n) (2 * n + 1) q S dp (once (kit.bytes S) n) (once_good n) (by omega) t W hW hS hp HO
theorem rf_once_any : ∀ (n : Nat), n ≤ 12 → ∀ dp : Int, dp = 12 - (n : Int) → ∀ (t : T) (W : World), t.p < S.size → RdT q S dp t W → Calls Try.prog 65 #[.pointer (some ⟨q, 0, none⟩)] W (RfA (3 * n + 1) q S dp (once (kit.bytes S) n t) W)
 | 0, _, dp, hdp, t, W, hp, hW => by
  rw [once_eq]
  exact rf_once 0 q S dp _ t W hW hS hp (fun W h => rf_group0 0 q S dp t.fwd t.p W h (by omega))
 | n + 1, hn, dp, hdp, t, W, hp, hW => by
  rw [once_eq]
  exact rf_once (3 * n + 3) q S dp _ t W hW hS hp (fun W h => rf_group1 n (3 * n + 3) q S dp t.fwd t.p W h hS (by omega) (fun W h =>
   rf_rows_of q S hS n (by omega) (dp + 1) (rf_once_any n (by omega) (dp + 1) (by omega)) t.fwd W hp h))
theorem rf_rows_any (n : Nat) (hn : n ≤ 12) (dp : Int) (hdp : dp = 12 - (n : Int)) : ∀ (t : T) (W : World), t.p ≤ S.size → RdT q S dp t W → Calls Try.prog 54 #[.pointer (some ⟨q, 0, none⟩)] W (RfA (3 * n + 4) q S dp (rf.rows (kit.bytes S) (once (kit.bytes S) n) t) W) :=
 rf_rows_of q S hS n hn dp (rf_once_any q S hS n hn dp hdp)
end
set_option maxHeartbeats 12800000 in
set_option maxRecDepth 100000 in
theorem rf_parse (S : ByteArray) (w : World) (hS : S.size ≤ 60) : Calls Try.prog 35 #[.string S] w (fun e w' => ∃ c, e = .returned (.tuple #[.agg (List.toArray c), .int .i64 (rf.parse (kit.bytes S)).2.1, .int .i64 (rf.parse (kit.bytes S)).2.2]) ∧ Fre w.heap.size w' (fun W => rxR 40 W W.heap.size c (rf.parse (kit.bytes S)).1) ∧ Below w.heap.size w w') := by
 have hlen : (kit.bytes S).length = S.size := by simp [kit.bytes]
 obtain ⟨q1, hq1⟩ : ∃ q1, q1 = w.heap.size := ⟨_, rfl⟩
 obtain ⟨q, hqE⟩ : ∃ q, q = w.heap.size + 1 := ⟨_, rfl⟩
 obtain ⟨W3, hW3⟩ : ∃ W, W = (w.alloc (.cells #[.int .i64 0, .int .u64 0, .int .u64 0, .int .u64 0, .int .u64 0, .slice none 0 0, .int .i64 0, .int .i64 0] 27)).alloc (.cells #[.string S, .int .i64 0, .int .i64 0, .int .i64 0, .int .i64 0] 90) := ⟨_, rfl⟩
 have b3 : Below w.heap.size w W3 := by rw [hW3]; exact below1.trans (below1.mono (by simp))
 have r3 : RdT q S 0 ⟨0, 0, 0⟩ W3 := by
  have : q = (w.alloc (.cells #[.int .i64 0, .int .u64 0, .int .u64 0, .int .u64 0, .int .u64 0, .slice none 0 0, .int .i64 0, .int .i64 0] 27)).heap.size := by rw [World.size_alloc, hqE]
  unfold RdT Rd
  rw [hW3, this]; exact heap_alloc_new _ _
 have Z3 : Hid (W3.heap[q1]? = some (.cells #[.int .i64 0, .int .u64 0, .int .u64 0, .int .u64 0, .int .u64 0, .slice none 0 0, .int .i64 0, .int .i64 0] 27)) := by
  show _ = _
  rw [hW3]; exact (below1.block q1 (by rw [World.size_alloc, hq1]; omega)).trans (by rw [hq1]; exact heap_alloc_new _ _)
 have HRO := Lib.hid (rf_rows_any q S hS 12 (by omega) 0 (by rfl) ⟨0, 0, 0⟩ W3 (Nat.zero_le _) r3)
 obtain ⟨x, t1, hr⟩ : ∃ x t1, rf.rows (kit.bytes S) (once (kit.bytes S) 12) ⟨0, 0, 0⟩ = (x, t1) := ⟨_, _, rfl⟩
 rw [hr] at HRO
 have R3 := Lib.hid r3
 have B3 := Lib.hid b3
 have HW3 := Lib.hid hW3
 have HQ1 := Lib.hid hq1
 have HQE := Lib.hid hqE
 have HQQ : Hid (q1 < q) := by show _ < _; omega
 have H13 : Hid (q1 < W3.heap.size) := lt_of_block Z3.out
 have HLEN := Lib.hid hlen
 have h60 : ¬ (60 : Int) < (S.size : Int) := by omega
 have HFL : Hid (∀ W, RdT q S 0 t1 W → Calls Try.prog 55 #[.pointer (some ⟨q, 0, none⟩), .int .i64 (t1.p : Int), .int .i64 9] W (fun e w' => e = .returned (.tuple #[]) ∧ RKT q S 0 (t1.fail t1.p 9) W w')) := fun W hW => rf_fail q S 0 t1 t1.p 9 W hW
 obtain ⟨pa, hpa⟩ : ∃ pa, pa = rf.parse (kit.bytes S) := ⟨_, rfl⟩
 rw [← hpa]
 unfold rf.parse at hpa
 rw [if_neg (by omega), hr] at hpa
 simp only at hpa
 obtain ⟨p1, hp1⟩ : ∃ p, p = t1.p := ⟨_, rfl⟩
 clear hq1 hqE hW3 b3 r3 hr
 by_cases g : t1.co = 0
 ·
  by_cases g2 : t1.p < S.size
  ·
   have hf : t1.fail t1.p 9 = { t1 with wr := t1.p, co := 9 } := by unfold T.fail; rw [if_pos g]
   have ht : (if t1.co = 0 ∧ t1.p < (kit.bytes S).length then t1.fail t1.p 9 else t1) = { t1 with wr := t1.p, co := 9 } := (if_pos ⟨g, by omega⟩).trans hf
   rw [ht] at hpa
   simp only at hpa
   rw [if_pos (by decide)] at hpa
   clear ht
   rw [hf] at HFL
   have HPA := Lib.hid hpa
   have gi : (t1.p : Int) < (S.size : Int) := by omega
   have gb : (t1.co == 0) = true := by simp [g]
   have HG := Lib.hid g
   clear hpa hf hlen hp1 g
   go_enter Try.func35, Try.ntmps35
   go_wp2_with fail
   rw [← HW3.out, ← HQE.out, ← HQ1.out]
   (with_reducible refine HRO.out.mono ?_)
   rintro e4 w4 ⟨c, rfl, f4, r4, k4⟩
   have r4 : RdT q S 0 t1 w4 := r4
   obtain ⟨ko, kn, kc, rfl⟩ := rx_form f4.at
   obtain ⟨W5, hW5⟩ : ∃ W, W = w4.alloc (.cells #[.int .i64 x.k, .int .u64 x.cl.a, .int .u64 x.cl.b, .int .u64 x.cl.c, .int .u64 x.cl.d, .slice ko kn kc, .int .i64 x.mn, .int .i64 x.mx] 27) := ⟨_, rfl⟩
   have b5 : Below w4.heap.size w4 W5 := by rw [hW5]; exact below1
   obtain ⟨q2, hq2⟩ : ∃ q2, q2 = w4.heap.size := ⟨_, rfl⟩
   have X5 : Hid (W5.heap[q2]? = some (.cells #[.int .i64 x.k, .int .u64 x.cl.a, .int .u64 x.cl.b, .int .u64 x.cl.c, .int .u64 x.cl.d, .slice ko kn kc, .int .i64 x.mn, .int .i64 x.mx] 27)) := by show _ = _; rw [hW5, hq2]; exact heap_alloc_new _ _
   have R5 := Lib.hid (r4.next b5)
   have K5 := Lib.hid (KX.trans (KX.of (q := q) B3.out) (k4.next b5))
   have F5 := Lib.hid (FreA.next f4 b5)
   have Z5 := Lib.hid ((b5.block q1 (by have := k4.2.1; have := lt_of_block Z3.out; omega)).trans ((k4.2.2 q1 (lt_of_block Z3.out) (by have := HQQ.out; omega)).trans Z3.out))
   have B5 : Hid (Below w.heap.size w W5) := B3.out.trans ⟨b5.os.trans k4.1.1, b5.tape.trans k4.1.2.1, b5.output.trans k4.1.2.2, Nat.le_trans k4.2.1 b5.size, fun j hj => by
    have h1 : j < w4.heap.size := by have := B3.out.size; have := k4.2.1; omega
    rw [b5.block j h1]
    exact k4.2.2 j (by have := B3.out.size; omega) (by have := HQQ.out; have := HQ1.out; omega)⟩
   have HQ2 : Hid (W3.heap.size ≤ q2) := by show _ ≤ _; rw [hq2]; exact k4.2.1
   have HW5 := Lib.hid hW5
   have HQ2E := Lib.hid hq2
   have y0 := boxc R5.out.box 0 _ rfl
   have y1 := boxc R5.out.box 1 _ rfl
   have y3 := boxc R5.out.box 3 _ rfl
   have y4 := boxc R5.out.box 4 _ rfl
   rw [hW5] at y0 y1 y3 y4
   rw [HG.out] at y4
   clear f4 r4 k4 b5 hW5 hq2
   go_wp2_with fail
   rw [← HW5.out, ← HQ2E.out]
   clear y0 y1 y3 y4
   (with_reducible refine (HFL.out _ R5.out).mono ?_)
   rintro e6 w6 ⟨rfl, r6, k6⟩
   have HRF := Lib.hid r6
   have Z6 := Lib.hid ((k6.2.2 q1 (lt_of_block Z5.out) (by have := HQQ.out; omega)).trans Z5.out)
   have B6 : Hid (Below w.heap.size w w6) := B5.out.trans ⟨k6.1.1, k6.1.2.1, k6.1.2.2, k6.2.1, fun j hj => k6.2.2 j (by have := B5.out.size; omega) (by have := HQQ.out; have := HQ1.out; omega)⟩
   have y4 := boxc r6.box 4 _ rfl
   clear r6 k6
   go_wp2
   clear y4
   have ZST := Z6
   refine wp_flow 8 (fun _ => 1000) (fun ww => KX q1 w6 ww ∧ ww.heap[q1]? = some (.cells #[.int .i64 0, .int .u64 0, .int .u64 0, .int .u64 0, .int .u64 0, .slice none 0 0, .int .i64 0, .int .i64 0] 27 (0, 0))) (fun _ w w' => (fun (w w' : World) => KX q1 w w' ∧ (w.heap[q1]? = some (.cells #[.int .i64 0, .int .u64 0, .int .u64 0, .int .u64 0, .int .u64 0, .slice none 0 0, .int .i64 0, .int .i64 0] 27 (0, 0)) → w'.heap[q1]? = some (.cells #[.int .i64 0, .int .u64 0, .int .u64 0, .int .u64 0, .int .u64 0, .slice none 0 0, .int .i64 0, .int .i64 0] 27 (0, 0)))) w w') (fun kF vF wF => match kF with | 0 => (vF = .agg #[.int .i64 0, .int .u64 0, .int .u64 0, .int .u64 0, .int .u64 0, .slice none 0 0, .int .i64 0, .int .i64 0]) | 1 => (vF = .pointer (some ⟨q, 3, none⟩)) | 2 => (vF = .int .i64 (t1.p : Int)) | 3 => (vF = .pointer (some ⟨q, 4, none⟩)) | 4 => (vF = .int .i64 9) | 5 => (vF = undef) | 6 => (vF = .int .i64 (t1.p : Int)) | 7 => (vF = .int .i64 9) | _ => True) (fun _ _ _ _ => True) (by kernel_rfl) (by kernel_rfl) ?_ ?_ ?_ ?_ ?_
   ·
    exact ⟨KX.of (Below.refl _ _).drew, ZST.out⟩
   ·
    intro iF wF1 wF2 hR hT; exact ⟨hR.1.trans hT.1, hT.2 hR.2⟩
   ·
    intro kF hkF iF hiF hne hdd hanc hdan vF wF1 wF2 h hT
    rcases (by omega : kF = 0 ∨ kF = 1 ∨ kF = 2 ∨ kF = 3 ∨ kF = 4 ∨ kF = 5 ∨ kF = 6 ∨ kF = 7) with rfl | rfl | rfl | rfl | rfl | rfl | rfl | rfl
    iterate 8 exact h
   ·
    generalize hAF : fillOf _ _ _ = AF
    replace hAF := fun x => congrFun hAF x
    simp only [take_succ_cons, take_zero, fillOf, Act.put, setIfInBounds_toArray, set_cons_zero, set_cons_succ, Nat.reduceAdd, Nat.zero_add] at hAF
    refine .cons ?_ (.cons ?_ (.cons ?_ (.cons ?_ (.cons ?_ (.cons ?_ (.cons ?_ (.cons ?_ (.nil))))))))
    all_goals
     intro xF wz hR hd K hK
     first | simp only [← hAF, Act.put, setIfInBounds_toArray, set_cons_zero, set_cons_succ] at hK ⊢ | simp only [← hAF, Act.put] at hK ⊢
     clear hAF
     try simp only [Nat.zero_add, Nat.reduceAdd] at hK ⊢
    ·
     clear hd
     obtain ⟨hbR, hzz⟩ := id hR
     rw [if_pos (by rfl)]
     go_simp
     exact hK.out _ _ (⟨KX.refl, id⟩) (rfl) (fun _ _ _ => ⟨trivial, trivial⟩)
    ·
     clear hd
     obtain ⟨hbR, hzz⟩ := id hR
     rw [if_pos (by rfl)]
     go_simp
     exact hK.out _ _ (⟨KX.refl, id⟩) (rfl) (fun _ _ _ => ⟨trivial, trivial⟩)
    ·
     have dd1 := hd 1 (by kernel_rfl)
     clear hd
     try generalize xF 1 = yy1 at *
     obtain rfl := dd1
     obtain ⟨hbR, hzz⟩ := id hR
     have hxa := HRF.out.keep hbR (by have := HQQ.out; omega)
     have c9 := boxc hxa 3 _ rfl
     clear hxa
     rw [if_pos (by rfl)]
     go_simp
     exact hK.out _ _ (⟨KX.refl, id⟩) (rfl) (fun _ _ _ => ⟨trivial, trivial⟩)
    ·
     clear hd
     obtain ⟨hbR, hzz⟩ := id hR
     rw [if_pos (by rfl)]
     go_simp
     exact hK.out _ _ (⟨KX.refl, id⟩) (rfl) (fun _ _ _ => ⟨trivial, trivial⟩)
    ·
     have dd3 := hd 3 (by kernel_rfl)
     clear hd
     try generalize xF 3 = yy3 at *
     obtain rfl := dd3
     obtain ⟨hbR, hzz⟩ := id hR
     have hxa := HRF.out.keep hbR (by have := HQQ.out; omega)
     have c9 := boxc hxa 4 _ rfl
     clear hxa
     rw [if_pos (by rfl)]
     go_simp
     exact hK.out _ _ (⟨KX.refl, id⟩) (rfl) (fun _ _ _ => ⟨trivial, trivial⟩)
    ·
     have dd0 := hd 0 (by kernel_rfl)
     clear hd
     try generalize xF 0 = yy0 at *
     obtain rfl := dd0
     obtain ⟨hbR, hzz⟩ := id hR
     rw [if_pos (by rfl)]
     refine wp_store_row 27 (.tmp 2) (.tmp 30) rfl q1 #[.int .i64 0, .int .u64 0, .int .u64 0, .int .u64 0, .int .u64 0, .slice none 0 0, .int .i64 0, .int .i64 0] rfl rfl 27 #[.int .i64 0, .int .u64 0, .int .u64 0, .int .u64 0, .int .u64 0, .slice none 0 0, .int .i64 0, .int .i64 0] hzz rsize rfl (by simp [Value.oneCell']) ?_
     exact hK.out _ _ (⟨KX.row, fun _ => setRow_heap _ _ _ _ _ _ hzz⟩) (rfl) (fun _ _ _ => ⟨trivial, trivial⟩)
    ·
     have dd2 := hd 2 (by kernel_rfl)
     clear hd
     try generalize xF 2 = yy2 at *
     obtain rfl := dd2
     obtain ⟨hbR, hzz⟩ := id hR
     rw [if_pos (by rfl)]
     go_simp
     exact hK.out _ _ (⟨KX.refl, id⟩) (rfl) (fun _ _ _ => ⟨trivial, trivial⟩)
    ·
     have dd4 := hd 4 (by kernel_rfl)
     clear hd
     try generalize xF 4 = yy4 at *
     obtain rfl := dd4
     obtain ⟨hbR, hzz⟩ := id hR
     rw [if_pos (by rfl)]
     go_simp
     exact hK.out _ _ (⟨KX.refl, id⟩) (rfl) (fun _ _ _ => ⟨trivial, trivial⟩)
   intro xF wz hR hF hP
   clear hP
   have dd0 := hF 0 (by omega) (by decide)
   have dd1 := hF 1 (by omega) (by decide)
   have dd2 := hF 2 (by omega) (by decide)
   have dd3 := hF 3 (by omega) (by decide)
   have dd4 := hF 4 (by omega) (by decide)
   have dd5 := hF 5 (by omega) (by decide)
   have dd6 := hF 6 (by omega) (by decide)
   have dd7 := hF 7 (by omega) (by decide)
   clear hF
   simp only [take_succ_cons, take_zero, drop_succ_cons, drop_zero, fillOf, Act.put, setIfInBounds_toArray, set_cons_zero, set_cons_succ, Nat.reduceAdd, Nat.zero_add]
   try generalize xF 0 = yy0 at *
   try generalize xF 1 = yy1 at *
   try generalize xF 2 = yy2 at *
   try generalize xF 3 = yy3 at *
   try generalize xF 4 = yy4 at *
   try generalize xF 5 = yy5 at *
   try generalize xF 6 = yy6 at *
   try generalize xF 7 = yy7 at *
   clear xF
   obtain rfl := dd0
   obtain rfl := dd1
   obtain rfl := dd2
   obtain rfl := dd3
   obtain rfl := dd4
   obtain rfl := dd5
   obtain rfl := dd6
   obtain rfl := dd7
   have hRE := Lib.hid hR
   clear hR
   have cc := hRE.out.2
   have bb : Below w.heap.size w wz := B6.out.trans ⟨hRE.out.1.1.1, hRE.out.1.1.2.1, hRE.out.1.1.2.2, hRE.out.1.2.1, fun j hj => hRE.out.1.2.2 j (by have := B6.out.size; omega) (by have := HQ1.out; omega)⟩
   go_wp2
   have k0 := boxc cc 0 _ rfl
   have k1 := boxc cc 1 _ rfl
   have k2 := boxc cc 2 _ rfl
   have k3 := boxc cc 3 _ rfl
   have k4 := boxc cc 4 _ rfl
   have k5 := boxc cc 5 _ rfl
   have k6 := boxc cc 6 _ rfl
   have k7 := boxc cc 7 _ rfl
   refine bodyPost_ret (v := .tuple #[.agg #[.int .i64 0, .int .u64 0, .int .u64 0, .int .u64 0, .int .u64 0, .slice none 0 0, .int .i64 0, .int .i64 0], .int .i64 (t1.p : Int), .int .i64 9]) (by simp [results, Try.results35, go_sem, k0, k1, k2, k3, k4, k5, k6, k7]) rfl ?_
   rw [HPA.out]
   exact ⟨[.int .i64 0, .int .u64 0, .int .u64 0, .int .u64 0, .int .u64 0, .slice none 0 0, .int .i64 0, .int .i64 0], rfl, fun W _ _ => ⟨none, 0, 0, rfl, RowsAt.nil _ _⟩, bb⟩
  ·
   have ht : (if t1.co = 0 ∧ t1.p < (kit.bytes S).length then t1.fail t1.p 9 else t1) = t1 := if_neg (by omega)
   rw [ht, if_neg (by simp [g])] at hpa
   clear ht
   have HPA := Lib.hid hpa
   have gi : ¬ (t1.p : Int) < (S.size : Int) := by omega
   have HG := Lib.hid g
   clear hpa hlen hp1 g
   go_enter Try.func35, Try.ntmps35
   go_wp2_with fail
   rw [← HW3.out, ← HQE.out, ← HQ1.out]
   (with_reducible refine HRO.out.mono ?_)
   rintro e4 w4 ⟨c, rfl, f4, r4, k4⟩
   have r4 : RdT q S 0 t1 w4 := r4
   obtain ⟨ko, kn, kc, rfl⟩ := rx_form f4.at
   obtain ⟨W5, hW5⟩ : ∃ W, W = w4.alloc (.cells #[.int .i64 x.k, .int .u64 x.cl.a, .int .u64 x.cl.b, .int .u64 x.cl.c, .int .u64 x.cl.d, .slice ko kn kc, .int .i64 x.mn, .int .i64 x.mx] 27) := ⟨_, rfl⟩
   have b5 : Below w4.heap.size w4 W5 := by rw [hW5]; exact below1
   obtain ⟨q2, hq2⟩ : ∃ q2, q2 = w4.heap.size := ⟨_, rfl⟩
   have X5 : Hid (W5.heap[q2]? = some (.cells #[.int .i64 x.k, .int .u64 x.cl.a, .int .u64 x.cl.b, .int .u64 x.cl.c, .int .u64 x.cl.d, .slice ko kn kc, .int .i64 x.mn, .int .i64 x.mx] 27)) := by show _ = _; rw [hW5, hq2]; exact heap_alloc_new _ _
   have R5 := Lib.hid (r4.next b5)
   have K5 := Lib.hid (KX.trans (KX.of (q := q) B3.out) (k4.next b5))
   have F5 := Lib.hid (FreA.next f4 b5)
   have Z5 := Lib.hid ((b5.block q1 (by have := k4.2.1; have := lt_of_block Z3.out; omega)).trans ((k4.2.2 q1 (lt_of_block Z3.out) (by have := HQQ.out; omega)).trans Z3.out))
   have B5 : Hid (Below w.heap.size w W5) := B3.out.trans ⟨b5.os.trans k4.1.1, b5.tape.trans k4.1.2.1, b5.output.trans k4.1.2.2, Nat.le_trans k4.2.1 b5.size, fun j hj => by
    have h1 : j < w4.heap.size := by have := B3.out.size; have := k4.2.1; omega
    rw [b5.block j h1]
    exact k4.2.2 j (by have := B3.out.size; omega) (by have := HQQ.out; have := HQ1.out; omega)⟩
   have HQ2 : Hid (W3.heap.size ≤ q2) := by show _ ≤ _; rw [hq2]; exact k4.2.1
   have HW5 := Lib.hid hW5
   have HQ2E := Lib.hid hq2
   have y0 := boxc R5.out.box 0 _ rfl
   have y1 := boxc R5.out.box 1 _ rfl
   have y3 := boxc R5.out.box 3 _ rfl
   have y4 := boxc R5.out.box 4 _ rfl
   rw [hW5] at y0 y1 y3 y4
   rw [HG.out] at y4
   clear f4 r4 k4 b5 hW5 hq2
   have hz := Z5.out
   have BZ := B5.out
   have x5 := X5.out
   have u0 := boxc x5 0 _ rfl
   have u1 := boxc x5 1 _ rfl
   have u2 := boxc x5 2 _ rfl
   have u3 := boxc x5 3 _ rfl
   have u4 := boxc x5 4 _ rfl
   have u5 := boxc x5 5 _ rfl
   have u6 := boxc x5 6 _ rfl
   have u7 := boxc x5 7 _ rfl
   rw [HW5.out, HQ2E.out] at u0 u1 u2 u3 u4 u5 u6 u7
   clear hz x5
   go_wp2_with ((with_reducible show wpList _ _ _ (Oper.mk _ (Op.store 27 (.tmp 2) _) _ _ _ _ :: _) _ _); rw [← HW5.out]; refine wpList_store_row rfl 27 (.tmp 2) _ rfl (q1) #[.int .i64 x.k, .int .u64 x.cl.a, .int .u64 x.cl.b, .int .u64 x.cl.c, .int .u64 x.cl.d, .slice ko kn kc, .int .i64 x.mn, .int .i64 x.mx] rfl rfl 27 #[.int .i64 0, .int .u64 0, .int .u64 0, .int .u64 0, .int .u64 0, .slice none 0 0, .int .i64 0, .int .i64 0] Z5.out rsize rfl (by simp [Value.oneCell']) ?_)
   have cc := setRow_heap _ q1 _ #[.int .i64 x.k, .int .u64 x.cl.a, .int .u64 x.cl.b, .int .u64 x.cl.c, .int .u64 x.cl.d, .slice ko kn kc, .int .i64 x.mn, .int .i64 x.mx] _ _ Z5.out
   have bb : Below w.heap.size w (World.setRow W5 q1 #[.int .i64 x.k, .int .u64 x.cl.a, .int .u64 x.cl.b, .int .u64 x.cl.c, .int .u64 x.cl.d, .slice ko kn kc, .int .i64 x.mn, .int .i64 x.mx]) := below_setRow BZ (g := q1) (by rw [HQ1.out]; exact Nat.le_refl _) _
   have ff : Fre w.heap.size (World.setRow W5 q1 #[.int .i64 x.k, .int .u64 x.cl.a, .int .u64 x.cl.b, .int .u64 x.cl.c, .int .u64 x.cl.d, .slice ko kn kc, .int .i64 x.mn, .int .i64 x.mx]) (fun W => rxR 40 W W.heap.size [.int .i64 x.k, .int .u64 x.cl.a, .int .u64 x.cl.b, .int .u64 x.cl.c, .int .u64 x.cl.d, .slice ko kn kc, .int .i64 x.mn, .int .i64 x.mx] x) := FreA.low (Fre.kx F5.out KX.row H13.out) B3.out.size
   obtain ⟨w9, h9⟩ : ∃ W, W = World.setRow W5 q1 #[.int .i64 x.k, .int .u64 x.cl.a, .int .u64 x.cl.b, .int .u64 x.cl.c, .int .u64 x.cl.d, .slice ko kn kc, .int .i64 x.mn, .int .i64 x.mx] := ⟨_, rfl⟩
   rw [← h9] at cc bb ff ⊢
   clear h9
   go_wp2
   have k0 := boxc cc 0 _ rfl
   have k1 := boxc cc 1 _ rfl
   have k2 := boxc cc 2 _ rfl
   have k3 := boxc cc 3 _ rfl
   have k4 := boxc cc 4 _ rfl
   have k5 := boxc cc 5 _ rfl
   have k6 := boxc cc 6 _ rfl
   have k7 := boxc cc 7 _ rfl
   refine bodyPost_ret (v := .tuple #[.agg #[.int .i64 x.k, .int .u64 x.cl.a, .int .u64 x.cl.b, .int .u64 x.cl.c, .int .u64 x.cl.d, .slice ko kn kc, .int .i64 x.mn, .int .i64 x.mx], .int .i64 0, .int .i64 0]) (by simp [results, Try.results35, go_sem, k0, k1, k2, k3, k4, k5, k6, k7]) rfl ?_
   rw [HPA.out]
   exact ⟨[.int .i64 x.k, .int .u64 x.cl.a, .int .u64 x.cl.b, .int .u64 x.cl.c, .int .u64 x.cl.d, .slice ko kn kc, .int .i64 x.mn, .int .i64 x.mx], rfl, ff, bb⟩
 ·
  have ht : (if t1.co = 0 ∧ t1.p < (kit.bytes S).length then t1.fail t1.p 9 else t1) = t1 := if_neg (by omega)
  rw [ht, if_pos g] at hpa
  have gb : (t1.co == 0) = false := beq_eq_false_iff_ne.2 g
  have gnb : (t1.co != 0) = true := by rw [bne, gb]; rfl
  clear ht
  have HPA := Lib.hid hpa
  clear hpa hlen hp1
  go_enter Try.func35, Try.ntmps35
  go_wp2_with fail
  rw [← HW3.out, ← HQE.out, ← HQ1.out]
  (with_reducible refine HRO.out.mono ?_)
  rintro e4 w4 ⟨c, rfl, f4, r4, k4⟩
  have r4 : RdT q S 0 t1 w4 := r4
  obtain ⟨ko, kn, kc, rfl⟩ := rx_form f4.at
  obtain ⟨W5, hW5⟩ : ∃ W, W = w4.alloc (.cells #[.int .i64 x.k, .int .u64 x.cl.a, .int .u64 x.cl.b, .int .u64 x.cl.c, .int .u64 x.cl.d, .slice ko kn kc, .int .i64 x.mn, .int .i64 x.mx] 27) := ⟨_, rfl⟩
  have b5 : Below w4.heap.size w4 W5 := by rw [hW5]; exact below1
  obtain ⟨q2, hq2⟩ : ∃ q2, q2 = w4.heap.size := ⟨_, rfl⟩
  have X5 : Hid (W5.heap[q2]? = some (.cells #[.int .i64 x.k, .int .u64 x.cl.a, .int .u64 x.cl.b, .int .u64 x.cl.c, .int .u64 x.cl.d, .slice ko kn kc, .int .i64 x.mn, .int .i64 x.mx] 27)) := by show _ = _; rw [hW5, hq2]; exact heap_alloc_new _ _
  have R5 := Lib.hid (r4.next b5)
  have K5 := Lib.hid (KX.trans (KX.of (q := q) B3.out) (k4.next b5))
  have F5 := Lib.hid (FreA.next f4 b5)
  have Z5 := Lib.hid ((b5.block q1 (by have := k4.2.1; have := lt_of_block Z3.out; omega)).trans ((k4.2.2 q1 (lt_of_block Z3.out) (by have := HQQ.out; omega)).trans Z3.out))
  have B5 : Hid (Below w.heap.size w W5) := B3.out.trans ⟨b5.os.trans k4.1.1, b5.tape.trans k4.1.2.1, b5.output.trans k4.1.2.2, Nat.le_trans k4.2.1 b5.size, fun j hj => by
   have h1 : j < w4.heap.size := by have := B3.out.size; have := k4.2.1; omega
   rw [b5.block j h1]
   exact k4.2.2 j (by have := B3.out.size; omega) (by have := HQQ.out; have := HQ1.out; omega)⟩
  have HQ2 : Hid (W3.heap.size ≤ q2) := by show _ ≤ _; rw [hq2]; exact k4.2.1
  have HW5 := Lib.hid hW5
  have HQ2E := Lib.hid hq2
  have y0 := boxc R5.out.box 0 _ rfl
  have y1 := boxc R5.out.box 1 _ rfl
  have y3 := boxc R5.out.box 3 _ rfl
  have y4 := boxc R5.out.box 4 _ rfl
  rw [hW5] at y0 y1 y3 y4
  clear f4 r4 k4 b5 hW5 hq2
  go_wp2
  rw [← HW5.out, ← HQ2E.out]
  clear y0 y1 y3 y4
  have HRF := R5
  have ZST := Z5
  refine wp_flow 8 (fun _ => 1000) (fun ww => KX q1 W5 ww ∧ ww.heap[q1]? = some (.cells #[.int .i64 0, .int .u64 0, .int .u64 0, .int .u64 0, .int .u64 0, .slice none 0 0, .int .i64 0, .int .i64 0] 27 (0, 0))) (fun _ w w' => (fun (w w' : World) => KX q1 w w' ∧ (w.heap[q1]? = some (.cells #[.int .i64 0, .int .u64 0, .int .u64 0, .int .u64 0, .int .u64 0, .slice none 0 0, .int .i64 0, .int .i64 0] 27 (0, 0)) → w'.heap[q1]? = some (.cells #[.int .i64 0, .int .u64 0, .int .u64 0, .int .u64 0, .int .u64 0, .slice none 0 0, .int .i64 0, .int .i64 0] 27 (0, 0)))) w w') (fun kF vF wF => match kF with | 0 => (vF = .agg #[.int .i64 0, .int .u64 0, .int .u64 0, .int .u64 0, .int .u64 0, .slice none 0 0, .int .i64 0, .int .i64 0]) | 1 => (vF = .pointer (some ⟨q, 3, none⟩)) | 2 => (vF = .int .i64 t1.wr) | 3 => (vF = .pointer (some ⟨q, 4, none⟩)) | 4 => (vF = .int .i64 t1.co) | 5 => (vF = undef) | 6 => (vF = .int .i64 t1.wr) | 7 => (vF = .int .i64 t1.co) | _ => True) (fun _ _ _ _ => True) (by kernel_rfl) (by kernel_rfl) ?_ ?_ ?_ ?_ ?_
  ·
   exact ⟨KX.of (Below.refl _ _).drew, ZST.out⟩
  ·
   intro iF wF1 wF2 hR hT; exact ⟨hR.1.trans hT.1, hT.2 hR.2⟩
  ·
   intro kF hkF iF hiF hne hdd hanc hdan vF wF1 wF2 h hT
   rcases (by omega : kF = 0 ∨ kF = 1 ∨ kF = 2 ∨ kF = 3 ∨ kF = 4 ∨ kF = 5 ∨ kF = 6 ∨ kF = 7) with rfl | rfl | rfl | rfl | rfl | rfl | rfl | rfl
   iterate 8 exact h
  ·
   generalize hAF : fillOf _ _ _ = AF
   replace hAF := fun x => congrFun hAF x
   simp only [take_succ_cons, take_zero, fillOf, Act.put, setIfInBounds_toArray, set_cons_zero, set_cons_succ, Nat.reduceAdd, Nat.zero_add] at hAF
   refine .cons ?_ (.cons ?_ (.cons ?_ (.cons ?_ (.cons ?_ (.cons ?_ (.cons ?_ (.cons ?_ (.nil))))))))
   all_goals
    intro xF wz hR hd K hK
    first | simp only [← hAF, Act.put, setIfInBounds_toArray, set_cons_zero, set_cons_succ] at hK ⊢ | simp only [← hAF, Act.put] at hK ⊢
    clear hAF
    try simp only [Nat.zero_add, Nat.reduceAdd] at hK ⊢
   ·
    clear hd
    obtain ⟨hbR, hzz⟩ := id hR
    rw [if_pos (by rfl)]
    go_simp
    exact hK.out _ _ (⟨KX.refl, id⟩) (rfl) (fun _ _ _ => ⟨trivial, trivial⟩)
   ·
    clear hd
    obtain ⟨hbR, hzz⟩ := id hR
    rw [if_pos (by rfl)]
    go_simp
    exact hK.out _ _ (⟨KX.refl, id⟩) (rfl) (fun _ _ _ => ⟨trivial, trivial⟩)
   ·
    have dd1 := hd 1 (by kernel_rfl)
    clear hd
    try generalize xF 1 = yy1 at *
    obtain rfl := dd1
    obtain ⟨hbR, hzz⟩ := id hR
    have hxa := HRF.out.keep hbR (by have := HQQ.out; omega)
    have c9 := boxc hxa 3 _ rfl
    clear hxa
    rw [if_pos (by rfl)]
    go_simp
    exact hK.out _ _ (⟨KX.refl, id⟩) (rfl) (fun _ _ _ => ⟨trivial, trivial⟩)
   ·
    clear hd
    obtain ⟨hbR, hzz⟩ := id hR
    rw [if_pos (by rfl)]
    go_simp
    exact hK.out _ _ (⟨KX.refl, id⟩) (rfl) (fun _ _ _ => ⟨trivial, trivial⟩)
   ·
    have dd3 := hd 3 (by kernel_rfl)
    clear hd
    try generalize xF 3 = yy3 at *
    obtain rfl := dd3
    obtain ⟨hbR, hzz⟩ := id hR
    have hxa := HRF.out.keep hbR (by have := HQQ.out; omega)
    have c9 := boxc hxa 4 _ rfl
    clear hxa
    rw [if_pos (by rfl)]
    go_simp
    exact hK.out _ _ (⟨KX.refl, id⟩) (rfl) (fun _ _ _ => ⟨trivial, trivial⟩)
   ·
    have dd0 := hd 0 (by kernel_rfl)
    clear hd
    try generalize xF 0 = yy0 at *
    obtain rfl := dd0
    obtain ⟨hbR, hzz⟩ := id hR
    rw [if_pos (by rfl)]
    refine wp_store_row 27 (.tmp 2) (.tmp 30) rfl q1 #[.int .i64 0, .int .u64 0, .int .u64 0, .int .u64 0, .int .u64 0, .slice none 0 0, .int .i64 0, .int .i64 0] rfl rfl 27 #[.int .i64 0, .int .u64 0, .int .u64 0, .int .u64 0, .int .u64 0, .slice none 0 0, .int .i64 0, .int .i64 0] hzz rsize rfl (by simp [Value.oneCell']) ?_
    exact hK.out _ _ (⟨KX.row, fun _ => setRow_heap _ _ _ _ _ _ hzz⟩) (rfl) (fun _ _ _ => ⟨trivial, trivial⟩)
   ·
    have dd2 := hd 2 (by kernel_rfl)
    clear hd
    try generalize xF 2 = yy2 at *
    obtain rfl := dd2
    obtain ⟨hbR, hzz⟩ := id hR
    rw [if_pos (by rfl)]
    go_simp
    exact hK.out _ _ (⟨KX.refl, id⟩) (rfl) (fun _ _ _ => ⟨trivial, trivial⟩)
   ·
    have dd4 := hd 4 (by kernel_rfl)
    clear hd
    try generalize xF 4 = yy4 at *
    obtain rfl := dd4
    obtain ⟨hbR, hzz⟩ := id hR
    rw [if_pos (by rfl)]
    go_simp
    exact hK.out _ _ (⟨KX.refl, id⟩) (rfl) (fun _ _ _ => ⟨trivial, trivial⟩)
  intro xF wz hR hF hP
  clear hP
  have dd0 := hF 0 (by omega) (by decide)
  have dd1 := hF 1 (by omega) (by decide)
  have dd2 := hF 2 (by omega) (by decide)
  have dd3 := hF 3 (by omega) (by decide)
  have dd4 := hF 4 (by omega) (by decide)
  have dd5 := hF 5 (by omega) (by decide)
  have dd6 := hF 6 (by omega) (by decide)
  have dd7 := hF 7 (by omega) (by decide)
  clear hF
  simp only [take_succ_cons, take_zero, drop_succ_cons, drop_zero, fillOf, Act.put, setIfInBounds_toArray, set_cons_zero, set_cons_succ, Nat.reduceAdd, Nat.zero_add]
  try generalize xF 0 = yy0 at *
  try generalize xF 1 = yy1 at *
  try generalize xF 2 = yy2 at *
  try generalize xF 3 = yy3 at *
  try generalize xF 4 = yy4 at *
  try generalize xF 5 = yy5 at *
  try generalize xF 6 = yy6 at *
  try generalize xF 7 = yy7 at *
  clear xF
  obtain rfl := dd0
  obtain rfl := dd1
  obtain rfl := dd2
  obtain rfl := dd3
  obtain rfl := dd4
  obtain rfl := dd5
  obtain rfl := dd6
  obtain rfl := dd7
  have hRE := Lib.hid hR
  clear hR
  have cc := hRE.out.2
  have bb : Below w.heap.size w wz := B5.out.trans ⟨hRE.out.1.1.1, hRE.out.1.1.2.1, hRE.out.1.1.2.2, hRE.out.1.2.1, fun j hj => hRE.out.1.2.2 j (by have := B5.out.size; omega) (by have := HQ1.out; omega)⟩
  go_wp2
  have k0 := boxc cc 0 _ rfl
  have k1 := boxc cc 1 _ rfl
  have k2 := boxc cc 2 _ rfl
  have k3 := boxc cc 3 _ rfl
  have k4 := boxc cc 4 _ rfl
  have k5 := boxc cc 5 _ rfl
  have k6 := boxc cc 6 _ rfl
  have k7 := boxc cc 7 _ rfl
  refine bodyPost_ret (v := .tuple #[.agg #[.int .i64 0, .int .u64 0, .int .u64 0, .int .u64 0, .int .u64 0, .slice none 0 0, .int .i64 0, .int .i64 0], .int .i64 t1.wr, .int .i64 t1.co]) (by simp [results, Try.results35, go_sem, k0, k1, k2, k3, k4, k5, k6, k7]) rfl ?_
  rw [HPA.out]
  exact ⟨[.int .i64 0, .int .u64 0, .int .u64 0, .int .u64 0, .int .u64 0, .slice none 0 0, .int .i64 0, .int .i64 0], rfl, fun W _ _ => ⟨none, 0, 0, rfl, RowsAt.nil _ _⟩, bb⟩
set_option maxHeartbeats 6400000 in
set_option maxRecDepth 100000 in
theorem rf_parse_long (S : ByteArray) (w : World) (hS : 60 < S.size) : Calls Try.prog 35 #[.string S] w (fun e w' => ∃ c, e = .returned (.tuple #[.agg (List.toArray c), .int .i64 0, .int .i64 4]) ∧ Fre w.heap.size w' (fun W => rxR 40 W W.heap.size c Pat.zero) ∧ Below w.heap.size w w') := by
 obtain ⟨q1, hq1⟩ : ∃ q1, q1 = w.heap.size := ⟨_, rfl⟩
 obtain ⟨W3, hW3⟩ : ∃ W, W = w.alloc (.cells #[.int .i64 0, .int .u64 0, .int .u64 0, .int .u64 0, .int .u64 0, .slice none 0 0, .int .i64 0, .int .i64 0] 27) := ⟨_, rfl⟩
 have b3 : Below w.heap.size w W3 := by rw [hW3]; exact below1
 have Z3 : Hid (W3.heap[q1]? = some (.cells #[.int .i64 0, .int .u64 0, .int .u64 0, .int .u64 0, .int .u64 0, .slice none 0 0, .int .i64 0, .int .i64 0] 27)) := by show _ = _; rw [hW3, hq1]; exact heap_alloc_new _ _
 have B3 := Lib.hid b3
 have HW3 := Lib.hid hW3
 have HQ1 := Lib.hid hq1
 have h60 : (60 : Int) < (S.size : Int) := by omega
 clear hq1 hW3 b3
 go_enter Try.func35, Try.ntmps35
 have z3 := Z3.out
 go_wp2_with ((with_reducible show wpList _ _ _ (Oper.mk _ (Op.store 27 (.tmp 2) _) _ _ _ _ :: _) _ _); rw [← HW3.out, ← HQ1.out]; refine wpList_store_row rfl 27 (.tmp 2) _ rfl (q1) #[.int .i64 0, .int .u64 0, .int .u64 0, .int .u64 0, .int .u64 0, .slice none 0 0, .int .i64 0, .int .i64 0] rfl rfl 27 #[.int .i64 0, .int .u64 0, .int .u64 0, .int .u64 0, .int .u64 0, .slice none 0 0, .int .i64 0, .int .i64 0] z3 rsize rfl (by simp [Value.oneCell']) ?_)
 have cc := setRow_heap _ q1 _ #[.int .i64 0, .int .u64 0, .int .u64 0, .int .u64 0, .int .u64 0, .slice none 0 0, .int .i64 0, .int .i64 0] _ _ z3
 have bb : Below w.heap.size w (World.setRow W3 q1 #[.int .i64 0, .int .u64 0, .int .u64 0, .int .u64 0, .int .u64 0, .slice none 0 0, .int .i64 0, .int .i64 0]) := below_setRow B3.out (g := q1) (by rw [HQ1.out]; exact Nat.le_refl _) _
 have ff : Fre w.heap.size (World.setRow W3 q1 #[.int .i64 0, .int .u64 0, .int .u64 0, .int .u64 0, .int .u64 0, .slice none 0 0, .int .i64 0, .int .i64 0]) (fun W => rxR 40 W W.heap.size [.int .i64 0, .int .u64 0, .int .u64 0, .int .u64 0, .int .u64 0, .slice none 0 0, .int .i64 0, .int .i64 0] Pat.zero) := fun W _ _ => ⟨none, 0, 0, rfl, RowsAt.nil _ _⟩
 obtain ⟨w99, h99⟩ : ∃ W, W = World.setRow W3 q1 #[.int .i64 0, .int .u64 0, .int .u64 0, .int .u64 0, .int .u64 0, .slice none 0 0, .int .i64 0, .int .i64 0] := ⟨_, rfl⟩
 rw [← h99] at cc bb ff ⊢
 clear h99
 have k0 := boxc cc 0 _ rfl
 have k1 := boxc cc 1 _ rfl
 have k2 := boxc cc 2 _ rfl
 have k3 := boxc cc 3 _ rfl
 have k4 := boxc cc 4 _ rfl
 have k5 := boxc cc 5 _ rfl
 have k6 := boxc cc 6 _ rfl
 have k7 := boxc cc 7 _ rfl
 refine bodyPost_ret (v := .tuple #[.agg #[.int .i64 0, .int .u64 0, .int .u64 0, .int .u64 0, .int .u64 0, .slice none 0 0, .int .i64 0, .int .i64 0], .int .i64 0, .int .i64 4]) (by simp [results, Try.results35, go_sem, k0, k1, k2, k3, k4, k5, k6, k7]) rfl ?_
 exact ⟨[.int .i64 0, .int .u64 0, .int .u64 0, .int .u64 0, .int .u64 0, .slice none 0 0, .int .i64 0, .int .i64 0], rfl, ff, bb⟩
theorem rf_parse_any (S : ByteArray) (w : World) : Calls Try.prog 35 #[.string S] w (fun e w' => ∃ c, e = .returned (.tuple #[.agg (List.toArray c), .int .i64 (rf.parse (kit.bytes S)).2.1, .int .i64 (rf.parse (kit.bytes S)).2.2]) ∧ Fre w.heap.size w' (fun W => rxR 40 W W.heap.size c (rf.parse (kit.bytes S)).1) ∧ Below w.heap.size w w') := by
 by_cases h : S.size ≤ 60
 ·
  exact rf_parse S w h
 ·
  have hl : (kit.bytes S).length = S.size := by simp [kit.bytes]
  have e : rf.parse (kit.bytes S) = (Pat.zero, 0, 4) := by unfold rf.parse; rw [if_pos (by omega)]
  rw [e]
  exact rf_parse_long S w (by omega)
end Go.Proofs.Ytmfgplbfojnkdaa
