/- the law of patterns is awake: its walk. -/
import Derived.Test.YtbccejlemhgioaaRxAwk
namespace Go.Proofs.Ytbccejlemhgioaa
open Go Go.RowKit Go.ChangeShapes cl rx
set_option maxHeartbeats 6400000 in
set_option maxRecDepth 100000 in
theorem awake_any (w : World) : Calls Try.prog 7 #[] w (Said true w) := by
  have HPA := Lib.hid (fun W => rx_pa W)
  have HPB := Lib.hid (fun W => rx_pb W)
  have HSG : Hid (∀ W, Calls Try.prog 13 #[.int .u8 97] W (fun e w' => e = .returned (.agg #[.int .u64 (Cls.one 97).a, .int .u64 (Cls.one 97).b, .int .u64 (Cls.one 97).c, .int .u64 (Cls.one 97).d]) ∧ Below W.heap.size W w')) := fun W => rx_single 97 W (by decide)
  have HIN : Hid (∀ W, Calls Try.prog 12 #[.agg #[.int .u64 (Cls.one 97).a, .int .u64 (Cls.one 97).b, .int .u64 (Cls.one 97).c, .int .u64 (Cls.one 97).d], .int .u8 97] W (fun e w' => e = .returned (.bool true) ∧ Below W.heap.size W w')) := fun W => rx_in (Cls.one 97) 97 W (by unfold Cls.ok; decide) (by decide)
  have HRT : Hid (∀ (c : List Value) (W : World), rxR 4 W W.heap.size c pA → Calls Try.prog 17 #[.agg c.toArray] W (fun e w' => e = .returned (.bool true) ∧ Below W.heap.size W w')) := fun c W h => rx_right 4 pA c W h okR_a
  go_enter Try.func7, Try.ntmps7
  go_wp2_with fail
  (with_reducible refine (HPA.out _).mono ?_)
  rintro e w1 ⟨c, rfl, hf, hb⟩
  have HR := Lib.hid hf.at
  have hB1 := Lib.hid hb
  obtain ⟨ko, kn, kc, rfl⟩ : ∃ (ko : Option Addr) (kn kc : Nat), c = [.int .i64 4, .int .u64 0, .int .u64 0, .int .u64 0, .int .u64 0, .slice ko kn kc, .int .i64 0, .int .i64 0] := rx_form hf.at
  clear hf hb
  have xx : (w1.alloc (.cells #[.int .i64 0, .int .u64 0, .int .u64 0, .int .u64 0, .int .u64 0, .slice none 0 0, .int .i64 0, .int .i64 0] 28)).heap[w1.heap.size]? = some (.cells #[.int .i64 0, .int .u64 0, .int .u64 0, .int .u64 0, .int .u64 0, .slice none 0 0, .int .i64 0, .int .i64 0] 28 (0, 0)) := heap_alloc_new _ _
  go_wp2_with ((with_reducible show wpList _ _ _ (Oper.mk _ (Op.store 28 (.tmp 1) _) _ _ _ _ :: _) _ _); refine wpList_store_row rfl 28 (.tmp 1) _ rfl (w1.heap.size) #[.int .i64 4, .int .u64 0, .int .u64 0, .int .u64 0, .int .u64 0, .slice ko kn kc, .int .i64 0, .int .i64 0] rfl rfl 28 #[.int .i64 0, .int .u64 0, .int .u64 0, .int .u64 0, .int .u64 0, .slice none 0 0, .int .i64 0, .int .i64 0] xx rsize rfl (by simp [Value.oneCell']) ?_)
  have x1 := setRow_heap _ (w1.heap.size) _ #[.int .i64 4, .int .u64 0, .int .u64 0, .int .u64 0, .int .u64 0, .slice ko kn kc, .int .i64 0, .int .i64 0] _ _ xx
  have bb := below_setRow (below1 (w := w1) (o := .cells #[.int .i64 0, .int .u64 0, .int .u64 0, .int .u64 0, .int .u64 0, .slice none 0 0, .int .i64 0, .int .i64 0] 28)) (g := w1.heap.size) (Nat.le_refl _) #[.int .i64 4, .int .u64 0, .int .u64 0, .int .u64 0, .int .u64 0, .slice ko kn kc, .int .i64 0, .int .i64 0]
  obtain ⟨W2, h2⟩ : ∃ W, W = World.setRow (w1.alloc (.cells #[.int .i64 0, .int .u64 0, .int .u64 0, .int .u64 0, .int .u64 0, .slice none 0 0, .int .i64 0, .int .i64 0] 28)) (w1.heap.size) #[.int .i64 4, .int .u64 0, .int .u64 0, .int .u64 0, .int .u64 0, .slice ko kn kc, .int .i64 0, .int .i64 0] := ⟨_, rfl⟩
  obtain ⟨q1, hq1⟩ : ∃ q, q = w1.heap.size := ⟨_, rfl⟩
  rw [← h2] at x1 bb ⊢
  have HR2 := Lib.hid (rxR_steady 4 _ _ _ _ _ _ HR.out bb bb.size)
  have hB2 := Lib.hid (hB1.out.trans (bb.mono hB1.out.size))
  rw [← hq1] at x1 ⊢
  have X1 := Lib.hid x1
  clear xx x1 bb h2 hq1 HR hB1
  (with_reducible refine (HPB.out _).mono ?_)
  rintro e w3 ⟨c, rfl, hf, hb⟩
  have HR3 := Lib.hid (rxR_steady 4 _ _ _ _ _ _ HR2.out hb hb.size)
  have hB3 := Lib.hid (hB2.out.trans (hb.mono hB2.out.size))
  have X3 := Lib.hid ((hb.block _ (lt_of_block X1.out)).trans X1.out)
  obtain ⟨lo, ln, lc, rfl⟩ : ∃ (ko : Option Addr) (kn kc : Nat), c = [.int .i64 0, .int .u64 0, .int .u64 0, .int .u64 0, .int .u64 0, .slice ko kn kc, .int .i64 0, .int .i64 0] := rx_form hf.at
  clear hf hb HR2 hB2 X1
  have xx : (w3.alloc (.cells #[.int .i64 0, .int .u64 0, .int .u64 0, .int .u64 0, .int .u64 0, .slice none 0 0, .int .i64 0, .int .i64 0] 28)).heap[w3.heap.size]? = some (.cells #[.int .i64 0, .int .u64 0, .int .u64 0, .int .u64 0, .int .u64 0, .slice none 0 0, .int .i64 0, .int .i64 0] 28 (0, 0)) := heap_alloc_new _ _
  obtain ⟨W4, h4⟩ : ∃ W, W = World.setRow (w3.alloc (.cells #[.int .i64 0, .int .u64 0, .int .u64 0, .int .u64 0, .int .u64 0, .slice none 0 0, .int .i64 0, .int .i64 0] 28)) (w3.heap.size) #[.int .i64 0, .int .u64 0, .int .u64 0, .int .u64 0, .int .u64 0, .slice lo ln lc, .int .i64 0, .int .i64 0] := ⟨_, rfl⟩
  have bb := below_setRow (below1 (w := w3) (o := .cells #[.int .i64 0, .int .u64 0, .int .u64 0, .int .u64 0, .int .u64 0, .slice none 0 0, .int .i64 0, .int .i64 0] 28)) (g := w3.heap.size) (Nat.le_refl _) #[.int .i64 0, .int .u64 0, .int .u64 0, .int .u64 0, .int .u64 0, .slice lo ln lc, .int .i64 0, .int .i64 0]
  rw [← h4] at bb
  have HR4 := Lib.hid (rxR_steady 4 _ _ _ _ _ _ HR3.out bb bb.size)
  have hB4 := Lib.hid (hB3.out.trans (bb.mono hB3.out.size))
  have X4 := (bb.block _ (lt_of_block X3.out)).trans X3.out
  have hq := lt_of_block X4
  have z0 := boxc X4 0 _ rfl
  have z1 := boxc X4 1 _ rfl
  have z2 := boxc X4 2 _ rfl
  have z3 := boxc X4 3 _ rfl
  have z4 := boxc X4 4 _ rfl
  have z5 := boxc X4 5 _ rfl
  have z6 := boxc X4 6 _ rfl
  have z7 := boxc X4 7 _ rfl
  obtain ⟨ko', kn', kc', he, hK⟩ := HR4.out
  simp only [List.cons.injEq, Value.slice.injEq, and_true] at he
  replace he := he.2.2.2.2.2.1
  obtain ⟨rfl, rfl, rfl⟩ := he
  obtain rfl : kn = 2 := by
    obtain ⟨_, _, e, _, _⟩ := hK.form
    simp only [Value.slice.injEq] at e
    exact e.2.1
  obtain ⟨b, o, so, sn, sc, rfl, hbB, hsn, k0, k1, _, d', hd', hK2⟩ := kid_at hK rfl 1 (by decide)
  obtain rfl : sn = 2 := hsn
  obtain ⟨b', o', uo, un, uc, rfl, hbB', _, _, _, m1, _, _, _⟩ := kid_at hK2 rfl 1 (by decide)
  have k0 : W4.cell? ⟨b, o + 8, none⟩ = some (.int .i64 3) := k0
  have k1 : W4.cell? ⟨b, o + 8 + 5, none⟩ = some (.slice (some ⟨b', o', none⟩) 2 sc) := k1
  have m1 : W4.cell? ⟨b', o' + 8 + 7, none⟩ = some (.int .i64 (-1)) := m1
  clear hK hK2 hbB hbB' hd' HR3 hB3 X3 bb hq
  have HW4 := Lib.hid h4
  have HX4 := Lib.hid X4
  clear X4
  rw [h4] at z0 z1 z2 z3 z4 z5 z6 z7 k0 k1 m1
  clear h4
  go_wp2_with ((with_reducible show wpList _ _ _ (Oper.mk _ (Op.store 28 (.tmp 4) _) _ _ _ _ :: _) _ _); refine wpList_store_row rfl 28 (.tmp 4) _ rfl (w3.heap.size) #[.int .i64 0, .int .u64 0, .int .u64 0, .int .u64 0, .int .u64 0, .slice lo ln lc, .int .i64 0, .int .i64 0] rfl rfl 28 #[.int .i64 0, .int .u64 0, .int .u64 0, .int .u64 0, .int .u64 0, .slice none 0 0, .int .i64 0, .int .i64 0] xx rsize rfl (by simp [Value.oneCell']) ?_)
  rw [← HW4.out] at z0 ⊢
  have X4 := Lib.hid HX4.out
  clear z0 z1 z2 z3 z4 z5 z6 z7 k0 k1 m1 xx
  (with_reducible refine (HSG.out _).mono ?_)
  rintro e w5 ⟨rfl, b5⟩
  have b5' := hB4.out.trans (b5.mono hB4.out.size)
  have X5 := (b5.block _ (lt_of_block X4.out)).trans X4.out
  have HR5 := rxR_steady 4 _ _ _ _ _ _ HR4.out b5 b5.size
  have hB5 := Lib.hid b5'
  clear b5 b5' HR4 hB4
  replace X5 := Lib.hid X5
  replace HR5 := Lib.hid HR5
  go_wp2_with fail
  (with_reducible refine (HIN.out _).mono ?_)
  rintro e w6 ⟨rfl, b6⟩
  have X6 := (b6.block _ (lt_of_block X5.out)).trans X5.out
  have HR6 := Lib.hid (rxR_steady 4 _ _ _ _ _ _ HR5.out b6 b6.size)
  have hB6 := Lib.hid (hB5.out.trans (b6.mono hB5.out.size))
  have z0 := boxc X6 0 _ rfl
  have z1 := boxc X6 1 _ rfl
  have z2 := boxc X6 2 _ rfl
  have z3 := boxc X6 3 _ rfl
  have z4 := boxc X6 4 _ rfl
  have z5 := boxc X6 5 _ rfl
  have z6 := boxc X6 6 _ rfl
  have z7 := boxc X6 7 _ rfl
  clear b6 X5 HR5 hB5 X6
  go_wp2_with fail
  (with_reducible refine (HRT.out _ _ HR6.out).mono ?_)
  rintro e w7 ⟨rfl, b7⟩
  have hB7 := Lib.hid (hB6.out.trans (b7.mono hB6.out.size))
  clear b7 z0 z1 z2 z3 z4 z5 z6 z7
  go_wp2
  go_ret
  exact ⟨rfl, hB7.out⟩
end Go.Proofs.Ytbccejlemhgioaa
