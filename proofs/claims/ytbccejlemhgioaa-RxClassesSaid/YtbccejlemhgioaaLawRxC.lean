/- the law of classes: its walk. -/
import Derived.Test.YtbccejlemhgioaaRxAwk2
import Derived.Test.YtbccejlemhgioaaRxRUni
import Derived.Test.YtbccejlemhgioaaRxRIn
import Derived.Test.YtbccejlemhgioaaRxClm
namespace Go.Proofs.Ytbccejlemhgioaa
open Go Go.RowKit Go.ChangeShapes cl rx
set_option maxHeartbeats 12800000 in
set_option maxRecDepth 100000 in
theorem law_cls (x y : Cls) (c : Nat) (w : World) (hx : x.ok) (hy : y.ok) (hc : c < 256) : Calls Try.prog 4 #[.agg #[.int .u64 x.a, .int .u64 x.b, .int .u64 x.c, .int .u64 x.d], .agg #[.int .u64 y.a, .int .u64 y.b, .int .u64 y.c, .int .u64 y.d], .int .u8 c] w (Said true w) := by
  have HUN : Hid (∀ W, Calls Try.prog 11 #[.agg #[.int .u64 x.a, .int .u64 x.b, .int .u64 x.c, .int .u64 x.d], .agg #[.int .u64 y.a, .int .u64 y.b, .int .u64 y.c, .int .u64 y.d]] W (fun e w' => e = .returned (.agg #[.int .u64 (x.or y).a, .int .u64 (x.or y).b, .int .u64 (x.or y).c, .int .u64 (x.or y).d]) ∧ Below W.heap.size W w')) := fun W => rx_union x y W hx hy
  have HRU : Hid (∀ W, Calls Try.prog 15 #[.agg #[.int .u64 x.a, .int .u64 x.b, .int .u64 x.c, .int .u64 x.d], .agg #[.int .u64 y.a, .int .u64 y.b, .int .u64 y.c, .int .u64 y.d]] W (fun e w' => e = .returned (.agg #[.int .u64 (x.or y).a, .int .u64 (x.or y).b, .int .u64 (x.or y).c, .int .u64 (x.or y).d]) ∧ Below W.heap.size W w')) := fun W => rrx_union x y W hx hy
  have HIC : Hid (∀ W, Calls Try.prog 12 #[.agg #[.int .u64 x.a, .int .u64 x.b, .int .u64 x.c, .int .u64 x.d], .int .u8 (c : Int)] W (fun e w' => e = .returned (.bool (x.has c)) ∧ Below W.heap.size W w')) := fun W => rx_in x c W hx hc
  have HRC : Hid (∀ W, Calls Try.prog 14 #[.agg #[.int .u64 x.a, .int .u64 x.b, .int .u64 x.c, .int .u64 x.d], .int .u8 (c : Int)] W (fun e w' => e = .returned (.bool (x.has c)) ∧ Below W.heap.size W w')) := fun W => rrx_in x c W hx hc
  have HS : Hid (∀ W, Calls Try.prog 13 #[.int .u8 (c : Int)] W (fun e w' => e = .returned (.agg #[.int .u64 (Cls.one c).a, .int .u64 (Cls.one c).b, .int .u64 (Cls.one c).c, .int .u64 (Cls.one c).d]) ∧ Below W.heap.size W w')) := fun W => rx_single c W hc
  have HAW : Hid (∀ W, Calls Try.prog 7 #[] W (fun e w' => e = .returned (.bool true) ∧ Below W.heap.size W w')) := fun W => awake_any W
  have HEQ : Hid ((x.or y).eqq (x.or y) = true) := decide_eq_true rfl
  have HIA : Hid (∀ (z : Cls) (d : Nat) (W : World), z.ok → d < 256 → Calls Try.prog 12 #[.agg #[.int .u64 z.a, .int .u64 z.b, .int .u64 z.c, .int .u64 z.d], .int .u8 (d : Int)] W (fun e w' => e = .returned (.bool (z.has d)) ∧ Below W.heap.size W w')) := fun z d W hz hd => rx_in z d W hz hd
  have OX := Lib.hid hx
  have OY := Lib.hid hy
  have OC := Lib.hid hc
  obtain ⟨q, hq⟩ : ∃ q, q = w.heap.size := ⟨_, rfl⟩
  obtain ⟨W1, hW1⟩ : ∃ W, W = (w.alloc (.cells #[.int .u64 x.a, .int .u64 x.b, .int .u64 x.c, .int .u64 x.d] 25)).alloc (.cells #[.int .u64 y.a, .int .u64 y.b, .int .u64 y.c, .int .u64 y.d] 25) := ⟨_, rfl⟩
  have hs1 : (w.alloc (.cells #[.int .u64 x.a, .int .u64 x.b, .int .u64 x.c, .int .u64 x.d] 25)).heap.size = q + 1 := by rw [World.size_alloc, hq]
  have b1 : Below w.heap.size w W1 := by rw [hW1]; exact below1.trans (below1.mono (by simp))
  have x0 : W1.heap[q]? = some (.cells #[.int .u64 x.a, .int .u64 x.b, .int .u64 x.c, .int .u64 x.d] 25 (0, 0)) := by
    rw [hW1]
    refine (below1.block q (by omega)).trans ?_
    rw [hq]; exact heap_alloc_new _ _
  have x1 : W1.heap[q + 1]? = some (.cells #[.int .u64 y.a, .int .u64 y.b, .int .u64 y.c, .int .u64 y.d] 25 (0, 0)) := by
    rw [hW1, ← hs1]; exact heap_alloc_new _ _
  have B1 := Lib.hid b1
  have Y0 := Lib.hid x0
  have Y1 := Lib.hid x1
  have a0 := boxc x0 0 _ rfl
  have e0 := boxc x1 0 _ rfl
  have a1 := boxc x0 1 _ rfl
  have e1 := boxc x1 1 _ rfl
  have a2 := boxc x0 2 _ rfl
  have e2 := boxc x1 2 _ rfl
  have a3 := boxc x0 3 _ rfl
  have e3 := boxc x1 3 _ rfl
  rw [hW1] at a0 e0 a1 e1 a2 e2 a3 e3
  rw [hq] at a0 e0 a1 e1 a2 e2 a3 e3
  have HQ := Lib.hid hq
  have HW1 := Lib.hid hW1
  clear hs1 b1 x0 x1 hq hW1 hx hy hc
  go_enter Try.func4, Try.ntmps4
  go_wp2_with fail
  rw [← HW1.out]
  (with_reducible refine (HUN.out _).mono ?_)
  rintro e w1 ⟨rfl, b1⟩
  have B2 := Lib.hid (B1.out.trans (b1.mono B1.out.size))
  have Z0 := (b1.block _ (lt_of_block Y0.out)).trans Y0.out
  have Z1 := (b1.block _ (lt_of_block Y1.out)).trans Y1.out
  obtain ⟨q2, hq2⟩ : ∃ q2, q2 = w1.heap.size := ⟨_, rfl⟩
  have xx : (w1.alloc (.cells #[.int .u64 0, .int .u64 0, .int .u64 0, .int .u64 0] 25)).heap[w1.heap.size]? = some (.cells #[.int .u64 0, .int .u64 0, .int .u64 0, .int .u64 0] 25 (0, 0)) := heap_alloc_new _ _
  have bb := below_setRow (below1 (w := w1) (o := .cells #[.int .u64 0, .int .u64 0, .int .u64 0, .int .u64 0] 25)) (g := w1.heap.size) (Nat.le_refl _) #[.int .u64 (x.or y).a, .int .u64 (x.or y).b, .int .u64 (x.or y).c, .int .u64 (x.or y).d]
  have x2 := setRow_heap _ (w1.heap.size) _ #[.int .u64 (x.or y).a, .int .u64 (x.or y).b, .int .u64 (x.or y).c, .int .u64 (x.or y).d] _ _ xx
  obtain ⟨W2, hW2⟩ : ∃ W, W = World.setRow (w1.alloc (.cells #[.int .u64 0, .int .u64 0, .int .u64 0, .int .u64 0] 25)) (w1.heap.size) #[.int .u64 (x.or y).a, .int .u64 (x.or y).b, .int .u64 (x.or y).c, .int .u64 (x.or y).d] := ⟨_, rfl⟩
  rw [← hW2] at bb x2
  have X0 := Lib.hid ((bb.block _ (lt_of_block Z0)).trans Z0)
  have X1 := Lib.hid ((bb.block _ (lt_of_block Z1)).trans Z1)
  rw [← hq2] at x2
  have X2 := Lib.hid x2
  have D2 := Lib.hid (B2.out.trans (bb.mono B2.out.size))
  have HW2 := Lib.hid hW2
  have HQ2 := Lib.hid hq2
  clear b1 Z0 Z1 bb x2 hW2 hq2 Y0 Y1 B1 B2 a0 e0 a1 e1 a2 e2 a3 e3
  go_wp2_with ((with_reducible show wpList _ _ _ (Oper.mk _ (Op.store 25 (.tmp 7) _) _ _ _ _ :: _) _ _); refine wpList_store_row rfl 25 (.tmp 7) _ rfl (w1.heap.size) #[.int .u64 (x.or y).a, .int .u64 (x.or y).b, .int .u64 (x.or y).c, .int .u64 (x.or y).d] rfl rfl 25 #[.int .u64 0, .int .u64 0, .int .u64 0, .int .u64 0] xx clsize rfl (by simp [Value.oneCell']) ?_)
  clear xx
  rw [← HW2.out, ← HQ2.out, ← HQ.out]
  go_loopw [12, 42] (fun i _ wr => ∃ k : Nat, i = .int .i64 k ∧ k ≤ 256 ∧ Below W2.heap.size W2 wr) (fun i _ _ => 256 - (intOf i).toNat)
  case atStart => exact ⟨0, rfl, Nat.zero_le _, Below.refl _ _⟩
  case round =>
    obtain ⟨k, rfl, hk, hb⟩ := hrel
    have HB := Lib.hid hb
    clear hb
    by_cases hlt : k < 256
    · have hkI : (k : Int) < 256 := by omega
      have hw8 : IntKind.u8.wrap (k : Int) = (k : Int) := IntWalk.u8_in _ ⟨by omega, by omega⟩
      have HOR : Hid ((x.or y).has k = (x.has k || y.has k)) := has_or x y k
      have HON : Hid ((Cls.one c).has k = decide (k = c)) := has_one c k OC.out hlt
      have HOO := Lib.hid (or_ok OX.out OY.out)
      have HO1 := Lib.hid (one_ok c OC.out)
      have HLT := Lib.hid hlt
      by_cases hkc : k = c
      · have HEE : Hid (((k : Int) == (c : Int)) = true) := beq_iff_eq.2 (by omega)
        have HEF : Hid (decide (k = c) = true) := decide_eq_true hkc
        have HI3 : Hid (∀ W, Calls Try.prog 12 #[.agg #[.int .u64 (Cls.one c).a, .int .u64 (Cls.one c).b, .int .u64 (Cls.one c).c, .int .u64 (Cls.one c).d], .int .u8 (k : Int)] W (fun e w' => e = .returned (.bool true) ∧ Below W.heap.size W w')) := fun W => by have h := HIA.out (Cls.one c) k W HO1.out HLT.out; rw [HON.out, HEF.out] at h; exact h
        cases hpx : x.has k with
        | true =>
          have HI1 : Hid (∀ W, Calls Try.prog 12 #[.agg #[.int .u64 x.a, .int .u64 x.b, .int .u64 x.c, .int .u64 x.d], .int .u8 (k : Int)] W (fun e w' => e = .returned (.bool true) ∧ Below W.heap.size W w')) := fun W => by have h := HIA.out x k W OX.out HLT.out; rw [hpx] at h; exact h
          have HU : Hid (∀ W, Calls Try.prog 12 #[.agg #[.int .u64 (x.or y).a, .int .u64 (x.or y).b, .int .u64 (x.or y).c, .int .u64 (x.or y).d], .int .u8 (k : Int)] W (fun e w' => e = .returned (.bool true) ∧ Below W.heap.size W w')) := fun W => by have h := HIA.out (x.or y) k W HOO.out HLT.out; rw [HOR.out, hpx] at h; exact h
          clear hpx hkc hlt hk
          go_wp2
          refine wp_flow 27 (fun _ => 1000) (fun ww => Below W2.heap.size W2 ww) (fun _ w w' => (fun (w w' : World) => RowKit.Below w.heap.size w w') w w') (fun kF vF wF => match kF with | 0 => (vF = .agg #[.int .u64 (x.or y).a, .int .u64 (x.or y).b, .int .u64 (x.or y).c, .int .u64 (x.or y).d]) | 1 => (vF = .int .i64 (k : Int)) | 2 => (vF = .int .u8 (k : Int)) | 3 => (vF = .bool true) | 4 => (vF = .agg #[.int .u64 x.a, .int .u64 x.b, .int .u64 x.c, .int .u64 x.d]) | 5 => (vF = .int .i64 (k : Int)) | 6 => (vF = .int .u8 (k : Int)) | 7 => (vF = .bool true) | 8 => (vF = .bool true) | 9 => (vF = undef) | 10 => (vF = undef) | 11 => (vF = undef) | 12 => (vF = undef) | 13 => (vF = .bool true) | 14 => (vF = .bool false) | 15 => (vF = .bool false) | 16 => (vF = .int .u8 (c : Int)) | 17 => (vF = .agg #[.int .u64 (Cls.one c).a, .int .u64 (Cls.one c).b, .int .u64 (Cls.one c).c, .int .u64 (Cls.one c).d]) | 18 => (vF = .int .i64 (k : Int)) | 19 => (vF = .int .u8 (k : Int)) | 20 => (vF = .bool true) | 21 => (vF = .int .i64 (k : Int)) | 22 => (vF = .int .u8 (k : Int)) | 23 => (vF = .int .u8 (c : Int)) | 24 => (vF = .bool true) | 25 => (vF = .bool false) | 26 => (vF = .bool false) | _ => True) (fun _ _ _ _ => True) (by kernel_rfl) (by kernel_rfl) ?_ ?_ ?_ ?_ ?_
          · exact HB.out.drew
          · intro iF wF1 wF2 hR hT; exact hR.trans (Below.mono hT (Below.size hR))
          · intro kF hkF iF hiF hne hdd hanc hdan vF wF1 wF2 h hT
            rcases (by omega : kF = 0 ∨ kF = 1 ∨ kF = 2 ∨ kF = 3 ∨ kF = 4 ∨ kF = 5 ∨ kF = 6 ∨ kF = 7 ∨ kF = 8 ∨ kF = 9 ∨ kF = 10 ∨ kF = 11 ∨ kF = 12 ∨ kF = 13 ∨ kF = 14 ∨ kF = 15 ∨ kF = 16 ∨ kF = 17 ∨ kF = 18 ∨ kF = 19 ∨ kF = 20 ∨ kF = 21 ∨ kF = 22 ∨ kF = 23 ∨ kF = 24 ∨ kF = 25 ∨ kF = 26) with rfl | rfl | rfl | rfl | rfl | rfl | rfl | rfl | rfl | rfl | rfl | rfl | rfl | rfl | rfl | rfl | rfl | rfl | rfl | rfl | rfl | rfl | rfl | rfl | rfl | rfl | rfl
            · exact h
            · exact h
            · exact h
            · exact h
            · exact h
            · exact h
            · exact h
            · exact h
            · exact h
            · exact h
            · exact h
            · exact h
            · exact h
            · exact h
            · exact h
            · exact h
            · exact h
            · exact h
            · exact h
            · exact h
            · exact h
            · exact h
            · exact h
            · exact h
            · exact h
            · exact h
            · exact h
          · generalize hAF : fillOf _ _ _ = AF
            replace hAF := fun x => congrFun hAF x
            simp only [List.take_succ_cons, List.take_zero, fillOf, Act.put, List.setIfInBounds_toArray, List.set_cons_zero, List.set_cons_succ, Nat.reduceAdd, Nat.zero_add] at hAF
            refine FlowAll.cons ?_ ?_
            · intro xF wz hR hd K hK
              clear hd
              simp only [← hAF, Act.put, List.setIfInBounds_toArray, List.set_cons_zero, List.set_cons_succ] at hK ⊢
              clear hAF
              try simp only [Nat.zero_add] at hK ⊢
              try simp only [Nat.reduceAdd] at hK ⊢
              obtain hbR := id hR
              have hxa := (hbR.block _ (lt_of_block X2.out)).trans X2.out
              have c90 := boxc hxa 0 _ rfl
              have c91 := boxc hxa 1 _ rfl
              have c92 := boxc hxa 2 _ rfl
              have c93 := boxc hxa 3 _ rfl
              clear hxa
              rw [if_pos (by rfl)]
              go_simp
              exact hK.out _ _ (Below.refl _ _) (rfl) (fun _ _ _ => ⟨trivial, trivial⟩)
            refine FlowAll.cons ?_ ?_
            · intro xF wz hR hd K hK
              clear hd
              simp only [← hAF, Act.put, List.setIfInBounds_toArray, List.set_cons_zero, List.set_cons_succ] at hK ⊢
              clear hAF
              try simp only [Nat.zero_add] at hK ⊢
              try simp only [Nat.reduceAdd] at hK ⊢
              obtain hbR := id hR
              rw [if_pos (by rfl)]
              go_simp
              exact hK.out _ _ (Below.refl _ _) (rfl) (fun _ _ _ => ⟨trivial, trivial⟩)
            refine FlowAll.cons ?_ ?_
            · intro xF wz hR hd K hK
              have dd1 : ((xF 1) = .int .i64 (k : Int)) := hd 1 (by kernel_rfl)
              clear hd
              simp only [← hAF, Act.put, List.setIfInBounds_toArray, List.set_cons_zero, List.set_cons_succ] at hK ⊢
              clear hAF
              try simp only [Nat.zero_add] at hK ⊢
              try simp only [Nat.reduceAdd] at hK ⊢
              try generalize xF 1 = yy1 at *
              obtain rfl := dd1
              obtain hbR := id hR
              rw [if_pos (by rfl)]
              go_simp
              exact hK.out _ _ (Below.refl _ _) (rfl) (fun _ _ _ => ⟨trivial, trivial⟩)
            refine FlowAll.cons ?_ ?_
            · intro xF wz hR hd K hK
              have dd0 : ((xF 0) = .agg #[.int .u64 (x.or y).a, .int .u64 (x.or y).b, .int .u64 (x.or y).c, .int .u64 (x.or y).d]) := hd 0 (by kernel_rfl)
              have dd2 : ((xF 2) = .int .u8 (k : Int)) := hd 2 (by kernel_rfl)
              clear hd
              simp only [← hAF, Act.put, List.setIfInBounds_toArray, List.set_cons_zero, List.set_cons_succ] at hK ⊢
              clear hAF
              try simp only [Nat.zero_add] at hK ⊢
              try simp only [Nat.reduceAdd] at hK ⊢
              try generalize xF 0 = yy0 at *
              try generalize xF 2 = yy2 at *
              obtain rfl := dd0
              obtain rfl := dd2
              obtain hbR := id hR
              rw [if_pos (by rfl)]
              go_simp
              (go_at_call 12; (with_reducible refine (HU.out _).mono ?_); rintro e wK ⟨rfl, hbK⟩)
              try go_wp2_with fail
              exact hK.out _ _ (hbK) (rfl) (fun _ _ _ => ⟨trivial, trivial⟩)
            refine FlowAll.cons ?_ ?_
            · intro xF wz hR hd K hK
              clear hd
              simp only [← hAF, Act.put, List.setIfInBounds_toArray, List.set_cons_zero, List.set_cons_succ] at hK ⊢
              clear hAF
              try simp only [Nat.zero_add] at hK ⊢
              try simp only [Nat.reduceAdd] at hK ⊢
              obtain hbR := id hR
              have hxa := (hbR.block _ (lt_of_block X0.out)).trans X0.out
              have c90 := boxc hxa 0 _ rfl
              have c91 := boxc hxa 1 _ rfl
              have c92 := boxc hxa 2 _ rfl
              have c93 := boxc hxa 3 _ rfl
              clear hxa
              rw [if_pos (by rfl)]
              go_simp
              exact hK.out _ _ (Below.refl _ _) (rfl) (fun _ _ _ => ⟨trivial, trivial⟩)
            refine FlowAll.cons ?_ ?_
            · intro xF wz hR hd K hK
              clear hd
              simp only [← hAF, Act.put, List.setIfInBounds_toArray, List.set_cons_zero, List.set_cons_succ] at hK ⊢
              clear hAF
              try simp only [Nat.zero_add] at hK ⊢
              try simp only [Nat.reduceAdd] at hK ⊢
              obtain hbR := id hR
              rw [if_pos (by rfl)]
              go_simp
              exact hK.out _ _ (Below.refl _ _) (rfl) (fun _ _ _ => ⟨trivial, trivial⟩)
            refine FlowAll.cons ?_ ?_
            · intro xF wz hR hd K hK
              have dd5 : ((xF 5) = .int .i64 (k : Int)) := hd 5 (by kernel_rfl)
              clear hd
              simp only [← hAF, Act.put, List.setIfInBounds_toArray, List.set_cons_zero, List.set_cons_succ] at hK ⊢
              clear hAF
              try simp only [Nat.zero_add] at hK ⊢
              try simp only [Nat.reduceAdd] at hK ⊢
              try generalize xF 5 = yy5 at *
              obtain rfl := dd5
              obtain hbR := id hR
              rw [if_pos (by rfl)]
              go_simp
              exact hK.out _ _ (Below.refl _ _) (rfl) (fun _ _ _ => ⟨trivial, trivial⟩)
            refine FlowAll.cons ?_ ?_
            · intro xF wz hR hd K hK
              have dd4 : ((xF 4) = .agg #[.int .u64 x.a, .int .u64 x.b, .int .u64 x.c, .int .u64 x.d]) := hd 4 (by kernel_rfl)
              have dd6 : ((xF 6) = .int .u8 (k : Int)) := hd 6 (by kernel_rfl)
              clear hd
              simp only [← hAF, Act.put, List.setIfInBounds_toArray, List.set_cons_zero, List.set_cons_succ] at hK ⊢
              clear hAF
              try simp only [Nat.zero_add] at hK ⊢
              try simp only [Nat.reduceAdd] at hK ⊢
              try generalize xF 4 = yy4 at *
              try generalize xF 6 = yy6 at *
              obtain rfl := dd4
              obtain rfl := dd6
              obtain hbR := id hR
              rw [if_pos (by rfl)]
              go_simp
              (go_at_call 12; (with_reducible refine (HI1.out _).mono ?_); rintro e wK ⟨rfl, hbK⟩)
              try go_wp2_with fail
              exact hK.out _ _ (hbK) (rfl) (fun _ _ _ => ⟨trivial, trivial⟩)
            refine FlowAll.cons ?_ ?_
            · intro xF wz hR hd K hK
              have dd7 : ((xF 7) = .bool true) := hd 7 (by kernel_rfl)
              clear hd
              simp only [← hAF, Act.put, List.setIfInBounds_toArray, List.set_cons_zero, List.set_cons_succ] at hK ⊢
              clear hAF
              try simp only [Nat.zero_add] at hK ⊢
              try simp only [Nat.reduceAdd] at hK ⊢
              try generalize xF 7 = yy7 at *
              obtain rfl := dd7
              obtain hbR := id hR
              rw [if_pos (by rfl)]
              go_simp
              exact hK.out _ _ (Below.refl _ _) (rfl) (fun _ _ _ => ⟨trivial, trivial⟩)
            refine FlowAll.cons ?_ ?_
            · intro xF wz hR hd K hK
              have dd8 : ((xF 8) = .bool true) := hd 8 (by kernel_rfl)
              clear hd
              simp only [← hAF, Act.put, List.setIfInBounds_toArray, List.set_cons_zero, List.set_cons_succ] at hK ⊢
              clear hAF
              try simp only [Nat.zero_add] at hK ⊢
              try simp only [Nat.reduceAdd] at hK ⊢
              try generalize xF 8 = yy8 at *
              obtain rfl := dd8
              obtain hbR := id hR
              rw [if_neg (by intro h; exact absurd (show false = true from h) Bool.false_ne_true)]
              try simp only [Act.put, List.setIfInBounds_toArray, List.set_cons_zero, List.set_cons_succ]
              exact hK.out _ _ (Below.refl _ _) (rfl) (fun _ _ _ => ⟨trivial, trivial⟩)
            refine FlowAll.cons ?_ ?_
            · intro xF wz hR hd K hK
              have dd8 : ((xF 8) = .bool true) := hd 8 (by kernel_rfl)
              clear hd
              simp only [← hAF, Act.put, List.setIfInBounds_toArray, List.set_cons_zero, List.set_cons_succ] at hK ⊢
              clear hAF
              try simp only [Nat.zero_add] at hK ⊢
              try simp only [Nat.reduceAdd] at hK ⊢
              try generalize xF 8 = yy8 at *
              obtain rfl := dd8
              obtain hbR := id hR
              rw [if_neg (by intro h; exact absurd (show false = true from h) Bool.false_ne_true)]
              try simp only [Act.put, List.setIfInBounds_toArray, List.set_cons_zero, List.set_cons_succ]
              exact hK.out _ _ (Below.refl _ _) (rfl) (fun _ _ _ => ⟨trivial, trivial⟩)
            refine FlowAll.cons ?_ ?_
            · intro xF wz hR hd K hK
              have dd8 : ((xF 8) = .bool true) := hd 8 (by kernel_rfl)
              clear hd
              simp only [← hAF, Act.put, List.setIfInBounds_toArray, List.set_cons_zero, List.set_cons_succ] at hK ⊢
              clear hAF
              try simp only [Nat.zero_add] at hK ⊢
              try simp only [Nat.reduceAdd] at hK ⊢
              try generalize xF 8 = yy8 at *
              obtain rfl := dd8
              obtain hbR := id hR
              rw [if_neg (by intro h; exact absurd (show false = true from h) Bool.false_ne_true)]
              try simp only [Act.put, List.setIfInBounds_toArray, List.set_cons_zero, List.set_cons_succ]
              exact hK.out _ _ (Below.refl _ _) (rfl) (fun _ _ _ => ⟨trivial, trivial⟩)
            refine FlowAll.cons ?_ ?_
            · intro xF wz hR hd K hK
              have dd8 : ((xF 8) = .bool true) := hd 8 (by kernel_rfl)
              clear hd
              simp only [← hAF, Act.put, List.setIfInBounds_toArray, List.set_cons_zero, List.set_cons_succ] at hK ⊢
              clear hAF
              try simp only [Nat.zero_add] at hK ⊢
              try simp only [Nat.reduceAdd] at hK ⊢
              try generalize xF 8 = yy8 at *
              obtain rfl := dd8
              obtain hbR := id hR
              rw [if_neg (by intro h; exact absurd (show false = true from h) Bool.false_ne_true)]
              try simp only [Act.put, List.setIfInBounds_toArray, List.set_cons_zero, List.set_cons_succ]
              exact hK.out _ _ (Below.refl _ _) (rfl) (fun _ _ _ => ⟨trivial, trivial⟩)
            refine FlowAll.cons ?_ ?_
            · intro xF wz hR hd K hK
              have dd8 : ((xF 8) = .bool true) := hd 8 (by kernel_rfl)
              have dd12 : ((xF 12) = undef) := hd 12 (by kernel_rfl)
              clear hd
              simp only [← hAF, Act.put, List.setIfInBounds_toArray, List.set_cons_zero, List.set_cons_succ] at hK ⊢
              clear hAF
              try simp only [Nat.zero_add] at hK ⊢
              try simp only [Nat.reduceAdd] at hK ⊢
              try generalize xF 8 = yy8 at *
              try generalize xF 12 = yy12 at *
              obtain rfl := dd8
              obtain rfl := dd12
              obtain hbR := id hR
              rw [if_pos (by rfl)]
              go_simp
              exact hK.out _ _ (Below.refl _ _) (rfl) (fun _ _ _ => ⟨trivial, trivial⟩)
            refine FlowAll.cons ?_ ?_
            · intro xF wz hR hd K hK
              have dd3 : ((xF 3) = .bool true) := hd 3 (by kernel_rfl)
              have dd13 : ((xF 13) = .bool true) := hd 13 (by kernel_rfl)
              clear hd
              simp only [← hAF, Act.put, List.setIfInBounds_toArray, List.set_cons_zero, List.set_cons_succ] at hK ⊢
              clear hAF
              try simp only [Nat.zero_add] at hK ⊢
              try simp only [Nat.reduceAdd] at hK ⊢
              try generalize xF 3 = yy3 at *
              try generalize xF 13 = yy13 at *
              obtain rfl := dd3
              obtain rfl := dd13
              obtain hbR := id hR
              rw [if_pos (by rfl)]
              go_simp
              exact hK.out _ _ (Below.refl _ _) (rfl) (fun _ _ _ => ⟨trivial, trivial⟩)
            refine FlowAll.cons ?_ ?_
            · intro xF wz hR hd K hK
              have dd14 : ((xF 14) = .bool false) := hd 14 (by kernel_rfl)
              clear hd
              simp only [← hAF, Act.put, List.setIfInBounds_toArray, List.set_cons_zero, List.set_cons_succ] at hK ⊢
              clear hAF
              try simp only [Nat.zero_add] at hK ⊢
              try simp only [Nat.reduceAdd] at hK ⊢
              try generalize xF 14 = yy14 at *
              obtain rfl := dd14
              obtain hbR := id hR
              rw [if_pos (by rfl)]
              go_simp
              exact hK.out _ _ (Below.refl _ _) (rfl) (fun _ _ _ => ⟨trivial, trivial⟩)
            refine FlowAll.cons ?_ ?_
            · intro xF wz hR hd K hK
              have dd15 : ((xF 15) = .bool false) := hd 15 (by kernel_rfl)
              clear hd
              simp only [← hAF, Act.put, List.setIfInBounds_toArray, List.set_cons_zero, List.set_cons_succ] at hK ⊢
              clear hAF
              try simp only [Nat.zero_add] at hK ⊢
              try simp only [Nat.reduceAdd] at hK ⊢
              try generalize xF 15 = yy15 at *
              obtain rfl := dd15
              obtain hbR := id hR
              rw [if_pos (by rfl)]
              go_simp
              exact hK.out _ _ (Below.refl _ _) (rfl) (fun _ _ _ => ⟨trivial, trivial⟩)
            refine FlowAll.cons ?_ ?_
            · intro xF wz hR hd K hK
              have dd15 : ((xF 15) = .bool false) := hd 15 (by kernel_rfl)
              have dd16 : ((xF 16) = .int .u8 (c : Int)) := hd 16 (by kernel_rfl)
              clear hd
              simp only [← hAF, Act.put, List.setIfInBounds_toArray, List.set_cons_zero, List.set_cons_succ] at hK ⊢
              clear hAF
              try simp only [Nat.zero_add] at hK ⊢
              try simp only [Nat.reduceAdd] at hK ⊢
              try generalize xF 15 = yy15 at *
              try generalize xF 16 = yy16 at *
              obtain rfl := dd15
              obtain rfl := dd16
              obtain hbR := id hR
              rw [if_pos (by rfl)]
              go_simp
              (go_at_call 13; (with_reducible refine (HS.out _).mono ?_); rintro e wK ⟨rfl, hbK⟩)
              try go_wp2_with fail
              exact hK.out _ _ (hbK) (rfl) (fun _ _ _ => ⟨trivial, trivial⟩)
            refine FlowAll.cons ?_ ?_
            · intro xF wz hR hd K hK
              have dd15 : ((xF 15) = .bool false) := hd 15 (by kernel_rfl)
              clear hd
              simp only [← hAF, Act.put, List.setIfInBounds_toArray, List.set_cons_zero, List.set_cons_succ] at hK ⊢
              clear hAF
              try simp only [Nat.zero_add] at hK ⊢
              try simp only [Nat.reduceAdd] at hK ⊢
              try generalize xF 15 = yy15 at *
              obtain rfl := dd15
              obtain hbR := id hR
              rw [if_pos (by rfl)]
              go_simp
              exact hK.out _ _ (Below.refl _ _) (rfl) (fun _ _ _ => ⟨trivial, trivial⟩)
            refine FlowAll.cons ?_ ?_
            · intro xF wz hR hd K hK
              have dd15 : ((xF 15) = .bool false) := hd 15 (by kernel_rfl)
              have dd18 : ((xF 18) = .int .i64 (k : Int)) := hd 18 (by kernel_rfl)
              clear hd
              simp only [← hAF, Act.put, List.setIfInBounds_toArray, List.set_cons_zero, List.set_cons_succ] at hK ⊢
              clear hAF
              try simp only [Nat.zero_add] at hK ⊢
              try simp only [Nat.reduceAdd] at hK ⊢
              try generalize xF 15 = yy15 at *
              try generalize xF 18 = yy18 at *
              obtain rfl := dd15
              obtain rfl := dd18
              obtain hbR := id hR
              rw [if_pos (by rfl)]
              go_simp
              exact hK.out _ _ (Below.refl _ _) (rfl) (fun _ _ _ => ⟨trivial, trivial⟩)
            refine FlowAll.cons ?_ ?_
            · intro xF wz hR hd K hK
              have dd15 : ((xF 15) = .bool false) := hd 15 (by kernel_rfl)
              have dd17 : ((xF 17) = .agg #[.int .u64 (Cls.one c).a, .int .u64 (Cls.one c).b, .int .u64 (Cls.one c).c, .int .u64 (Cls.one c).d]) := hd 17 (by kernel_rfl)
              have dd19 : ((xF 19) = .int .u8 (k : Int)) := hd 19 (by kernel_rfl)
              clear hd
              simp only [← hAF, Act.put, List.setIfInBounds_toArray, List.set_cons_zero, List.set_cons_succ] at hK ⊢
              clear hAF
              try simp only [Nat.zero_add] at hK ⊢
              try simp only [Nat.reduceAdd] at hK ⊢
              try generalize xF 15 = yy15 at *
              try generalize xF 17 = yy17 at *
              try generalize xF 19 = yy19 at *
              obtain rfl := dd15
              obtain rfl := dd17
              obtain rfl := dd19
              obtain hbR := id hR
              rw [if_pos (by rfl)]
              go_simp
              (go_at_call 12; (with_reducible refine (HI3.out _).mono ?_); rintro e wK ⟨rfl, hbK⟩)
              try go_wp2_with fail
              exact hK.out _ _ (hbK) (rfl) (fun _ _ _ => ⟨trivial, trivial⟩)
            refine FlowAll.cons ?_ ?_
            · intro xF wz hR hd K hK
              have dd15 : ((xF 15) = .bool false) := hd 15 (by kernel_rfl)
              clear hd
              simp only [← hAF, Act.put, List.setIfInBounds_toArray, List.set_cons_zero, List.set_cons_succ] at hK ⊢
              clear hAF
              try simp only [Nat.zero_add] at hK ⊢
              try simp only [Nat.reduceAdd] at hK ⊢
              try generalize xF 15 = yy15 at *
              obtain rfl := dd15
              obtain hbR := id hR
              rw [if_pos (by rfl)]
              go_simp
              exact hK.out _ _ (Below.refl _ _) (rfl) (fun _ _ _ => ⟨trivial, trivial⟩)
            refine FlowAll.cons ?_ ?_
            · intro xF wz hR hd K hK
              have dd15 : ((xF 15) = .bool false) := hd 15 (by kernel_rfl)
              have dd21 : ((xF 21) = .int .i64 (k : Int)) := hd 21 (by kernel_rfl)
              clear hd
              simp only [← hAF, Act.put, List.setIfInBounds_toArray, List.set_cons_zero, List.set_cons_succ] at hK ⊢
              clear hAF
              try simp only [Nat.zero_add] at hK ⊢
              try simp only [Nat.reduceAdd] at hK ⊢
              try generalize xF 15 = yy15 at *
              try generalize xF 21 = yy21 at *
              obtain rfl := dd15
              obtain rfl := dd21
              obtain hbR := id hR
              rw [if_pos (by rfl)]
              go_simp
              exact hK.out _ _ (Below.refl _ _) (rfl) (fun _ _ _ => ⟨trivial, trivial⟩)
            refine FlowAll.cons ?_ ?_
            · intro xF wz hR hd K hK
              have dd15 : ((xF 15) = .bool false) := hd 15 (by kernel_rfl)
              clear hd
              simp only [← hAF, Act.put, List.setIfInBounds_toArray, List.set_cons_zero, List.set_cons_succ] at hK ⊢
              clear hAF
              try simp only [Nat.zero_add] at hK ⊢
              try simp only [Nat.reduceAdd] at hK ⊢
              try generalize xF 15 = yy15 at *
              obtain rfl := dd15
              obtain hbR := id hR
              rw [if_pos (by rfl)]
              go_simp
              exact hK.out _ _ (Below.refl _ _) (rfl) (fun _ _ _ => ⟨trivial, trivial⟩)
            refine FlowAll.cons ?_ ?_
            · intro xF wz hR hd K hK
              have dd15 : ((xF 15) = .bool false) := hd 15 (by kernel_rfl)
              have dd22 : ((xF 22) = .int .u8 (k : Int)) := hd 22 (by kernel_rfl)
              have dd23 : ((xF 23) = .int .u8 (c : Int)) := hd 23 (by kernel_rfl)
              clear hd
              simp only [← hAF, Act.put, List.setIfInBounds_toArray, List.set_cons_zero, List.set_cons_succ] at hK ⊢
              clear hAF
              try simp only [Nat.zero_add] at hK ⊢
              try simp only [Nat.reduceAdd] at hK ⊢
              try generalize xF 15 = yy15 at *
              try generalize xF 22 = yy22 at *
              try generalize xF 23 = yy23 at *
              obtain rfl := dd15
              obtain rfl := dd22
              obtain rfl := dd23
              obtain hbR := id hR
              have hee := HEE.out
              have hef := HEF.out
              rw [if_pos (by rfl)]
              go_simp
              exact hK.out _ _ (Below.refl _ _) (rfl) (fun _ _ _ => ⟨trivial, trivial⟩)
            refine FlowAll.cons ?_ ?_
            · intro xF wz hR hd K hK
              have dd15 : ((xF 15) = .bool false) := hd 15 (by kernel_rfl)
              have dd20 : ((xF 20) = .bool true) := hd 20 (by kernel_rfl)
              have dd24 : ((xF 24) = .bool true) := hd 24 (by kernel_rfl)
              clear hd
              simp only [← hAF, Act.put, List.setIfInBounds_toArray, List.set_cons_zero, List.set_cons_succ] at hK ⊢
              clear hAF
              try simp only [Nat.zero_add] at hK ⊢
              try simp only [Nat.reduceAdd] at hK ⊢
              try generalize xF 15 = yy15 at *
              try generalize xF 20 = yy20 at *
              try generalize xF 24 = yy24 at *
              obtain rfl := dd15
              obtain rfl := dd20
              obtain rfl := dd24
              obtain hbR := id hR
              rw [if_pos (by rfl)]
              go_simp
              exact hK.out _ _ (Below.refl _ _) (rfl) (fun _ _ _ => ⟨trivial, trivial⟩)
            refine FlowAll.cons ?_ ?_
            · intro xF wz hR hd K hK
              have dd15 : ((xF 15) = .bool false) := hd 15 (by kernel_rfl)
              have dd25 : ((xF 25) = .bool false) := hd 25 (by kernel_rfl)
              clear hd
              simp only [← hAF, Act.put, List.setIfInBounds_toArray, List.set_cons_zero, List.set_cons_succ] at hK ⊢
              clear hAF
              try simp only [Nat.zero_add] at hK ⊢
              try simp only [Nat.reduceAdd] at hK ⊢
              try generalize xF 15 = yy15 at *
              try generalize xF 25 = yy25 at *
              obtain rfl := dd15
              obtain rfl := dd25
              obtain hbR := id hR
              rw [if_pos (by rfl)]
              go_simp
              exact hK.out _ _ (Below.refl _ _) (rfl) (fun _ _ _ => ⟨trivial, trivial⟩)
            exact FlowAll.nil
          intro xF wz hR hF hP
          clear hP
          have dd0 : ((xF 0) = .agg #[.int .u64 (x.or y).a, .int .u64 (x.or y).b, .int .u64 (x.or y).c, .int .u64 (x.or y).d]) := hF 0 (by omega) (by decide)
          have dd1 : ((xF 1) = .int .i64 (k : Int)) := hF 1 (by omega) (by decide)
          have dd2 : ((xF 2) = .int .u8 (k : Int)) := hF 2 (by omega) (by decide)
          have dd3 : ((xF 3) = .bool true) := hF 3 (by omega) (by decide)
          have dd4 : ((xF 4) = .agg #[.int .u64 x.a, .int .u64 x.b, .int .u64 x.c, .int .u64 x.d]) := hF 4 (by omega) (by decide)
          have dd5 : ((xF 5) = .int .i64 (k : Int)) := hF 5 (by omega) (by decide)
          have dd6 : ((xF 6) = .int .u8 (k : Int)) := hF 6 (by omega) (by decide)
          have dd7 : ((xF 7) = .bool true) := hF 7 (by omega) (by decide)
          have dd8 : ((xF 8) = .bool true) := hF 8 (by omega) (by decide)
          have dd9 : ((xF 9) = undef) := hF 9 (by omega) (by decide)
          have dd10 : ((xF 10) = undef) := hF 10 (by omega) (by decide)
          have dd11 : ((xF 11) = undef) := hF 11 (by omega) (by decide)
          have dd12 : ((xF 12) = undef) := hF 12 (by omega) (by decide)
          have dd13 : ((xF 13) = .bool true) := hF 13 (by omega) (by decide)
          have dd14 : ((xF 14) = .bool false) := hF 14 (by omega) (by decide)
          have dd15 : ((xF 15) = .bool false) := hF 15 (by omega) (by decide)
          have dd16 : ((xF 16) = .int .u8 (c : Int)) := hF 16 (by omega) (by decide)
          have dd17 : ((xF 17) = .agg #[.int .u64 (Cls.one c).a, .int .u64 (Cls.one c).b, .int .u64 (Cls.one c).c, .int .u64 (Cls.one c).d]) := hF 17 (by omega) (by decide)
          have dd18 : ((xF 18) = .int .i64 (k : Int)) := hF 18 (by omega) (by decide)
          have dd19 : ((xF 19) = .int .u8 (k : Int)) := hF 19 (by omega) (by decide)
          have dd20 : ((xF 20) = .bool true) := hF 20 (by omega) (by decide)
          have dd21 : ((xF 21) = .int .i64 (k : Int)) := hF 21 (by omega) (by decide)
          have dd22 : ((xF 22) = .int .u8 (k : Int)) := hF 22 (by omega) (by decide)
          have dd23 : ((xF 23) = .int .u8 (c : Int)) := hF 23 (by omega) (by decide)
          have dd24 : ((xF 24) = .bool true) := hF 24 (by omega) (by decide)
          have dd25 : ((xF 25) = .bool false) := hF 25 (by omega) (by decide)
          have dd26 : ((xF 26) = .bool false) := hF 26 (by omega) (by decide)
          clear hF
          simp only [List.take_succ_cons, List.take_zero, List.drop_succ_cons, List.drop_zero, fillOf, Act.put, List.setIfInBounds_toArray, List.set_cons_zero, List.set_cons_succ, Nat.reduceAdd, Nat.zero_add]
          try generalize xF 0 = yy0 at *
          try generalize xF 1 = yy1 at *
          try generalize xF 2 = yy2 at *
          try generalize xF 3 = yy3 at *
          try generalize xF 4 = yy4 at *
          try generalize xF 5 = yy5 at *
          try generalize xF 6 = yy6 at *
          try generalize xF 7 = yy7 at *
          try generalize xF 8 = yy8 at *
          try generalize xF 9 = yy9 at *
          try generalize xF 10 = yy10 at *
          try generalize xF 11 = yy11 at *
          try generalize xF 12 = yy12 at *
          try generalize xF 13 = yy13 at *
          try generalize xF 14 = yy14 at *
          try generalize xF 15 = yy15 at *
          try generalize xF 16 = yy16 at *
          try generalize xF 17 = yy17 at *
          try generalize xF 18 = yy18 at *
          try generalize xF 19 = yy19 at *
          try generalize xF 20 = yy20 at *
          try generalize xF 21 = yy21 at *
          try generalize xF 22 = yy22 at *
          try generalize xF 23 = yy23 at *
          try generalize xF 24 = yy24 at *
          try generalize xF 25 = yy25 at *
          try generalize xF 26 = yy26 at *
          clear xF
          obtain rfl := dd0
          obtain rfl := dd1
          obtain rfl := dd2
          obtain rfl := dd3
          obtain rfl := dd4
          obtain rfl := dd5
          obtain rfl := dd6
          obtain rfl := dd7
          obtain rfl := dd8
          obtain rfl := dd9
          obtain rfl := dd10
          obtain rfl := dd11
          obtain rfl := dd12
          obtain rfl := dd13
          obtain rfl := dd14
          obtain rfl := dd15
          obtain rfl := dd16
          obtain rfl := dd17
          obtain rfl := dd18
          obtain rfl := dd19
          obtain rfl := dd20
          obtain rfl := dd21
          obtain rfl := dd22
          obtain rfl := dd23
          obtain rfl := dd24
          obtain rfl := dd25
          obtain rfl := dd26
          have hRE := Lib.hid hR
          clear hR
          go_wp2
          go_roundw
          case rel => exact ⟨k + 1, by go_num, by have := HLT.out; omega, hRE.out⟩
          case measure => simp [intOf]; have := HLT.out; omega
        | false =>
          cases hpy : y.has k with
          | true =>
            have HI1 : Hid (∀ W, Calls Try.prog 12 #[.agg #[.int .u64 x.a, .int .u64 x.b, .int .u64 x.c, .int .u64 x.d], .int .u8 (k : Int)] W (fun e w' => e = .returned (.bool false) ∧ Below W.heap.size W w')) := fun W => by have h := HIA.out x k W OX.out HLT.out; rw [hpx] at h; exact h
            have HI2 : Hid (∀ W, Calls Try.prog 12 #[.agg #[.int .u64 y.a, .int .u64 y.b, .int .u64 y.c, .int .u64 y.d], .int .u8 (k : Int)] W (fun e w' => e = .returned (.bool true) ∧ Below W.heap.size W w')) := fun W => by have h := HIA.out y k W OY.out HLT.out; rw [hpy] at h; exact h
            have HU : Hid (∀ W, Calls Try.prog 12 #[.agg #[.int .u64 (x.or y).a, .int .u64 (x.or y).b, .int .u64 (x.or y).c, .int .u64 (x.or y).d], .int .u8 (k : Int)] W (fun e w' => e = .returned (.bool true) ∧ Below W.heap.size W w')) := fun W => by have h := HIA.out (x.or y) k W HOO.out HLT.out; rw [HOR.out, hpx, hpy] at h; exact h
            clear hpx hpy hkc hlt hk
            go_wp2
            refine wp_flow 27 (fun _ => 1000) (fun ww => Below W2.heap.size W2 ww) (fun _ w w' => (fun (w w' : World) => RowKit.Below w.heap.size w w') w w') (fun kF vF wF => match kF with | 0 => (vF = .agg #[.int .u64 (x.or y).a, .int .u64 (x.or y).b, .int .u64 (x.or y).c, .int .u64 (x.or y).d]) | 1 => (vF = .int .i64 (k : Int)) | 2 => (vF = .int .u8 (k : Int)) | 3 => (vF = .bool true) | 4 => (vF = .agg #[.int .u64 x.a, .int .u64 x.b, .int .u64 x.c, .int .u64 x.d]) | 5 => (vF = .int .i64 (k : Int)) | 6 => (vF = .int .u8 (k : Int)) | 7 => (vF = .bool false) | 8 => (vF = .bool false) | 9 => (vF = .agg #[.int .u64 y.a, .int .u64 y.b, .int .u64 y.c, .int .u64 y.d]) | 10 => (vF = .int .i64 (k : Int)) | 11 => (vF = .int .u8 (k : Int)) | 12 => (vF = .bool true) | 13 => (vF = .bool true) | 14 => (vF = .bool false) | 15 => (vF = .bool false) | 16 => (vF = .int .u8 (c : Int)) | 17 => (vF = .agg #[.int .u64 (Cls.one c).a, .int .u64 (Cls.one c).b, .int .u64 (Cls.one c).c, .int .u64 (Cls.one c).d]) | 18 => (vF = .int .i64 (k : Int)) | 19 => (vF = .int .u8 (k : Int)) | 20 => (vF = .bool true) | 21 => (vF = .int .i64 (k : Int)) | 22 => (vF = .int .u8 (k : Int)) | 23 => (vF = .int .u8 (c : Int)) | 24 => (vF = .bool true) | 25 => (vF = .bool false) | 26 => (vF = .bool false) | _ => True) (fun _ _ _ _ => True) (by kernel_rfl) (by kernel_rfl) ?_ ?_ ?_ ?_ ?_
            · exact HB.out.drew
            · intro iF wF1 wF2 hR hT; exact hR.trans (Below.mono hT (Below.size hR))
            · intro kF hkF iF hiF hne hdd hanc hdan vF wF1 wF2 h hT
              rcases (by omega : kF = 0 ∨ kF = 1 ∨ kF = 2 ∨ kF = 3 ∨ kF = 4 ∨ kF = 5 ∨ kF = 6 ∨ kF = 7 ∨ kF = 8 ∨ kF = 9 ∨ kF = 10 ∨ kF = 11 ∨ kF = 12 ∨ kF = 13 ∨ kF = 14 ∨ kF = 15 ∨ kF = 16 ∨ kF = 17 ∨ kF = 18 ∨ kF = 19 ∨ kF = 20 ∨ kF = 21 ∨ kF = 22 ∨ kF = 23 ∨ kF = 24 ∨ kF = 25 ∨ kF = 26) with rfl | rfl | rfl | rfl | rfl | rfl | rfl | rfl | rfl | rfl | rfl | rfl | rfl | rfl | rfl | rfl | rfl | rfl | rfl | rfl | rfl | rfl | rfl | rfl | rfl | rfl | rfl
              · exact h
              · exact h
              · exact h
              · exact h
              · exact h
              · exact h
              · exact h
              · exact h
              · exact h
              · exact h
              · exact h
              · exact h
              · exact h
              · exact h
              · exact h
              · exact h
              · exact h
              · exact h
              · exact h
              · exact h
              · exact h
              · exact h
              · exact h
              · exact h
              · exact h
              · exact h
              · exact h
            · generalize hAF : fillOf _ _ _ = AF
              replace hAF := fun x => congrFun hAF x
              simp only [List.take_succ_cons, List.take_zero, fillOf, Act.put, List.setIfInBounds_toArray, List.set_cons_zero, List.set_cons_succ, Nat.reduceAdd, Nat.zero_add] at hAF
              refine FlowAll.cons ?_ ?_
              · intro xF wz hR hd K hK
                clear hd
                simp only [← hAF, Act.put, List.setIfInBounds_toArray, List.set_cons_zero, List.set_cons_succ] at hK ⊢
                clear hAF
                try simp only [Nat.zero_add] at hK ⊢
                try simp only [Nat.reduceAdd] at hK ⊢
                obtain hbR := id hR
                have hxa := (hbR.block _ (lt_of_block X2.out)).trans X2.out
                have c90 := boxc hxa 0 _ rfl
                have c91 := boxc hxa 1 _ rfl
                have c92 := boxc hxa 2 _ rfl
                have c93 := boxc hxa 3 _ rfl
                clear hxa
                rw [if_pos (by rfl)]
                go_simp
                exact hK.out _ _ (Below.refl _ _) (rfl) (fun _ _ _ => ⟨trivial, trivial⟩)
              refine FlowAll.cons ?_ ?_
              · intro xF wz hR hd K hK
                clear hd
                simp only [← hAF, Act.put, List.setIfInBounds_toArray, List.set_cons_zero, List.set_cons_succ] at hK ⊢
                clear hAF
                try simp only [Nat.zero_add] at hK ⊢
                try simp only [Nat.reduceAdd] at hK ⊢
                obtain hbR := id hR
                rw [if_pos (by rfl)]
                go_simp
                exact hK.out _ _ (Below.refl _ _) (rfl) (fun _ _ _ => ⟨trivial, trivial⟩)
              refine FlowAll.cons ?_ ?_
              · intro xF wz hR hd K hK
                have dd1 : ((xF 1) = .int .i64 (k : Int)) := hd 1 (by kernel_rfl)
                clear hd
                simp only [← hAF, Act.put, List.setIfInBounds_toArray, List.set_cons_zero, List.set_cons_succ] at hK ⊢
                clear hAF
                try simp only [Nat.zero_add] at hK ⊢
                try simp only [Nat.reduceAdd] at hK ⊢
                try generalize xF 1 = yy1 at *
                obtain rfl := dd1
                obtain hbR := id hR
                rw [if_pos (by rfl)]
                go_simp
                exact hK.out _ _ (Below.refl _ _) (rfl) (fun _ _ _ => ⟨trivial, trivial⟩)
              refine FlowAll.cons ?_ ?_
              · intro xF wz hR hd K hK
                have dd0 : ((xF 0) = .agg #[.int .u64 (x.or y).a, .int .u64 (x.or y).b, .int .u64 (x.or y).c, .int .u64 (x.or y).d]) := hd 0 (by kernel_rfl)
                have dd2 : ((xF 2) = .int .u8 (k : Int)) := hd 2 (by kernel_rfl)
                clear hd
                simp only [← hAF, Act.put, List.setIfInBounds_toArray, List.set_cons_zero, List.set_cons_succ] at hK ⊢
                clear hAF
                try simp only [Nat.zero_add] at hK ⊢
                try simp only [Nat.reduceAdd] at hK ⊢
                try generalize xF 0 = yy0 at *
                try generalize xF 2 = yy2 at *
                obtain rfl := dd0
                obtain rfl := dd2
                obtain hbR := id hR
                rw [if_pos (by rfl)]
                go_simp
                (go_at_call 12; (with_reducible refine (HU.out _).mono ?_); rintro e wK ⟨rfl, hbK⟩)
                try go_wp2_with fail
                exact hK.out _ _ (hbK) (rfl) (fun _ _ _ => ⟨trivial, trivial⟩)
              refine FlowAll.cons ?_ ?_
              · intro xF wz hR hd K hK
                clear hd
                simp only [← hAF, Act.put, List.setIfInBounds_toArray, List.set_cons_zero, List.set_cons_succ] at hK ⊢
                clear hAF
                try simp only [Nat.zero_add] at hK ⊢
                try simp only [Nat.reduceAdd] at hK ⊢
                obtain hbR := id hR
                have hxa := (hbR.block _ (lt_of_block X0.out)).trans X0.out
                have c90 := boxc hxa 0 _ rfl
                have c91 := boxc hxa 1 _ rfl
                have c92 := boxc hxa 2 _ rfl
                have c93 := boxc hxa 3 _ rfl
                clear hxa
                rw [if_pos (by rfl)]
                go_simp
                exact hK.out _ _ (Below.refl _ _) (rfl) (fun _ _ _ => ⟨trivial, trivial⟩)
              refine FlowAll.cons ?_ ?_
              · intro xF wz hR hd K hK
                clear hd
                simp only [← hAF, Act.put, List.setIfInBounds_toArray, List.set_cons_zero, List.set_cons_succ] at hK ⊢
                clear hAF
                try simp only [Nat.zero_add] at hK ⊢
                try simp only [Nat.reduceAdd] at hK ⊢
                obtain hbR := id hR
                rw [if_pos (by rfl)]
                go_simp
                exact hK.out _ _ (Below.refl _ _) (rfl) (fun _ _ _ => ⟨trivial, trivial⟩)
              refine FlowAll.cons ?_ ?_
              · intro xF wz hR hd K hK
                have dd5 : ((xF 5) = .int .i64 (k : Int)) := hd 5 (by kernel_rfl)
                clear hd
                simp only [← hAF, Act.put, List.setIfInBounds_toArray, List.set_cons_zero, List.set_cons_succ] at hK ⊢
                clear hAF
                try simp only [Nat.zero_add] at hK ⊢
                try simp only [Nat.reduceAdd] at hK ⊢
                try generalize xF 5 = yy5 at *
                obtain rfl := dd5
                obtain hbR := id hR
                rw [if_pos (by rfl)]
                go_simp
                exact hK.out _ _ (Below.refl _ _) (rfl) (fun _ _ _ => ⟨trivial, trivial⟩)
              refine FlowAll.cons ?_ ?_
              · intro xF wz hR hd K hK
                have dd4 : ((xF 4) = .agg #[.int .u64 x.a, .int .u64 x.b, .int .u64 x.c, .int .u64 x.d]) := hd 4 (by kernel_rfl)
                have dd6 : ((xF 6) = .int .u8 (k : Int)) := hd 6 (by kernel_rfl)
                clear hd
                simp only [← hAF, Act.put, List.setIfInBounds_toArray, List.set_cons_zero, List.set_cons_succ] at hK ⊢
                clear hAF
                try simp only [Nat.zero_add] at hK ⊢
                try simp only [Nat.reduceAdd] at hK ⊢
                try generalize xF 4 = yy4 at *
                try generalize xF 6 = yy6 at *
                obtain rfl := dd4
                obtain rfl := dd6
                obtain hbR := id hR
                rw [if_pos (by rfl)]
                go_simp
                (go_at_call 12; (with_reducible refine (HI1.out _).mono ?_); rintro e wK ⟨rfl, hbK⟩)
                try go_wp2_with fail
                exact hK.out _ _ (hbK) (rfl) (fun _ _ _ => ⟨trivial, trivial⟩)
              refine FlowAll.cons ?_ ?_
              · intro xF wz hR hd K hK
                have dd7 : ((xF 7) = .bool false) := hd 7 (by kernel_rfl)
                clear hd
                simp only [← hAF, Act.put, List.setIfInBounds_toArray, List.set_cons_zero, List.set_cons_succ] at hK ⊢
                clear hAF
                try simp only [Nat.zero_add] at hK ⊢
                try simp only [Nat.reduceAdd] at hK ⊢
                try generalize xF 7 = yy7 at *
                obtain rfl := dd7
                obtain hbR := id hR
                rw [if_pos (by rfl)]
                go_simp
                exact hK.out _ _ (Below.refl _ _) (rfl) (fun _ _ _ => ⟨trivial, trivial⟩)
              refine FlowAll.cons ?_ ?_
              · intro xF wz hR hd K hK
                have dd8 : ((xF 8) = .bool false) := hd 8 (by kernel_rfl)
                clear hd
                simp only [← hAF, Act.put, List.setIfInBounds_toArray, List.set_cons_zero, List.set_cons_succ] at hK ⊢
                clear hAF
                try simp only [Nat.zero_add] at hK ⊢
                try simp only [Nat.reduceAdd] at hK ⊢
                try generalize xF 8 = yy8 at *
                obtain rfl := dd8
                obtain hbR := id hR
                have hxa := (hbR.block _ (lt_of_block X1.out)).trans X1.out
                have c90 := boxc hxa 0 _ rfl
                have c91 := boxc hxa 1 _ rfl
                have c92 := boxc hxa 2 _ rfl
                have c93 := boxc hxa 3 _ rfl
                clear hxa
                rw [if_pos (by rfl)]
                go_simp
                exact hK.out _ _ (Below.refl _ _) (rfl) (fun _ _ _ => ⟨trivial, trivial⟩)
              refine FlowAll.cons ?_ ?_
              · intro xF wz hR hd K hK
                have dd8 : ((xF 8) = .bool false) := hd 8 (by kernel_rfl)
                clear hd
                simp only [← hAF, Act.put, List.setIfInBounds_toArray, List.set_cons_zero, List.set_cons_succ] at hK ⊢
                clear hAF
                try simp only [Nat.zero_add] at hK ⊢
                try simp only [Nat.reduceAdd] at hK ⊢
                try generalize xF 8 = yy8 at *
                obtain rfl := dd8
                obtain hbR := id hR
                rw [if_pos (by rfl)]
                go_simp
                exact hK.out _ _ (Below.refl _ _) (rfl) (fun _ _ _ => ⟨trivial, trivial⟩)
              refine FlowAll.cons ?_ ?_
              · intro xF wz hR hd K hK
                have dd8 : ((xF 8) = .bool false) := hd 8 (by kernel_rfl)
                have dd10 : ((xF 10) = .int .i64 (k : Int)) := hd 10 (by kernel_rfl)
                clear hd
                simp only [← hAF, Act.put, List.setIfInBounds_toArray, List.set_cons_zero, List.set_cons_succ] at hK ⊢
                clear hAF
                try simp only [Nat.zero_add] at hK ⊢
                try simp only [Nat.reduceAdd] at hK ⊢
                try generalize xF 8 = yy8 at *
                try generalize xF 10 = yy10 at *
                obtain rfl := dd8
                obtain rfl := dd10
                obtain hbR := id hR
                rw [if_pos (by rfl)]
                go_simp
                exact hK.out _ _ (Below.refl _ _) (rfl) (fun _ _ _ => ⟨trivial, trivial⟩)
              refine FlowAll.cons ?_ ?_
              · intro xF wz hR hd K hK
                have dd8 : ((xF 8) = .bool false) := hd 8 (by kernel_rfl)
                have dd9 : ((xF 9) = .agg #[.int .u64 y.a, .int .u64 y.b, .int .u64 y.c, .int .u64 y.d]) := hd 9 (by kernel_rfl)
                have dd11 : ((xF 11) = .int .u8 (k : Int)) := hd 11 (by kernel_rfl)
                clear hd
                simp only [← hAF, Act.put, List.setIfInBounds_toArray, List.set_cons_zero, List.set_cons_succ] at hK ⊢
                clear hAF
                try simp only [Nat.zero_add] at hK ⊢
                try simp only [Nat.reduceAdd] at hK ⊢
                try generalize xF 8 = yy8 at *
                try generalize xF 9 = yy9 at *
                try generalize xF 11 = yy11 at *
                obtain rfl := dd8
                obtain rfl := dd9
                obtain rfl := dd11
                obtain hbR := id hR
                rw [if_pos (by rfl)]
                go_simp
                (go_at_call 12; (with_reducible refine (HI2.out _).mono ?_); rintro e wK ⟨rfl, hbK⟩)
                try go_wp2_with fail
                exact hK.out _ _ (hbK) (rfl) (fun _ _ _ => ⟨trivial, trivial⟩)
              refine FlowAll.cons ?_ ?_
              · intro xF wz hR hd K hK
                have dd8 : ((xF 8) = .bool false) := hd 8 (by kernel_rfl)
                have dd12 : ((xF 12) = .bool true) := hd 12 (by kernel_rfl)
                clear hd
                simp only [← hAF, Act.put, List.setIfInBounds_toArray, List.set_cons_zero, List.set_cons_succ] at hK ⊢
                clear hAF
                try simp only [Nat.zero_add] at hK ⊢
                try simp only [Nat.reduceAdd] at hK ⊢
                try generalize xF 8 = yy8 at *
                try generalize xF 12 = yy12 at *
                obtain rfl := dd8
                obtain rfl := dd12
                obtain hbR := id hR
                rw [if_pos (by rfl)]
                go_simp
                exact hK.out _ _ (Below.refl _ _) (rfl) (fun _ _ _ => ⟨trivial, trivial⟩)
              refine FlowAll.cons ?_ ?_
              · intro xF wz hR hd K hK
                have dd3 : ((xF 3) = .bool true) := hd 3 (by kernel_rfl)
                have dd13 : ((xF 13) = .bool true) := hd 13 (by kernel_rfl)
                clear hd
                simp only [← hAF, Act.put, List.setIfInBounds_toArray, List.set_cons_zero, List.set_cons_succ] at hK ⊢
                clear hAF
                try simp only [Nat.zero_add] at hK ⊢
                try simp only [Nat.reduceAdd] at hK ⊢
                try generalize xF 3 = yy3 at *
                try generalize xF 13 = yy13 at *
                obtain rfl := dd3
                obtain rfl := dd13
                obtain hbR := id hR
                rw [if_pos (by rfl)]
                go_simp
                exact hK.out _ _ (Below.refl _ _) (rfl) (fun _ _ _ => ⟨trivial, trivial⟩)
              refine FlowAll.cons ?_ ?_
              · intro xF wz hR hd K hK
                have dd14 : ((xF 14) = .bool false) := hd 14 (by kernel_rfl)
                clear hd
                simp only [← hAF, Act.put, List.setIfInBounds_toArray, List.set_cons_zero, List.set_cons_succ] at hK ⊢
                clear hAF
                try simp only [Nat.zero_add] at hK ⊢
                try simp only [Nat.reduceAdd] at hK ⊢
                try generalize xF 14 = yy14 at *
                obtain rfl := dd14
                obtain hbR := id hR
                rw [if_pos (by rfl)]
                go_simp
                exact hK.out _ _ (Below.refl _ _) (rfl) (fun _ _ _ => ⟨trivial, trivial⟩)
              refine FlowAll.cons ?_ ?_
              · intro xF wz hR hd K hK
                have dd15 : ((xF 15) = .bool false) := hd 15 (by kernel_rfl)
                clear hd
                simp only [← hAF, Act.put, List.setIfInBounds_toArray, List.set_cons_zero, List.set_cons_succ] at hK ⊢
                clear hAF
                try simp only [Nat.zero_add] at hK ⊢
                try simp only [Nat.reduceAdd] at hK ⊢
                try generalize xF 15 = yy15 at *
                obtain rfl := dd15
                obtain hbR := id hR
                rw [if_pos (by rfl)]
                go_simp
                exact hK.out _ _ (Below.refl _ _) (rfl) (fun _ _ _ => ⟨trivial, trivial⟩)
              refine FlowAll.cons ?_ ?_
              · intro xF wz hR hd K hK
                have dd15 : ((xF 15) = .bool false) := hd 15 (by kernel_rfl)
                have dd16 : ((xF 16) = .int .u8 (c : Int)) := hd 16 (by kernel_rfl)
                clear hd
                simp only [← hAF, Act.put, List.setIfInBounds_toArray, List.set_cons_zero, List.set_cons_succ] at hK ⊢
                clear hAF
                try simp only [Nat.zero_add] at hK ⊢
                try simp only [Nat.reduceAdd] at hK ⊢
                try generalize xF 15 = yy15 at *
                try generalize xF 16 = yy16 at *
                obtain rfl := dd15
                obtain rfl := dd16
                obtain hbR := id hR
                rw [if_pos (by rfl)]
                go_simp
                (go_at_call 13; (with_reducible refine (HS.out _).mono ?_); rintro e wK ⟨rfl, hbK⟩)
                try go_wp2_with fail
                exact hK.out _ _ (hbK) (rfl) (fun _ _ _ => ⟨trivial, trivial⟩)
              refine FlowAll.cons ?_ ?_
              · intro xF wz hR hd K hK
                have dd15 : ((xF 15) = .bool false) := hd 15 (by kernel_rfl)
                clear hd
                simp only [← hAF, Act.put, List.setIfInBounds_toArray, List.set_cons_zero, List.set_cons_succ] at hK ⊢
                clear hAF
                try simp only [Nat.zero_add] at hK ⊢
                try simp only [Nat.reduceAdd] at hK ⊢
                try generalize xF 15 = yy15 at *
                obtain rfl := dd15
                obtain hbR := id hR
                rw [if_pos (by rfl)]
                go_simp
                exact hK.out _ _ (Below.refl _ _) (rfl) (fun _ _ _ => ⟨trivial, trivial⟩)
              refine FlowAll.cons ?_ ?_
              · intro xF wz hR hd K hK
                have dd15 : ((xF 15) = .bool false) := hd 15 (by kernel_rfl)
                have dd18 : ((xF 18) = .int .i64 (k : Int)) := hd 18 (by kernel_rfl)
                clear hd
                simp only [← hAF, Act.put, List.setIfInBounds_toArray, List.set_cons_zero, List.set_cons_succ] at hK ⊢
                clear hAF
                try simp only [Nat.zero_add] at hK ⊢
                try simp only [Nat.reduceAdd] at hK ⊢
                try generalize xF 15 = yy15 at *
                try generalize xF 18 = yy18 at *
                obtain rfl := dd15
                obtain rfl := dd18
                obtain hbR := id hR
                rw [if_pos (by rfl)]
                go_simp
                exact hK.out _ _ (Below.refl _ _) (rfl) (fun _ _ _ => ⟨trivial, trivial⟩)
              refine FlowAll.cons ?_ ?_
              · intro xF wz hR hd K hK
                have dd15 : ((xF 15) = .bool false) := hd 15 (by kernel_rfl)
                have dd17 : ((xF 17) = .agg #[.int .u64 (Cls.one c).a, .int .u64 (Cls.one c).b, .int .u64 (Cls.one c).c, .int .u64 (Cls.one c).d]) := hd 17 (by kernel_rfl)
                have dd19 : ((xF 19) = .int .u8 (k : Int)) := hd 19 (by kernel_rfl)
                clear hd
                simp only [← hAF, Act.put, List.setIfInBounds_toArray, List.set_cons_zero, List.set_cons_succ] at hK ⊢
                clear hAF
                try simp only [Nat.zero_add] at hK ⊢
                try simp only [Nat.reduceAdd] at hK ⊢
                try generalize xF 15 = yy15 at *
                try generalize xF 17 = yy17 at *
                try generalize xF 19 = yy19 at *
                obtain rfl := dd15
                obtain rfl := dd17
                obtain rfl := dd19
                obtain hbR := id hR
                rw [if_pos (by rfl)]
                go_simp
                (go_at_call 12; (with_reducible refine (HI3.out _).mono ?_); rintro e wK ⟨rfl, hbK⟩)
                try go_wp2_with fail
                exact hK.out _ _ (hbK) (rfl) (fun _ _ _ => ⟨trivial, trivial⟩)
              refine FlowAll.cons ?_ ?_
              · intro xF wz hR hd K hK
                have dd15 : ((xF 15) = .bool false) := hd 15 (by kernel_rfl)
                clear hd
                simp only [← hAF, Act.put, List.setIfInBounds_toArray, List.set_cons_zero, List.set_cons_succ] at hK ⊢
                clear hAF
                try simp only [Nat.zero_add] at hK ⊢
                try simp only [Nat.reduceAdd] at hK ⊢
                try generalize xF 15 = yy15 at *
                obtain rfl := dd15
                obtain hbR := id hR
                rw [if_pos (by rfl)]
                go_simp
                exact hK.out _ _ (Below.refl _ _) (rfl) (fun _ _ _ => ⟨trivial, trivial⟩)
              refine FlowAll.cons ?_ ?_
              · intro xF wz hR hd K hK
                have dd15 : ((xF 15) = .bool false) := hd 15 (by kernel_rfl)
                have dd21 : ((xF 21) = .int .i64 (k : Int)) := hd 21 (by kernel_rfl)
                clear hd
                simp only [← hAF, Act.put, List.setIfInBounds_toArray, List.set_cons_zero, List.set_cons_succ] at hK ⊢
                clear hAF
                try simp only [Nat.zero_add] at hK ⊢
                try simp only [Nat.reduceAdd] at hK ⊢
                try generalize xF 15 = yy15 at *
                try generalize xF 21 = yy21 at *
                obtain rfl := dd15
                obtain rfl := dd21
                obtain hbR := id hR
                rw [if_pos (by rfl)]
                go_simp
                exact hK.out _ _ (Below.refl _ _) (rfl) (fun _ _ _ => ⟨trivial, trivial⟩)
              refine FlowAll.cons ?_ ?_
              · intro xF wz hR hd K hK
                have dd15 : ((xF 15) = .bool false) := hd 15 (by kernel_rfl)
                clear hd
                simp only [← hAF, Act.put, List.setIfInBounds_toArray, List.set_cons_zero, List.set_cons_succ] at hK ⊢
                clear hAF
                try simp only [Nat.zero_add] at hK ⊢
                try simp only [Nat.reduceAdd] at hK ⊢
                try generalize xF 15 = yy15 at *
                obtain rfl := dd15
                obtain hbR := id hR
                rw [if_pos (by rfl)]
                go_simp
                exact hK.out _ _ (Below.refl _ _) (rfl) (fun _ _ _ => ⟨trivial, trivial⟩)
              refine FlowAll.cons ?_ ?_
              · intro xF wz hR hd K hK
                have dd15 : ((xF 15) = .bool false) := hd 15 (by kernel_rfl)
                have dd22 : ((xF 22) = .int .u8 (k : Int)) := hd 22 (by kernel_rfl)
                have dd23 : ((xF 23) = .int .u8 (c : Int)) := hd 23 (by kernel_rfl)
                clear hd
                simp only [← hAF, Act.put, List.setIfInBounds_toArray, List.set_cons_zero, List.set_cons_succ] at hK ⊢
                clear hAF
                try simp only [Nat.zero_add] at hK ⊢
                try simp only [Nat.reduceAdd] at hK ⊢
                try generalize xF 15 = yy15 at *
                try generalize xF 22 = yy22 at *
                try generalize xF 23 = yy23 at *
                obtain rfl := dd15
                obtain rfl := dd22
                obtain rfl := dd23
                obtain hbR := id hR
                have hee := HEE.out
                have hef := HEF.out
                rw [if_pos (by rfl)]
                go_simp
                exact hK.out _ _ (Below.refl _ _) (rfl) (fun _ _ _ => ⟨trivial, trivial⟩)
              refine FlowAll.cons ?_ ?_
              · intro xF wz hR hd K hK
                have dd15 : ((xF 15) = .bool false) := hd 15 (by kernel_rfl)
                have dd20 : ((xF 20) = .bool true) := hd 20 (by kernel_rfl)
                have dd24 : ((xF 24) = .bool true) := hd 24 (by kernel_rfl)
                clear hd
                simp only [← hAF, Act.put, List.setIfInBounds_toArray, List.set_cons_zero, List.set_cons_succ] at hK ⊢
                clear hAF
                try simp only [Nat.zero_add] at hK ⊢
                try simp only [Nat.reduceAdd] at hK ⊢
                try generalize xF 15 = yy15 at *
                try generalize xF 20 = yy20 at *
                try generalize xF 24 = yy24 at *
                obtain rfl := dd15
                obtain rfl := dd20
                obtain rfl := dd24
                obtain hbR := id hR
                rw [if_pos (by rfl)]
                go_simp
                exact hK.out _ _ (Below.refl _ _) (rfl) (fun _ _ _ => ⟨trivial, trivial⟩)
              refine FlowAll.cons ?_ ?_
              · intro xF wz hR hd K hK
                have dd15 : ((xF 15) = .bool false) := hd 15 (by kernel_rfl)
                have dd25 : ((xF 25) = .bool false) := hd 25 (by kernel_rfl)
                clear hd
                simp only [← hAF, Act.put, List.setIfInBounds_toArray, List.set_cons_zero, List.set_cons_succ] at hK ⊢
                clear hAF
                try simp only [Nat.zero_add] at hK ⊢
                try simp only [Nat.reduceAdd] at hK ⊢
                try generalize xF 15 = yy15 at *
                try generalize xF 25 = yy25 at *
                obtain rfl := dd15
                obtain rfl := dd25
                obtain hbR := id hR
                rw [if_pos (by rfl)]
                go_simp
                exact hK.out _ _ (Below.refl _ _) (rfl) (fun _ _ _ => ⟨trivial, trivial⟩)
              exact FlowAll.nil
            intro xF wz hR hF hP
            clear hP
            have dd0 : ((xF 0) = .agg #[.int .u64 (x.or y).a, .int .u64 (x.or y).b, .int .u64 (x.or y).c, .int .u64 (x.or y).d]) := hF 0 (by omega) (by decide)
            have dd1 : ((xF 1) = .int .i64 (k : Int)) := hF 1 (by omega) (by decide)
            have dd2 : ((xF 2) = .int .u8 (k : Int)) := hF 2 (by omega) (by decide)
            have dd3 : ((xF 3) = .bool true) := hF 3 (by omega) (by decide)
            have dd4 : ((xF 4) = .agg #[.int .u64 x.a, .int .u64 x.b, .int .u64 x.c, .int .u64 x.d]) := hF 4 (by omega) (by decide)
            have dd5 : ((xF 5) = .int .i64 (k : Int)) := hF 5 (by omega) (by decide)
            have dd6 : ((xF 6) = .int .u8 (k : Int)) := hF 6 (by omega) (by decide)
            have dd7 : ((xF 7) = .bool false) := hF 7 (by omega) (by decide)
            have dd8 : ((xF 8) = .bool false) := hF 8 (by omega) (by decide)
            have dd9 : ((xF 9) = .agg #[.int .u64 y.a, .int .u64 y.b, .int .u64 y.c, .int .u64 y.d]) := hF 9 (by omega) (by decide)
            have dd10 : ((xF 10) = .int .i64 (k : Int)) := hF 10 (by omega) (by decide)
            have dd11 : ((xF 11) = .int .u8 (k : Int)) := hF 11 (by omega) (by decide)
            have dd12 : ((xF 12) = .bool true) := hF 12 (by omega) (by decide)
            have dd13 : ((xF 13) = .bool true) := hF 13 (by omega) (by decide)
            have dd14 : ((xF 14) = .bool false) := hF 14 (by omega) (by decide)
            have dd15 : ((xF 15) = .bool false) := hF 15 (by omega) (by decide)
            have dd16 : ((xF 16) = .int .u8 (c : Int)) := hF 16 (by omega) (by decide)
            have dd17 : ((xF 17) = .agg #[.int .u64 (Cls.one c).a, .int .u64 (Cls.one c).b, .int .u64 (Cls.one c).c, .int .u64 (Cls.one c).d]) := hF 17 (by omega) (by decide)
            have dd18 : ((xF 18) = .int .i64 (k : Int)) := hF 18 (by omega) (by decide)
            have dd19 : ((xF 19) = .int .u8 (k : Int)) := hF 19 (by omega) (by decide)
            have dd20 : ((xF 20) = .bool true) := hF 20 (by omega) (by decide)
            have dd21 : ((xF 21) = .int .i64 (k : Int)) := hF 21 (by omega) (by decide)
            have dd22 : ((xF 22) = .int .u8 (k : Int)) := hF 22 (by omega) (by decide)
            have dd23 : ((xF 23) = .int .u8 (c : Int)) := hF 23 (by omega) (by decide)
            have dd24 : ((xF 24) = .bool true) := hF 24 (by omega) (by decide)
            have dd25 : ((xF 25) = .bool false) := hF 25 (by omega) (by decide)
            have dd26 : ((xF 26) = .bool false) := hF 26 (by omega) (by decide)
            clear hF
            simp only [List.take_succ_cons, List.take_zero, List.drop_succ_cons, List.drop_zero, fillOf, Act.put, List.setIfInBounds_toArray, List.set_cons_zero, List.set_cons_succ, Nat.reduceAdd, Nat.zero_add]
            try generalize xF 0 = yy0 at *
            try generalize xF 1 = yy1 at *
            try generalize xF 2 = yy2 at *
            try generalize xF 3 = yy3 at *
            try generalize xF 4 = yy4 at *
            try generalize xF 5 = yy5 at *
            try generalize xF 6 = yy6 at *
            try generalize xF 7 = yy7 at *
            try generalize xF 8 = yy8 at *
            try generalize xF 9 = yy9 at *
            try generalize xF 10 = yy10 at *
            try generalize xF 11 = yy11 at *
            try generalize xF 12 = yy12 at *
            try generalize xF 13 = yy13 at *
            try generalize xF 14 = yy14 at *
            try generalize xF 15 = yy15 at *
            try generalize xF 16 = yy16 at *
            try generalize xF 17 = yy17 at *
            try generalize xF 18 = yy18 at *
            try generalize xF 19 = yy19 at *
            try generalize xF 20 = yy20 at *
            try generalize xF 21 = yy21 at *
            try generalize xF 22 = yy22 at *
            try generalize xF 23 = yy23 at *
            try generalize xF 24 = yy24 at *
            try generalize xF 25 = yy25 at *
            try generalize xF 26 = yy26 at *
            clear xF
            obtain rfl := dd0
            obtain rfl := dd1
            obtain rfl := dd2
            obtain rfl := dd3
            obtain rfl := dd4
            obtain rfl := dd5
            obtain rfl := dd6
            obtain rfl := dd7
            obtain rfl := dd8
            obtain rfl := dd9
            obtain rfl := dd10
            obtain rfl := dd11
            obtain rfl := dd12
            obtain rfl := dd13
            obtain rfl := dd14
            obtain rfl := dd15
            obtain rfl := dd16
            obtain rfl := dd17
            obtain rfl := dd18
            obtain rfl := dd19
            obtain rfl := dd20
            obtain rfl := dd21
            obtain rfl := dd22
            obtain rfl := dd23
            obtain rfl := dd24
            obtain rfl := dd25
            obtain rfl := dd26
            have hRE := Lib.hid hR
            clear hR
            go_wp2
            go_roundw
            case rel => exact ⟨k + 1, by go_num, by have := HLT.out; omega, hRE.out⟩
            case measure => simp [intOf]; have := HLT.out; omega
          | false =>
            have HI1 : Hid (∀ W, Calls Try.prog 12 #[.agg #[.int .u64 x.a, .int .u64 x.b, .int .u64 x.c, .int .u64 x.d], .int .u8 (k : Int)] W (fun e w' => e = .returned (.bool false) ∧ Below W.heap.size W w')) := fun W => by have h := HIA.out x k W OX.out HLT.out; rw [hpx] at h; exact h
            have HI2 : Hid (∀ W, Calls Try.prog 12 #[.agg #[.int .u64 y.a, .int .u64 y.b, .int .u64 y.c, .int .u64 y.d], .int .u8 (k : Int)] W (fun e w' => e = .returned (.bool false) ∧ Below W.heap.size W w')) := fun W => by have h := HIA.out y k W OY.out HLT.out; rw [hpy] at h; exact h
            have HU : Hid (∀ W, Calls Try.prog 12 #[.agg #[.int .u64 (x.or y).a, .int .u64 (x.or y).b, .int .u64 (x.or y).c, .int .u64 (x.or y).d], .int .u8 (k : Int)] W (fun e w' => e = .returned (.bool false) ∧ Below W.heap.size W w')) := fun W => by have h := HIA.out (x.or y) k W HOO.out HLT.out; rw [HOR.out, hpx, hpy] at h; exact h
            clear hpx hpy hkc hlt hk
            go_wp2
            refine wp_flow 27 (fun _ => 1000) (fun ww => Below W2.heap.size W2 ww) (fun _ w w' => (fun (w w' : World) => RowKit.Below w.heap.size w w') w w') (fun kF vF wF => match kF with | 0 => (vF = .agg #[.int .u64 (x.or y).a, .int .u64 (x.or y).b, .int .u64 (x.or y).c, .int .u64 (x.or y).d]) | 1 => (vF = .int .i64 (k : Int)) | 2 => (vF = .int .u8 (k : Int)) | 3 => (vF = .bool false) | 4 => (vF = .agg #[.int .u64 x.a, .int .u64 x.b, .int .u64 x.c, .int .u64 x.d]) | 5 => (vF = .int .i64 (k : Int)) | 6 => (vF = .int .u8 (k : Int)) | 7 => (vF = .bool false) | 8 => (vF = .bool false) | 9 => (vF = .agg #[.int .u64 y.a, .int .u64 y.b, .int .u64 y.c, .int .u64 y.d]) | 10 => (vF = .int .i64 (k : Int)) | 11 => (vF = .int .u8 (k : Int)) | 12 => (vF = .bool false) | 13 => (vF = .bool false) | 14 => (vF = .bool false) | 15 => (vF = .bool false) | 16 => (vF = .int .u8 (c : Int)) | 17 => (vF = .agg #[.int .u64 (Cls.one c).a, .int .u64 (Cls.one c).b, .int .u64 (Cls.one c).c, .int .u64 (Cls.one c).d]) | 18 => (vF = .int .i64 (k : Int)) | 19 => (vF = .int .u8 (k : Int)) | 20 => (vF = .bool true) | 21 => (vF = .int .i64 (k : Int)) | 22 => (vF = .int .u8 (k : Int)) | 23 => (vF = .int .u8 (c : Int)) | 24 => (vF = .bool true) | 25 => (vF = .bool false) | 26 => (vF = .bool false) | _ => True) (fun _ _ _ _ => True) (by kernel_rfl) (by kernel_rfl) ?_ ?_ ?_ ?_ ?_
            · exact HB.out.drew
            · intro iF wF1 wF2 hR hT; exact hR.trans (Below.mono hT (Below.size hR))
            · intro kF hkF iF hiF hne hdd hanc hdan vF wF1 wF2 h hT
              rcases (by omega : kF = 0 ∨ kF = 1 ∨ kF = 2 ∨ kF = 3 ∨ kF = 4 ∨ kF = 5 ∨ kF = 6 ∨ kF = 7 ∨ kF = 8 ∨ kF = 9 ∨ kF = 10 ∨ kF = 11 ∨ kF = 12 ∨ kF = 13 ∨ kF = 14 ∨ kF = 15 ∨ kF = 16 ∨ kF = 17 ∨ kF = 18 ∨ kF = 19 ∨ kF = 20 ∨ kF = 21 ∨ kF = 22 ∨ kF = 23 ∨ kF = 24 ∨ kF = 25 ∨ kF = 26) with rfl | rfl | rfl | rfl | rfl | rfl | rfl | rfl | rfl | rfl | rfl | rfl | rfl | rfl | rfl | rfl | rfl | rfl | rfl | rfl | rfl | rfl | rfl | rfl | rfl | rfl | rfl
              · exact h
              · exact h
              · exact h
              · exact h
              · exact h
              · exact h
              · exact h
              · exact h
              · exact h
              · exact h
              · exact h
              · exact h
              · exact h
              · exact h
              · exact h
              · exact h
              · exact h
              · exact h
              · exact h
              · exact h
              · exact h
              · exact h
              · exact h
              · exact h
              · exact h
              · exact h
              · exact h
            · generalize hAF : fillOf _ _ _ = AF
              replace hAF := fun x => congrFun hAF x
              simp only [List.take_succ_cons, List.take_zero, fillOf, Act.put, List.setIfInBounds_toArray, List.set_cons_zero, List.set_cons_succ, Nat.reduceAdd, Nat.zero_add] at hAF
              refine FlowAll.cons ?_ ?_
              · intro xF wz hR hd K hK
                clear hd
                simp only [← hAF, Act.put, List.setIfInBounds_toArray, List.set_cons_zero, List.set_cons_succ] at hK ⊢
                clear hAF
                try simp only [Nat.zero_add] at hK ⊢
                try simp only [Nat.reduceAdd] at hK ⊢
                obtain hbR := id hR
                have hxa := (hbR.block _ (lt_of_block X2.out)).trans X2.out
                have c90 := boxc hxa 0 _ rfl
                have c91 := boxc hxa 1 _ rfl
                have c92 := boxc hxa 2 _ rfl
                have c93 := boxc hxa 3 _ rfl
                clear hxa
                rw [if_pos (by rfl)]
                go_simp
                exact hK.out _ _ (Below.refl _ _) (rfl) (fun _ _ _ => ⟨trivial, trivial⟩)
              refine FlowAll.cons ?_ ?_
              · intro xF wz hR hd K hK
                clear hd
                simp only [← hAF, Act.put, List.setIfInBounds_toArray, List.set_cons_zero, List.set_cons_succ] at hK ⊢
                clear hAF
                try simp only [Nat.zero_add] at hK ⊢
                try simp only [Nat.reduceAdd] at hK ⊢
                obtain hbR := id hR
                rw [if_pos (by rfl)]
                go_simp
                exact hK.out _ _ (Below.refl _ _) (rfl) (fun _ _ _ => ⟨trivial, trivial⟩)
              refine FlowAll.cons ?_ ?_
              · intro xF wz hR hd K hK
                have dd1 : ((xF 1) = .int .i64 (k : Int)) := hd 1 (by kernel_rfl)
                clear hd
                simp only [← hAF, Act.put, List.setIfInBounds_toArray, List.set_cons_zero, List.set_cons_succ] at hK ⊢
                clear hAF
                try simp only [Nat.zero_add] at hK ⊢
                try simp only [Nat.reduceAdd] at hK ⊢
                try generalize xF 1 = yy1 at *
                obtain rfl := dd1
                obtain hbR := id hR
                rw [if_pos (by rfl)]
                go_simp
                exact hK.out _ _ (Below.refl _ _) (rfl) (fun _ _ _ => ⟨trivial, trivial⟩)
              refine FlowAll.cons ?_ ?_
              · intro xF wz hR hd K hK
                have dd0 : ((xF 0) = .agg #[.int .u64 (x.or y).a, .int .u64 (x.or y).b, .int .u64 (x.or y).c, .int .u64 (x.or y).d]) := hd 0 (by kernel_rfl)
                have dd2 : ((xF 2) = .int .u8 (k : Int)) := hd 2 (by kernel_rfl)
                clear hd
                simp only [← hAF, Act.put, List.setIfInBounds_toArray, List.set_cons_zero, List.set_cons_succ] at hK ⊢
                clear hAF
                try simp only [Nat.zero_add] at hK ⊢
                try simp only [Nat.reduceAdd] at hK ⊢
                try generalize xF 0 = yy0 at *
                try generalize xF 2 = yy2 at *
                obtain rfl := dd0
                obtain rfl := dd2
                obtain hbR := id hR
                rw [if_pos (by rfl)]
                go_simp
                (go_at_call 12; (with_reducible refine (HU.out _).mono ?_); rintro e wK ⟨rfl, hbK⟩)
                try go_wp2_with fail
                exact hK.out _ _ (hbK) (rfl) (fun _ _ _ => ⟨trivial, trivial⟩)
              refine FlowAll.cons ?_ ?_
              · intro xF wz hR hd K hK
                clear hd
                simp only [← hAF, Act.put, List.setIfInBounds_toArray, List.set_cons_zero, List.set_cons_succ] at hK ⊢
                clear hAF
                try simp only [Nat.zero_add] at hK ⊢
                try simp only [Nat.reduceAdd] at hK ⊢
                obtain hbR := id hR
                have hxa := (hbR.block _ (lt_of_block X0.out)).trans X0.out
                have c90 := boxc hxa 0 _ rfl
                have c91 := boxc hxa 1 _ rfl
                have c92 := boxc hxa 2 _ rfl
                have c93 := boxc hxa 3 _ rfl
                clear hxa
                rw [if_pos (by rfl)]
                go_simp
                exact hK.out _ _ (Below.refl _ _) (rfl) (fun _ _ _ => ⟨trivial, trivial⟩)
              refine FlowAll.cons ?_ ?_
              · intro xF wz hR hd K hK
                clear hd
                simp only [← hAF, Act.put, List.setIfInBounds_toArray, List.set_cons_zero, List.set_cons_succ] at hK ⊢
                clear hAF
                try simp only [Nat.zero_add] at hK ⊢
                try simp only [Nat.reduceAdd] at hK ⊢
                obtain hbR := id hR
                rw [if_pos (by rfl)]
                go_simp
                exact hK.out _ _ (Below.refl _ _) (rfl) (fun _ _ _ => ⟨trivial, trivial⟩)
              refine FlowAll.cons ?_ ?_
              · intro xF wz hR hd K hK
                have dd5 : ((xF 5) = .int .i64 (k : Int)) := hd 5 (by kernel_rfl)
                clear hd
                simp only [← hAF, Act.put, List.setIfInBounds_toArray, List.set_cons_zero, List.set_cons_succ] at hK ⊢
                clear hAF
                try simp only [Nat.zero_add] at hK ⊢
                try simp only [Nat.reduceAdd] at hK ⊢
                try generalize xF 5 = yy5 at *
                obtain rfl := dd5
                obtain hbR := id hR
                rw [if_pos (by rfl)]
                go_simp
                exact hK.out _ _ (Below.refl _ _) (rfl) (fun _ _ _ => ⟨trivial, trivial⟩)
              refine FlowAll.cons ?_ ?_
              · intro xF wz hR hd K hK
                have dd4 : ((xF 4) = .agg #[.int .u64 x.a, .int .u64 x.b, .int .u64 x.c, .int .u64 x.d]) := hd 4 (by kernel_rfl)
                have dd6 : ((xF 6) = .int .u8 (k : Int)) := hd 6 (by kernel_rfl)
                clear hd
                simp only [← hAF, Act.put, List.setIfInBounds_toArray, List.set_cons_zero, List.set_cons_succ] at hK ⊢
                clear hAF
                try simp only [Nat.zero_add] at hK ⊢
                try simp only [Nat.reduceAdd] at hK ⊢
                try generalize xF 4 = yy4 at *
                try generalize xF 6 = yy6 at *
                obtain rfl := dd4
                obtain rfl := dd6
                obtain hbR := id hR
                rw [if_pos (by rfl)]
                go_simp
                (go_at_call 12; (with_reducible refine (HI1.out _).mono ?_); rintro e wK ⟨rfl, hbK⟩)
                try go_wp2_with fail
                exact hK.out _ _ (hbK) (rfl) (fun _ _ _ => ⟨trivial, trivial⟩)
              refine FlowAll.cons ?_ ?_
              · intro xF wz hR hd K hK
                have dd7 : ((xF 7) = .bool false) := hd 7 (by kernel_rfl)
                clear hd
                simp only [← hAF, Act.put, List.setIfInBounds_toArray, List.set_cons_zero, List.set_cons_succ] at hK ⊢
                clear hAF
                try simp only [Nat.zero_add] at hK ⊢
                try simp only [Nat.reduceAdd] at hK ⊢
                try generalize xF 7 = yy7 at *
                obtain rfl := dd7
                obtain hbR := id hR
                rw [if_pos (by rfl)]
                go_simp
                exact hK.out _ _ (Below.refl _ _) (rfl) (fun _ _ _ => ⟨trivial, trivial⟩)
              refine FlowAll.cons ?_ ?_
              · intro xF wz hR hd K hK
                have dd8 : ((xF 8) = .bool false) := hd 8 (by kernel_rfl)
                clear hd
                simp only [← hAF, Act.put, List.setIfInBounds_toArray, List.set_cons_zero, List.set_cons_succ] at hK ⊢
                clear hAF
                try simp only [Nat.zero_add] at hK ⊢
                try simp only [Nat.reduceAdd] at hK ⊢
                try generalize xF 8 = yy8 at *
                obtain rfl := dd8
                obtain hbR := id hR
                have hxa := (hbR.block _ (lt_of_block X1.out)).trans X1.out
                have c90 := boxc hxa 0 _ rfl
                have c91 := boxc hxa 1 _ rfl
                have c92 := boxc hxa 2 _ rfl
                have c93 := boxc hxa 3 _ rfl
                clear hxa
                rw [if_pos (by rfl)]
                go_simp
                exact hK.out _ _ (Below.refl _ _) (rfl) (fun _ _ _ => ⟨trivial, trivial⟩)
              refine FlowAll.cons ?_ ?_
              · intro xF wz hR hd K hK
                have dd8 : ((xF 8) = .bool false) := hd 8 (by kernel_rfl)
                clear hd
                simp only [← hAF, Act.put, List.setIfInBounds_toArray, List.set_cons_zero, List.set_cons_succ] at hK ⊢
                clear hAF
                try simp only [Nat.zero_add] at hK ⊢
                try simp only [Nat.reduceAdd] at hK ⊢
                try generalize xF 8 = yy8 at *
                obtain rfl := dd8
                obtain hbR := id hR
                rw [if_pos (by rfl)]
                go_simp
                exact hK.out _ _ (Below.refl _ _) (rfl) (fun _ _ _ => ⟨trivial, trivial⟩)
              refine FlowAll.cons ?_ ?_
              · intro xF wz hR hd K hK
                have dd8 : ((xF 8) = .bool false) := hd 8 (by kernel_rfl)
                have dd10 : ((xF 10) = .int .i64 (k : Int)) := hd 10 (by kernel_rfl)
                clear hd
                simp only [← hAF, Act.put, List.setIfInBounds_toArray, List.set_cons_zero, List.set_cons_succ] at hK ⊢
                clear hAF
                try simp only [Nat.zero_add] at hK ⊢
                try simp only [Nat.reduceAdd] at hK ⊢
                try generalize xF 8 = yy8 at *
                try generalize xF 10 = yy10 at *
                obtain rfl := dd8
                obtain rfl := dd10
                obtain hbR := id hR
                rw [if_pos (by rfl)]
                go_simp
                exact hK.out _ _ (Below.refl _ _) (rfl) (fun _ _ _ => ⟨trivial, trivial⟩)
              refine FlowAll.cons ?_ ?_
              · intro xF wz hR hd K hK
                have dd8 : ((xF 8) = .bool false) := hd 8 (by kernel_rfl)
                have dd9 : ((xF 9) = .agg #[.int .u64 y.a, .int .u64 y.b, .int .u64 y.c, .int .u64 y.d]) := hd 9 (by kernel_rfl)
                have dd11 : ((xF 11) = .int .u8 (k : Int)) := hd 11 (by kernel_rfl)
                clear hd
                simp only [← hAF, Act.put, List.setIfInBounds_toArray, List.set_cons_zero, List.set_cons_succ] at hK ⊢
                clear hAF
                try simp only [Nat.zero_add] at hK ⊢
                try simp only [Nat.reduceAdd] at hK ⊢
                try generalize xF 8 = yy8 at *
                try generalize xF 9 = yy9 at *
                try generalize xF 11 = yy11 at *
                obtain rfl := dd8
                obtain rfl := dd9
                obtain rfl := dd11
                obtain hbR := id hR
                rw [if_pos (by rfl)]
                go_simp
                (go_at_call 12; (with_reducible refine (HI2.out _).mono ?_); rintro e wK ⟨rfl, hbK⟩)
                try go_wp2_with fail
                exact hK.out _ _ (hbK) (rfl) (fun _ _ _ => ⟨trivial, trivial⟩)
              refine FlowAll.cons ?_ ?_
              · intro xF wz hR hd K hK
                have dd8 : ((xF 8) = .bool false) := hd 8 (by kernel_rfl)
                have dd12 : ((xF 12) = .bool false) := hd 12 (by kernel_rfl)
                clear hd
                simp only [← hAF, Act.put, List.setIfInBounds_toArray, List.set_cons_zero, List.set_cons_succ] at hK ⊢
                clear hAF
                try simp only [Nat.zero_add] at hK ⊢
                try simp only [Nat.reduceAdd] at hK ⊢
                try generalize xF 8 = yy8 at *
                try generalize xF 12 = yy12 at *
                obtain rfl := dd8
                obtain rfl := dd12
                obtain hbR := id hR
                rw [if_pos (by rfl)]
                go_simp
                exact hK.out _ _ (Below.refl _ _) (rfl) (fun _ _ _ => ⟨trivial, trivial⟩)
              refine FlowAll.cons ?_ ?_
              · intro xF wz hR hd K hK
                have dd3 : ((xF 3) = .bool false) := hd 3 (by kernel_rfl)
                have dd13 : ((xF 13) = .bool false) := hd 13 (by kernel_rfl)
                clear hd
                simp only [← hAF, Act.put, List.setIfInBounds_toArray, List.set_cons_zero, List.set_cons_succ] at hK ⊢
                clear hAF
                try simp only [Nat.zero_add] at hK ⊢
                try simp only [Nat.reduceAdd] at hK ⊢
                try generalize xF 3 = yy3 at *
                try generalize xF 13 = yy13 at *
                obtain rfl := dd3
                obtain rfl := dd13
                obtain hbR := id hR
                rw [if_pos (by rfl)]
                go_simp
                exact hK.out _ _ (Below.refl _ _) (rfl) (fun _ _ _ => ⟨trivial, trivial⟩)
              refine FlowAll.cons ?_ ?_
              · intro xF wz hR hd K hK
                have dd14 : ((xF 14) = .bool false) := hd 14 (by kernel_rfl)
                clear hd
                simp only [← hAF, Act.put, List.setIfInBounds_toArray, List.set_cons_zero, List.set_cons_succ] at hK ⊢
                clear hAF
                try simp only [Nat.zero_add] at hK ⊢
                try simp only [Nat.reduceAdd] at hK ⊢
                try generalize xF 14 = yy14 at *
                obtain rfl := dd14
                obtain hbR := id hR
                rw [if_pos (by rfl)]
                go_simp
                exact hK.out _ _ (Below.refl _ _) (rfl) (fun _ _ _ => ⟨trivial, trivial⟩)
              refine FlowAll.cons ?_ ?_
              · intro xF wz hR hd K hK
                have dd15 : ((xF 15) = .bool false) := hd 15 (by kernel_rfl)
                clear hd
                simp only [← hAF, Act.put, List.setIfInBounds_toArray, List.set_cons_zero, List.set_cons_succ] at hK ⊢
                clear hAF
                try simp only [Nat.zero_add] at hK ⊢
                try simp only [Nat.reduceAdd] at hK ⊢
                try generalize xF 15 = yy15 at *
                obtain rfl := dd15
                obtain hbR := id hR
                rw [if_pos (by rfl)]
                go_simp
                exact hK.out _ _ (Below.refl _ _) (rfl) (fun _ _ _ => ⟨trivial, trivial⟩)
              refine FlowAll.cons ?_ ?_
              · intro xF wz hR hd K hK
                have dd15 : ((xF 15) = .bool false) := hd 15 (by kernel_rfl)
                have dd16 : ((xF 16) = .int .u8 (c : Int)) := hd 16 (by kernel_rfl)
                clear hd
                simp only [← hAF, Act.put, List.setIfInBounds_toArray, List.set_cons_zero, List.set_cons_succ] at hK ⊢
                clear hAF
                try simp only [Nat.zero_add] at hK ⊢
                try simp only [Nat.reduceAdd] at hK ⊢
                try generalize xF 15 = yy15 at *
                try generalize xF 16 = yy16 at *
                obtain rfl := dd15
                obtain rfl := dd16
                obtain hbR := id hR
                rw [if_pos (by rfl)]
                go_simp
                (go_at_call 13; (with_reducible refine (HS.out _).mono ?_); rintro e wK ⟨rfl, hbK⟩)
                try go_wp2_with fail
                exact hK.out _ _ (hbK) (rfl) (fun _ _ _ => ⟨trivial, trivial⟩)
              refine FlowAll.cons ?_ ?_
              · intro xF wz hR hd K hK
                have dd15 : ((xF 15) = .bool false) := hd 15 (by kernel_rfl)
                clear hd
                simp only [← hAF, Act.put, List.setIfInBounds_toArray, List.set_cons_zero, List.set_cons_succ] at hK ⊢
                clear hAF
                try simp only [Nat.zero_add] at hK ⊢
                try simp only [Nat.reduceAdd] at hK ⊢
                try generalize xF 15 = yy15 at *
                obtain rfl := dd15
                obtain hbR := id hR
                rw [if_pos (by rfl)]
                go_simp
                exact hK.out _ _ (Below.refl _ _) (rfl) (fun _ _ _ => ⟨trivial, trivial⟩)
              refine FlowAll.cons ?_ ?_
              · intro xF wz hR hd K hK
                have dd15 : ((xF 15) = .bool false) := hd 15 (by kernel_rfl)
                have dd18 : ((xF 18) = .int .i64 (k : Int)) := hd 18 (by kernel_rfl)
                clear hd
                simp only [← hAF, Act.put, List.setIfInBounds_toArray, List.set_cons_zero, List.set_cons_succ] at hK ⊢
                clear hAF
                try simp only [Nat.zero_add] at hK ⊢
                try simp only [Nat.reduceAdd] at hK ⊢
                try generalize xF 15 = yy15 at *
                try generalize xF 18 = yy18 at *
                obtain rfl := dd15
                obtain rfl := dd18
                obtain hbR := id hR
                rw [if_pos (by rfl)]
                go_simp
                exact hK.out _ _ (Below.refl _ _) (rfl) (fun _ _ _ => ⟨trivial, trivial⟩)
              refine FlowAll.cons ?_ ?_
              · intro xF wz hR hd K hK
                have dd15 : ((xF 15) = .bool false) := hd 15 (by kernel_rfl)
                have dd17 : ((xF 17) = .agg #[.int .u64 (Cls.one c).a, .int .u64 (Cls.one c).b, .int .u64 (Cls.one c).c, .int .u64 (Cls.one c).d]) := hd 17 (by kernel_rfl)
                have dd19 : ((xF 19) = .int .u8 (k : Int)) := hd 19 (by kernel_rfl)
                clear hd
                simp only [← hAF, Act.put, List.setIfInBounds_toArray, List.set_cons_zero, List.set_cons_succ] at hK ⊢
                clear hAF
                try simp only [Nat.zero_add] at hK ⊢
                try simp only [Nat.reduceAdd] at hK ⊢
                try generalize xF 15 = yy15 at *
                try generalize xF 17 = yy17 at *
                try generalize xF 19 = yy19 at *
                obtain rfl := dd15
                obtain rfl := dd17
                obtain rfl := dd19
                obtain hbR := id hR
                rw [if_pos (by rfl)]
                go_simp
                (go_at_call 12; (with_reducible refine (HI3.out _).mono ?_); rintro e wK ⟨rfl, hbK⟩)
                try go_wp2_with fail
                exact hK.out _ _ (hbK) (rfl) (fun _ _ _ => ⟨trivial, trivial⟩)
              refine FlowAll.cons ?_ ?_
              · intro xF wz hR hd K hK
                have dd15 : ((xF 15) = .bool false) := hd 15 (by kernel_rfl)
                clear hd
                simp only [← hAF, Act.put, List.setIfInBounds_toArray, List.set_cons_zero, List.set_cons_succ] at hK ⊢
                clear hAF
                try simp only [Nat.zero_add] at hK ⊢
                try simp only [Nat.reduceAdd] at hK ⊢
                try generalize xF 15 = yy15 at *
                obtain rfl := dd15
                obtain hbR := id hR
                rw [if_pos (by rfl)]
                go_simp
                exact hK.out _ _ (Below.refl _ _) (rfl) (fun _ _ _ => ⟨trivial, trivial⟩)
              refine FlowAll.cons ?_ ?_
              · intro xF wz hR hd K hK
                have dd15 : ((xF 15) = .bool false) := hd 15 (by kernel_rfl)
                have dd21 : ((xF 21) = .int .i64 (k : Int)) := hd 21 (by kernel_rfl)
                clear hd
                simp only [← hAF, Act.put, List.setIfInBounds_toArray, List.set_cons_zero, List.set_cons_succ] at hK ⊢
                clear hAF
                try simp only [Nat.zero_add] at hK ⊢
                try simp only [Nat.reduceAdd] at hK ⊢
                try generalize xF 15 = yy15 at *
                try generalize xF 21 = yy21 at *
                obtain rfl := dd15
                obtain rfl := dd21
                obtain hbR := id hR
                rw [if_pos (by rfl)]
                go_simp
                exact hK.out _ _ (Below.refl _ _) (rfl) (fun _ _ _ => ⟨trivial, trivial⟩)
              refine FlowAll.cons ?_ ?_
              · intro xF wz hR hd K hK
                have dd15 : ((xF 15) = .bool false) := hd 15 (by kernel_rfl)
                clear hd
                simp only [← hAF, Act.put, List.setIfInBounds_toArray, List.set_cons_zero, List.set_cons_succ] at hK ⊢
                clear hAF
                try simp only [Nat.zero_add] at hK ⊢
                try simp only [Nat.reduceAdd] at hK ⊢
                try generalize xF 15 = yy15 at *
                obtain rfl := dd15
                obtain hbR := id hR
                rw [if_pos (by rfl)]
                go_simp
                exact hK.out _ _ (Below.refl _ _) (rfl) (fun _ _ _ => ⟨trivial, trivial⟩)
              refine FlowAll.cons ?_ ?_
              · intro xF wz hR hd K hK
                have dd15 : ((xF 15) = .bool false) := hd 15 (by kernel_rfl)
                have dd22 : ((xF 22) = .int .u8 (k : Int)) := hd 22 (by kernel_rfl)
                have dd23 : ((xF 23) = .int .u8 (c : Int)) := hd 23 (by kernel_rfl)
                clear hd
                simp only [← hAF, Act.put, List.setIfInBounds_toArray, List.set_cons_zero, List.set_cons_succ] at hK ⊢
                clear hAF
                try simp only [Nat.zero_add] at hK ⊢
                try simp only [Nat.reduceAdd] at hK ⊢
                try generalize xF 15 = yy15 at *
                try generalize xF 22 = yy22 at *
                try generalize xF 23 = yy23 at *
                obtain rfl := dd15
                obtain rfl := dd22
                obtain rfl := dd23
                obtain hbR := id hR
                have hee := HEE.out
                have hef := HEF.out
                rw [if_pos (by rfl)]
                go_simp
                exact hK.out _ _ (Below.refl _ _) (rfl) (fun _ _ _ => ⟨trivial, trivial⟩)
              refine FlowAll.cons ?_ ?_
              · intro xF wz hR hd K hK
                have dd15 : ((xF 15) = .bool false) := hd 15 (by kernel_rfl)
                have dd20 : ((xF 20) = .bool true) := hd 20 (by kernel_rfl)
                have dd24 : ((xF 24) = .bool true) := hd 24 (by kernel_rfl)
                clear hd
                simp only [← hAF, Act.put, List.setIfInBounds_toArray, List.set_cons_zero, List.set_cons_succ] at hK ⊢
                clear hAF
                try simp only [Nat.zero_add] at hK ⊢
                try simp only [Nat.reduceAdd] at hK ⊢
                try generalize xF 15 = yy15 at *
                try generalize xF 20 = yy20 at *
                try generalize xF 24 = yy24 at *
                obtain rfl := dd15
                obtain rfl := dd20
                obtain rfl := dd24
                obtain hbR := id hR
                rw [if_pos (by rfl)]
                go_simp
                exact hK.out _ _ (Below.refl _ _) (rfl) (fun _ _ _ => ⟨trivial, trivial⟩)
              refine FlowAll.cons ?_ ?_
              · intro xF wz hR hd K hK
                have dd15 : ((xF 15) = .bool false) := hd 15 (by kernel_rfl)
                have dd25 : ((xF 25) = .bool false) := hd 25 (by kernel_rfl)
                clear hd
                simp only [← hAF, Act.put, List.setIfInBounds_toArray, List.set_cons_zero, List.set_cons_succ] at hK ⊢
                clear hAF
                try simp only [Nat.zero_add] at hK ⊢
                try simp only [Nat.reduceAdd] at hK ⊢
                try generalize xF 15 = yy15 at *
                try generalize xF 25 = yy25 at *
                obtain rfl := dd15
                obtain rfl := dd25
                obtain hbR := id hR
                rw [if_pos (by rfl)]
                go_simp
                exact hK.out _ _ (Below.refl _ _) (rfl) (fun _ _ _ => ⟨trivial, trivial⟩)
              exact FlowAll.nil
            intro xF wz hR hF hP
            clear hP
            have dd0 : ((xF 0) = .agg #[.int .u64 (x.or y).a, .int .u64 (x.or y).b, .int .u64 (x.or y).c, .int .u64 (x.or y).d]) := hF 0 (by omega) (by decide)
            have dd1 : ((xF 1) = .int .i64 (k : Int)) := hF 1 (by omega) (by decide)
            have dd2 : ((xF 2) = .int .u8 (k : Int)) := hF 2 (by omega) (by decide)
            have dd3 : ((xF 3) = .bool false) := hF 3 (by omega) (by decide)
            have dd4 : ((xF 4) = .agg #[.int .u64 x.a, .int .u64 x.b, .int .u64 x.c, .int .u64 x.d]) := hF 4 (by omega) (by decide)
            have dd5 : ((xF 5) = .int .i64 (k : Int)) := hF 5 (by omega) (by decide)
            have dd6 : ((xF 6) = .int .u8 (k : Int)) := hF 6 (by omega) (by decide)
            have dd7 : ((xF 7) = .bool false) := hF 7 (by omega) (by decide)
            have dd8 : ((xF 8) = .bool false) := hF 8 (by omega) (by decide)
            have dd9 : ((xF 9) = .agg #[.int .u64 y.a, .int .u64 y.b, .int .u64 y.c, .int .u64 y.d]) := hF 9 (by omega) (by decide)
            have dd10 : ((xF 10) = .int .i64 (k : Int)) := hF 10 (by omega) (by decide)
            have dd11 : ((xF 11) = .int .u8 (k : Int)) := hF 11 (by omega) (by decide)
            have dd12 : ((xF 12) = .bool false) := hF 12 (by omega) (by decide)
            have dd13 : ((xF 13) = .bool false) := hF 13 (by omega) (by decide)
            have dd14 : ((xF 14) = .bool false) := hF 14 (by omega) (by decide)
            have dd15 : ((xF 15) = .bool false) := hF 15 (by omega) (by decide)
            have dd16 : ((xF 16) = .int .u8 (c : Int)) := hF 16 (by omega) (by decide)
            have dd17 : ((xF 17) = .agg #[.int .u64 (Cls.one c).a, .int .u64 (Cls.one c).b, .int .u64 (Cls.one c).c, .int .u64 (Cls.one c).d]) := hF 17 (by omega) (by decide)
            have dd18 : ((xF 18) = .int .i64 (k : Int)) := hF 18 (by omega) (by decide)
            have dd19 : ((xF 19) = .int .u8 (k : Int)) := hF 19 (by omega) (by decide)
            have dd20 : ((xF 20) = .bool true) := hF 20 (by omega) (by decide)
            have dd21 : ((xF 21) = .int .i64 (k : Int)) := hF 21 (by omega) (by decide)
            have dd22 : ((xF 22) = .int .u8 (k : Int)) := hF 22 (by omega) (by decide)
            have dd23 : ((xF 23) = .int .u8 (c : Int)) := hF 23 (by omega) (by decide)
            have dd24 : ((xF 24) = .bool true) := hF 24 (by omega) (by decide)
            have dd25 : ((xF 25) = .bool false) := hF 25 (by omega) (by decide)
            have dd26 : ((xF 26) = .bool false) := hF 26 (by omega) (by decide)
            clear hF
            simp only [List.take_succ_cons, List.take_zero, List.drop_succ_cons, List.drop_zero, fillOf, Act.put, List.setIfInBounds_toArray, List.set_cons_zero, List.set_cons_succ, Nat.reduceAdd, Nat.zero_add]
            try generalize xF 0 = yy0 at *
            try generalize xF 1 = yy1 at *
            try generalize xF 2 = yy2 at *
            try generalize xF 3 = yy3 at *
            try generalize xF 4 = yy4 at *
            try generalize xF 5 = yy5 at *
            try generalize xF 6 = yy6 at *
            try generalize xF 7 = yy7 at *
            try generalize xF 8 = yy8 at *
            try generalize xF 9 = yy9 at *
            try generalize xF 10 = yy10 at *
            try generalize xF 11 = yy11 at *
            try generalize xF 12 = yy12 at *
            try generalize xF 13 = yy13 at *
            try generalize xF 14 = yy14 at *
            try generalize xF 15 = yy15 at *
            try generalize xF 16 = yy16 at *
            try generalize xF 17 = yy17 at *
            try generalize xF 18 = yy18 at *
            try generalize xF 19 = yy19 at *
            try generalize xF 20 = yy20 at *
            try generalize xF 21 = yy21 at *
            try generalize xF 22 = yy22 at *
            try generalize xF 23 = yy23 at *
            try generalize xF 24 = yy24 at *
            try generalize xF 25 = yy25 at *
            try generalize xF 26 = yy26 at *
            clear xF
            obtain rfl := dd0
            obtain rfl := dd1
            obtain rfl := dd2
            obtain rfl := dd3
            obtain rfl := dd4
            obtain rfl := dd5
            obtain rfl := dd6
            obtain rfl := dd7
            obtain rfl := dd8
            obtain rfl := dd9
            obtain rfl := dd10
            obtain rfl := dd11
            obtain rfl := dd12
            obtain rfl := dd13
            obtain rfl := dd14
            obtain rfl := dd15
            obtain rfl := dd16
            obtain rfl := dd17
            obtain rfl := dd18
            obtain rfl := dd19
            obtain rfl := dd20
            obtain rfl := dd21
            obtain rfl := dd22
            obtain rfl := dd23
            obtain rfl := dd24
            obtain rfl := dd25
            obtain rfl := dd26
            have hRE := Lib.hid hR
            clear hR
            go_wp2
            go_roundw
            case rel => exact ⟨k + 1, by go_num, by have := HLT.out; omega, hRE.out⟩
            case measure => simp [intOf]; have := HLT.out; omega
      · have HEE : Hid (((k : Int) == (c : Int)) = false) := beq_eq_false_iff_ne.2 (by omega)
        have HEF : Hid (decide (k = c) = false) := decide_eq_false hkc
        have HI3 : Hid (∀ W, Calls Try.prog 12 #[.agg #[.int .u64 (Cls.one c).a, .int .u64 (Cls.one c).b, .int .u64 (Cls.one c).c, .int .u64 (Cls.one c).d], .int .u8 (k : Int)] W (fun e w' => e = .returned (.bool false) ∧ Below W.heap.size W w')) := fun W => by have h := HIA.out (Cls.one c) k W HO1.out HLT.out; rw [HON.out, HEF.out] at h; exact h
        cases hpx : x.has k with
        | true =>
          have HI1 : Hid (∀ W, Calls Try.prog 12 #[.agg #[.int .u64 x.a, .int .u64 x.b, .int .u64 x.c, .int .u64 x.d], .int .u8 (k : Int)] W (fun e w' => e = .returned (.bool true) ∧ Below W.heap.size W w')) := fun W => by have h := HIA.out x k W OX.out HLT.out; rw [hpx] at h; exact h
          have HU : Hid (∀ W, Calls Try.prog 12 #[.agg #[.int .u64 (x.or y).a, .int .u64 (x.or y).b, .int .u64 (x.or y).c, .int .u64 (x.or y).d], .int .u8 (k : Int)] W (fun e w' => e = .returned (.bool true) ∧ Below W.heap.size W w')) := fun W => by have h := HIA.out (x.or y) k W HOO.out HLT.out; rw [HOR.out, hpx] at h; exact h
          clear hpx hkc hlt hk
          go_wp2
          refine wp_flow 27 (fun _ => 1000) (fun ww => Below W2.heap.size W2 ww) (fun _ w w' => (fun (w w' : World) => RowKit.Below w.heap.size w w') w w') (fun kF vF wF => match kF with | 0 => (vF = .agg #[.int .u64 (x.or y).a, .int .u64 (x.or y).b, .int .u64 (x.or y).c, .int .u64 (x.or y).d]) | 1 => (vF = .int .i64 (k : Int)) | 2 => (vF = .int .u8 (k : Int)) | 3 => (vF = .bool true) | 4 => (vF = .agg #[.int .u64 x.a, .int .u64 x.b, .int .u64 x.c, .int .u64 x.d]) | 5 => (vF = .int .i64 (k : Int)) | 6 => (vF = .int .u8 (k : Int)) | 7 => (vF = .bool true) | 8 => (vF = .bool true) | 9 => (vF = undef) | 10 => (vF = undef) | 11 => (vF = undef) | 12 => (vF = undef) | 13 => (vF = .bool true) | 14 => (vF = .bool false) | 15 => (vF = .bool false) | 16 => (vF = .int .u8 (c : Int)) | 17 => (vF = .agg #[.int .u64 (Cls.one c).a, .int .u64 (Cls.one c).b, .int .u64 (Cls.one c).c, .int .u64 (Cls.one c).d]) | 18 => (vF = .int .i64 (k : Int)) | 19 => (vF = .int .u8 (k : Int)) | 20 => (vF = .bool false) | 21 => (vF = .int .i64 (k : Int)) | 22 => (vF = .int .u8 (k : Int)) | 23 => (vF = .int .u8 (c : Int)) | 24 => (vF = .bool false) | 25 => (vF = .bool false) | 26 => (vF = .bool false) | _ => True) (fun _ _ _ _ => True) (by kernel_rfl) (by kernel_rfl) ?_ ?_ ?_ ?_ ?_
          · exact HB.out.drew
          · intro iF wF1 wF2 hR hT; exact hR.trans (Below.mono hT (Below.size hR))
          · intro kF hkF iF hiF hne hdd hanc hdan vF wF1 wF2 h hT
            rcases (by omega : kF = 0 ∨ kF = 1 ∨ kF = 2 ∨ kF = 3 ∨ kF = 4 ∨ kF = 5 ∨ kF = 6 ∨ kF = 7 ∨ kF = 8 ∨ kF = 9 ∨ kF = 10 ∨ kF = 11 ∨ kF = 12 ∨ kF = 13 ∨ kF = 14 ∨ kF = 15 ∨ kF = 16 ∨ kF = 17 ∨ kF = 18 ∨ kF = 19 ∨ kF = 20 ∨ kF = 21 ∨ kF = 22 ∨ kF = 23 ∨ kF = 24 ∨ kF = 25 ∨ kF = 26) with rfl | rfl | rfl | rfl | rfl | rfl | rfl | rfl | rfl | rfl | rfl | rfl | rfl | rfl | rfl | rfl | rfl | rfl | rfl | rfl | rfl | rfl | rfl | rfl | rfl | rfl | rfl
            · exact h
            · exact h
            · exact h
            · exact h
            · exact h
            · exact h
            · exact h
            · exact h
            · exact h
            · exact h
            · exact h
            · exact h
            · exact h
            · exact h
            · exact h
            · exact h
            · exact h
            · exact h
            · exact h
            · exact h
            · exact h
            · exact h
            · exact h
            · exact h
            · exact h
            · exact h
            · exact h
          · generalize hAF : fillOf _ _ _ = AF
            replace hAF := fun x => congrFun hAF x
            simp only [List.take_succ_cons, List.take_zero, fillOf, Act.put, List.setIfInBounds_toArray, List.set_cons_zero, List.set_cons_succ, Nat.reduceAdd, Nat.zero_add] at hAF
            refine FlowAll.cons ?_ ?_
            · intro xF wz hR hd K hK
              clear hd
              simp only [← hAF, Act.put, List.setIfInBounds_toArray, List.set_cons_zero, List.set_cons_succ] at hK ⊢
              clear hAF
              try simp only [Nat.zero_add] at hK ⊢
              try simp only [Nat.reduceAdd] at hK ⊢
              obtain hbR := id hR
              have hxa := (hbR.block _ (lt_of_block X2.out)).trans X2.out
              have c90 := boxc hxa 0 _ rfl
              have c91 := boxc hxa 1 _ rfl
              have c92 := boxc hxa 2 _ rfl
              have c93 := boxc hxa 3 _ rfl
              clear hxa
              rw [if_pos (by rfl)]
              go_simp
              exact hK.out _ _ (Below.refl _ _) (rfl) (fun _ _ _ => ⟨trivial, trivial⟩)
            refine FlowAll.cons ?_ ?_
            · intro xF wz hR hd K hK
              clear hd
              simp only [← hAF, Act.put, List.setIfInBounds_toArray, List.set_cons_zero, List.set_cons_succ] at hK ⊢
              clear hAF
              try simp only [Nat.zero_add] at hK ⊢
              try simp only [Nat.reduceAdd] at hK ⊢
              obtain hbR := id hR
              rw [if_pos (by rfl)]
              go_simp
              exact hK.out _ _ (Below.refl _ _) (rfl) (fun _ _ _ => ⟨trivial, trivial⟩)
            refine FlowAll.cons ?_ ?_
            · intro xF wz hR hd K hK
              have dd1 : ((xF 1) = .int .i64 (k : Int)) := hd 1 (by kernel_rfl)
              clear hd
              simp only [← hAF, Act.put, List.setIfInBounds_toArray, List.set_cons_zero, List.set_cons_succ] at hK ⊢
              clear hAF
              try simp only [Nat.zero_add] at hK ⊢
              try simp only [Nat.reduceAdd] at hK ⊢
              try generalize xF 1 = yy1 at *
              obtain rfl := dd1
              obtain hbR := id hR
              rw [if_pos (by rfl)]
              go_simp
              exact hK.out _ _ (Below.refl _ _) (rfl) (fun _ _ _ => ⟨trivial, trivial⟩)
            refine FlowAll.cons ?_ ?_
            · intro xF wz hR hd K hK
              have dd0 : ((xF 0) = .agg #[.int .u64 (x.or y).a, .int .u64 (x.or y).b, .int .u64 (x.or y).c, .int .u64 (x.or y).d]) := hd 0 (by kernel_rfl)
              have dd2 : ((xF 2) = .int .u8 (k : Int)) := hd 2 (by kernel_rfl)
              clear hd
              simp only [← hAF, Act.put, List.setIfInBounds_toArray, List.set_cons_zero, List.set_cons_succ] at hK ⊢
              clear hAF
              try simp only [Nat.zero_add] at hK ⊢
              try simp only [Nat.reduceAdd] at hK ⊢
              try generalize xF 0 = yy0 at *
              try generalize xF 2 = yy2 at *
              obtain rfl := dd0
              obtain rfl := dd2
              obtain hbR := id hR
              rw [if_pos (by rfl)]
              go_simp
              (go_at_call 12; (with_reducible refine (HU.out _).mono ?_); rintro e wK ⟨rfl, hbK⟩)
              try go_wp2_with fail
              exact hK.out _ _ (hbK) (rfl) (fun _ _ _ => ⟨trivial, trivial⟩)
            refine FlowAll.cons ?_ ?_
            · intro xF wz hR hd K hK
              clear hd
              simp only [← hAF, Act.put, List.setIfInBounds_toArray, List.set_cons_zero, List.set_cons_succ] at hK ⊢
              clear hAF
              try simp only [Nat.zero_add] at hK ⊢
              try simp only [Nat.reduceAdd] at hK ⊢
              obtain hbR := id hR
              have hxa := (hbR.block _ (lt_of_block X0.out)).trans X0.out
              have c90 := boxc hxa 0 _ rfl
              have c91 := boxc hxa 1 _ rfl
              have c92 := boxc hxa 2 _ rfl
              have c93 := boxc hxa 3 _ rfl
              clear hxa
              rw [if_pos (by rfl)]
              go_simp
              exact hK.out _ _ (Below.refl _ _) (rfl) (fun _ _ _ => ⟨trivial, trivial⟩)
            refine FlowAll.cons ?_ ?_
            · intro xF wz hR hd K hK
              clear hd
              simp only [← hAF, Act.put, List.setIfInBounds_toArray, List.set_cons_zero, List.set_cons_succ] at hK ⊢
              clear hAF
              try simp only [Nat.zero_add] at hK ⊢
              try simp only [Nat.reduceAdd] at hK ⊢
              obtain hbR := id hR
              rw [if_pos (by rfl)]
              go_simp
              exact hK.out _ _ (Below.refl _ _) (rfl) (fun _ _ _ => ⟨trivial, trivial⟩)
            refine FlowAll.cons ?_ ?_
            · intro xF wz hR hd K hK
              have dd5 : ((xF 5) = .int .i64 (k : Int)) := hd 5 (by kernel_rfl)
              clear hd
              simp only [← hAF, Act.put, List.setIfInBounds_toArray, List.set_cons_zero, List.set_cons_succ] at hK ⊢
              clear hAF
              try simp only [Nat.zero_add] at hK ⊢
              try simp only [Nat.reduceAdd] at hK ⊢
              try generalize xF 5 = yy5 at *
              obtain rfl := dd5
              obtain hbR := id hR
              rw [if_pos (by rfl)]
              go_simp
              exact hK.out _ _ (Below.refl _ _) (rfl) (fun _ _ _ => ⟨trivial, trivial⟩)
            refine FlowAll.cons ?_ ?_
            · intro xF wz hR hd K hK
              have dd4 : ((xF 4) = .agg #[.int .u64 x.a, .int .u64 x.b, .int .u64 x.c, .int .u64 x.d]) := hd 4 (by kernel_rfl)
              have dd6 : ((xF 6) = .int .u8 (k : Int)) := hd 6 (by kernel_rfl)
              clear hd
              simp only [← hAF, Act.put, List.setIfInBounds_toArray, List.set_cons_zero, List.set_cons_succ] at hK ⊢
              clear hAF
              try simp only [Nat.zero_add] at hK ⊢
              try simp only [Nat.reduceAdd] at hK ⊢
              try generalize xF 4 = yy4 at *
              try generalize xF 6 = yy6 at *
              obtain rfl := dd4
              obtain rfl := dd6
              obtain hbR := id hR
              rw [if_pos (by rfl)]
              go_simp
              (go_at_call 12; (with_reducible refine (HI1.out _).mono ?_); rintro e wK ⟨rfl, hbK⟩)
              try go_wp2_with fail
              exact hK.out _ _ (hbK) (rfl) (fun _ _ _ => ⟨trivial, trivial⟩)
            refine FlowAll.cons ?_ ?_
            · intro xF wz hR hd K hK
              have dd7 : ((xF 7) = .bool true) := hd 7 (by kernel_rfl)
              clear hd
              simp only [← hAF, Act.put, List.setIfInBounds_toArray, List.set_cons_zero, List.set_cons_succ] at hK ⊢
              clear hAF
              try simp only [Nat.zero_add] at hK ⊢
              try simp only [Nat.reduceAdd] at hK ⊢
              try generalize xF 7 = yy7 at *
              obtain rfl := dd7
              obtain hbR := id hR
              rw [if_pos (by rfl)]
              go_simp
              exact hK.out _ _ (Below.refl _ _) (rfl) (fun _ _ _ => ⟨trivial, trivial⟩)
            refine FlowAll.cons ?_ ?_
            · intro xF wz hR hd K hK
              have dd8 : ((xF 8) = .bool true) := hd 8 (by kernel_rfl)
              clear hd
              simp only [← hAF, Act.put, List.setIfInBounds_toArray, List.set_cons_zero, List.set_cons_succ] at hK ⊢
              clear hAF
              try simp only [Nat.zero_add] at hK ⊢
              try simp only [Nat.reduceAdd] at hK ⊢
              try generalize xF 8 = yy8 at *
              obtain rfl := dd8
              obtain hbR := id hR
              rw [if_neg (by intro h; exact absurd (show false = true from h) Bool.false_ne_true)]
              try simp only [Act.put, List.setIfInBounds_toArray, List.set_cons_zero, List.set_cons_succ]
              exact hK.out _ _ (Below.refl _ _) (rfl) (fun _ _ _ => ⟨trivial, trivial⟩)
            refine FlowAll.cons ?_ ?_
            · intro xF wz hR hd K hK
              have dd8 : ((xF 8) = .bool true) := hd 8 (by kernel_rfl)
              clear hd
              simp only [← hAF, Act.put, List.setIfInBounds_toArray, List.set_cons_zero, List.set_cons_succ] at hK ⊢
              clear hAF
              try simp only [Nat.zero_add] at hK ⊢
              try simp only [Nat.reduceAdd] at hK ⊢
              try generalize xF 8 = yy8 at *
              obtain rfl := dd8
              obtain hbR := id hR
              rw [if_neg (by intro h; exact absurd (show false = true from h) Bool.false_ne_true)]
              try simp only [Act.put, List.setIfInBounds_toArray, List.set_cons_zero, List.set_cons_succ]
              exact hK.out _ _ (Below.refl _ _) (rfl) (fun _ _ _ => ⟨trivial, trivial⟩)
            refine FlowAll.cons ?_ ?_
            · intro xF wz hR hd K hK
              have dd8 : ((xF 8) = .bool true) := hd 8 (by kernel_rfl)
              clear hd
              simp only [← hAF, Act.put, List.setIfInBounds_toArray, List.set_cons_zero, List.set_cons_succ] at hK ⊢
              clear hAF
              try simp only [Nat.zero_add] at hK ⊢
              try simp only [Nat.reduceAdd] at hK ⊢
              try generalize xF 8 = yy8 at *
              obtain rfl := dd8
              obtain hbR := id hR
              rw [if_neg (by intro h; exact absurd (show false = true from h) Bool.false_ne_true)]
              try simp only [Act.put, List.setIfInBounds_toArray, List.set_cons_zero, List.set_cons_succ]
              exact hK.out _ _ (Below.refl _ _) (rfl) (fun _ _ _ => ⟨trivial, trivial⟩)
            refine FlowAll.cons ?_ ?_
            · intro xF wz hR hd K hK
              have dd8 : ((xF 8) = .bool true) := hd 8 (by kernel_rfl)
              clear hd
              simp only [← hAF, Act.put, List.setIfInBounds_toArray, List.set_cons_zero, List.set_cons_succ] at hK ⊢
              clear hAF
              try simp only [Nat.zero_add] at hK ⊢
              try simp only [Nat.reduceAdd] at hK ⊢
              try generalize xF 8 = yy8 at *
              obtain rfl := dd8
              obtain hbR := id hR
              rw [if_neg (by intro h; exact absurd (show false = true from h) Bool.false_ne_true)]
              try simp only [Act.put, List.setIfInBounds_toArray, List.set_cons_zero, List.set_cons_succ]
              exact hK.out _ _ (Below.refl _ _) (rfl) (fun _ _ _ => ⟨trivial, trivial⟩)
            refine FlowAll.cons ?_ ?_
            · intro xF wz hR hd K hK
              have dd8 : ((xF 8) = .bool true) := hd 8 (by kernel_rfl)
              have dd12 : ((xF 12) = undef) := hd 12 (by kernel_rfl)
              clear hd
              simp only [← hAF, Act.put, List.setIfInBounds_toArray, List.set_cons_zero, List.set_cons_succ] at hK ⊢
              clear hAF
              try simp only [Nat.zero_add] at hK ⊢
              try simp only [Nat.reduceAdd] at hK ⊢
              try generalize xF 8 = yy8 at *
              try generalize xF 12 = yy12 at *
              obtain rfl := dd8
              obtain rfl := dd12
              obtain hbR := id hR
              rw [if_pos (by rfl)]
              go_simp
              exact hK.out _ _ (Below.refl _ _) (rfl) (fun _ _ _ => ⟨trivial, trivial⟩)
            refine FlowAll.cons ?_ ?_
            · intro xF wz hR hd K hK
              have dd3 : ((xF 3) = .bool true) := hd 3 (by kernel_rfl)
              have dd13 : ((xF 13) = .bool true) := hd 13 (by kernel_rfl)
              clear hd
              simp only [← hAF, Act.put, List.setIfInBounds_toArray, List.set_cons_zero, List.set_cons_succ] at hK ⊢
              clear hAF
              try simp only [Nat.zero_add] at hK ⊢
              try simp only [Nat.reduceAdd] at hK ⊢
              try generalize xF 3 = yy3 at *
              try generalize xF 13 = yy13 at *
              obtain rfl := dd3
              obtain rfl := dd13
              obtain hbR := id hR
              rw [if_pos (by rfl)]
              go_simp
              exact hK.out _ _ (Below.refl _ _) (rfl) (fun _ _ _ => ⟨trivial, trivial⟩)
            refine FlowAll.cons ?_ ?_
            · intro xF wz hR hd K hK
              have dd14 : ((xF 14) = .bool false) := hd 14 (by kernel_rfl)
              clear hd
              simp only [← hAF, Act.put, List.setIfInBounds_toArray, List.set_cons_zero, List.set_cons_succ] at hK ⊢
              clear hAF
              try simp only [Nat.zero_add] at hK ⊢
              try simp only [Nat.reduceAdd] at hK ⊢
              try generalize xF 14 = yy14 at *
              obtain rfl := dd14
              obtain hbR := id hR
              rw [if_pos (by rfl)]
              go_simp
              exact hK.out _ _ (Below.refl _ _) (rfl) (fun _ _ _ => ⟨trivial, trivial⟩)
            refine FlowAll.cons ?_ ?_
            · intro xF wz hR hd K hK
              have dd15 : ((xF 15) = .bool false) := hd 15 (by kernel_rfl)
              clear hd
              simp only [← hAF, Act.put, List.setIfInBounds_toArray, List.set_cons_zero, List.set_cons_succ] at hK ⊢
              clear hAF
              try simp only [Nat.zero_add] at hK ⊢
              try simp only [Nat.reduceAdd] at hK ⊢
              try generalize xF 15 = yy15 at *
              obtain rfl := dd15
              obtain hbR := id hR
              rw [if_pos (by rfl)]
              go_simp
              exact hK.out _ _ (Below.refl _ _) (rfl) (fun _ _ _ => ⟨trivial, trivial⟩)
            refine FlowAll.cons ?_ ?_
            · intro xF wz hR hd K hK
              have dd15 : ((xF 15) = .bool false) := hd 15 (by kernel_rfl)
              have dd16 : ((xF 16) = .int .u8 (c : Int)) := hd 16 (by kernel_rfl)
              clear hd
              simp only [← hAF, Act.put, List.setIfInBounds_toArray, List.set_cons_zero, List.set_cons_succ] at hK ⊢
              clear hAF
              try simp only [Nat.zero_add] at hK ⊢
              try simp only [Nat.reduceAdd] at hK ⊢
              try generalize xF 15 = yy15 at *
              try generalize xF 16 = yy16 at *
              obtain rfl := dd15
              obtain rfl := dd16
              obtain hbR := id hR
              rw [if_pos (by rfl)]
              go_simp
              (go_at_call 13; (with_reducible refine (HS.out _).mono ?_); rintro e wK ⟨rfl, hbK⟩)
              try go_wp2_with fail
              exact hK.out _ _ (hbK) (rfl) (fun _ _ _ => ⟨trivial, trivial⟩)
            refine FlowAll.cons ?_ ?_
            · intro xF wz hR hd K hK
              have dd15 : ((xF 15) = .bool false) := hd 15 (by kernel_rfl)
              clear hd
              simp only [← hAF, Act.put, List.setIfInBounds_toArray, List.set_cons_zero, List.set_cons_succ] at hK ⊢
              clear hAF
              try simp only [Nat.zero_add] at hK ⊢
              try simp only [Nat.reduceAdd] at hK ⊢
              try generalize xF 15 = yy15 at *
              obtain rfl := dd15
              obtain hbR := id hR
              rw [if_pos (by rfl)]
              go_simp
              exact hK.out _ _ (Below.refl _ _) (rfl) (fun _ _ _ => ⟨trivial, trivial⟩)
            refine FlowAll.cons ?_ ?_
            · intro xF wz hR hd K hK
              have dd15 : ((xF 15) = .bool false) := hd 15 (by kernel_rfl)
              have dd18 : ((xF 18) = .int .i64 (k : Int)) := hd 18 (by kernel_rfl)
              clear hd
              simp only [← hAF, Act.put, List.setIfInBounds_toArray, List.set_cons_zero, List.set_cons_succ] at hK ⊢
              clear hAF
              try simp only [Nat.zero_add] at hK ⊢
              try simp only [Nat.reduceAdd] at hK ⊢
              try generalize xF 15 = yy15 at *
              try generalize xF 18 = yy18 at *
              obtain rfl := dd15
              obtain rfl := dd18
              obtain hbR := id hR
              rw [if_pos (by rfl)]
              go_simp
              exact hK.out _ _ (Below.refl _ _) (rfl) (fun _ _ _ => ⟨trivial, trivial⟩)
            refine FlowAll.cons ?_ ?_
            · intro xF wz hR hd K hK
              have dd15 : ((xF 15) = .bool false) := hd 15 (by kernel_rfl)
              have dd17 : ((xF 17) = .agg #[.int .u64 (Cls.one c).a, .int .u64 (Cls.one c).b, .int .u64 (Cls.one c).c, .int .u64 (Cls.one c).d]) := hd 17 (by kernel_rfl)
              have dd19 : ((xF 19) = .int .u8 (k : Int)) := hd 19 (by kernel_rfl)
              clear hd
              simp only [← hAF, Act.put, List.setIfInBounds_toArray, List.set_cons_zero, List.set_cons_succ] at hK ⊢
              clear hAF
              try simp only [Nat.zero_add] at hK ⊢
              try simp only [Nat.reduceAdd] at hK ⊢
              try generalize xF 15 = yy15 at *
              try generalize xF 17 = yy17 at *
              try generalize xF 19 = yy19 at *
              obtain rfl := dd15
              obtain rfl := dd17
              obtain rfl := dd19
              obtain hbR := id hR
              rw [if_pos (by rfl)]
              go_simp
              (go_at_call 12; (with_reducible refine (HI3.out _).mono ?_); rintro e wK ⟨rfl, hbK⟩)
              try go_wp2_with fail
              exact hK.out _ _ (hbK) (rfl) (fun _ _ _ => ⟨trivial, trivial⟩)
            refine FlowAll.cons ?_ ?_
            · intro xF wz hR hd K hK
              have dd15 : ((xF 15) = .bool false) := hd 15 (by kernel_rfl)
              clear hd
              simp only [← hAF, Act.put, List.setIfInBounds_toArray, List.set_cons_zero, List.set_cons_succ] at hK ⊢
              clear hAF
              try simp only [Nat.zero_add] at hK ⊢
              try simp only [Nat.reduceAdd] at hK ⊢
              try generalize xF 15 = yy15 at *
              obtain rfl := dd15
              obtain hbR := id hR
              rw [if_pos (by rfl)]
              go_simp
              exact hK.out _ _ (Below.refl _ _) (rfl) (fun _ _ _ => ⟨trivial, trivial⟩)
            refine FlowAll.cons ?_ ?_
            · intro xF wz hR hd K hK
              have dd15 : ((xF 15) = .bool false) := hd 15 (by kernel_rfl)
              have dd21 : ((xF 21) = .int .i64 (k : Int)) := hd 21 (by kernel_rfl)
              clear hd
              simp only [← hAF, Act.put, List.setIfInBounds_toArray, List.set_cons_zero, List.set_cons_succ] at hK ⊢
              clear hAF
              try simp only [Nat.zero_add] at hK ⊢
              try simp only [Nat.reduceAdd] at hK ⊢
              try generalize xF 15 = yy15 at *
              try generalize xF 21 = yy21 at *
              obtain rfl := dd15
              obtain rfl := dd21
              obtain hbR := id hR
              rw [if_pos (by rfl)]
              go_simp
              exact hK.out _ _ (Below.refl _ _) (rfl) (fun _ _ _ => ⟨trivial, trivial⟩)
            refine FlowAll.cons ?_ ?_
            · intro xF wz hR hd K hK
              have dd15 : ((xF 15) = .bool false) := hd 15 (by kernel_rfl)
              clear hd
              simp only [← hAF, Act.put, List.setIfInBounds_toArray, List.set_cons_zero, List.set_cons_succ] at hK ⊢
              clear hAF
              try simp only [Nat.zero_add] at hK ⊢
              try simp only [Nat.reduceAdd] at hK ⊢
              try generalize xF 15 = yy15 at *
              obtain rfl := dd15
              obtain hbR := id hR
              rw [if_pos (by rfl)]
              go_simp
              exact hK.out _ _ (Below.refl _ _) (rfl) (fun _ _ _ => ⟨trivial, trivial⟩)
            refine FlowAll.cons ?_ ?_
            · intro xF wz hR hd K hK
              have dd15 : ((xF 15) = .bool false) := hd 15 (by kernel_rfl)
              have dd22 : ((xF 22) = .int .u8 (k : Int)) := hd 22 (by kernel_rfl)
              have dd23 : ((xF 23) = .int .u8 (c : Int)) := hd 23 (by kernel_rfl)
              clear hd
              simp only [← hAF, Act.put, List.setIfInBounds_toArray, List.set_cons_zero, List.set_cons_succ] at hK ⊢
              clear hAF
              try simp only [Nat.zero_add] at hK ⊢
              try simp only [Nat.reduceAdd] at hK ⊢
              try generalize xF 15 = yy15 at *
              try generalize xF 22 = yy22 at *
              try generalize xF 23 = yy23 at *
              obtain rfl := dd15
              obtain rfl := dd22
              obtain rfl := dd23
              obtain hbR := id hR
              have hee := HEE.out
              have hef := HEF.out
              rw [if_pos (by rfl)]
              go_simp
              exact hK.out _ _ (Below.refl _ _) (rfl) (fun _ _ _ => ⟨trivial, trivial⟩)
            refine FlowAll.cons ?_ ?_
            · intro xF wz hR hd K hK
              have dd15 : ((xF 15) = .bool false) := hd 15 (by kernel_rfl)
              have dd20 : ((xF 20) = .bool false) := hd 20 (by kernel_rfl)
              have dd24 : ((xF 24) = .bool false) := hd 24 (by kernel_rfl)
              clear hd
              simp only [← hAF, Act.put, List.setIfInBounds_toArray, List.set_cons_zero, List.set_cons_succ] at hK ⊢
              clear hAF
              try simp only [Nat.zero_add] at hK ⊢
              try simp only [Nat.reduceAdd] at hK ⊢
              try generalize xF 15 = yy15 at *
              try generalize xF 20 = yy20 at *
              try generalize xF 24 = yy24 at *
              obtain rfl := dd15
              obtain rfl := dd20
              obtain rfl := dd24
              obtain hbR := id hR
              rw [if_pos (by rfl)]
              go_simp
              exact hK.out _ _ (Below.refl _ _) (rfl) (fun _ _ _ => ⟨trivial, trivial⟩)
            refine FlowAll.cons ?_ ?_
            · intro xF wz hR hd K hK
              have dd15 : ((xF 15) = .bool false) := hd 15 (by kernel_rfl)
              have dd25 : ((xF 25) = .bool false) := hd 25 (by kernel_rfl)
              clear hd
              simp only [← hAF, Act.put, List.setIfInBounds_toArray, List.set_cons_zero, List.set_cons_succ] at hK ⊢
              clear hAF
              try simp only [Nat.zero_add] at hK ⊢
              try simp only [Nat.reduceAdd] at hK ⊢
              try generalize xF 15 = yy15 at *
              try generalize xF 25 = yy25 at *
              obtain rfl := dd15
              obtain rfl := dd25
              obtain hbR := id hR
              rw [if_pos (by rfl)]
              go_simp
              exact hK.out _ _ (Below.refl _ _) (rfl) (fun _ _ _ => ⟨trivial, trivial⟩)
            exact FlowAll.nil
          intro xF wz hR hF hP
          clear hP
          have dd0 : ((xF 0) = .agg #[.int .u64 (x.or y).a, .int .u64 (x.or y).b, .int .u64 (x.or y).c, .int .u64 (x.or y).d]) := hF 0 (by omega) (by decide)
          have dd1 : ((xF 1) = .int .i64 (k : Int)) := hF 1 (by omega) (by decide)
          have dd2 : ((xF 2) = .int .u8 (k : Int)) := hF 2 (by omega) (by decide)
          have dd3 : ((xF 3) = .bool true) := hF 3 (by omega) (by decide)
          have dd4 : ((xF 4) = .agg #[.int .u64 x.a, .int .u64 x.b, .int .u64 x.c, .int .u64 x.d]) := hF 4 (by omega) (by decide)
          have dd5 : ((xF 5) = .int .i64 (k : Int)) := hF 5 (by omega) (by decide)
          have dd6 : ((xF 6) = .int .u8 (k : Int)) := hF 6 (by omega) (by decide)
          have dd7 : ((xF 7) = .bool true) := hF 7 (by omega) (by decide)
          have dd8 : ((xF 8) = .bool true) := hF 8 (by omega) (by decide)
          have dd9 : ((xF 9) = undef) := hF 9 (by omega) (by decide)
          have dd10 : ((xF 10) = undef) := hF 10 (by omega) (by decide)
          have dd11 : ((xF 11) = undef) := hF 11 (by omega) (by decide)
          have dd12 : ((xF 12) = undef) := hF 12 (by omega) (by decide)
          have dd13 : ((xF 13) = .bool true) := hF 13 (by omega) (by decide)
          have dd14 : ((xF 14) = .bool false) := hF 14 (by omega) (by decide)
          have dd15 : ((xF 15) = .bool false) := hF 15 (by omega) (by decide)
          have dd16 : ((xF 16) = .int .u8 (c : Int)) := hF 16 (by omega) (by decide)
          have dd17 : ((xF 17) = .agg #[.int .u64 (Cls.one c).a, .int .u64 (Cls.one c).b, .int .u64 (Cls.one c).c, .int .u64 (Cls.one c).d]) := hF 17 (by omega) (by decide)
          have dd18 : ((xF 18) = .int .i64 (k : Int)) := hF 18 (by omega) (by decide)
          have dd19 : ((xF 19) = .int .u8 (k : Int)) := hF 19 (by omega) (by decide)
          have dd20 : ((xF 20) = .bool false) := hF 20 (by omega) (by decide)
          have dd21 : ((xF 21) = .int .i64 (k : Int)) := hF 21 (by omega) (by decide)
          have dd22 : ((xF 22) = .int .u8 (k : Int)) := hF 22 (by omega) (by decide)
          have dd23 : ((xF 23) = .int .u8 (c : Int)) := hF 23 (by omega) (by decide)
          have dd24 : ((xF 24) = .bool false) := hF 24 (by omega) (by decide)
          have dd25 : ((xF 25) = .bool false) := hF 25 (by omega) (by decide)
          have dd26 : ((xF 26) = .bool false) := hF 26 (by omega) (by decide)
          clear hF
          simp only [List.take_succ_cons, List.take_zero, List.drop_succ_cons, List.drop_zero, fillOf, Act.put, List.setIfInBounds_toArray, List.set_cons_zero, List.set_cons_succ, Nat.reduceAdd, Nat.zero_add]
          try generalize xF 0 = yy0 at *
          try generalize xF 1 = yy1 at *
          try generalize xF 2 = yy2 at *
          try generalize xF 3 = yy3 at *
          try generalize xF 4 = yy4 at *
          try generalize xF 5 = yy5 at *
          try generalize xF 6 = yy6 at *
          try generalize xF 7 = yy7 at *
          try generalize xF 8 = yy8 at *
          try generalize xF 9 = yy9 at *
          try generalize xF 10 = yy10 at *
          try generalize xF 11 = yy11 at *
          try generalize xF 12 = yy12 at *
          try generalize xF 13 = yy13 at *
          try generalize xF 14 = yy14 at *
          try generalize xF 15 = yy15 at *
          try generalize xF 16 = yy16 at *
          try generalize xF 17 = yy17 at *
          try generalize xF 18 = yy18 at *
          try generalize xF 19 = yy19 at *
          try generalize xF 20 = yy20 at *
          try generalize xF 21 = yy21 at *
          try generalize xF 22 = yy22 at *
          try generalize xF 23 = yy23 at *
          try generalize xF 24 = yy24 at *
          try generalize xF 25 = yy25 at *
          try generalize xF 26 = yy26 at *
          clear xF
          obtain rfl := dd0
          obtain rfl := dd1
          obtain rfl := dd2
          obtain rfl := dd3
          obtain rfl := dd4
          obtain rfl := dd5
          obtain rfl := dd6
          obtain rfl := dd7
          obtain rfl := dd8
          obtain rfl := dd9
          obtain rfl := dd10
          obtain rfl := dd11
          obtain rfl := dd12
          obtain rfl := dd13
          obtain rfl := dd14
          obtain rfl := dd15
          obtain rfl := dd16
          obtain rfl := dd17
          obtain rfl := dd18
          obtain rfl := dd19
          obtain rfl := dd20
          obtain rfl := dd21
          obtain rfl := dd22
          obtain rfl := dd23
          obtain rfl := dd24
          obtain rfl := dd25
          obtain rfl := dd26
          have hRE := Lib.hid hR
          clear hR
          go_wp2
          go_roundw
          case rel => exact ⟨k + 1, by go_num, by have := HLT.out; omega, hRE.out⟩
          case measure => simp [intOf]; have := HLT.out; omega
        | false =>
          cases hpy : y.has k with
          | true =>
            have HI1 : Hid (∀ W, Calls Try.prog 12 #[.agg #[.int .u64 x.a, .int .u64 x.b, .int .u64 x.c, .int .u64 x.d], .int .u8 (k : Int)] W (fun e w' => e = .returned (.bool false) ∧ Below W.heap.size W w')) := fun W => by have h := HIA.out x k W OX.out HLT.out; rw [hpx] at h; exact h
            have HI2 : Hid (∀ W, Calls Try.prog 12 #[.agg #[.int .u64 y.a, .int .u64 y.b, .int .u64 y.c, .int .u64 y.d], .int .u8 (k : Int)] W (fun e w' => e = .returned (.bool true) ∧ Below W.heap.size W w')) := fun W => by have h := HIA.out y k W OY.out HLT.out; rw [hpy] at h; exact h
            have HU : Hid (∀ W, Calls Try.prog 12 #[.agg #[.int .u64 (x.or y).a, .int .u64 (x.or y).b, .int .u64 (x.or y).c, .int .u64 (x.or y).d], .int .u8 (k : Int)] W (fun e w' => e = .returned (.bool true) ∧ Below W.heap.size W w')) := fun W => by have h := HIA.out (x.or y) k W HOO.out HLT.out; rw [HOR.out, hpx, hpy] at h; exact h
            clear hpx hpy hkc hlt hk
            go_wp2
            refine wp_flow 27 (fun _ => 1000) (fun ww => Below W2.heap.size W2 ww) (fun _ w w' => (fun (w w' : World) => RowKit.Below w.heap.size w w') w w') (fun kF vF wF => match kF with | 0 => (vF = .agg #[.int .u64 (x.or y).a, .int .u64 (x.or y).b, .int .u64 (x.or y).c, .int .u64 (x.or y).d]) | 1 => (vF = .int .i64 (k : Int)) | 2 => (vF = .int .u8 (k : Int)) | 3 => (vF = .bool true) | 4 => (vF = .agg #[.int .u64 x.a, .int .u64 x.b, .int .u64 x.c, .int .u64 x.d]) | 5 => (vF = .int .i64 (k : Int)) | 6 => (vF = .int .u8 (k : Int)) | 7 => (vF = .bool false) | 8 => (vF = .bool false) | 9 => (vF = .agg #[.int .u64 y.a, .int .u64 y.b, .int .u64 y.c, .int .u64 y.d]) | 10 => (vF = .int .i64 (k : Int)) | 11 => (vF = .int .u8 (k : Int)) | 12 => (vF = .bool true) | 13 => (vF = .bool true) | 14 => (vF = .bool false) | 15 => (vF = .bool false) | 16 => (vF = .int .u8 (c : Int)) | 17 => (vF = .agg #[.int .u64 (Cls.one c).a, .int .u64 (Cls.one c).b, .int .u64 (Cls.one c).c, .int .u64 (Cls.one c).d]) | 18 => (vF = .int .i64 (k : Int)) | 19 => (vF = .int .u8 (k : Int)) | 20 => (vF = .bool false) | 21 => (vF = .int .i64 (k : Int)) | 22 => (vF = .int .u8 (k : Int)) | 23 => (vF = .int .u8 (c : Int)) | 24 => (vF = .bool false) | 25 => (vF = .bool false) | 26 => (vF = .bool false) | _ => True) (fun _ _ _ _ => True) (by kernel_rfl) (by kernel_rfl) ?_ ?_ ?_ ?_ ?_
            · exact HB.out.drew
            · intro iF wF1 wF2 hR hT; exact hR.trans (Below.mono hT (Below.size hR))
            · intro kF hkF iF hiF hne hdd hanc hdan vF wF1 wF2 h hT
              rcases (by omega : kF = 0 ∨ kF = 1 ∨ kF = 2 ∨ kF = 3 ∨ kF = 4 ∨ kF = 5 ∨ kF = 6 ∨ kF = 7 ∨ kF = 8 ∨ kF = 9 ∨ kF = 10 ∨ kF = 11 ∨ kF = 12 ∨ kF = 13 ∨ kF = 14 ∨ kF = 15 ∨ kF = 16 ∨ kF = 17 ∨ kF = 18 ∨ kF = 19 ∨ kF = 20 ∨ kF = 21 ∨ kF = 22 ∨ kF = 23 ∨ kF = 24 ∨ kF = 25 ∨ kF = 26) with rfl | rfl | rfl | rfl | rfl | rfl | rfl | rfl | rfl | rfl | rfl | rfl | rfl | rfl | rfl | rfl | rfl | rfl | rfl | rfl | rfl | rfl | rfl | rfl | rfl | rfl | rfl
              · exact h
              · exact h
              · exact h
              · exact h
              · exact h
              · exact h
              · exact h
              · exact h
              · exact h
              · exact h
              · exact h
              · exact h
              · exact h
              · exact h
              · exact h
              · exact h
              · exact h
              · exact h
              · exact h
              · exact h
              · exact h
              · exact h
              · exact h
              · exact h
              · exact h
              · exact h
              · exact h
            · generalize hAF : fillOf _ _ _ = AF
              replace hAF := fun x => congrFun hAF x
              simp only [List.take_succ_cons, List.take_zero, fillOf, Act.put, List.setIfInBounds_toArray, List.set_cons_zero, List.set_cons_succ, Nat.reduceAdd, Nat.zero_add] at hAF
              refine FlowAll.cons ?_ ?_
              · intro xF wz hR hd K hK
                clear hd
                simp only [← hAF, Act.put, List.setIfInBounds_toArray, List.set_cons_zero, List.set_cons_succ] at hK ⊢
                clear hAF
                try simp only [Nat.zero_add] at hK ⊢
                try simp only [Nat.reduceAdd] at hK ⊢
                obtain hbR := id hR
                have hxa := (hbR.block _ (lt_of_block X2.out)).trans X2.out
                have c90 := boxc hxa 0 _ rfl
                have c91 := boxc hxa 1 _ rfl
                have c92 := boxc hxa 2 _ rfl
                have c93 := boxc hxa 3 _ rfl
                clear hxa
                rw [if_pos (by rfl)]
                go_simp
                exact hK.out _ _ (Below.refl _ _) (rfl) (fun _ _ _ => ⟨trivial, trivial⟩)
              refine FlowAll.cons ?_ ?_
              · intro xF wz hR hd K hK
                clear hd
                simp only [← hAF, Act.put, List.setIfInBounds_toArray, List.set_cons_zero, List.set_cons_succ] at hK ⊢
                clear hAF
                try simp only [Nat.zero_add] at hK ⊢
                try simp only [Nat.reduceAdd] at hK ⊢
                obtain hbR := id hR
                rw [if_pos (by rfl)]
                go_simp
                exact hK.out _ _ (Below.refl _ _) (rfl) (fun _ _ _ => ⟨trivial, trivial⟩)
              refine FlowAll.cons ?_ ?_
              · intro xF wz hR hd K hK
                have dd1 : ((xF 1) = .int .i64 (k : Int)) := hd 1 (by kernel_rfl)
                clear hd
                simp only [← hAF, Act.put, List.setIfInBounds_toArray, List.set_cons_zero, List.set_cons_succ] at hK ⊢
                clear hAF
                try simp only [Nat.zero_add] at hK ⊢
                try simp only [Nat.reduceAdd] at hK ⊢
                try generalize xF 1 = yy1 at *
                obtain rfl := dd1
                obtain hbR := id hR
                rw [if_pos (by rfl)]
                go_simp
                exact hK.out _ _ (Below.refl _ _) (rfl) (fun _ _ _ => ⟨trivial, trivial⟩)
              refine FlowAll.cons ?_ ?_
              · intro xF wz hR hd K hK
                have dd0 : ((xF 0) = .agg #[.int .u64 (x.or y).a, .int .u64 (x.or y).b, .int .u64 (x.or y).c, .int .u64 (x.or y).d]) := hd 0 (by kernel_rfl)
                have dd2 : ((xF 2) = .int .u8 (k : Int)) := hd 2 (by kernel_rfl)
                clear hd
                simp only [← hAF, Act.put, List.setIfInBounds_toArray, List.set_cons_zero, List.set_cons_succ] at hK ⊢
                clear hAF
                try simp only [Nat.zero_add] at hK ⊢
                try simp only [Nat.reduceAdd] at hK ⊢
                try generalize xF 0 = yy0 at *
                try generalize xF 2 = yy2 at *
                obtain rfl := dd0
                obtain rfl := dd2
                obtain hbR := id hR
                rw [if_pos (by rfl)]
                go_simp
                (go_at_call 12; (with_reducible refine (HU.out _).mono ?_); rintro e wK ⟨rfl, hbK⟩)
                try go_wp2_with fail
                exact hK.out _ _ (hbK) (rfl) (fun _ _ _ => ⟨trivial, trivial⟩)
              refine FlowAll.cons ?_ ?_
              · intro xF wz hR hd K hK
                clear hd
                simp only [← hAF, Act.put, List.setIfInBounds_toArray, List.set_cons_zero, List.set_cons_succ] at hK ⊢
                clear hAF
                try simp only [Nat.zero_add] at hK ⊢
                try simp only [Nat.reduceAdd] at hK ⊢
                obtain hbR := id hR
                have hxa := (hbR.block _ (lt_of_block X0.out)).trans X0.out
                have c90 := boxc hxa 0 _ rfl
                have c91 := boxc hxa 1 _ rfl
                have c92 := boxc hxa 2 _ rfl
                have c93 := boxc hxa 3 _ rfl
                clear hxa
                rw [if_pos (by rfl)]
                go_simp
                exact hK.out _ _ (Below.refl _ _) (rfl) (fun _ _ _ => ⟨trivial, trivial⟩)
              refine FlowAll.cons ?_ ?_
              · intro xF wz hR hd K hK
                clear hd
                simp only [← hAF, Act.put, List.setIfInBounds_toArray, List.set_cons_zero, List.set_cons_succ] at hK ⊢
                clear hAF
                try simp only [Nat.zero_add] at hK ⊢
                try simp only [Nat.reduceAdd] at hK ⊢
                obtain hbR := id hR
                rw [if_pos (by rfl)]
                go_simp
                exact hK.out _ _ (Below.refl _ _) (rfl) (fun _ _ _ => ⟨trivial, trivial⟩)
              refine FlowAll.cons ?_ ?_
              · intro xF wz hR hd K hK
                have dd5 : ((xF 5) = .int .i64 (k : Int)) := hd 5 (by kernel_rfl)
                clear hd
                simp only [← hAF, Act.put, List.setIfInBounds_toArray, List.set_cons_zero, List.set_cons_succ] at hK ⊢
                clear hAF
                try simp only [Nat.zero_add] at hK ⊢
                try simp only [Nat.reduceAdd] at hK ⊢
                try generalize xF 5 = yy5 at *
                obtain rfl := dd5
                obtain hbR := id hR
                rw [if_pos (by rfl)]
                go_simp
                exact hK.out _ _ (Below.refl _ _) (rfl) (fun _ _ _ => ⟨trivial, trivial⟩)
              refine FlowAll.cons ?_ ?_
              · intro xF wz hR hd K hK
                have dd4 : ((xF 4) = .agg #[.int .u64 x.a, .int .u64 x.b, .int .u64 x.c, .int .u64 x.d]) := hd 4 (by kernel_rfl)
                have dd6 : ((xF 6) = .int .u8 (k : Int)) := hd 6 (by kernel_rfl)
                clear hd
                simp only [← hAF, Act.put, List.setIfInBounds_toArray, List.set_cons_zero, List.set_cons_succ] at hK ⊢
                clear hAF
                try simp only [Nat.zero_add] at hK ⊢
                try simp only [Nat.reduceAdd] at hK ⊢
                try generalize xF 4 = yy4 at *
                try generalize xF 6 = yy6 at *
                obtain rfl := dd4
                obtain rfl := dd6
                obtain hbR := id hR
                rw [if_pos (by rfl)]
                go_simp
                (go_at_call 12; (with_reducible refine (HI1.out _).mono ?_); rintro e wK ⟨rfl, hbK⟩)
                try go_wp2_with fail
                exact hK.out _ _ (hbK) (rfl) (fun _ _ _ => ⟨trivial, trivial⟩)
              refine FlowAll.cons ?_ ?_
              · intro xF wz hR hd K hK
                have dd7 : ((xF 7) = .bool false) := hd 7 (by kernel_rfl)
                clear hd
                simp only [← hAF, Act.put, List.setIfInBounds_toArray, List.set_cons_zero, List.set_cons_succ] at hK ⊢
                clear hAF
                try simp only [Nat.zero_add] at hK ⊢
                try simp only [Nat.reduceAdd] at hK ⊢
                try generalize xF 7 = yy7 at *
                obtain rfl := dd7
                obtain hbR := id hR
                rw [if_pos (by rfl)]
                go_simp
                exact hK.out _ _ (Below.refl _ _) (rfl) (fun _ _ _ => ⟨trivial, trivial⟩)
              refine FlowAll.cons ?_ ?_
              · intro xF wz hR hd K hK
                have dd8 : ((xF 8) = .bool false) := hd 8 (by kernel_rfl)
                clear hd
                simp only [← hAF, Act.put, List.setIfInBounds_toArray, List.set_cons_zero, List.set_cons_succ] at hK ⊢
                clear hAF
                try simp only [Nat.zero_add] at hK ⊢
                try simp only [Nat.reduceAdd] at hK ⊢
                try generalize xF 8 = yy8 at *
                obtain rfl := dd8
                obtain hbR := id hR
                have hxa := (hbR.block _ (lt_of_block X1.out)).trans X1.out
                have c90 := boxc hxa 0 _ rfl
                have c91 := boxc hxa 1 _ rfl
                have c92 := boxc hxa 2 _ rfl
                have c93 := boxc hxa 3 _ rfl
                clear hxa
                rw [if_pos (by rfl)]
                go_simp
                exact hK.out _ _ (Below.refl _ _) (rfl) (fun _ _ _ => ⟨trivial, trivial⟩)
              refine FlowAll.cons ?_ ?_
              · intro xF wz hR hd K hK
                have dd8 : ((xF 8) = .bool false) := hd 8 (by kernel_rfl)
                clear hd
                simp only [← hAF, Act.put, List.setIfInBounds_toArray, List.set_cons_zero, List.set_cons_succ] at hK ⊢
                clear hAF
                try simp only [Nat.zero_add] at hK ⊢
                try simp only [Nat.reduceAdd] at hK ⊢
                try generalize xF 8 = yy8 at *
                obtain rfl := dd8
                obtain hbR := id hR
                rw [if_pos (by rfl)]
                go_simp
                exact hK.out _ _ (Below.refl _ _) (rfl) (fun _ _ _ => ⟨trivial, trivial⟩)
              refine FlowAll.cons ?_ ?_
              · intro xF wz hR hd K hK
                have dd8 : ((xF 8) = .bool false) := hd 8 (by kernel_rfl)
                have dd10 : ((xF 10) = .int .i64 (k : Int)) := hd 10 (by kernel_rfl)
                clear hd
                simp only [← hAF, Act.put, List.setIfInBounds_toArray, List.set_cons_zero, List.set_cons_succ] at hK ⊢
                clear hAF
                try simp only [Nat.zero_add] at hK ⊢
                try simp only [Nat.reduceAdd] at hK ⊢
                try generalize xF 8 = yy8 at *
                try generalize xF 10 = yy10 at *
                obtain rfl := dd8
                obtain rfl := dd10
                obtain hbR := id hR
                rw [if_pos (by rfl)]
                go_simp
                exact hK.out _ _ (Below.refl _ _) (rfl) (fun _ _ _ => ⟨trivial, trivial⟩)
              refine FlowAll.cons ?_ ?_
              · intro xF wz hR hd K hK
                have dd8 : ((xF 8) = .bool false) := hd 8 (by kernel_rfl)
                have dd9 : ((xF 9) = .agg #[.int .u64 y.a, .int .u64 y.b, .int .u64 y.c, .int .u64 y.d]) := hd 9 (by kernel_rfl)
                have dd11 : ((xF 11) = .int .u8 (k : Int)) := hd 11 (by kernel_rfl)
                clear hd
                simp only [← hAF, Act.put, List.setIfInBounds_toArray, List.set_cons_zero, List.set_cons_succ] at hK ⊢
                clear hAF
                try simp only [Nat.zero_add] at hK ⊢
                try simp only [Nat.reduceAdd] at hK ⊢
                try generalize xF 8 = yy8 at *
                try generalize xF 9 = yy9 at *
                try generalize xF 11 = yy11 at *
                obtain rfl := dd8
                obtain rfl := dd9
                obtain rfl := dd11
                obtain hbR := id hR
                rw [if_pos (by rfl)]
                go_simp
                (go_at_call 12; (with_reducible refine (HI2.out _).mono ?_); rintro e wK ⟨rfl, hbK⟩)
                try go_wp2_with fail
                exact hK.out _ _ (hbK) (rfl) (fun _ _ _ => ⟨trivial, trivial⟩)
              refine FlowAll.cons ?_ ?_
              · intro xF wz hR hd K hK
                have dd8 : ((xF 8) = .bool false) := hd 8 (by kernel_rfl)
                have dd12 : ((xF 12) = .bool true) := hd 12 (by kernel_rfl)
                clear hd
                simp only [← hAF, Act.put, List.setIfInBounds_toArray, List.set_cons_zero, List.set_cons_succ] at hK ⊢
                clear hAF
                try simp only [Nat.zero_add] at hK ⊢
                try simp only [Nat.reduceAdd] at hK ⊢
                try generalize xF 8 = yy8 at *
                try generalize xF 12 = yy12 at *
                obtain rfl := dd8
                obtain rfl := dd12
                obtain hbR := id hR
                rw [if_pos (by rfl)]
                go_simp
                exact hK.out _ _ (Below.refl _ _) (rfl) (fun _ _ _ => ⟨trivial, trivial⟩)
              refine FlowAll.cons ?_ ?_
              · intro xF wz hR hd K hK
                have dd3 : ((xF 3) = .bool true) := hd 3 (by kernel_rfl)
                have dd13 : ((xF 13) = .bool true) := hd 13 (by kernel_rfl)
                clear hd
                simp only [← hAF, Act.put, List.setIfInBounds_toArray, List.set_cons_zero, List.set_cons_succ] at hK ⊢
                clear hAF
                try simp only [Nat.zero_add] at hK ⊢
                try simp only [Nat.reduceAdd] at hK ⊢
                try generalize xF 3 = yy3 at *
                try generalize xF 13 = yy13 at *
                obtain rfl := dd3
                obtain rfl := dd13
                obtain hbR := id hR
                rw [if_pos (by rfl)]
                go_simp
                exact hK.out _ _ (Below.refl _ _) (rfl) (fun _ _ _ => ⟨trivial, trivial⟩)
              refine FlowAll.cons ?_ ?_
              · intro xF wz hR hd K hK
                have dd14 : ((xF 14) = .bool false) := hd 14 (by kernel_rfl)
                clear hd
                simp only [← hAF, Act.put, List.setIfInBounds_toArray, List.set_cons_zero, List.set_cons_succ] at hK ⊢
                clear hAF
                try simp only [Nat.zero_add] at hK ⊢
                try simp only [Nat.reduceAdd] at hK ⊢
                try generalize xF 14 = yy14 at *
                obtain rfl := dd14
                obtain hbR := id hR
                rw [if_pos (by rfl)]
                go_simp
                exact hK.out _ _ (Below.refl _ _) (rfl) (fun _ _ _ => ⟨trivial, trivial⟩)
              refine FlowAll.cons ?_ ?_
              · intro xF wz hR hd K hK
                have dd15 : ((xF 15) = .bool false) := hd 15 (by kernel_rfl)
                clear hd
                simp only [← hAF, Act.put, List.setIfInBounds_toArray, List.set_cons_zero, List.set_cons_succ] at hK ⊢
                clear hAF
                try simp only [Nat.zero_add] at hK ⊢
                try simp only [Nat.reduceAdd] at hK ⊢
                try generalize xF 15 = yy15 at *
                obtain rfl := dd15
                obtain hbR := id hR
                rw [if_pos (by rfl)]
                go_simp
                exact hK.out _ _ (Below.refl _ _) (rfl) (fun _ _ _ => ⟨trivial, trivial⟩)
              refine FlowAll.cons ?_ ?_
              · intro xF wz hR hd K hK
                have dd15 : ((xF 15) = .bool false) := hd 15 (by kernel_rfl)
                have dd16 : ((xF 16) = .int .u8 (c : Int)) := hd 16 (by kernel_rfl)
                clear hd
                simp only [← hAF, Act.put, List.setIfInBounds_toArray, List.set_cons_zero, List.set_cons_succ] at hK ⊢
                clear hAF
                try simp only [Nat.zero_add] at hK ⊢
                try simp only [Nat.reduceAdd] at hK ⊢
                try generalize xF 15 = yy15 at *
                try generalize xF 16 = yy16 at *
                obtain rfl := dd15
                obtain rfl := dd16
                obtain hbR := id hR
                rw [if_pos (by rfl)]
                go_simp
                (go_at_call 13; (with_reducible refine (HS.out _).mono ?_); rintro e wK ⟨rfl, hbK⟩)
                try go_wp2_with fail
                exact hK.out _ _ (hbK) (rfl) (fun _ _ _ => ⟨trivial, trivial⟩)
              refine FlowAll.cons ?_ ?_
              · intro xF wz hR hd K hK
                have dd15 : ((xF 15) = .bool false) := hd 15 (by kernel_rfl)
                clear hd
                simp only [← hAF, Act.put, List.setIfInBounds_toArray, List.set_cons_zero, List.set_cons_succ] at hK ⊢
                clear hAF
                try simp only [Nat.zero_add] at hK ⊢
                try simp only [Nat.reduceAdd] at hK ⊢
                try generalize xF 15 = yy15 at *
                obtain rfl := dd15
                obtain hbR := id hR
                rw [if_pos (by rfl)]
                go_simp
                exact hK.out _ _ (Below.refl _ _) (rfl) (fun _ _ _ => ⟨trivial, trivial⟩)
              refine FlowAll.cons ?_ ?_
              · intro xF wz hR hd K hK
                have dd15 : ((xF 15) = .bool false) := hd 15 (by kernel_rfl)
                have dd18 : ((xF 18) = .int .i64 (k : Int)) := hd 18 (by kernel_rfl)
                clear hd
                simp only [← hAF, Act.put, List.setIfInBounds_toArray, List.set_cons_zero, List.set_cons_succ] at hK ⊢
                clear hAF
                try simp only [Nat.zero_add] at hK ⊢
                try simp only [Nat.reduceAdd] at hK ⊢
                try generalize xF 15 = yy15 at *
                try generalize xF 18 = yy18 at *
                obtain rfl := dd15
                obtain rfl := dd18
                obtain hbR := id hR
                rw [if_pos (by rfl)]
                go_simp
                exact hK.out _ _ (Below.refl _ _) (rfl) (fun _ _ _ => ⟨trivial, trivial⟩)
              refine FlowAll.cons ?_ ?_
              · intro xF wz hR hd K hK
                have dd15 : ((xF 15) = .bool false) := hd 15 (by kernel_rfl)
                have dd17 : ((xF 17) = .agg #[.int .u64 (Cls.one c).a, .int .u64 (Cls.one c).b, .int .u64 (Cls.one c).c, .int .u64 (Cls.one c).d]) := hd 17 (by kernel_rfl)
                have dd19 : ((xF 19) = .int .u8 (k : Int)) := hd 19 (by kernel_rfl)
                clear hd
                simp only [← hAF, Act.put, List.setIfInBounds_toArray, List.set_cons_zero, List.set_cons_succ] at hK ⊢
                clear hAF
                try simp only [Nat.zero_add] at hK ⊢
                try simp only [Nat.reduceAdd] at hK ⊢
                try generalize xF 15 = yy15 at *
                try generalize xF 17 = yy17 at *
                try generalize xF 19 = yy19 at *
                obtain rfl := dd15
                obtain rfl := dd17
                obtain rfl := dd19
                obtain hbR := id hR
                rw [if_pos (by rfl)]
                go_simp
                (go_at_call 12; (with_reducible refine (HI3.out _).mono ?_); rintro e wK ⟨rfl, hbK⟩)
                try go_wp2_with fail
                exact hK.out _ _ (hbK) (rfl) (fun _ _ _ => ⟨trivial, trivial⟩)
              refine FlowAll.cons ?_ ?_
              · intro xF wz hR hd K hK
                have dd15 : ((xF 15) = .bool false) := hd 15 (by kernel_rfl)
                clear hd
                simp only [← hAF, Act.put, List.setIfInBounds_toArray, List.set_cons_zero, List.set_cons_succ] at hK ⊢
                clear hAF
                try simp only [Nat.zero_add] at hK ⊢
                try simp only [Nat.reduceAdd] at hK ⊢
                try generalize xF 15 = yy15 at *
                obtain rfl := dd15
                obtain hbR := id hR
                rw [if_pos (by rfl)]
                go_simp
                exact hK.out _ _ (Below.refl _ _) (rfl) (fun _ _ _ => ⟨trivial, trivial⟩)
              refine FlowAll.cons ?_ ?_
              · intro xF wz hR hd K hK
                have dd15 : ((xF 15) = .bool false) := hd 15 (by kernel_rfl)
                have dd21 : ((xF 21) = .int .i64 (k : Int)) := hd 21 (by kernel_rfl)
                clear hd
                simp only [← hAF, Act.put, List.setIfInBounds_toArray, List.set_cons_zero, List.set_cons_succ] at hK ⊢
                clear hAF
                try simp only [Nat.zero_add] at hK ⊢
                try simp only [Nat.reduceAdd] at hK ⊢
                try generalize xF 15 = yy15 at *
                try generalize xF 21 = yy21 at *
                obtain rfl := dd15
                obtain rfl := dd21
                obtain hbR := id hR
                rw [if_pos (by rfl)]
                go_simp
                exact hK.out _ _ (Below.refl _ _) (rfl) (fun _ _ _ => ⟨trivial, trivial⟩)
              refine FlowAll.cons ?_ ?_
              · intro xF wz hR hd K hK
                have dd15 : ((xF 15) = .bool false) := hd 15 (by kernel_rfl)
                clear hd
                simp only [← hAF, Act.put, List.setIfInBounds_toArray, List.set_cons_zero, List.set_cons_succ] at hK ⊢
                clear hAF
                try simp only [Nat.zero_add] at hK ⊢
                try simp only [Nat.reduceAdd] at hK ⊢
                try generalize xF 15 = yy15 at *
                obtain rfl := dd15
                obtain hbR := id hR
                rw [if_pos (by rfl)]
                go_simp
                exact hK.out _ _ (Below.refl _ _) (rfl) (fun _ _ _ => ⟨trivial, trivial⟩)
              refine FlowAll.cons ?_ ?_
              · intro xF wz hR hd K hK
                have dd15 : ((xF 15) = .bool false) := hd 15 (by kernel_rfl)
                have dd22 : ((xF 22) = .int .u8 (k : Int)) := hd 22 (by kernel_rfl)
                have dd23 : ((xF 23) = .int .u8 (c : Int)) := hd 23 (by kernel_rfl)
                clear hd
                simp only [← hAF, Act.put, List.setIfInBounds_toArray, List.set_cons_zero, List.set_cons_succ] at hK ⊢
                clear hAF
                try simp only [Nat.zero_add] at hK ⊢
                try simp only [Nat.reduceAdd] at hK ⊢
                try generalize xF 15 = yy15 at *
                try generalize xF 22 = yy22 at *
                try generalize xF 23 = yy23 at *
                obtain rfl := dd15
                obtain rfl := dd22
                obtain rfl := dd23
                obtain hbR := id hR
                have hee := HEE.out
                have hef := HEF.out
                rw [if_pos (by rfl)]
                go_simp
                exact hK.out _ _ (Below.refl _ _) (rfl) (fun _ _ _ => ⟨trivial, trivial⟩)
              refine FlowAll.cons ?_ ?_
              · intro xF wz hR hd K hK
                have dd15 : ((xF 15) = .bool false) := hd 15 (by kernel_rfl)
                have dd20 : ((xF 20) = .bool false) := hd 20 (by kernel_rfl)
                have dd24 : ((xF 24) = .bool false) := hd 24 (by kernel_rfl)
                clear hd
                simp only [← hAF, Act.put, List.setIfInBounds_toArray, List.set_cons_zero, List.set_cons_succ] at hK ⊢
                clear hAF
                try simp only [Nat.zero_add] at hK ⊢
                try simp only [Nat.reduceAdd] at hK ⊢
                try generalize xF 15 = yy15 at *
                try generalize xF 20 = yy20 at *
                try generalize xF 24 = yy24 at *
                obtain rfl := dd15
                obtain rfl := dd20
                obtain rfl := dd24
                obtain hbR := id hR
                rw [if_pos (by rfl)]
                go_simp
                exact hK.out _ _ (Below.refl _ _) (rfl) (fun _ _ _ => ⟨trivial, trivial⟩)
              refine FlowAll.cons ?_ ?_
              · intro xF wz hR hd K hK
                have dd15 : ((xF 15) = .bool false) := hd 15 (by kernel_rfl)
                have dd25 : ((xF 25) = .bool false) := hd 25 (by kernel_rfl)
                clear hd
                simp only [← hAF, Act.put, List.setIfInBounds_toArray, List.set_cons_zero, List.set_cons_succ] at hK ⊢
                clear hAF
                try simp only [Nat.zero_add] at hK ⊢
                try simp only [Nat.reduceAdd] at hK ⊢
                try generalize xF 15 = yy15 at *
                try generalize xF 25 = yy25 at *
                obtain rfl := dd15
                obtain rfl := dd25
                obtain hbR := id hR
                rw [if_pos (by rfl)]
                go_simp
                exact hK.out _ _ (Below.refl _ _) (rfl) (fun _ _ _ => ⟨trivial, trivial⟩)
              exact FlowAll.nil
            intro xF wz hR hF hP
            clear hP
            have dd0 : ((xF 0) = .agg #[.int .u64 (x.or y).a, .int .u64 (x.or y).b, .int .u64 (x.or y).c, .int .u64 (x.or y).d]) := hF 0 (by omega) (by decide)
            have dd1 : ((xF 1) = .int .i64 (k : Int)) := hF 1 (by omega) (by decide)
            have dd2 : ((xF 2) = .int .u8 (k : Int)) := hF 2 (by omega) (by decide)
            have dd3 : ((xF 3) = .bool true) := hF 3 (by omega) (by decide)
            have dd4 : ((xF 4) = .agg #[.int .u64 x.a, .int .u64 x.b, .int .u64 x.c, .int .u64 x.d]) := hF 4 (by omega) (by decide)
            have dd5 : ((xF 5) = .int .i64 (k : Int)) := hF 5 (by omega) (by decide)
            have dd6 : ((xF 6) = .int .u8 (k : Int)) := hF 6 (by omega) (by decide)
            have dd7 : ((xF 7) = .bool false) := hF 7 (by omega) (by decide)
            have dd8 : ((xF 8) = .bool false) := hF 8 (by omega) (by decide)
            have dd9 : ((xF 9) = .agg #[.int .u64 y.a, .int .u64 y.b, .int .u64 y.c, .int .u64 y.d]) := hF 9 (by omega) (by decide)
            have dd10 : ((xF 10) = .int .i64 (k : Int)) := hF 10 (by omega) (by decide)
            have dd11 : ((xF 11) = .int .u8 (k : Int)) := hF 11 (by omega) (by decide)
            have dd12 : ((xF 12) = .bool true) := hF 12 (by omega) (by decide)
            have dd13 : ((xF 13) = .bool true) := hF 13 (by omega) (by decide)
            have dd14 : ((xF 14) = .bool false) := hF 14 (by omega) (by decide)
            have dd15 : ((xF 15) = .bool false) := hF 15 (by omega) (by decide)
            have dd16 : ((xF 16) = .int .u8 (c : Int)) := hF 16 (by omega) (by decide)
            have dd17 : ((xF 17) = .agg #[.int .u64 (Cls.one c).a, .int .u64 (Cls.one c).b, .int .u64 (Cls.one c).c, .int .u64 (Cls.one c).d]) := hF 17 (by omega) (by decide)
            have dd18 : ((xF 18) = .int .i64 (k : Int)) := hF 18 (by omega) (by decide)
            have dd19 : ((xF 19) = .int .u8 (k : Int)) := hF 19 (by omega) (by decide)
            have dd20 : ((xF 20) = .bool false) := hF 20 (by omega) (by decide)
            have dd21 : ((xF 21) = .int .i64 (k : Int)) := hF 21 (by omega) (by decide)
            have dd22 : ((xF 22) = .int .u8 (k : Int)) := hF 22 (by omega) (by decide)
            have dd23 : ((xF 23) = .int .u8 (c : Int)) := hF 23 (by omega) (by decide)
            have dd24 : ((xF 24) = .bool false) := hF 24 (by omega) (by decide)
            have dd25 : ((xF 25) = .bool false) := hF 25 (by omega) (by decide)
            have dd26 : ((xF 26) = .bool false) := hF 26 (by omega) (by decide)
            clear hF
            simp only [List.take_succ_cons, List.take_zero, List.drop_succ_cons, List.drop_zero, fillOf, Act.put, List.setIfInBounds_toArray, List.set_cons_zero, List.set_cons_succ, Nat.reduceAdd, Nat.zero_add]
            try generalize xF 0 = yy0 at *
            try generalize xF 1 = yy1 at *
            try generalize xF 2 = yy2 at *
            try generalize xF 3 = yy3 at *
            try generalize xF 4 = yy4 at *
            try generalize xF 5 = yy5 at *
            try generalize xF 6 = yy6 at *
            try generalize xF 7 = yy7 at *
            try generalize xF 8 = yy8 at *
            try generalize xF 9 = yy9 at *
            try generalize xF 10 = yy10 at *
            try generalize xF 11 = yy11 at *
            try generalize xF 12 = yy12 at *
            try generalize xF 13 = yy13 at *
            try generalize xF 14 = yy14 at *
            try generalize xF 15 = yy15 at *
            try generalize xF 16 = yy16 at *
            try generalize xF 17 = yy17 at *
            try generalize xF 18 = yy18 at *
            try generalize xF 19 = yy19 at *
            try generalize xF 20 = yy20 at *
            try generalize xF 21 = yy21 at *
            try generalize xF 22 = yy22 at *
            try generalize xF 23 = yy23 at *
            try generalize xF 24 = yy24 at *
            try generalize xF 25 = yy25 at *
            try generalize xF 26 = yy26 at *
            clear xF
            obtain rfl := dd0
            obtain rfl := dd1
            obtain rfl := dd2
            obtain rfl := dd3
            obtain rfl := dd4
            obtain rfl := dd5
            obtain rfl := dd6
            obtain rfl := dd7
            obtain rfl := dd8
            obtain rfl := dd9
            obtain rfl := dd10
            obtain rfl := dd11
            obtain rfl := dd12
            obtain rfl := dd13
            obtain rfl := dd14
            obtain rfl := dd15
            obtain rfl := dd16
            obtain rfl := dd17
            obtain rfl := dd18
            obtain rfl := dd19
            obtain rfl := dd20
            obtain rfl := dd21
            obtain rfl := dd22
            obtain rfl := dd23
            obtain rfl := dd24
            obtain rfl := dd25
            obtain rfl := dd26
            have hRE := Lib.hid hR
            clear hR
            go_wp2
            go_roundw
            case rel => exact ⟨k + 1, by go_num, by have := HLT.out; omega, hRE.out⟩
            case measure => simp [intOf]; have := HLT.out; omega
          | false =>
            have HI1 : Hid (∀ W, Calls Try.prog 12 #[.agg #[.int .u64 x.a, .int .u64 x.b, .int .u64 x.c, .int .u64 x.d], .int .u8 (k : Int)] W (fun e w' => e = .returned (.bool false) ∧ Below W.heap.size W w')) := fun W => by have h := HIA.out x k W OX.out HLT.out; rw [hpx] at h; exact h
            have HI2 : Hid (∀ W, Calls Try.prog 12 #[.agg #[.int .u64 y.a, .int .u64 y.b, .int .u64 y.c, .int .u64 y.d], .int .u8 (k : Int)] W (fun e w' => e = .returned (.bool false) ∧ Below W.heap.size W w')) := fun W => by have h := HIA.out y k W OY.out HLT.out; rw [hpy] at h; exact h
            have HU : Hid (∀ W, Calls Try.prog 12 #[.agg #[.int .u64 (x.or y).a, .int .u64 (x.or y).b, .int .u64 (x.or y).c, .int .u64 (x.or y).d], .int .u8 (k : Int)] W (fun e w' => e = .returned (.bool false) ∧ Below W.heap.size W w')) := fun W => by have h := HIA.out (x.or y) k W HOO.out HLT.out; rw [HOR.out, hpx, hpy] at h; exact h
            clear hpx hpy hkc hlt hk
            go_wp2
            refine wp_flow 27 (fun _ => 1000) (fun ww => Below W2.heap.size W2 ww) (fun _ w w' => (fun (w w' : World) => RowKit.Below w.heap.size w w') w w') (fun kF vF wF => match kF with | 0 => (vF = .agg #[.int .u64 (x.or y).a, .int .u64 (x.or y).b, .int .u64 (x.or y).c, .int .u64 (x.or y).d]) | 1 => (vF = .int .i64 (k : Int)) | 2 => (vF = .int .u8 (k : Int)) | 3 => (vF = .bool false) | 4 => (vF = .agg #[.int .u64 x.a, .int .u64 x.b, .int .u64 x.c, .int .u64 x.d]) | 5 => (vF = .int .i64 (k : Int)) | 6 => (vF = .int .u8 (k : Int)) | 7 => (vF = .bool false) | 8 => (vF = .bool false) | 9 => (vF = .agg #[.int .u64 y.a, .int .u64 y.b, .int .u64 y.c, .int .u64 y.d]) | 10 => (vF = .int .i64 (k : Int)) | 11 => (vF = .int .u8 (k : Int)) | 12 => (vF = .bool false) | 13 => (vF = .bool false) | 14 => (vF = .bool false) | 15 => (vF = .bool false) | 16 => (vF = .int .u8 (c : Int)) | 17 => (vF = .agg #[.int .u64 (Cls.one c).a, .int .u64 (Cls.one c).b, .int .u64 (Cls.one c).c, .int .u64 (Cls.one c).d]) | 18 => (vF = .int .i64 (k : Int)) | 19 => (vF = .int .u8 (k : Int)) | 20 => (vF = .bool false) | 21 => (vF = .int .i64 (k : Int)) | 22 => (vF = .int .u8 (k : Int)) | 23 => (vF = .int .u8 (c : Int)) | 24 => (vF = .bool false) | 25 => (vF = .bool false) | 26 => (vF = .bool false) | _ => True) (fun _ _ _ _ => True) (by kernel_rfl) (by kernel_rfl) ?_ ?_ ?_ ?_ ?_
            · exact HB.out.drew
            · intro iF wF1 wF2 hR hT; exact hR.trans (Below.mono hT (Below.size hR))
            · intro kF hkF iF hiF hne hdd hanc hdan vF wF1 wF2 h hT
              rcases (by omega : kF = 0 ∨ kF = 1 ∨ kF = 2 ∨ kF = 3 ∨ kF = 4 ∨ kF = 5 ∨ kF = 6 ∨ kF = 7 ∨ kF = 8 ∨ kF = 9 ∨ kF = 10 ∨ kF = 11 ∨ kF = 12 ∨ kF = 13 ∨ kF = 14 ∨ kF = 15 ∨ kF = 16 ∨ kF = 17 ∨ kF = 18 ∨ kF = 19 ∨ kF = 20 ∨ kF = 21 ∨ kF = 22 ∨ kF = 23 ∨ kF = 24 ∨ kF = 25 ∨ kF = 26) with rfl | rfl | rfl | rfl | rfl | rfl | rfl | rfl | rfl | rfl | rfl | rfl | rfl | rfl | rfl | rfl | rfl | rfl | rfl | rfl | rfl | rfl | rfl | rfl | rfl | rfl | rfl
              · exact h
              · exact h
              · exact h
              · exact h
              · exact h
              · exact h
              · exact h
              · exact h
              · exact h
              · exact h
              · exact h
              · exact h
              · exact h
              · exact h
              · exact h
              · exact h
              · exact h
              · exact h
              · exact h
              · exact h
              · exact h
              · exact h
              · exact h
              · exact h
              · exact h
              · exact h
              · exact h
            · generalize hAF : fillOf _ _ _ = AF
              replace hAF := fun x => congrFun hAF x
              simp only [List.take_succ_cons, List.take_zero, fillOf, Act.put, List.setIfInBounds_toArray, List.set_cons_zero, List.set_cons_succ, Nat.reduceAdd, Nat.zero_add] at hAF
              refine FlowAll.cons ?_ ?_
              · intro xF wz hR hd K hK
                clear hd
                simp only [← hAF, Act.put, List.setIfInBounds_toArray, List.set_cons_zero, List.set_cons_succ] at hK ⊢
                clear hAF
                try simp only [Nat.zero_add] at hK ⊢
                try simp only [Nat.reduceAdd] at hK ⊢
                obtain hbR := id hR
                have hxa := (hbR.block _ (lt_of_block X2.out)).trans X2.out
                have c90 := boxc hxa 0 _ rfl
                have c91 := boxc hxa 1 _ rfl
                have c92 := boxc hxa 2 _ rfl
                have c93 := boxc hxa 3 _ rfl
                clear hxa
                rw [if_pos (by rfl)]
                go_simp
                exact hK.out _ _ (Below.refl _ _) (rfl) (fun _ _ _ => ⟨trivial, trivial⟩)
              refine FlowAll.cons ?_ ?_
              · intro xF wz hR hd K hK
                clear hd
                simp only [← hAF, Act.put, List.setIfInBounds_toArray, List.set_cons_zero, List.set_cons_succ] at hK ⊢
                clear hAF
                try simp only [Nat.zero_add] at hK ⊢
                try simp only [Nat.reduceAdd] at hK ⊢
                obtain hbR := id hR
                rw [if_pos (by rfl)]
                go_simp
                exact hK.out _ _ (Below.refl _ _) (rfl) (fun _ _ _ => ⟨trivial, trivial⟩)
              refine FlowAll.cons ?_ ?_
              · intro xF wz hR hd K hK
                have dd1 : ((xF 1) = .int .i64 (k : Int)) := hd 1 (by kernel_rfl)
                clear hd
                simp only [← hAF, Act.put, List.setIfInBounds_toArray, List.set_cons_zero, List.set_cons_succ] at hK ⊢
                clear hAF
                try simp only [Nat.zero_add] at hK ⊢
                try simp only [Nat.reduceAdd] at hK ⊢
                try generalize xF 1 = yy1 at *
                obtain rfl := dd1
                obtain hbR := id hR
                rw [if_pos (by rfl)]
                go_simp
                exact hK.out _ _ (Below.refl _ _) (rfl) (fun _ _ _ => ⟨trivial, trivial⟩)
              refine FlowAll.cons ?_ ?_
              · intro xF wz hR hd K hK
                have dd0 : ((xF 0) = .agg #[.int .u64 (x.or y).a, .int .u64 (x.or y).b, .int .u64 (x.or y).c, .int .u64 (x.or y).d]) := hd 0 (by kernel_rfl)
                have dd2 : ((xF 2) = .int .u8 (k : Int)) := hd 2 (by kernel_rfl)
                clear hd
                simp only [← hAF, Act.put, List.setIfInBounds_toArray, List.set_cons_zero, List.set_cons_succ] at hK ⊢
                clear hAF
                try simp only [Nat.zero_add] at hK ⊢
                try simp only [Nat.reduceAdd] at hK ⊢
                try generalize xF 0 = yy0 at *
                try generalize xF 2 = yy2 at *
                obtain rfl := dd0
                obtain rfl := dd2
                obtain hbR := id hR
                rw [if_pos (by rfl)]
                go_simp
                (go_at_call 12; (with_reducible refine (HU.out _).mono ?_); rintro e wK ⟨rfl, hbK⟩)
                try go_wp2_with fail
                exact hK.out _ _ (hbK) (rfl) (fun _ _ _ => ⟨trivial, trivial⟩)
              refine FlowAll.cons ?_ ?_
              · intro xF wz hR hd K hK
                clear hd
                simp only [← hAF, Act.put, List.setIfInBounds_toArray, List.set_cons_zero, List.set_cons_succ] at hK ⊢
                clear hAF
                try simp only [Nat.zero_add] at hK ⊢
                try simp only [Nat.reduceAdd] at hK ⊢
                obtain hbR := id hR
                have hxa := (hbR.block _ (lt_of_block X0.out)).trans X0.out
                have c90 := boxc hxa 0 _ rfl
                have c91 := boxc hxa 1 _ rfl
                have c92 := boxc hxa 2 _ rfl
                have c93 := boxc hxa 3 _ rfl
                clear hxa
                rw [if_pos (by rfl)]
                go_simp
                exact hK.out _ _ (Below.refl _ _) (rfl) (fun _ _ _ => ⟨trivial, trivial⟩)
              refine FlowAll.cons ?_ ?_
              · intro xF wz hR hd K hK
                clear hd
                simp only [← hAF, Act.put, List.setIfInBounds_toArray, List.set_cons_zero, List.set_cons_succ] at hK ⊢
                clear hAF
                try simp only [Nat.zero_add] at hK ⊢
                try simp only [Nat.reduceAdd] at hK ⊢
                obtain hbR := id hR
                rw [if_pos (by rfl)]
                go_simp
                exact hK.out _ _ (Below.refl _ _) (rfl) (fun _ _ _ => ⟨trivial, trivial⟩)
              refine FlowAll.cons ?_ ?_
              · intro xF wz hR hd K hK
                have dd5 : ((xF 5) = .int .i64 (k : Int)) := hd 5 (by kernel_rfl)
                clear hd
                simp only [← hAF, Act.put, List.setIfInBounds_toArray, List.set_cons_zero, List.set_cons_succ] at hK ⊢
                clear hAF
                try simp only [Nat.zero_add] at hK ⊢
                try simp only [Nat.reduceAdd] at hK ⊢
                try generalize xF 5 = yy5 at *
                obtain rfl := dd5
                obtain hbR := id hR
                rw [if_pos (by rfl)]
                go_simp
                exact hK.out _ _ (Below.refl _ _) (rfl) (fun _ _ _ => ⟨trivial, trivial⟩)
              refine FlowAll.cons ?_ ?_
              · intro xF wz hR hd K hK
                have dd4 : ((xF 4) = .agg #[.int .u64 x.a, .int .u64 x.b, .int .u64 x.c, .int .u64 x.d]) := hd 4 (by kernel_rfl)
                have dd6 : ((xF 6) = .int .u8 (k : Int)) := hd 6 (by kernel_rfl)
                clear hd
                simp only [← hAF, Act.put, List.setIfInBounds_toArray, List.set_cons_zero, List.set_cons_succ] at hK ⊢
                clear hAF
                try simp only [Nat.zero_add] at hK ⊢
                try simp only [Nat.reduceAdd] at hK ⊢
                try generalize xF 4 = yy4 at *
                try generalize xF 6 = yy6 at *
                obtain rfl := dd4
                obtain rfl := dd6
                obtain hbR := id hR
                rw [if_pos (by rfl)]
                go_simp
                (go_at_call 12; (with_reducible refine (HI1.out _).mono ?_); rintro e wK ⟨rfl, hbK⟩)
                try go_wp2_with fail
                exact hK.out _ _ (hbK) (rfl) (fun _ _ _ => ⟨trivial, trivial⟩)
              refine FlowAll.cons ?_ ?_
              · intro xF wz hR hd K hK
                have dd7 : ((xF 7) = .bool false) := hd 7 (by kernel_rfl)
                clear hd
                simp only [← hAF, Act.put, List.setIfInBounds_toArray, List.set_cons_zero, List.set_cons_succ] at hK ⊢
                clear hAF
                try simp only [Nat.zero_add] at hK ⊢
                try simp only [Nat.reduceAdd] at hK ⊢
                try generalize xF 7 = yy7 at *
                obtain rfl := dd7
                obtain hbR := id hR
                rw [if_pos (by rfl)]
                go_simp
                exact hK.out _ _ (Below.refl _ _) (rfl) (fun _ _ _ => ⟨trivial, trivial⟩)
              refine FlowAll.cons ?_ ?_
              · intro xF wz hR hd K hK
                have dd8 : ((xF 8) = .bool false) := hd 8 (by kernel_rfl)
                clear hd
                simp only [← hAF, Act.put, List.setIfInBounds_toArray, List.set_cons_zero, List.set_cons_succ] at hK ⊢
                clear hAF
                try simp only [Nat.zero_add] at hK ⊢
                try simp only [Nat.reduceAdd] at hK ⊢
                try generalize xF 8 = yy8 at *
                obtain rfl := dd8
                obtain hbR := id hR
                have hxa := (hbR.block _ (lt_of_block X1.out)).trans X1.out
                have c90 := boxc hxa 0 _ rfl
                have c91 := boxc hxa 1 _ rfl
                have c92 := boxc hxa 2 _ rfl
                have c93 := boxc hxa 3 _ rfl
                clear hxa
                rw [if_pos (by rfl)]
                go_simp
                exact hK.out _ _ (Below.refl _ _) (rfl) (fun _ _ _ => ⟨trivial, trivial⟩)
              refine FlowAll.cons ?_ ?_
              · intro xF wz hR hd K hK
                have dd8 : ((xF 8) = .bool false) := hd 8 (by kernel_rfl)
                clear hd
                simp only [← hAF, Act.put, List.setIfInBounds_toArray, List.set_cons_zero, List.set_cons_succ] at hK ⊢
                clear hAF
                try simp only [Nat.zero_add] at hK ⊢
                try simp only [Nat.reduceAdd] at hK ⊢
                try generalize xF 8 = yy8 at *
                obtain rfl := dd8
                obtain hbR := id hR
                rw [if_pos (by rfl)]
                go_simp
                exact hK.out _ _ (Below.refl _ _) (rfl) (fun _ _ _ => ⟨trivial, trivial⟩)
              refine FlowAll.cons ?_ ?_
              · intro xF wz hR hd K hK
                have dd8 : ((xF 8) = .bool false) := hd 8 (by kernel_rfl)
                have dd10 : ((xF 10) = .int .i64 (k : Int)) := hd 10 (by kernel_rfl)
                clear hd
                simp only [← hAF, Act.put, List.setIfInBounds_toArray, List.set_cons_zero, List.set_cons_succ] at hK ⊢
                clear hAF
                try simp only [Nat.zero_add] at hK ⊢
                try simp only [Nat.reduceAdd] at hK ⊢
                try generalize xF 8 = yy8 at *
                try generalize xF 10 = yy10 at *
                obtain rfl := dd8
                obtain rfl := dd10
                obtain hbR := id hR
                rw [if_pos (by rfl)]
                go_simp
                exact hK.out _ _ (Below.refl _ _) (rfl) (fun _ _ _ => ⟨trivial, trivial⟩)
              refine FlowAll.cons ?_ ?_
              · intro xF wz hR hd K hK
                have dd8 : ((xF 8) = .bool false) := hd 8 (by kernel_rfl)
                have dd9 : ((xF 9) = .agg #[.int .u64 y.a, .int .u64 y.b, .int .u64 y.c, .int .u64 y.d]) := hd 9 (by kernel_rfl)
                have dd11 : ((xF 11) = .int .u8 (k : Int)) := hd 11 (by kernel_rfl)
                clear hd
                simp only [← hAF, Act.put, List.setIfInBounds_toArray, List.set_cons_zero, List.set_cons_succ] at hK ⊢
                clear hAF
                try simp only [Nat.zero_add] at hK ⊢
                try simp only [Nat.reduceAdd] at hK ⊢
                try generalize xF 8 = yy8 at *
                try generalize xF 9 = yy9 at *
                try generalize xF 11 = yy11 at *
                obtain rfl := dd8
                obtain rfl := dd9
                obtain rfl := dd11
                obtain hbR := id hR
                rw [if_pos (by rfl)]
                go_simp
                (go_at_call 12; (with_reducible refine (HI2.out _).mono ?_); rintro e wK ⟨rfl, hbK⟩)
                try go_wp2_with fail
                exact hK.out _ _ (hbK) (rfl) (fun _ _ _ => ⟨trivial, trivial⟩)
              refine FlowAll.cons ?_ ?_
              · intro xF wz hR hd K hK
                have dd8 : ((xF 8) = .bool false) := hd 8 (by kernel_rfl)
                have dd12 : ((xF 12) = .bool false) := hd 12 (by kernel_rfl)
                clear hd
                simp only [← hAF, Act.put, List.setIfInBounds_toArray, List.set_cons_zero, List.set_cons_succ] at hK ⊢
                clear hAF
                try simp only [Nat.zero_add] at hK ⊢
                try simp only [Nat.reduceAdd] at hK ⊢
                try generalize xF 8 = yy8 at *
                try generalize xF 12 = yy12 at *
                obtain rfl := dd8
                obtain rfl := dd12
                obtain hbR := id hR
                rw [if_pos (by rfl)]
                go_simp
                exact hK.out _ _ (Below.refl _ _) (rfl) (fun _ _ _ => ⟨trivial, trivial⟩)
              refine FlowAll.cons ?_ ?_
              · intro xF wz hR hd K hK
                have dd3 : ((xF 3) = .bool false) := hd 3 (by kernel_rfl)
                have dd13 : ((xF 13) = .bool false) := hd 13 (by kernel_rfl)
                clear hd
                simp only [← hAF, Act.put, List.setIfInBounds_toArray, List.set_cons_zero, List.set_cons_succ] at hK ⊢
                clear hAF
                try simp only [Nat.zero_add] at hK ⊢
                try simp only [Nat.reduceAdd] at hK ⊢
                try generalize xF 3 = yy3 at *
                try generalize xF 13 = yy13 at *
                obtain rfl := dd3
                obtain rfl := dd13
                obtain hbR := id hR
                rw [if_pos (by rfl)]
                go_simp
                exact hK.out _ _ (Below.refl _ _) (rfl) (fun _ _ _ => ⟨trivial, trivial⟩)
              refine FlowAll.cons ?_ ?_
              · intro xF wz hR hd K hK
                have dd14 : ((xF 14) = .bool false) := hd 14 (by kernel_rfl)
                clear hd
                simp only [← hAF, Act.put, List.setIfInBounds_toArray, List.set_cons_zero, List.set_cons_succ] at hK ⊢
                clear hAF
                try simp only [Nat.zero_add] at hK ⊢
                try simp only [Nat.reduceAdd] at hK ⊢
                try generalize xF 14 = yy14 at *
                obtain rfl := dd14
                obtain hbR := id hR
                rw [if_pos (by rfl)]
                go_simp
                exact hK.out _ _ (Below.refl _ _) (rfl) (fun _ _ _ => ⟨trivial, trivial⟩)
              refine FlowAll.cons ?_ ?_
              · intro xF wz hR hd K hK
                have dd15 : ((xF 15) = .bool false) := hd 15 (by kernel_rfl)
                clear hd
                simp only [← hAF, Act.put, List.setIfInBounds_toArray, List.set_cons_zero, List.set_cons_succ] at hK ⊢
                clear hAF
                try simp only [Nat.zero_add] at hK ⊢
                try simp only [Nat.reduceAdd] at hK ⊢
                try generalize xF 15 = yy15 at *
                obtain rfl := dd15
                obtain hbR := id hR
                rw [if_pos (by rfl)]
                go_simp
                exact hK.out _ _ (Below.refl _ _) (rfl) (fun _ _ _ => ⟨trivial, trivial⟩)
              refine FlowAll.cons ?_ ?_
              · intro xF wz hR hd K hK
                have dd15 : ((xF 15) = .bool false) := hd 15 (by kernel_rfl)
                have dd16 : ((xF 16) = .int .u8 (c : Int)) := hd 16 (by kernel_rfl)
                clear hd
                simp only [← hAF, Act.put, List.setIfInBounds_toArray, List.set_cons_zero, List.set_cons_succ] at hK ⊢
                clear hAF
                try simp only [Nat.zero_add] at hK ⊢
                try simp only [Nat.reduceAdd] at hK ⊢
                try generalize xF 15 = yy15 at *
                try generalize xF 16 = yy16 at *
                obtain rfl := dd15
                obtain rfl := dd16
                obtain hbR := id hR
                rw [if_pos (by rfl)]
                go_simp
                (go_at_call 13; (with_reducible refine (HS.out _).mono ?_); rintro e wK ⟨rfl, hbK⟩)
                try go_wp2_with fail
                exact hK.out _ _ (hbK) (rfl) (fun _ _ _ => ⟨trivial, trivial⟩)
              refine FlowAll.cons ?_ ?_
              · intro xF wz hR hd K hK
                have dd15 : ((xF 15) = .bool false) := hd 15 (by kernel_rfl)
                clear hd
                simp only [← hAF, Act.put, List.setIfInBounds_toArray, List.set_cons_zero, List.set_cons_succ] at hK ⊢
                clear hAF
                try simp only [Nat.zero_add] at hK ⊢
                try simp only [Nat.reduceAdd] at hK ⊢
                try generalize xF 15 = yy15 at *
                obtain rfl := dd15
                obtain hbR := id hR
                rw [if_pos (by rfl)]
                go_simp
                exact hK.out _ _ (Below.refl _ _) (rfl) (fun _ _ _ => ⟨trivial, trivial⟩)
              refine FlowAll.cons ?_ ?_
              · intro xF wz hR hd K hK
                have dd15 : ((xF 15) = .bool false) := hd 15 (by kernel_rfl)
                have dd18 : ((xF 18) = .int .i64 (k : Int)) := hd 18 (by kernel_rfl)
                clear hd
                simp only [← hAF, Act.put, List.setIfInBounds_toArray, List.set_cons_zero, List.set_cons_succ] at hK ⊢
                clear hAF
                try simp only [Nat.zero_add] at hK ⊢
                try simp only [Nat.reduceAdd] at hK ⊢
                try generalize xF 15 = yy15 at *
                try generalize xF 18 = yy18 at *
                obtain rfl := dd15
                obtain rfl := dd18
                obtain hbR := id hR
                rw [if_pos (by rfl)]
                go_simp
                exact hK.out _ _ (Below.refl _ _) (rfl) (fun _ _ _ => ⟨trivial, trivial⟩)
              refine FlowAll.cons ?_ ?_
              · intro xF wz hR hd K hK
                have dd15 : ((xF 15) = .bool false) := hd 15 (by kernel_rfl)
                have dd17 : ((xF 17) = .agg #[.int .u64 (Cls.one c).a, .int .u64 (Cls.one c).b, .int .u64 (Cls.one c).c, .int .u64 (Cls.one c).d]) := hd 17 (by kernel_rfl)
                have dd19 : ((xF 19) = .int .u8 (k : Int)) := hd 19 (by kernel_rfl)
                clear hd
                simp only [← hAF, Act.put, List.setIfInBounds_toArray, List.set_cons_zero, List.set_cons_succ] at hK ⊢
                clear hAF
                try simp only [Nat.zero_add] at hK ⊢
                try simp only [Nat.reduceAdd] at hK ⊢
                try generalize xF 15 = yy15 at *
                try generalize xF 17 = yy17 at *
                try generalize xF 19 = yy19 at *
                obtain rfl := dd15
                obtain rfl := dd17
                obtain rfl := dd19
                obtain hbR := id hR
                rw [if_pos (by rfl)]
                go_simp
                (go_at_call 12; (with_reducible refine (HI3.out _).mono ?_); rintro e wK ⟨rfl, hbK⟩)
                try go_wp2_with fail
                exact hK.out _ _ (hbK) (rfl) (fun _ _ _ => ⟨trivial, trivial⟩)
              refine FlowAll.cons ?_ ?_
              · intro xF wz hR hd K hK
                have dd15 : ((xF 15) = .bool false) := hd 15 (by kernel_rfl)
                clear hd
                simp only [← hAF, Act.put, List.setIfInBounds_toArray, List.set_cons_zero, List.set_cons_succ] at hK ⊢
                clear hAF
                try simp only [Nat.zero_add] at hK ⊢
                try simp only [Nat.reduceAdd] at hK ⊢
                try generalize xF 15 = yy15 at *
                obtain rfl := dd15
                obtain hbR := id hR
                rw [if_pos (by rfl)]
                go_simp
                exact hK.out _ _ (Below.refl _ _) (rfl) (fun _ _ _ => ⟨trivial, trivial⟩)
              refine FlowAll.cons ?_ ?_
              · intro xF wz hR hd K hK
                have dd15 : ((xF 15) = .bool false) := hd 15 (by kernel_rfl)
                have dd21 : ((xF 21) = .int .i64 (k : Int)) := hd 21 (by kernel_rfl)
                clear hd
                simp only [← hAF, Act.put, List.setIfInBounds_toArray, List.set_cons_zero, List.set_cons_succ] at hK ⊢
                clear hAF
                try simp only [Nat.zero_add] at hK ⊢
                try simp only [Nat.reduceAdd] at hK ⊢
                try generalize xF 15 = yy15 at *
                try generalize xF 21 = yy21 at *
                obtain rfl := dd15
                obtain rfl := dd21
                obtain hbR := id hR
                rw [if_pos (by rfl)]
                go_simp
                exact hK.out _ _ (Below.refl _ _) (rfl) (fun _ _ _ => ⟨trivial, trivial⟩)
              refine FlowAll.cons ?_ ?_
              · intro xF wz hR hd K hK
                have dd15 : ((xF 15) = .bool false) := hd 15 (by kernel_rfl)
                clear hd
                simp only [← hAF, Act.put, List.setIfInBounds_toArray, List.set_cons_zero, List.set_cons_succ] at hK ⊢
                clear hAF
                try simp only [Nat.zero_add] at hK ⊢
                try simp only [Nat.reduceAdd] at hK ⊢
                try generalize xF 15 = yy15 at *
                obtain rfl := dd15
                obtain hbR := id hR
                rw [if_pos (by rfl)]
                go_simp
                exact hK.out _ _ (Below.refl _ _) (rfl) (fun _ _ _ => ⟨trivial, trivial⟩)
              refine FlowAll.cons ?_ ?_
              · intro xF wz hR hd K hK
                have dd15 : ((xF 15) = .bool false) := hd 15 (by kernel_rfl)
                have dd22 : ((xF 22) = .int .u8 (k : Int)) := hd 22 (by kernel_rfl)
                have dd23 : ((xF 23) = .int .u8 (c : Int)) := hd 23 (by kernel_rfl)
                clear hd
                simp only [← hAF, Act.put, List.setIfInBounds_toArray, List.set_cons_zero, List.set_cons_succ] at hK ⊢
                clear hAF
                try simp only [Nat.zero_add] at hK ⊢
                try simp only [Nat.reduceAdd] at hK ⊢
                try generalize xF 15 = yy15 at *
                try generalize xF 22 = yy22 at *
                try generalize xF 23 = yy23 at *
                obtain rfl := dd15
                obtain rfl := dd22
                obtain rfl := dd23
                obtain hbR := id hR
                have hee := HEE.out
                have hef := HEF.out
                rw [if_pos (by rfl)]
                go_simp
                exact hK.out _ _ (Below.refl _ _) (rfl) (fun _ _ _ => ⟨trivial, trivial⟩)
              refine FlowAll.cons ?_ ?_
              · intro xF wz hR hd K hK
                have dd15 : ((xF 15) = .bool false) := hd 15 (by kernel_rfl)
                have dd20 : ((xF 20) = .bool false) := hd 20 (by kernel_rfl)
                have dd24 : ((xF 24) = .bool false) := hd 24 (by kernel_rfl)
                clear hd
                simp only [← hAF, Act.put, List.setIfInBounds_toArray, List.set_cons_zero, List.set_cons_succ] at hK ⊢
                clear hAF
                try simp only [Nat.zero_add] at hK ⊢
                try simp only [Nat.reduceAdd] at hK ⊢
                try generalize xF 15 = yy15 at *
                try generalize xF 20 = yy20 at *
                try generalize xF 24 = yy24 at *
                obtain rfl := dd15
                obtain rfl := dd20
                obtain rfl := dd24
                obtain hbR := id hR
                rw [if_pos (by rfl)]
                go_simp
                exact hK.out _ _ (Below.refl _ _) (rfl) (fun _ _ _ => ⟨trivial, trivial⟩)
              refine FlowAll.cons ?_ ?_
              · intro xF wz hR hd K hK
                have dd15 : ((xF 15) = .bool false) := hd 15 (by kernel_rfl)
                have dd25 : ((xF 25) = .bool false) := hd 25 (by kernel_rfl)
                clear hd
                simp only [← hAF, Act.put, List.setIfInBounds_toArray, List.set_cons_zero, List.set_cons_succ] at hK ⊢
                clear hAF
                try simp only [Nat.zero_add] at hK ⊢
                try simp only [Nat.reduceAdd] at hK ⊢
                try generalize xF 15 = yy15 at *
                try generalize xF 25 = yy25 at *
                obtain rfl := dd15
                obtain rfl := dd25
                obtain hbR := id hR
                rw [if_pos (by rfl)]
                go_simp
                exact hK.out _ _ (Below.refl _ _) (rfl) (fun _ _ _ => ⟨trivial, trivial⟩)
              exact FlowAll.nil
            intro xF wz hR hF hP
            clear hP
            have dd0 : ((xF 0) = .agg #[.int .u64 (x.or y).a, .int .u64 (x.or y).b, .int .u64 (x.or y).c, .int .u64 (x.or y).d]) := hF 0 (by omega) (by decide)
            have dd1 : ((xF 1) = .int .i64 (k : Int)) := hF 1 (by omega) (by decide)
            have dd2 : ((xF 2) = .int .u8 (k : Int)) := hF 2 (by omega) (by decide)
            have dd3 : ((xF 3) = .bool false) := hF 3 (by omega) (by decide)
            have dd4 : ((xF 4) = .agg #[.int .u64 x.a, .int .u64 x.b, .int .u64 x.c, .int .u64 x.d]) := hF 4 (by omega) (by decide)
            have dd5 : ((xF 5) = .int .i64 (k : Int)) := hF 5 (by omega) (by decide)
            have dd6 : ((xF 6) = .int .u8 (k : Int)) := hF 6 (by omega) (by decide)
            have dd7 : ((xF 7) = .bool false) := hF 7 (by omega) (by decide)
            have dd8 : ((xF 8) = .bool false) := hF 8 (by omega) (by decide)
            have dd9 : ((xF 9) = .agg #[.int .u64 y.a, .int .u64 y.b, .int .u64 y.c, .int .u64 y.d]) := hF 9 (by omega) (by decide)
            have dd10 : ((xF 10) = .int .i64 (k : Int)) := hF 10 (by omega) (by decide)
            have dd11 : ((xF 11) = .int .u8 (k : Int)) := hF 11 (by omega) (by decide)
            have dd12 : ((xF 12) = .bool false) := hF 12 (by omega) (by decide)
            have dd13 : ((xF 13) = .bool false) := hF 13 (by omega) (by decide)
            have dd14 : ((xF 14) = .bool false) := hF 14 (by omega) (by decide)
            have dd15 : ((xF 15) = .bool false) := hF 15 (by omega) (by decide)
            have dd16 : ((xF 16) = .int .u8 (c : Int)) := hF 16 (by omega) (by decide)
            have dd17 : ((xF 17) = .agg #[.int .u64 (Cls.one c).a, .int .u64 (Cls.one c).b, .int .u64 (Cls.one c).c, .int .u64 (Cls.one c).d]) := hF 17 (by omega) (by decide)
            have dd18 : ((xF 18) = .int .i64 (k : Int)) := hF 18 (by omega) (by decide)
            have dd19 : ((xF 19) = .int .u8 (k : Int)) := hF 19 (by omega) (by decide)
            have dd20 : ((xF 20) = .bool false) := hF 20 (by omega) (by decide)
            have dd21 : ((xF 21) = .int .i64 (k : Int)) := hF 21 (by omega) (by decide)
            have dd22 : ((xF 22) = .int .u8 (k : Int)) := hF 22 (by omega) (by decide)
            have dd23 : ((xF 23) = .int .u8 (c : Int)) := hF 23 (by omega) (by decide)
            have dd24 : ((xF 24) = .bool false) := hF 24 (by omega) (by decide)
            have dd25 : ((xF 25) = .bool false) := hF 25 (by omega) (by decide)
            have dd26 : ((xF 26) = .bool false) := hF 26 (by omega) (by decide)
            clear hF
            simp only [List.take_succ_cons, List.take_zero, List.drop_succ_cons, List.drop_zero, fillOf, Act.put, List.setIfInBounds_toArray, List.set_cons_zero, List.set_cons_succ, Nat.reduceAdd, Nat.zero_add]
            try generalize xF 0 = yy0 at *
            try generalize xF 1 = yy1 at *
            try generalize xF 2 = yy2 at *
            try generalize xF 3 = yy3 at *
            try generalize xF 4 = yy4 at *
            try generalize xF 5 = yy5 at *
            try generalize xF 6 = yy6 at *
            try generalize xF 7 = yy7 at *
            try generalize xF 8 = yy8 at *
            try generalize xF 9 = yy9 at *
            try generalize xF 10 = yy10 at *
            try generalize xF 11 = yy11 at *
            try generalize xF 12 = yy12 at *
            try generalize xF 13 = yy13 at *
            try generalize xF 14 = yy14 at *
            try generalize xF 15 = yy15 at *
            try generalize xF 16 = yy16 at *
            try generalize xF 17 = yy17 at *
            try generalize xF 18 = yy18 at *
            try generalize xF 19 = yy19 at *
            try generalize xF 20 = yy20 at *
            try generalize xF 21 = yy21 at *
            try generalize xF 22 = yy22 at *
            try generalize xF 23 = yy23 at *
            try generalize xF 24 = yy24 at *
            try generalize xF 25 = yy25 at *
            try generalize xF 26 = yy26 at *
            clear xF
            obtain rfl := dd0
            obtain rfl := dd1
            obtain rfl := dd2
            obtain rfl := dd3
            obtain rfl := dd4
            obtain rfl := dd5
            obtain rfl := dd6
            obtain rfl := dd7
            obtain rfl := dd8
            obtain rfl := dd9
            obtain rfl := dd10
            obtain rfl := dd11
            obtain rfl := dd12
            obtain rfl := dd13
            obtain rfl := dd14
            obtain rfl := dd15
            obtain rfl := dd16
            obtain rfl := dd17
            obtain rfl := dd18
            obtain rfl := dd19
            obtain rfl := dd20
            obtain rfl := dd21
            obtain rfl := dd22
            obtain rfl := dd23
            obtain rfl := dd24
            obtain rfl := dd25
            obtain rfl := dd26
            have hRE := Lib.hid hR
            clear hR
            go_wp2
            go_roundw
            case rel => exact ⟨k + 1, by go_num, by have := HLT.out; omega, hRE.out⟩
            case measure => simp [intOf]; have := HLT.out; omega
    · obtain rfl : k = 256 := by omega
      clear hlt hk
      go_wp2
      refine wp_flow 18 (fun _ => 1000) (fun ww => Below W2.heap.size W2 ww) (fun _ w w' => (fun (w w' : World) => RowKit.Below w.heap.size w w') w w') (fun kF vF wF => match kF with | 0 => (vF = .agg #[.int .u64 x.a, .int .u64 x.b, .int .u64 x.c, .int .u64 x.d]) | 1 => (vF = .int .u8 (c : Int)) | 2 => (vF = .bool (x.has c)) | 3 => (vF = .agg #[.int .u64 x.a, .int .u64 x.b, .int .u64 x.c, .int .u64 x.d]) | 4 => (vF = .int .u8 (c : Int)) | 5 => (vF = .bool (x.has c)) | 6 => (vF = .bool true) | 7 => (vF = .bool true) | 8 => (vF = .agg #[.int .u64 (x.or y).a, .int .u64 (x.or y).b, .int .u64 (x.or y).c, .int .u64 (x.or y).d]) | 9 => (vF = .agg #[.int .u64 x.a, .int .u64 x.b, .int .u64 x.c, .int .u64 x.d]) | 10 => (vF = .agg #[.int .u64 y.a, .int .u64 y.b, .int .u64 y.c, .int .u64 y.d]) | 11 => (vF = .agg #[.int .u64 (x.or y).a, .int .u64 (x.or y).b, .int .u64 (x.or y).c, .int .u64 (x.or y).d]) | 12 => (vF = .bool true) | 13 => (vF = .bool true) | 14 => (vF = .bool true) | 15 => (vF = .bool true) | 16 => (vF = .bool true) | 17 => (vF = .bool true) | _ => True) (fun _ _ _ _ => True) (by kernel_rfl) (by kernel_rfl) ?_ ?_ ?_ ?_ ?_
      · exact HB.out.drew
      · intro iF wF1 wF2 hR hT; exact hR.trans (Below.mono hT (Below.size hR))
      · intro kF hkF iF hiF hne hdd hanc hdan vF wF1 wF2 h hT
        rcases (by omega : kF = 0 ∨ kF = 1 ∨ kF = 2 ∨ kF = 3 ∨ kF = 4 ∨ kF = 5 ∨ kF = 6 ∨ kF = 7 ∨ kF = 8 ∨ kF = 9 ∨ kF = 10 ∨ kF = 11 ∨ kF = 12 ∨ kF = 13 ∨ kF = 14 ∨ kF = 15 ∨ kF = 16 ∨ kF = 17) with rfl | rfl | rfl | rfl | rfl | rfl | rfl | rfl | rfl | rfl | rfl | rfl | rfl | rfl | rfl | rfl | rfl | rfl
        · exact h
        · exact h
        · exact h
        · exact h
        · exact h
        · exact h
        · exact h
        · exact h
        · exact h
        · exact h
        · exact h
        · exact h
        · exact h
        · exact h
        · exact h
        · exact h
        · exact h
        · exact h
      · generalize hAF : fillOf _ _ _ = AF
        replace hAF := fun x => congrFun hAF x
        simp only [List.take_succ_cons, List.take_zero, fillOf, Act.put, List.setIfInBounds_toArray, List.set_cons_zero, List.set_cons_succ, Nat.reduceAdd, Nat.zero_add] at hAF
        refine FlowAll.cons ?_ ?_
        · intro xF wz hR hd K hK
          clear hd
          simp only [← hAF, Act.put, List.setIfInBounds_toArray, List.set_cons_zero, List.set_cons_succ] at hK ⊢
          clear hAF
          try simp only [Nat.zero_add] at hK ⊢
          try simp only [Nat.reduceAdd] at hK ⊢
          obtain hbR := id hR
          have hxa := (hbR.block _ (lt_of_block X0.out)).trans X0.out
          have c90 := boxc hxa 0 _ rfl
          have c91 := boxc hxa 1 _ rfl
          have c92 := boxc hxa 2 _ rfl
          have c93 := boxc hxa 3 _ rfl
          clear hxa
          rw [if_pos (by rfl)]
          go_simp
          exact hK.out _ _ (Below.refl _ _) (rfl) (fun _ _ _ => ⟨trivial, trivial⟩)
        refine FlowAll.cons ?_ ?_
        · intro xF wz hR hd K hK
          clear hd
          simp only [← hAF, Act.put, List.setIfInBounds_toArray, List.set_cons_zero, List.set_cons_succ] at hK ⊢
          clear hAF
          try simp only [Nat.zero_add] at hK ⊢
          try simp only [Nat.reduceAdd] at hK ⊢
          obtain hbR := id hR
          rw [if_pos (by rfl)]
          go_simp
          exact hK.out _ _ (Below.refl _ _) (rfl) (fun _ _ _ => ⟨trivial, trivial⟩)
        refine FlowAll.cons ?_ ?_
        · intro xF wz hR hd K hK
          have dd0 : ((xF 0) = .agg #[.int .u64 x.a, .int .u64 x.b, .int .u64 x.c, .int .u64 x.d]) := hd 0 (by kernel_rfl)
          have dd1 : ((xF 1) = .int .u8 (c : Int)) := hd 1 (by kernel_rfl)
          clear hd
          simp only [← hAF, Act.put, List.setIfInBounds_toArray, List.set_cons_zero, List.set_cons_succ] at hK ⊢
          clear hAF
          try simp only [Nat.zero_add] at hK ⊢
          try simp only [Nat.reduceAdd] at hK ⊢
          try generalize xF 0 = yy0 at *
          try generalize xF 1 = yy1 at *
          obtain rfl := dd0
          obtain rfl := dd1
          obtain hbR := id hR
          rw [if_pos (by rfl)]
          go_simp
          (go_at_call 12; (with_reducible refine (HIC.out _).mono ?_); rintro e wK ⟨rfl, hbK⟩)
          try go_wp2_with fail
          exact hK.out _ _ (hbK) (rfl) (fun _ _ _ => ⟨trivial, trivial⟩)
        refine FlowAll.cons ?_ ?_
        · intro xF wz hR hd K hK
          clear hd
          simp only [← hAF, Act.put, List.setIfInBounds_toArray, List.set_cons_zero, List.set_cons_succ] at hK ⊢
          clear hAF
          try simp only [Nat.zero_add] at hK ⊢
          try simp only [Nat.reduceAdd] at hK ⊢
          obtain hbR := id hR
          have hxa := (hbR.block _ (lt_of_block X0.out)).trans X0.out
          have c90 := boxc hxa 0 _ rfl
          have c91 := boxc hxa 1 _ rfl
          have c92 := boxc hxa 2 _ rfl
          have c93 := boxc hxa 3 _ rfl
          clear hxa
          rw [if_pos (by rfl)]
          go_simp
          exact hK.out _ _ (Below.refl _ _) (rfl) (fun _ _ _ => ⟨trivial, trivial⟩)
        refine FlowAll.cons ?_ ?_
        · intro xF wz hR hd K hK
          clear hd
          simp only [← hAF, Act.put, List.setIfInBounds_toArray, List.set_cons_zero, List.set_cons_succ] at hK ⊢
          clear hAF
          try simp only [Nat.zero_add] at hK ⊢
          try simp only [Nat.reduceAdd] at hK ⊢
          obtain hbR := id hR
          rw [if_pos (by rfl)]
          go_simp
          exact hK.out _ _ (Below.refl _ _) (rfl) (fun _ _ _ => ⟨trivial, trivial⟩)
        refine FlowAll.cons ?_ ?_
        · intro xF wz hR hd K hK
          have dd3 : ((xF 3) = .agg #[.int .u64 x.a, .int .u64 x.b, .int .u64 x.c, .int .u64 x.d]) := hd 3 (by kernel_rfl)
          have dd4 : ((xF 4) = .int .u8 (c : Int)) := hd 4 (by kernel_rfl)
          clear hd
          simp only [← hAF, Act.put, List.setIfInBounds_toArray, List.set_cons_zero, List.set_cons_succ] at hK ⊢
          clear hAF
          try simp only [Nat.zero_add] at hK ⊢
          try simp only [Nat.reduceAdd] at hK ⊢
          try generalize xF 3 = yy3 at *
          try generalize xF 4 = yy4 at *
          obtain rfl := dd3
          obtain rfl := dd4
          obtain hbR := id hR
          rw [if_pos (by rfl)]
          go_simp
          (go_at_call 14; (with_reducible refine (HRC.out _).mono ?_); rintro e wK ⟨rfl, hbK⟩)
          try go_wp2_with fail
          exact hK.out _ _ (hbK) (rfl) (fun _ _ _ => ⟨trivial, trivial⟩)
        refine FlowAll.cons ?_ ?_
        · intro xF wz hR hd K hK
          have dd2 : ((xF 2) = .bool (x.has c)) := hd 2 (by kernel_rfl)
          have dd5 : ((xF 5) = .bool (x.has c)) := hd 5 (by kernel_rfl)
          clear hd
          simp only [← hAF, Act.put, List.setIfInBounds_toArray, List.set_cons_zero, List.set_cons_succ] at hK ⊢
          clear hAF
          try simp only [Nat.zero_add] at hK ⊢
          try simp only [Nat.reduceAdd] at hK ⊢
          try generalize xF 2 = yy2 at *
          try generalize xF 5 = yy5 at *
          obtain rfl := dd2
          obtain rfl := dd5
          obtain hbR := id hR
          rw [if_pos (by rfl)]
          go_simp
          exact hK.out _ _ (Below.refl _ _) (rfl) (fun _ _ _ => ⟨trivial, trivial⟩)
        refine FlowAll.cons ?_ ?_
        · intro xF wz hR hd K hK
          have dd6 : ((xF 6) = .bool true) := hd 6 (by kernel_rfl)
          clear hd
          simp only [← hAF, Act.put, List.setIfInBounds_toArray, List.set_cons_zero, List.set_cons_succ] at hK ⊢
          clear hAF
          try simp only [Nat.zero_add] at hK ⊢
          try simp only [Nat.reduceAdd] at hK ⊢
          try generalize xF 6 = yy6 at *
          obtain rfl := dd6
          obtain hbR := id hR
          rw [if_pos (by rfl)]
          go_simp
          exact hK.out _ _ (Below.refl _ _) (rfl) (fun _ _ _ => ⟨trivial, trivial⟩)
        refine FlowAll.cons ?_ ?_
        · intro xF wz hR hd K hK
          have dd7 : ((xF 7) = .bool true) := hd 7 (by kernel_rfl)
          clear hd
          simp only [← hAF, Act.put, List.setIfInBounds_toArray, List.set_cons_zero, List.set_cons_succ] at hK ⊢
          clear hAF
          try simp only [Nat.zero_add] at hK ⊢
          try simp only [Nat.reduceAdd] at hK ⊢
          try generalize xF 7 = yy7 at *
          obtain rfl := dd7
          obtain hbR := id hR
          have hxa := (hbR.block _ (lt_of_block X2.out)).trans X2.out
          have c90 := boxc hxa 0 _ rfl
          have c91 := boxc hxa 1 _ rfl
          have c92 := boxc hxa 2 _ rfl
          have c93 := boxc hxa 3 _ rfl
          clear hxa
          rw [if_pos (by rfl)]
          go_simp
          exact hK.out _ _ (Below.refl _ _) (rfl) (fun _ _ _ => ⟨trivial, trivial⟩)
        refine FlowAll.cons ?_ ?_
        · intro xF wz hR hd K hK
          have dd7 : ((xF 7) = .bool true) := hd 7 (by kernel_rfl)
          clear hd
          simp only [← hAF, Act.put, List.setIfInBounds_toArray, List.set_cons_zero, List.set_cons_succ] at hK ⊢
          clear hAF
          try simp only [Nat.zero_add] at hK ⊢
          try simp only [Nat.reduceAdd] at hK ⊢
          try generalize xF 7 = yy7 at *
          obtain rfl := dd7
          obtain hbR := id hR
          have hxa := (hbR.block _ (lt_of_block X0.out)).trans X0.out
          have c90 := boxc hxa 0 _ rfl
          have c91 := boxc hxa 1 _ rfl
          have c92 := boxc hxa 2 _ rfl
          have c93 := boxc hxa 3 _ rfl
          clear hxa
          rw [if_pos (by rfl)]
          go_simp
          exact hK.out _ _ (Below.refl _ _) (rfl) (fun _ _ _ => ⟨trivial, trivial⟩)
        refine FlowAll.cons ?_ ?_
        · intro xF wz hR hd K hK
          have dd7 : ((xF 7) = .bool true) := hd 7 (by kernel_rfl)
          clear hd
          simp only [← hAF, Act.put, List.setIfInBounds_toArray, List.set_cons_zero, List.set_cons_succ] at hK ⊢
          clear hAF
          try simp only [Nat.zero_add] at hK ⊢
          try simp only [Nat.reduceAdd] at hK ⊢
          try generalize xF 7 = yy7 at *
          obtain rfl := dd7
          obtain hbR := id hR
          have hxa := (hbR.block _ (lt_of_block X1.out)).trans X1.out
          have c90 := boxc hxa 0 _ rfl
          have c91 := boxc hxa 1 _ rfl
          have c92 := boxc hxa 2 _ rfl
          have c93 := boxc hxa 3 _ rfl
          clear hxa
          rw [if_pos (by rfl)]
          go_simp
          exact hK.out _ _ (Below.refl _ _) (rfl) (fun _ _ _ => ⟨trivial, trivial⟩)
        refine FlowAll.cons ?_ ?_
        · intro xF wz hR hd K hK
          have dd7 : ((xF 7) = .bool true) := hd 7 (by kernel_rfl)
          have dd9 : ((xF 9) = .agg #[.int .u64 x.a, .int .u64 x.b, .int .u64 x.c, .int .u64 x.d]) := hd 9 (by kernel_rfl)
          have dd10 : ((xF 10) = .agg #[.int .u64 y.a, .int .u64 y.b, .int .u64 y.c, .int .u64 y.d]) := hd 10 (by kernel_rfl)
          clear hd
          simp only [← hAF, Act.put, List.setIfInBounds_toArray, List.set_cons_zero, List.set_cons_succ] at hK ⊢
          clear hAF
          try simp only [Nat.zero_add] at hK ⊢
          try simp only [Nat.reduceAdd] at hK ⊢
          try generalize xF 7 = yy7 at *
          try generalize xF 9 = yy9 at *
          try generalize xF 10 = yy10 at *
          obtain rfl := dd7
          obtain rfl := dd9
          obtain rfl := dd10
          obtain hbR := id hR
          rw [if_pos (by rfl)]
          go_simp
          (go_at_call 15; (with_reducible refine (HRU.out _).mono ?_); rintro e wK ⟨rfl, hbK⟩)
          try go_wp2_with fail
          exact hK.out _ _ (hbK) (rfl) (fun _ _ _ => ⟨trivial, trivial⟩)
        refine FlowAll.cons ?_ ?_
        · intro xF wz hR hd K hK
          have dd7 : ((xF 7) = .bool true) := hd 7 (by kernel_rfl)
          have dd8 : ((xF 8) = .agg #[.int .u64 (x.or y).a, .int .u64 (x.or y).b, .int .u64 (x.or y).c, .int .u64 (x.or y).d]) := hd 8 (by kernel_rfl)
          have dd11 : ((xF 11) = .agg #[.int .u64 (x.or y).a, .int .u64 (x.or y).b, .int .u64 (x.or y).c, .int .u64 (x.or y).d]) := hd 11 (by kernel_rfl)
          clear hd
          simp only [← hAF, Act.put, List.setIfInBounds_toArray, List.set_cons_zero, List.set_cons_succ] at hK ⊢
          clear hAF
          try simp only [Nat.zero_add] at hK ⊢
          try simp only [Nat.reduceAdd] at hK ⊢
          try generalize xF 7 = yy7 at *
          try generalize xF 8 = yy8 at *
          try generalize xF 11 = yy11 at *
          obtain rfl := dd7
          obtain rfl := dd8
          obtain rfl := dd11
          obtain hbR := id hR
          have hqq := HEQ.out
          rw [if_pos (by rfl)]
          go_simp
          exact hK.out _ _ (Below.refl _ _) (rfl) (fun _ _ _ => ⟨trivial, trivial⟩)
        refine FlowAll.cons ?_ ?_
        · intro xF wz hR hd K hK
          have dd7 : ((xF 7) = .bool true) := hd 7 (by kernel_rfl)
          have dd12 : ((xF 12) = .bool true) := hd 12 (by kernel_rfl)
          clear hd
          simp only [← hAF, Act.put, List.setIfInBounds_toArray, List.set_cons_zero, List.set_cons_succ] at hK ⊢
          clear hAF
          try simp only [Nat.zero_add] at hK ⊢
          try simp only [Nat.reduceAdd] at hK ⊢
          try generalize xF 7 = yy7 at *
          try generalize xF 12 = yy12 at *
          obtain rfl := dd7
          obtain rfl := dd12
          obtain hbR := id hR
          rw [if_pos (by rfl)]
          go_simp
          exact hK.out _ _ (Below.refl _ _) (rfl) (fun _ _ _ => ⟨trivial, trivial⟩)
        refine FlowAll.cons ?_ ?_
        · intro xF wz hR hd K hK
          have dd13 : ((xF 13) = .bool true) := hd 13 (by kernel_rfl)
          clear hd
          simp only [← hAF, Act.put, List.setIfInBounds_toArray, List.set_cons_zero, List.set_cons_succ] at hK ⊢
          clear hAF
          try simp only [Nat.zero_add] at hK ⊢
          try simp only [Nat.reduceAdd] at hK ⊢
          try generalize xF 13 = yy13 at *
          obtain rfl := dd13
          obtain hbR := id hR
          rw [if_pos (by rfl)]
          go_simp
          exact hK.out _ _ (Below.refl _ _) (rfl) (fun _ _ _ => ⟨trivial, trivial⟩)
        refine FlowAll.cons ?_ ?_
        · intro xF wz hR hd K hK
          have dd14 : ((xF 14) = .bool true) := hd 14 (by kernel_rfl)
          clear hd
          simp only [← hAF, Act.put, List.setIfInBounds_toArray, List.set_cons_zero, List.set_cons_succ] at hK ⊢
          clear hAF
          try simp only [Nat.zero_add] at hK ⊢
          try simp only [Nat.reduceAdd] at hK ⊢
          try generalize xF 14 = yy14 at *
          obtain rfl := dd14
          obtain hbR := id hR
          rw [if_pos (by rfl)]
          go_simp
          (go_at_call 7; (with_reducible refine (HAW.out _).mono ?_); rintro e wK ⟨rfl, hbK⟩)
          try go_wp2_with fail
          exact hK.out _ _ (hbK) (rfl) (fun _ _ _ => ⟨trivial, trivial⟩)
        refine FlowAll.cons ?_ ?_
        · intro xF wz hR hd K hK
          have dd14 : ((xF 14) = .bool true) := hd 14 (by kernel_rfl)
          have dd15 : ((xF 15) = .bool true) := hd 15 (by kernel_rfl)
          clear hd
          simp only [← hAF, Act.put, List.setIfInBounds_toArray, List.set_cons_zero, List.set_cons_succ] at hK ⊢
          clear hAF
          try simp only [Nat.zero_add] at hK ⊢
          try simp only [Nat.reduceAdd] at hK ⊢
          try generalize xF 14 = yy14 at *
          try generalize xF 15 = yy15 at *
          obtain rfl := dd14
          obtain rfl := dd15
          obtain hbR := id hR
          rw [if_pos (by rfl)]
          go_simp
          exact hK.out _ _ (Below.refl _ _) (rfl) (fun _ _ _ => ⟨trivial, trivial⟩)
        refine FlowAll.cons ?_ ?_
        · intro xF wz hR hd K hK
          have dd16 : ((xF 16) = .bool true) := hd 16 (by kernel_rfl)
          clear hd
          simp only [← hAF, Act.put, List.setIfInBounds_toArray, List.set_cons_zero, List.set_cons_succ] at hK ⊢
          clear hAF
          try simp only [Nat.zero_add] at hK ⊢
          try simp only [Nat.reduceAdd] at hK ⊢
          try generalize xF 16 = yy16 at *
          obtain rfl := dd16
          obtain hbR := id hR
          rw [if_pos (by rfl)]
          go_simp
          exact hK.out _ _ (Below.refl _ _) (rfl) (fun _ _ _ => ⟨trivial, trivial⟩)
        exact FlowAll.nil
      intro xF wz hR hF hP
      clear hP
      have dd0 : ((xF 0) = .agg #[.int .u64 x.a, .int .u64 x.b, .int .u64 x.c, .int .u64 x.d]) := hF 0 (by omega) (by decide)
      have dd1 : ((xF 1) = .int .u8 (c : Int)) := hF 1 (by omega) (by decide)
      have dd2 : ((xF 2) = .bool (x.has c)) := hF 2 (by omega) (by decide)
      have dd3 : ((xF 3) = .agg #[.int .u64 x.a, .int .u64 x.b, .int .u64 x.c, .int .u64 x.d]) := hF 3 (by omega) (by decide)
      have dd4 : ((xF 4) = .int .u8 (c : Int)) := hF 4 (by omega) (by decide)
      have dd5 : ((xF 5) = .bool (x.has c)) := hF 5 (by omega) (by decide)
      have dd6 : ((xF 6) = .bool true) := hF 6 (by omega) (by decide)
      have dd7 : ((xF 7) = .bool true) := hF 7 (by omega) (by decide)
      have dd8 : ((xF 8) = .agg #[.int .u64 (x.or y).a, .int .u64 (x.or y).b, .int .u64 (x.or y).c, .int .u64 (x.or y).d]) := hF 8 (by omega) (by decide)
      have dd9 : ((xF 9) = .agg #[.int .u64 x.a, .int .u64 x.b, .int .u64 x.c, .int .u64 x.d]) := hF 9 (by omega) (by decide)
      have dd10 : ((xF 10) = .agg #[.int .u64 y.a, .int .u64 y.b, .int .u64 y.c, .int .u64 y.d]) := hF 10 (by omega) (by decide)
      have dd11 : ((xF 11) = .agg #[.int .u64 (x.or y).a, .int .u64 (x.or y).b, .int .u64 (x.or y).c, .int .u64 (x.or y).d]) := hF 11 (by omega) (by decide)
      have dd12 : ((xF 12) = .bool true) := hF 12 (by omega) (by decide)
      have dd13 : ((xF 13) = .bool true) := hF 13 (by omega) (by decide)
      have dd14 : ((xF 14) = .bool true) := hF 14 (by omega) (by decide)
      have dd15 : ((xF 15) = .bool true) := hF 15 (by omega) (by decide)
      have dd16 : ((xF 16) = .bool true) := hF 16 (by omega) (by decide)
      have dd17 : ((xF 17) = .bool true) := hF 17 (by omega) (by decide)
      clear hF
      simp only [List.take_succ_cons, List.take_zero, List.drop_succ_cons, List.drop_zero, fillOf, Act.put, List.setIfInBounds_toArray, List.set_cons_zero, List.set_cons_succ, Nat.reduceAdd, Nat.zero_add]
      try generalize xF 0 = yy0 at *
      try generalize xF 1 = yy1 at *
      try generalize xF 2 = yy2 at *
      try generalize xF 3 = yy3 at *
      try generalize xF 4 = yy4 at *
      try generalize xF 5 = yy5 at *
      try generalize xF 6 = yy6 at *
      try generalize xF 7 = yy7 at *
      try generalize xF 8 = yy8 at *
      try generalize xF 9 = yy9 at *
      try generalize xF 10 = yy10 at *
      try generalize xF 11 = yy11 at *
      try generalize xF 12 = yy12 at *
      try generalize xF 13 = yy13 at *
      try generalize xF 14 = yy14 at *
      try generalize xF 15 = yy15 at *
      try generalize xF 16 = yy16 at *
      try generalize xF 17 = yy17 at *
      clear xF
      obtain rfl := dd0
      obtain rfl := dd1
      obtain rfl := dd2
      obtain rfl := dd3
      obtain rfl := dd4
      obtain rfl := dd5
      obtain rfl := dd6
      obtain rfl := dd7
      obtain rfl := dd8
      obtain rfl := dd9
      obtain rfl := dd10
      obtain rfl := dd11
      obtain rfl := dd12
      obtain rfl := dd13
      obtain rfl := dd14
      obtain rfl := dd15
      obtain rfl := dd16
      obtain rfl := dd17
      have hRE := Lib.hid hR
      clear hR
      go_wp2
      go_ret
      exact ⟨rfl, D2.out.trans (hRE.out.mono D2.out.size)⟩
theorem law_any (x y : Cls) (c : Int) (w : World) (hx : x.ok) (hy : y.ok) (hc : 0 ≤ c ∧ c < 256) : Calls Try.prog 4 #[.agg #[.int .u64 x.a, .int .u64 x.b, .int .u64 x.c, .int .u64 x.d], .agg #[.int .u64 y.a, .int .u64 y.b, .int .u64 y.c, .int .u64 y.d], .int .u8 c] w (Said true w) := by
  obtain ⟨n, rfl⟩ : ∃ n : Nat, c = (n : Int) := ⟨c.toNat, by omega⟩
  exact law_cls x y n w hx hy (by omega)
end Go.Proofs.Ytbccejlemhgioaa
