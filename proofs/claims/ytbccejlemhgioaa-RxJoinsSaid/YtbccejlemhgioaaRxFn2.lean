/- the reader: special, once, often: of bytes that are no signs of groups, classes, escapes and bounds. -/
import Derived.Test.YtbccejlemhgioaaRxFn1
import Derived.Test.YtbccejlemhgioaaRxCls
namespace Go.Proofs.Ytbccejlemhgioaa
open Go Go.RowKit Go.ChangeShapes cl rx
def spB (c : Nat) : Bool := decide (0 ≤ Lib.indexByte [92, 46, 43, 42, 63, 40, 41, 124, 91, 93, 123, 125, 94, 36, 45] (c : Int).toNat.toUInt8)
theorem rx_special (c : Nat) (w : World) : Calls Try.prog 49 #[.int .u8 c] w (fun e w' => e = .returned (.bool (spB c)) ∧ w' = w) := by
  have HI := Lib.hid (Try.strings_IndexByte ⟨#[92, 46, 43, 42, 63, 40, 41, 124, 91, 93, 123, 125, 94, 36, 45]⟩ (c : Int) w)
  obtain ⟨z, hz⟩ : ∃ z, z = Lib.indexByte [92, 46, 43, 42, 63, 40, 41, 124, 91, 93, 123, 125, 94, 36, 45] (c : Int).toNat.toUInt8 := ⟨_, rfl⟩
  have HZ : Hid (Calls Try.prog 60 #[.string ⟨#[92, 46, 43, 42, 63, 40, 41, 124, 91, 93, 123, 125, 94, 36, 45]⟩, .int .u8 c] w (fun e w' => e = .returned (.int .i64 z) ∧ w' = w)) := by rw [hz]; exact HI.out
  unfold spB
  rw [← hz]
  clear HI hz
  go_enter Try.func49, Try.ntmps49
  go_wp2_with fail
  (with_reducible refine HZ.out.mono ?_)
  rintro e3 w3 ⟨rfl, rfl⟩
  go_wp2
  go_ret
  exact ⟨rfl, rfl⟩
/-- no sign of a group, of a class, of an escape, of any byte, of bounds -/
def plainC (c : Nat) : Prop := c ≠ 40 ∧ c ≠ 41 ∧ c ≠ 91 ∧ c ≠ 92 ∧ c ≠ 46 ∧ c ≠ 123
set_option maxHeartbeats 6400000 in
set_option maxRecDepth 100000 in
theorem rx_once (q : Nat) (S : ByteArray) (t : St) (w : World) (h : Rd q S t w) (hS : S.size ≤ 60) (hp : t.p < S.size) (hpl : ∀ c ∈ kit.bytes S, plainC c) : Calls Try.prog 39 #[.pointer (some ⟨q, 0, none⟩)] w (RxA 1 q S (onceS (kit.bytes S) spB t) w) := by
  obtain ⟨c, hb, hcE⟩ : ∃ c, (kit.bytes S)[t.p]? = some c ∧ c = (S[t.p]'hp).toNat := ⟨_, byte_at hp, rfl⟩
  obtain ⟨g1, _, g2, g3, g4, _⟩ := hpl c (List.mem_of_getElem? hb)
  have hc : c < 256 := kit.bytes_lt S c (List.mem_of_getElem? hb)
  obtain ⟨p, hpp⟩ : ∃ p, p = t.p := ⟨_, rfl⟩
  have hp' : p < S.size := by rw [hpp]; exact hp
  have hcE' : (S[p]'hp').toNat = c := by rw [hcE]; simp only [hpp]
  have hpi : (p : Int) < (S.size : Int) := by omega
  obtain ⟨q1, hq1⟩ : ∃ q1, q1 = w.heap.size := ⟨_, rfl⟩
  have hqq : q < q1 := by rw [hq1]; exact lt_of_block h
  have hA := below1 (w := w) (o := .cells #[.int .i64 0, .int .u64 0, .int .u64 0, .int .u64 0, .int .u64 0, .slice none 0 0, .int .i64 0, .int .i64 0] 28)
  have x1 := (hA.block q (by rw [← hq1]; exact hqq)).trans h
  have c1 : (w.alloc (.cells #[.int .i64 0, .int .u64 0, .int .u64 0, .int .u64 0, .int .u64 0, .slice none 0 0, .int .i64 0, .int .i64 0] 28)).cell? ⟨q, 1, none⟩ = some (.int .i64 (p : Int)) := by rw [hpp]; exact boxc x1 1 _ rfl
  have c1w : w.cell? ⟨q, 1, none⟩ = some (.int .i64 (p : Int)) := by rw [hpp]; exact boxc h 1 _ rfl
  have f1 : (w.alloc (.cells #[.int .i64 0, .int .u64 0, .int .u64 0, .int .u64 0, .int .u64 0, .slice none 0 0, .int .i64 0, .int .i64 0] 28)).frozen? ⟨q, 1, none⟩ = false := boxf x1 1
  have f1w : w.frozen? ⟨q, 1, none⟩ = false := boxf h 1
  obtain ⟨W3, hW3⟩ : ∃ W, W = (w.alloc (.cells #[.int .i64 0, .int .u64 0, .int .u64 0, .int .u64 0, .int .u64 0, .slice none 0 0, .int .i64 0, .int .i64 0] 28)).setCell ⟨q, 1, none⟩ (.int .i64 ((p : Int) + 1)) := ⟨_, rfl⟩
  have r3 : Rd q S t.fwd W3 := by rw [hW3, hpp]; exact heap_setCell_same _ q 1 _ _ _ x1
  have K3 : Hid (KX q w W3) := by show KX q w W3; rw [hW3]; exact (KX.of hA).trans KX.cell
  have Z3 : Hid (W3.heap[q1]? = some (.cells #[.int .i64 0, .int .u64 0, .int .u64 0, .int .u64 0, .int .u64 0, .slice none 0 0, .int .i64 0, .int .i64 0] 28)) := by
    show _ = _
    rw [hW3, heap_setCell_other _ _ _ _ (by show q1 ≠ q; omega), hq1]; exact heap_alloc_new _ _
  have R3 := Lib.hid r3
  have c0 : ((w.alloc (.cells #[.int .i64 0, .int .u64 0, .int .u64 0, .int .u64 0, .int .u64 0, .slice none 0 0, .int .i64 0, .int .i64 0] 28)).setCell ⟨q, 1, none⟩ (.int .i64 ((p : Int) + 1))).cell? ⟨q, 0, none⟩ = some (.string S) := by rw [← hW3]; exact boxc r3 0 _ rfl
  have HW3 := Lib.hid hW3
  have HQ1 := Lib.hid hq1
  have HQQ := Lib.hid hqq
  have HSG : Hid (∀ W, Calls Try.prog 13 #[.int .u8 c] W (fun e w' => e = .returned (.agg #[.int .u64 (Cls.one c).a, .int .u64 (Cls.one c).b, .int .u64 (Cls.one c).c, .int .u64 (Cls.one c).d]) ∧ Below W.heap.size W w')) := fun W => rx_single c W hc
  have HCL : Hid (∀ W, Calls Try.prog 45 #[.agg #[.int .u64 (Cls.one c).a, .int .u64 (Cls.one c).b, .int .u64 (Cls.one c).c, .int .u64 (Cls.one c).d]] W (fun e w' => e = .returned (.agg #[.int .i64 2, .int .u64 (Cls.one c).a, .int .u64 (Cls.one c).b, .int .u64 (Cls.one c).c, .int .u64 (Cls.one c).d, .slice none 0 0, .int .i64 0, .int .i64 0]) ∧ Below W.heap.size W w')) := fun W => rx_class (Cls.one c) W
  have HSP : Hid (∀ W, Calls Try.prog 49 #[.int .u8 c] W (fun e w' => e = .returned (.bool (spB c)) ∧ w' = W)) := fun W => rx_special c W
  have HFL : Hid (∀ W, Rd q S t.fwd W → Calls Try.prog 21 #[.pointer (some ⟨q, 0, none⟩), .int .i64 (p : Int), .int .i64 9] W (fun e w' => e = .returned (.tuple #[]) ∧ RK q S (t.fwd.fail t.p 9) W w')) := fun W hW => by rw [hpp]; exact rx_fail q S t.fwd t.p 9 W hW
  have n1 : ¬ (c : Int) = 40 := by omega
  have n2 : ¬ (c : Int) = 91 := by omega
  have n3 : ¬ (c : Int) = 92 := by omega
  have n4 : ¬ (c : Int) = 46 := by omega
  have HPP := Lib.hid hpp
  clear h hpl hA x1 r3 hW3 hq1 hqq g1 g2 g3 g4 hcE hpp
  by_cases h45 : c = 45
  · have HCOND : c = 45 ∨ (32 ≤ c ∧ c ≤ 126 ∧ spB c = false) := Or.inl h45
    have hb45 : ((c : Int) == 45) = true := by simp [h45]
    have HH := Lib.hid h45
    clear h45
    have HO : onceS (kit.bytes S) spB t = (Pat.ofCls (.one c), t.fwd) := by
      unfold onceS; rw [hb]; simp only; rw [if_pos HCOND]
    rw [HO]
    clear hb HO HCOND 
    go_enter Try.func39, Try.ntmps39
    go_wp2_with fail
    rw [← HW3.out, ← HQ1.out]
    clear c0 c1 f1 c1w f1w
    (with_reducible refine (HSG.out _).mono ?_)
    rintro e4 w4 ⟨rfl, b4⟩
    have Z4 := Lib.hid ((b4.block _ (lt_of_block Z3.out)).trans Z3.out)
    have R4 := Lib.hid (R3.out.next b4)
    have K4 := Lib.hid (K3.out.next b4)
    clear b4
    go_wp2_with fail
    (with_reducible refine (HCL.out _).mono ?_)
    rintro e5 wz ⟨rfl, b5⟩
    have ZZ := Lib.hid ((b5.block _ (lt_of_block Z4.out)).trans Z4.out)
    have R9 := Lib.hid (R4.out.next b5)
    have K9 := Lib.hid (K4.out.next b5)
    clear b5
    go_wp2_with ((with_reducible show wpList _ _ _ (Oper.mk _ (Op.store 28 (.tmp 2) _) _ _ _ _ :: _) _ _); refine wpList_store_row rfl 28 (.tmp 2) _ rfl (q1) #[.int .i64 2, .int .u64 (Cls.one c).a, .int .u64 (Cls.one c).b, .int .u64 (Cls.one c).c, .int .u64 (Cls.one c).d, .slice none 0 0, .int .i64 0, .int .i64 0] rfl rfl 28 #[.int .i64 0, .int .u64 0, .int .u64 0, .int .u64 0, .int .u64 0, .slice none 0 0, .int .i64 0, .int .i64 0] ZZ.out rsize rfl (by simp [Value.oneCell']) ?_)
    have cc := setRow_heap _ q1 _ #[.int .i64 2, .int .u64 (Cls.one c).a, .int .u64 (Cls.one c).b, .int .u64 (Cls.one c).c, .int .u64 (Cls.one c).d, .slice none 0 0, .int .i64 0, .int .i64 0] _ _ ZZ.out
    have rr : Rd q S _ (World.setRow wz q1 #[.int .i64 2, .int .u64 (Cls.one c).a, .int .u64 (Cls.one c).b, .int .u64 (Cls.one c).c, .int .u64 (Cls.one c).d, .slice none 0 0, .int .i64 0, .int .i64 0]) := R9.out.keep KX.row (by have := HQQ.out; omega)
    have kk : KX q w (World.setRow wz q1 #[.int .i64 2, .int .u64 (Cls.one c).a, .int .u64 (Cls.one c).b, .int .u64 (Cls.one c).c, .int .u64 (Cls.one c).d, .slice none 0 0, .int .i64 0, .int .i64 0]) := K9.out.trans' KX.row (by have := HQ1.out; omega)
    have ff : Fre w.heap.size (World.setRow wz q1 #[.int .i64 2, .int .u64 (Cls.one c).a, .int .u64 (Cls.one c).b, .int .u64 (Cls.one c).c, .int .u64 (Cls.one c).d, .slice none 0 0, .int .i64 0, .int .i64 0]) (fun W => rxR 1 W W.heap.size [.int .i64 2, .int .u64 (Cls.one c).a, .int .u64 (Cls.one c).b, .int .u64 (Cls.one c).c, .int .u64 (Cls.one c).d, .slice none 0 0, .int .i64 0, .int .i64 0] (Pat.ofCls (.one c))) := fun W _ _ => ⟨none, 0, 0, rfl, RowsAt.nil _ _⟩
    obtain ⟨w9, h9⟩ : ∃ W, W = World.setRow wz q1 #[.int .i64 2, .int .u64 (Cls.one c).a, .int .u64 (Cls.one c).b, .int .u64 (Cls.one c).c, .int .u64 (Cls.one c).d, .slice none 0 0, .int .i64 0, .int .i64 0] := ⟨_, rfl⟩
    rw [← h9] at cc rr kk ff ⊢
    clear h9
    have k0 := boxc cc 0 _ rfl
    have k1 := boxc cc 1 _ rfl
    have k2 := boxc cc 2 _ rfl
    have k3 := boxc cc 3 _ rfl
    have k4 := boxc cc 4 _ rfl
    have k5 := boxc cc 5 _ rfl
    have k6 := boxc cc 6 _ rfl
    have k7 := boxc cc 7 _ rfl
    refine bodyPost_ret (v := .agg #[.int .i64 2, .int .u64 (Cls.one c).a, .int .u64 (Cls.one c).b, .int .u64 (Cls.one c).c, .int .u64 (Cls.one c).d, .slice none 0 0, .int .i64 0, .int .i64 0]) (by simp [results, Try.results39, go_sem, k0, k1, k2, k3, k4, k5, k6, k7]) rfl ?_
    exact ⟨[.int .i64 2, .int .u64 (Cls.one c).a, .int .u64 (Cls.one c).b, .int .u64 (Cls.one c).c, .int .u64 (Cls.one c).d, .slice none 0 0, .int .i64 0, .int .i64 0], rfl, ff, rr, kk⟩
  have n5 : ¬ (c : Int) = 45 := by omega
  have hb45 : ((c : Int) == 45) = false := beq_eq_false_iff_ne.2 n5
  by_cases h32 : 32 ≤ c
  · have i32 : (32 : Int) ≤ (c : Int) := by omega
    by_cases h126 : c ≤ 126
    · have i126 : (c : Int) ≤ 126 := by omega
      obtain ⟨sp, hsp⟩ : ∃ b, b = spB c := ⟨_, rfl⟩
      cases sp with
      | false =>
        have HCOND : c = 45 ∨ (32 ≤ c ∧ c ≤ 126 ∧ spB c = false) := Or.inr ⟨h32, h126, hsp.symm⟩
        rw [← hsp] at HSP
        have HO : onceS (kit.bytes S) spB t = (Pat.ofCls (.one c), t.fwd) := by
          unfold onceS; rw [hb]; simp only; rw [if_pos HCOND]
        rw [HO]
        clear hb HO HCOND hsp h45 h32 h126
        go_enter Try.func39, Try.ntmps39
        go_wp2_with fail
        rw [← HW3.out, ← HQ1.out]
        clear c0 c1 f1 c1w f1w
        (with_reducible refine (HSP.out _).mono ?_)
        rintro e3 w3 ⟨rfl, rfl⟩
        go_wp2_with fail
        (with_reducible refine (HSG.out _).mono ?_)
        rintro e4 w4 ⟨rfl, b4⟩
        have Z4 := Lib.hid ((b4.block _ (lt_of_block Z3.out)).trans Z3.out)
        have R4 := Lib.hid (R3.out.next b4)
        have K4 := Lib.hid (K3.out.next b4)
        clear b4
        go_wp2_with fail
        (with_reducible refine (HCL.out _).mono ?_)
        rintro e5 wz ⟨rfl, b5⟩
        have ZZ := Lib.hid ((b5.block _ (lt_of_block Z4.out)).trans Z4.out)
        have R9 := Lib.hid (R4.out.next b5)
        have K9 := Lib.hid (K4.out.next b5)
        clear b5
        go_wp2_with ((with_reducible show wpList _ _ _ (Oper.mk _ (Op.store 28 (.tmp 2) _) _ _ _ _ :: _) _ _); refine wpList_store_row rfl 28 (.tmp 2) _ rfl (q1) #[.int .i64 2, .int .u64 (Cls.one c).a, .int .u64 (Cls.one c).b, .int .u64 (Cls.one c).c, .int .u64 (Cls.one c).d, .slice none 0 0, .int .i64 0, .int .i64 0] rfl rfl 28 #[.int .i64 0, .int .u64 0, .int .u64 0, .int .u64 0, .int .u64 0, .slice none 0 0, .int .i64 0, .int .i64 0] ZZ.out rsize rfl (by simp [Value.oneCell']) ?_)
        have cc := setRow_heap _ q1 _ #[.int .i64 2, .int .u64 (Cls.one c).a, .int .u64 (Cls.one c).b, .int .u64 (Cls.one c).c, .int .u64 (Cls.one c).d, .slice none 0 0, .int .i64 0, .int .i64 0] _ _ ZZ.out
        have rr : Rd q S _ (World.setRow wz q1 #[.int .i64 2, .int .u64 (Cls.one c).a, .int .u64 (Cls.one c).b, .int .u64 (Cls.one c).c, .int .u64 (Cls.one c).d, .slice none 0 0, .int .i64 0, .int .i64 0]) := R9.out.keep KX.row (by have := HQQ.out; omega)
        have kk : KX q w (World.setRow wz q1 #[.int .i64 2, .int .u64 (Cls.one c).a, .int .u64 (Cls.one c).b, .int .u64 (Cls.one c).c, .int .u64 (Cls.one c).d, .slice none 0 0, .int .i64 0, .int .i64 0]) := K9.out.trans' KX.row (by have := HQ1.out; omega)
        have ff : Fre w.heap.size (World.setRow wz q1 #[.int .i64 2, .int .u64 (Cls.one c).a, .int .u64 (Cls.one c).b, .int .u64 (Cls.one c).c, .int .u64 (Cls.one c).d, .slice none 0 0, .int .i64 0, .int .i64 0]) (fun W => rxR 1 W W.heap.size [.int .i64 2, .int .u64 (Cls.one c).a, .int .u64 (Cls.one c).b, .int .u64 (Cls.one c).c, .int .u64 (Cls.one c).d, .slice none 0 0, .int .i64 0, .int .i64 0] (Pat.ofCls (.one c))) := fun W _ _ => ⟨none, 0, 0, rfl, RowsAt.nil _ _⟩
        obtain ⟨w9, h9⟩ : ∃ W, W = World.setRow wz q1 #[.int .i64 2, .int .u64 (Cls.one c).a, .int .u64 (Cls.one c).b, .int .u64 (Cls.one c).c, .int .u64 (Cls.one c).d, .slice none 0 0, .int .i64 0, .int .i64 0] := ⟨_, rfl⟩
        rw [← h9] at cc rr kk ff ⊢
        clear h9
        have k0 := boxc cc 0 _ rfl
        have k1 := boxc cc 1 _ rfl
        have k2 := boxc cc 2 _ rfl
        have k3 := boxc cc 3 _ rfl
        have k4 := boxc cc 4 _ rfl
        have k5 := boxc cc 5 _ rfl
        have k6 := boxc cc 6 _ rfl
        have k7 := boxc cc 7 _ rfl
        refine bodyPost_ret (v := .agg #[.int .i64 2, .int .u64 (Cls.one c).a, .int .u64 (Cls.one c).b, .int .u64 (Cls.one c).c, .int .u64 (Cls.one c).d, .slice none 0 0, .int .i64 0, .int .i64 0]) (by simp [results, Try.results39, go_sem, k0, k1, k2, k3, k4, k5, k6, k7]) rfl ?_
        exact ⟨[.int .i64 2, .int .u64 (Cls.one c).a, .int .u64 (Cls.one c).b, .int .u64 (Cls.one c).c, .int .u64 (Cls.one c).d, .slice none 0 0, .int .i64 0, .int .i64 0], rfl, ff, rr, kk⟩
      | true =>
        have HCOND : ¬ (c = 45 ∨ (32 ≤ c ∧ c ≤ 126 ∧ spB c = false)) := by rw [← hsp]; simp; omega
        rw [← hsp] at HSP
        have HO : onceS (kit.bytes S) spB t = (.zero, t.fwd.fail t.p 9) := by
          unfold onceS; rw [hb]; simp only; rw [if_neg HCOND]
        rw [HO]
        clear hb HO HCOND hsp h45 h32 h126
        go_enter Try.func39, Try.ntmps39
        go_wp2_with fail
        rw [← HW3.out, ← HQ1.out]
        clear c0 c1 f1 c1w f1w
        (with_reducible refine (HSP.out _).mono ?_)
        rintro e3 w3 ⟨rfl, rfl⟩
        go_wp2_with fail
        (with_reducible refine (HFL.out _ R3.out).mono ?_)
        rintro e4 wz ⟨rfl, r4, k4⟩
        have ZZ := Lib.hid ((k4.2.2 q1 (lt_of_block Z3.out) (by have := HQQ.out; omega)).trans Z3.out)
        have R9 := Lib.hid r4
        have K9 := Lib.hid (K3.out.trans k4)
        clear r4 k4
        go_wp2_with ((with_reducible show wpList _ _ _ (Oper.mk _ (Op.store 28 (.tmp 2) _) _ _ _ _ :: _) _ _); refine wpList_store_row rfl 28 (.tmp 2) _ rfl (q1) #[.int .i64 0, .int .u64 0, .int .u64 0, .int .u64 0, .int .u64 0, .slice none 0 0, .int .i64 0, .int .i64 0] rfl rfl 28 #[.int .i64 0, .int .u64 0, .int .u64 0, .int .u64 0, .int .u64 0, .slice none 0 0, .int .i64 0, .int .i64 0] ZZ.out rsize rfl (by simp [Value.oneCell']) ?_)
        have cc := setRow_heap _ q1 _ #[.int .i64 0, .int .u64 0, .int .u64 0, .int .u64 0, .int .u64 0, .slice none 0 0, .int .i64 0, .int .i64 0] _ _ ZZ.out
        have rr : Rd q S _ (World.setRow wz q1 #[.int .i64 0, .int .u64 0, .int .u64 0, .int .u64 0, .int .u64 0, .slice none 0 0, .int .i64 0, .int .i64 0]) := R9.out.keep KX.row (by have := HQQ.out; omega)
        have kk : KX q w (World.setRow wz q1 #[.int .i64 0, .int .u64 0, .int .u64 0, .int .u64 0, .int .u64 0, .slice none 0 0, .int .i64 0, .int .i64 0]) := K9.out.trans' KX.row (by have := HQ1.out; omega)
        have ff : Fre w.heap.size (World.setRow wz q1 #[.int .i64 0, .int .u64 0, .int .u64 0, .int .u64 0, .int .u64 0, .slice none 0 0, .int .i64 0, .int .i64 0]) (fun W => rxR 1 W W.heap.size [.int .i64 0, .int .u64 0, .int .u64 0, .int .u64 0, .int .u64 0, .slice none 0 0, .int .i64 0, .int .i64 0] Pat.zero) := fun W _ _ => ⟨none, 0, 0, rfl, RowsAt.nil _ _⟩
        obtain ⟨w9, h9⟩ : ∃ W, W = World.setRow wz q1 #[.int .i64 0, .int .u64 0, .int .u64 0, .int .u64 0, .int .u64 0, .slice none 0 0, .int .i64 0, .int .i64 0] := ⟨_, rfl⟩
        rw [← h9] at cc rr kk ff ⊢
        clear h9
        have k0 := boxc cc 0 _ rfl
        have k1 := boxc cc 1 _ rfl
        have k2 := boxc cc 2 _ rfl
        have k3 := boxc cc 3 _ rfl
        have k4 := boxc cc 4 _ rfl
        have k5 := boxc cc 5 _ rfl
        have k6 := boxc cc 6 _ rfl
        have k7 := boxc cc 7 _ rfl
        refine bodyPost_ret (v := .agg #[.int .i64 0, .int .u64 0, .int .u64 0, .int .u64 0, .int .u64 0, .slice none 0 0, .int .i64 0, .int .i64 0]) (by simp [results, Try.results39, go_sem, k0, k1, k2, k3, k4, k5, k6, k7]) rfl ?_
        exact ⟨[.int .i64 0, .int .u64 0, .int .u64 0, .int .u64 0, .int .u64 0, .slice none 0 0, .int .i64 0, .int .i64 0], rfl, ff, rr, kk⟩
    · have i126 : ¬ (c : Int) ≤ 126 := by omega
      have HCOND : ¬ (c = 45 ∨ (32 ≤ c ∧ c ≤ 126 ∧ spB c = false)) := by omega
      have HO : onceS (kit.bytes S) spB t = (.zero, t.fwd.fail t.p 9) := by
        unfold onceS; rw [hb]; simp only; rw [if_neg HCOND]
      rw [HO]
      clear hb HO HCOND h45 h32 h126
      go_enter Try.func39, Try.ntmps39
      go_wp2_with fail
      rw [← HW3.out, ← HQ1.out]
      clear c0 c1 f1 c1w f1w
      (with_reducible refine (HFL.out _ R3.out).mono ?_)
      rintro e4 wz ⟨rfl, r4, k4⟩
      have ZZ := Lib.hid ((k4.2.2 q1 (lt_of_block Z3.out) (by have := HQQ.out; omega)).trans Z3.out)
      have R9 := Lib.hid r4
      have K9 := Lib.hid (K3.out.trans k4)
      clear r4 k4
      go_wp2_with ((with_reducible show wpList _ _ _ (Oper.mk _ (Op.store 28 (.tmp 2) _) _ _ _ _ :: _) _ _); refine wpList_store_row rfl 28 (.tmp 2) _ rfl (q1) #[.int .i64 0, .int .u64 0, .int .u64 0, .int .u64 0, .int .u64 0, .slice none 0 0, .int .i64 0, .int .i64 0] rfl rfl 28 #[.int .i64 0, .int .u64 0, .int .u64 0, .int .u64 0, .int .u64 0, .slice none 0 0, .int .i64 0, .int .i64 0] ZZ.out rsize rfl (by simp [Value.oneCell']) ?_)
      have cc := setRow_heap _ q1 _ #[.int .i64 0, .int .u64 0, .int .u64 0, .int .u64 0, .int .u64 0, .slice none 0 0, .int .i64 0, .int .i64 0] _ _ ZZ.out
      have rr : Rd q S _ (World.setRow wz q1 #[.int .i64 0, .int .u64 0, .int .u64 0, .int .u64 0, .int .u64 0, .slice none 0 0, .int .i64 0, .int .i64 0]) := R9.out.keep KX.row (by have := HQQ.out; omega)
      have kk : KX q w (World.setRow wz q1 #[.int .i64 0, .int .u64 0, .int .u64 0, .int .u64 0, .int .u64 0, .slice none 0 0, .int .i64 0, .int .i64 0]) := K9.out.trans' KX.row (by have := HQ1.out; omega)
      have ff : Fre w.heap.size (World.setRow wz q1 #[.int .i64 0, .int .u64 0, .int .u64 0, .int .u64 0, .int .u64 0, .slice none 0 0, .int .i64 0, .int .i64 0]) (fun W => rxR 1 W W.heap.size [.int .i64 0, .int .u64 0, .int .u64 0, .int .u64 0, .int .u64 0, .slice none 0 0, .int .i64 0, .int .i64 0] Pat.zero) := fun W _ _ => ⟨none, 0, 0, rfl, RowsAt.nil _ _⟩
      obtain ⟨w9, h9⟩ : ∃ W, W = World.setRow wz q1 #[.int .i64 0, .int .u64 0, .int .u64 0, .int .u64 0, .int .u64 0, .slice none 0 0, .int .i64 0, .int .i64 0] := ⟨_, rfl⟩
      rw [← h9] at cc rr kk ff ⊢
      clear h9
      have k0 := boxc cc 0 _ rfl
      have k1 := boxc cc 1 _ rfl
      have k2 := boxc cc 2 _ rfl
      have k3 := boxc cc 3 _ rfl
      have k4 := boxc cc 4 _ rfl
      have k5 := boxc cc 5 _ rfl
      have k6 := boxc cc 6 _ rfl
      have k7 := boxc cc 7 _ rfl
      refine bodyPost_ret (v := .agg #[.int .i64 0, .int .u64 0, .int .u64 0, .int .u64 0, .int .u64 0, .slice none 0 0, .int .i64 0, .int .i64 0]) (by simp [results, Try.results39, go_sem, k0, k1, k2, k3, k4, k5, k6, k7]) rfl ?_
      exact ⟨[.int .i64 0, .int .u64 0, .int .u64 0, .int .u64 0, .int .u64 0, .slice none 0 0, .int .i64 0, .int .i64 0], rfl, ff, rr, kk⟩
  · have i32 : ¬ (32 : Int) ≤ (c : Int) := by omega
    have HCOND : ¬ (c = 45 ∨ (32 ≤ c ∧ c ≤ 126 ∧ spB c = false)) := by omega
    have HO : onceS (kit.bytes S) spB t = (.zero, t.fwd.fail t.p 9) := by
      unfold onceS; rw [hb]; simp only; rw [if_neg HCOND]
    rw [HO]
    clear hb HO HCOND h45 h32
    go_enter Try.func39, Try.ntmps39
    go_wp2_with fail
    rw [← HW3.out, ← HQ1.out]
    clear c0 c1 f1 c1w f1w
    (with_reducible refine (HFL.out _ R3.out).mono ?_)
    rintro e4 wz ⟨rfl, r4, k4⟩
    have ZZ := Lib.hid ((k4.2.2 q1 (lt_of_block Z3.out) (by have := HQQ.out; omega)).trans Z3.out)
    have R9 := Lib.hid r4
    have K9 := Lib.hid (K3.out.trans k4)
    clear r4 k4
    go_wp2_with ((with_reducible show wpList _ _ _ (Oper.mk _ (Op.store 28 (.tmp 2) _) _ _ _ _ :: _) _ _); refine wpList_store_row rfl 28 (.tmp 2) _ rfl (q1) #[.int .i64 0, .int .u64 0, .int .u64 0, .int .u64 0, .int .u64 0, .slice none 0 0, .int .i64 0, .int .i64 0] rfl rfl 28 #[.int .i64 0, .int .u64 0, .int .u64 0, .int .u64 0, .int .u64 0, .slice none 0 0, .int .i64 0, .int .i64 0] ZZ.out rsize rfl (by simp [Value.oneCell']) ?_)
    have cc := setRow_heap _ q1 _ #[.int .i64 0, .int .u64 0, .int .u64 0, .int .u64 0, .int .u64 0, .slice none 0 0, .int .i64 0, .int .i64 0] _ _ ZZ.out
    have rr : Rd q S _ (World.setRow wz q1 #[.int .i64 0, .int .u64 0, .int .u64 0, .int .u64 0, .int .u64 0, .slice none 0 0, .int .i64 0, .int .i64 0]) := R9.out.keep KX.row (by have := HQQ.out; omega)
    have kk : KX q w (World.setRow wz q1 #[.int .i64 0, .int .u64 0, .int .u64 0, .int .u64 0, .int .u64 0, .slice none 0 0, .int .i64 0, .int .i64 0]) := K9.out.trans' KX.row (by have := HQ1.out; omega)
    have ff : Fre w.heap.size (World.setRow wz q1 #[.int .i64 0, .int .u64 0, .int .u64 0, .int .u64 0, .int .u64 0, .slice none 0 0, .int .i64 0, .int .i64 0]) (fun W => rxR 1 W W.heap.size [.int .i64 0, .int .u64 0, .int .u64 0, .int .u64 0, .int .u64 0, .slice none 0 0, .int .i64 0, .int .i64 0] Pat.zero) := fun W _ _ => ⟨none, 0, 0, rfl, RowsAt.nil _ _⟩
    obtain ⟨w9, h9⟩ : ∃ W, W = World.setRow wz q1 #[.int .i64 0, .int .u64 0, .int .u64 0, .int .u64 0, .int .u64 0, .slice none 0 0, .int .i64 0, .int .i64 0] := ⟨_, rfl⟩
    rw [← h9] at cc rr kk ff ⊢
    clear h9
    have k0 := boxc cc 0 _ rfl
    have k1 := boxc cc 1 _ rfl
    have k2 := boxc cc 2 _ rfl
    have k3 := boxc cc 3 _ rfl
    have k4 := boxc cc 4 _ rfl
    have k5 := boxc cc 5 _ rfl
    have k6 := boxc cc 6 _ rfl
    have k7 := boxc cc 7 _ rfl
    refine bodyPost_ret (v := .agg #[.int .i64 0, .int .u64 0, .int .u64 0, .int .u64 0, .int .u64 0, .slice none 0 0, .int .i64 0, .int .i64 0]) (by simp [results, Try.results39, go_sem, k0, k1, k2, k3, k4, k5, k6, k7]) rfl ?_
    exact ⟨[.int .i64 0, .int .u64 0, .int .u64 0, .int .u64 0, .int .u64 0, .slice none 0 0, .int .i64 0, .int .i64 0], rfl, ff, rr, kk⟩
end Go.Proofs.Ytbccejlemhgioaa
