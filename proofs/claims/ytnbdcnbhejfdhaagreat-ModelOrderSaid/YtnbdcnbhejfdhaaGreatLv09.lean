/- texts put together: MdLvs. -/
import Derived.Test.YtnbdcnbhejfdhaaGreatLv05
import Derived.Test.YtnbdcnbhejfdhaaGreatLv08
open List (setIfInBounds_toArray set_cons_zero set_cons_succ take_succ_cons take_zero drop_succ_cons drop_zero)
namespace Go.Proofs.YtnbdcnbhejfdhaaGreat
open Go Go.RowKit Go.ChangeShapes cl Go.Sort
structure NxR (F bb o : Nat) (x z : Lv) (w3 ww : World) : Prop where
 r0 : ww.cell? ⟨F, 1, none⟩ = some (.int .i64 x.d.1)
 r1 : ww.cell? ⟨F, 2, none⟩ = some (.int .i64 x.d.2)
 r2 : ww.cell? ⟨bb, o + 1, none⟩ = some (.int .i64 z.d.1)
 r3 : ww.cell? ⟨bb, o + 2, none⟩ = some (.int .i64 z.d.2)
 below : Below (F + 1) w3 ww
 size : F + 1 ≤ ww.heap.size
 lt : bb < F + 1
theorem NxR.step {F bb o B : Nat} {x z : Lv} {w3 w w' : World} (h : NxR F bb o x z w3 w) (hB : F + 1 ≤ B) (hT : Below B w w') : NxR F bb o x z w3 w' := by
 have k : ∀ i, w'.cell? ⟨F, i, none⟩ = w.cell? ⟨F, i, none⟩ := fun i => hT.cell (p := ⟨F, i, none⟩) (by show F < _; omega)
 have k2 : ∀ i, w'.cell? ⟨bb, i, none⟩ = w.cell? ⟨bb, i, none⟩ := fun i => hT.cell (p := ⟨bb, i, none⟩) (by show bb < _; have := h.lt; omega)
 exact ⟨(k 1).trans h.r0, (k 2).trans h.r1, (k2 _).trans h.r2, (k2 _).trans h.r3, h.below.trans (hT.mono hB), Nat.le_trans h.size hT.size, h.lt⟩
theorem NxR.start {F bb o : Nat} {x z : Lv} {w3 w : World} (h : NxR F bb o x z w3 w) : NxR F bb o x z w3 w.drew := h.step h.size (below_drewN (Below.refl _ _) 1)
set_option maxHeartbeats 12800000 in
set_option maxRecDepth 100000 in
theorem lives_any (l : List Fct) (v : Value) (w : World) (hl : Fcts w w.heap.size v l) (hwf : ∀ f ∈ l, FWf f) (hm : MX w) : Calls Tryz.prog 4 #[v] w (Said true w) := by
 have HMX : Hid (∀ W, Below w.heap.size w W → MX W) := fun W hW => hm.next hW
 have HFR := Lib.hid (far_any l v w hl)
 obtain ⟨n, hn⟩ : ∃ n, n = l.length := ⟨_, rfl⟩
 have HN := Lib.hid hn
 obtain ⟨ao, cap, rfl, _, hn6⟩ : ∃ ao cap, v = .slice ao n cap ∧ n ≤ cap ∧ n ≤ maxLen := RowsAt.form' hl hn
 have HL := Lib.hid hl
 have HWF := Lib.hid hwf
 clear hl hwf hm hn hn6
 go_enter Tryz.func4, Tryz.ntmps4
 go_wp2_with fail
 (with_reducible refine HFR.out.mono ?_)
 rintro e w1 ⟨far, rfl, hfar, hb1⟩
 have HB1 := Lib.hid hb1
 cases far
 ·
  have hn60 : n ≤ 60 := by rw [HN.out]; exact hfar rfl
  have HL1 := Lib.hid (RowsAt.next fct_steady HL.out hb1)
  have HLV := Lib.hid (live_any l _ w1 HL1.out HWF.out (by have := HN.out; omega))
  clear hfar hb1 HFR
  go_wp2_with fail
  (with_reducible refine HLV.out.mono ?_)
  rintro e w2 ⟨u, L, rfl, hp, hup, ho, hb2⟩
  have HP := Lib.hid hp
  have HUP := Lib.hid hup
  have HB2 := Lib.hid (HB1.out.trans (hb2.mono HB1.out.size))
  have hc := Cells.own ho
  obtain ⟨m, hmm⟩ : ∃ m, m = L.length := ⟨_, rfl⟩
  rw [← hmm] at hc
  obtain ⟨uo, uc, rfl, _, hm6⟩ := hc.form
  have HM := Lib.hid hmm
  have hm60 : m ≤ 60 := by
   have := hp.length_eq
   have := keepF_len (goneF l) l
   have := HN.out
   omega
  have HC := Lib.hid hc
  have HL2 := Lib.hid (RowsAt.next fct_steady HL1.out hb2)
  clear hp hup ho hb2 hc hmm hm6 HLV HL1 HL
  go_wp2
  go_loopw [23] (fun i wr => ∃ k : Nat, i = .int .i64 k ∧ k ≤ n ∧ Hid (Below w2.heap.size w2 wr)) (fun i _ => n - (intOf i).toNat)
  case atStart => exact ⟨0, rfl, by omega, Below.refl _ _⟩
  case round =>
   obtain ⟨k, rfl, hk, HB⟩ := hrel
   by_cases hlt : k < n
   ·
    have hkI : (k : Int) < (n : Int) := by omega
    obtain ⟨bb, off, ma, mn, mc, la, ln, lc, er, st, rfl, hbB, p0, p1, p2, p3, p4, p5, p6, p7, p8⟩ := Fcts.get (RowsAt.next fct_steady HL2.out HB.out) HN.out hlt
    obtain ⟨x, hx⟩ : ∃ x, x = l.getD k default := ⟨_, rfl⟩
    have HXX := Lib.hid hx
    rw [← hx] at p0 p1 p2 p3 p4
    obtain ⟨kd, hkd⟩ : ∃ z, z = x.kd := ⟨_, rfl⟩
    have HKD := Lib.hid hkd
    rw [← hkd] at p0
    obtain ⟨F, hF⟩ : ∃ F, F = wr.heap.size := ⟨_, rfl⟩
    obtain ⟨w3, hw3⟩ : ∃ W, W = wr.alloc (.cells #[.int .i64 kd, .string x.s, .int .i64 x.d.1, .int .i64 x.d.2, .int .i64 x.t, .slice ma mn mc, .slice la ln lc, .int .i64 er, .bool st] 40) := ⟨_, rfl⟩
    have b3 : Below wr.heap.size wr w3 := by rw [hw3]; exact below1
    have HB3 := Lib.hid (HB.out.trans (b3.mono HB.out.size))
    have HX3 : Hid (w3.heap[F]? = some (.cells #[.int .i64 kd, .string x.s, .int .i64 x.d.1, .int .i64 x.d.2, .int .i64 x.t, .slice ma mn mc, .slice la ln lc, .int .i64 er, .bool st] 40)) := by show _ = _; rw [hw3, hF]; exact heap_alloc_new wr _
    have HW3 := Lib.hid hw3
    have HFF := Lib.hid hF
    clear hx hkd b3 hw3 hF
    by_cases h1 : kd = 1
    ·
     subst h1
     have HV := Lib.hid (valid_any x.d w3)
     go_wp2_with fail
     rw [← HW3.out, ← HFF.out]
     (with_reducible refine HV.out.mono ?_)
     rintro e w4 ⟨rfl, hb4⟩
     have HX4 : Hid (w4.heap[F]? = some (.cells #[.int .i64 1, .string x.s, .int .i64 x.d.1, .int .i64 x.d.2, .int .i64 x.t, .slice ma mn mc, .slice la ln lc, .int .i64 er, .bool st] 40)) := (hb4.block _ (lt_of_block HX3.out)).trans HX3.out
     have HB4 := Lib.hid (HB3.out.trans (hb4.mono HB3.out.size))
     have HZ4 : Hid (F < w4.heap.size) := lt_of_block HX4.out
     obtain ⟨V, hV⟩ : ∃ V, V = valid x.d := ⟨_, rfl⟩
     have HVW : Hid (V = wantB l k 0) := by show _ = _; rw [hV, HXX.out]; rfl
     rw [← hV]
     clear hV hb4 HV HX3 HB3 HW3 HFF p0 p1 p2 p3 p4 p5 p6 p7 p8
     go_wp2
     go_loopw [6, 36] (fun s i wx => ∃ (j : Nat) (A : Bool), i = .int .i64 j ∧ j ≤ n ∧ s = .bool A ∧ Hid (A = wantB l k j) ∧ Hid (Below w4.heap.size w4 wx)) (fun _ i _ => n - (intOf i).toNat)
     case atStart => exact ⟨0, V, rfl, by omega, rfl, HVW.out, Below.refl _ _⟩
     case round =>
      rename World => wx
      obtain ⟨j, A, rfl, hj, rfl, HA, HBx⟩ := hrel
      by_cases hjt : j < n
      ·
       have hjI : (j : Int) < (n : Int) := by omega
       have hk0 : (0 : Int) ≤ (j : Int) := by omega
       obtain ⟨ybb, yoff, yma, ymn, ymc, yla, yln, ylc, yer, yst, he, hbY, r0, r1, r2, r3, r4, r5, r6, r7, r8⟩ := Fcts.get (RowsAt.next fct_steady HL2.out (HB4.out.trans (HBx.out.mono HB4.out.size))) HN.out hjt
       cases he
       have z0 := boxc ((HBx.out.block _ HZ4.out).trans HX4.out) 0 _ rfl
       have z2 := boxc ((HBx.out.block _ HZ4.out).trans HX4.out) 2 _ rfl
       have z3 := boxc ((HBx.out.block _ HZ4.out).trans HX4.out) 3 _ rfl
       obtain ⟨y, hy⟩ : ∃ y, y = l.getD j default := ⟨_, rfl⟩
       rw [← hy] at r0 r1 r2 r3 r4
       obtain ⟨yk, hyk⟩ : ∃ z, z = y.kd := ⟨_, rfl⟩
       rw [← hyk] at r0
       obtain ⟨d1, hd1⟩ : ∃ z, z = x.d.1 := ⟨_, rfl⟩
       obtain ⟨d2, hd2⟩ : ∃ z, z = x.d.2 := ⟨_, rfl⟩
       obtain ⟨e1, he1⟩ : ∃ z, z = y.d.1 := ⟨_, rfl⟩
       obtain ⟨e2, he2⟩ : ∃ z, z = y.d.2 := ⟨_, rfl⟩
       rw [← hd1] at z2
       rw [← hd2] at z3
       rw [← he1] at r2
       rw [← he2] at r3
       have hz2 := (Below.cell (below1 (w := wx) (o := (.cells #[.int .i64 yk, .string y.s, .int .i64 e1, .int .i64 e2, .int .i64 y.t, .slice yma ymn ymc, .slice yla yln ylc, .int .i64 yer, .bool yst] 40))) (p := ⟨F, 2, none⟩) (Nat.lt_of_lt_of_le HZ4.out HBx.out.size)).trans z2
       have hz3 := (Below.cell (below1 (w := wx) (o := (.cells #[.int .i64 yk, .string y.s, .int .i64 e1, .int .i64 e2, .int .i64 y.t, .slice yma ymn ymc, .slice yla yln ylc, .int .i64 yer, .bool yst] 40))) (p := ⟨F, 3, none⟩) (Nat.lt_of_lt_of_le HZ4.out HBx.out.size)).trans z3
       have HBy := Lib.hid (HBx.out.alloc HBx.out.size (.cells #[.int .i64 yk, .string y.s, .int .i64 e1, .int .i64 e2, .int .i64 y.t, .slice yma ymn ymc, .slice yla yln ylc, .int .i64 yer, .bool yst] 40))
       have HBAD : Hid (badB l k j = (decide (e1 = d1 ∧ e2 = d2) && (decide (yk = 2) || decide (yk = 1) && decide (j < k)))) := by
        show _ = _
        unfold badB
        rw [← hy, ← hyk, ← HXX.out, he1, he2, hd1, hd2]
        congr 1
        exact decide_eq_decide.2 ⟨fun e => by rw [e]; exact ⟨rfl, rfl⟩, fun e => Prod.ext e.1 e.2⟩
       have HW1 : Hid (∀ b, badB l k j = b → (A && !b) = wantB l k (j + 1)) := fun b hb => by rw [HA.out]; show _ = (wantB l k j && !badB l k j); rw [hb]
       clear hy hyk hd1 hd2 he1 he2 z0 z2 z3
       by_cases g1 : e1 = d1
       ·
        by_cases g2 : e2 = d2
        ·
         subst g1
         subst g2
         by_cases g3 : yk = 2
         ·
          have HR : Hid (false = wantB l k (j + 1)) := by
           have := HW1.out true (by rw [HBAD.out]; simp [g3])
           rw [Bool.not_true, Bool.and_false] at this
           exact this
          subst g3
          go_wp2
          go_roundw
          case rel => exact ⟨j + 1, false, by go_num, by omega, rfl, HR, HBy⟩
          case measure => simp [intOf]; omega
         ·
          have g3b : (yk == 2) = false := by simpa using g3
          by_cases g4 : yk = 1
          ·
           by_cases g5 : j < k
           ·
            have HR : Hid (false = wantB l k (j + 1)) := by
             have := HW1.out true (by rw [HBAD.out]; simp [g4, g5])
             rw [Bool.not_true, Bool.and_false] at this
             exact this
            have g5I : (j : Int) < (k : Int) := by omega
            subst g4
            go_wp2
            go_roundw
            case rel => exact ⟨j + 1, false, by go_num, by omega, rfl, HR, HBy⟩
            case measure => simp [intOf]; omega
           ·
            have HR : Hid (A = wantB l k (j + 1)) := by
             have := HW1.out false (by rw [HBAD.out]; simp [g3, g5])
             rw [Bool.not_false, Bool.and_true] at this
             exact this
            have g5I : ¬ (j : Int) < (k : Int) := by omega
            have g5J : (k : Int) ≤ (j : Int) := by omega
            subst g4
            go_wp2
            go_roundw
            case rel => exact ⟨j + 1, A, by go_num, by omega, rfl, HR, HBy⟩
            case measure => simp [intOf]; omega
          ·
           have g4b : (yk == 1) = false := by simpa using g4
           have HR : Hid (A = wantB l k (j + 1)) := by
            have := HW1.out false (by rw [HBAD.out]; simp [g3, g4])
            rw [Bool.not_false, Bool.and_true] at this
            exact this
           go_wp2
           go_roundw
           case rel => exact ⟨j + 1, A, by go_num, by omega, rfl, HR, HBy⟩
           case measure => simp [intOf]; omega
        ·
         have g2b : (e2 == d2) = false := by simpa using g2
         have HR : Hid (A = wantB l k (j + 1)) := by
          have := HW1.out false (by rw [HBAD.out]; simp [g2])
          rw [Bool.not_false, Bool.and_true] at this
          exact this
         subst g1
         go_wp2
         go_roundw
         case rel => exact ⟨j + 1, A, by go_num, by omega, rfl, HR, HBy⟩
         case measure => simp [intOf]; omega
       ·
        have g1b : (e1 == d1) = false := by simpa using g1
        have HR : Hid (A = wantB l k (j + 1)) := by
         have := HW1.out false (by rw [HBAD.out]; simp [g1])
         rw [Bool.not_false, Bool.and_true] at this
         exact this
        go_wp2
        go_roundw
        case rel => exact ⟨j + 1, A, by go_num, by omega, rfl, HR, HBy⟩
        case measure => simp [intOf]; omega
      ·
       have hjn : n = j := by omega
       subst hjn
       have HBw := Lib.hid (HB4.out.trans (HBx.out.mono HB4.out.size))
       have HXw : Hid (wx.heap[F]? = some (.cells #[.int .i64 1, .string x.s, .int .i64 x.d.1, .int .i64 x.d.2, .int .i64 x.t, .slice ma mn mc, .slice la ln lc, .int .i64 er, .bool st] 40)) := (HBx.out.block _ HZ4.out).trans HX4.out
       have HZw : Hid (F < wx.heap.size) := lt_of_block HXw.out
       clear HX4 HBx HB4 HZ4 HVW HB hbB
       go_wp2
       go_loopw [9, 64] (fun s i wy => ∃ (j : Nat) (B : Bool), i = .int .i64 j ∧ j ≤ m ∧ s = .bool B ∧ Hid (B = foundB x L j) ∧ Hid (Below wx.heap.size wx wy)) (fun _ i _ => m - (intOf i).toNat)
       case atStart => exact ⟨0, false, rfl, by omega, rfl, rfl, Below.refl _ _⟩
       case round =>
        rename World => wy
        obtain ⟨j, B, rfl, hj, rfl, HBB, HBy⟩ := hrel
        by_cases hjt : j < m
        ·
         have hjI : (j : Int) < (m : Int) := by omega
         obtain ⟨lb, lo, rfl, hlb, r0, r1, r2, r3⟩ := lv_get (HC.out.next (HBw.out.trans (HBy.out.mono HBw.out.size))) HM.out hjt
         obtain ⟨y, hy⟩ : ∃ y, y = L.getD j default := ⟨_, rfl⟩
         rw [← hy] at r0 r1 r2 r3
         have hz1 := (Below.cell (below1 (w := wy) (o := .cells #[.string y.s, .int .i64 y.d.1, .int .i64 y.d.2, .int .i64 y.t] 43)) (p := ⟨F, 1, none⟩) (Nat.lt_of_lt_of_le HZw.out HBy.out.size)).trans (boxc ((HBy.out.block _ HZw.out).trans HXw.out) 1 _ rfl)
         have hz2 := (Below.cell (below1 (w := wy) (o := .cells #[.string y.s, .int .i64 y.d.1, .int .i64 y.d.2, .int .i64 y.t] 43)) (p := ⟨F, 2, none⟩) (Nat.lt_of_lt_of_le HZw.out HBy.out.size)).trans (boxc ((HBy.out.block _ HZw.out).trans HXw.out) 2 _ rfl)
         have hz3 := (Below.cell (below1 (w := wy) (o := .cells #[.string y.s, .int .i64 y.d.1, .int .i64 y.d.2, .int .i64 y.t] 43)) (p := ⟨F, 3, none⟩) (Nat.lt_of_lt_of_le HZw.out HBy.out.size)).trans (boxc ((HBy.out.block _ HZw.out).trans HXw.out) 3 _ rfl)
         have hz4 := (Below.cell (below1 (w := wy) (o := .cells #[.string y.s, .int .i64 y.d.1, .int .i64 y.d.2, .int .i64 y.t] 43)) (p := ⟨F, 4, none⟩) (Nat.lt_of_lt_of_le HZw.out HBy.out.size)).trans (boxc ((HBy.out.block _ HZw.out).trans HXw.out) 4 _ rfl)
         have HBz := Lib.hid (HBy.out.alloc HBy.out.size (.cells #[.string y.s, .int .i64 y.d.1, .int .i64 y.d.2, .int .i64 y.t] 43))
         have HSN : Hid (foundB x L (j + 1) = (B || hitB x y)) := by
          show _ = _
          rw [foundB_snoc (by rw [← HM.out]; exact hjt), HBB.out, hy]
         obtain ⟨d1, hd1⟩ : ∃ z, z = x.d.1 := ⟨_, rfl⟩
         obtain ⟨d2, hd2⟩ : ∃ z, z = x.d.2 := ⟨_, rfl⟩
         obtain ⟨e1, he1⟩ : ∃ z, z = y.d.1 := ⟨_, rfl⟩
         obtain ⟨e2, he2⟩ : ∃ z, z = y.d.2 := ⟨_, rfl⟩
         have HHIT : Hid (hitB x y = (decide (e1 = d1 ∧ e2 = d2) && (decide (y.s = x.s) && decide (y.t = x.t)))) := by
          show _ = _
          unfold hitB
          rw [he1, he2, hd1, hd2]
          congr 1
          exact decide_eq_decide.2 ⟨fun e => by rw [e]; exact ⟨rfl, rfl⟩, fun e => Prod.ext e.1 e.2⟩
         rw [← hd1, ← he1, ← he2] at hz2
         rw [← hd2, ← he1, ← he2] at hz3
         rw [← he1, ← he2] at hz1 hz4 HBz
         rw [← he1] at r1
         rw [← he2] at r2
         clear hy hd1 hd2 he1 he2
         cases B
         ·
          by_cases g1 : e1 = d1
          ·
           by_cases g2 : e2 = d2
           ·
            subst g1
            subst g2
            by_cases g3 : y.s = x.s
            ·
             by_cases g4 : y.t = x.t
             ·
              have HR : Hid (true = foundB x L (j + 1)) := by show _ = _; rw [HSN.out, HHIT.out]; simp [g3, g4]
              rw [g3] at r0 hz1 hz2 hz3 hz4 HBz
              rw [g4] at r3 hz1 hz2 hz3 hz4 HBz
              go_wp2
              go_roundw
              case rel => exact ⟨j + 1, true, by go_num, by omega, rfl, HR, HBz⟩
              case measure => simp [intOf]; omega
             ·
              have g4b : (y.t == x.t) = false := by simpa using g4
              have HR : Hid (false = foundB x L (j + 1)) := by show _ = _; rw [HSN.out, HHIT.out]; simp [g4]
              rw [g3] at r0 hz1 hz2 hz3 hz4 HBz
              go_wp2
              go_roundw
              case rel => exact ⟨j + 1, false, by go_num, by omega, rfl, HR, HBz⟩
              case measure => simp [intOf]; omega
            ·
             have g3b : (y.s.toList == x.s.toList) = false := by rw [toList_beq]; exact decide_eq_false g3
             have g3c : ¬ y.s.toList = x.s.toList := fun e => g3 (toList_inj e)
             have HR : Hid (false = foundB x L (j + 1)) := by show _ = _; rw [HSN.out, HHIT.out]; simp [g3]
             go_wp2
             go_roundw
             case rel => exact ⟨j + 1, false, by go_num, by omega, rfl, HR, HBz⟩
             case measure => simp [intOf]; omega
           ·
            have g2b : (e2 == d2) = false := by simpa using g2
            have HR : Hid (false = foundB x L (j + 1)) := by show _ = _; rw [HSN.out, HHIT.out]; simp [g2]
            subst g1
            go_wp2
            go_roundw
            case rel => exact ⟨j + 1, false, by go_num, by omega, rfl, HR, HBz⟩
            case measure => simp [intOf]; omega
          ·
           have g1b : (e1 == d1) = false := by simpa using g1
           have HR : Hid (false = foundB x L (j + 1)) := by show _ = _; rw [HSN.out, HHIT.out]; simp [g1]
           go_wp2
           go_roundw
           case rel => exact ⟨j + 1, false, by go_num, by omega, rfl, HR, HBz⟩
           case measure => simp [intOf]; omega
         ·
          have HR : Hid (true = foundB x L (j + 1)) := by show _ = _; rw [HSN.out]; rfl
          go_wp2
          go_roundw
          case rel => exact ⟨j + 1, true, by go_num, by omega, rfl, HR, HBz⟩
          case measure => simp [intOf]; omega
        ·
         have hjm : m = j := by omega
         have HBn := Lib.hid (HBw.out.trans (HBy.out.mono HBw.out.size))
         cases A
         ·
          go_wp2
          go_roundw
          case rel => exact ⟨k + 1, by go_num, by omega, HBn⟩
          case measure => simp [intOf]; omega
         ·
          have hB : B = true := by
           have h1 := want_found HP.out (i := k) (by rw [← HN.out]; exact hlt) (by rw [← HXX.out]; exact HKD.out.symm) (by rw [← HN.out]; exact HA.out.symm)
           rw [← HXX.out, ← HM.out, hjm] at h1
           rw [HBB.out]; exact h1
          subst hB
          go_wp2
          go_roundw
          case rel => exact ⟨k + 1, by go_num, by omega, HBn⟩
          case measure => simp [intOf]; omega
    ·
     have h1b : (kd != 1) = true := by simpa using h1
     rw [HW3.out] at HB3
     go_wp2
     go_roundw
     case rel => exact ⟨k + 1, by go_num, by omega, HB3⟩
     case measure => simp [intOf]; omega
   ·
    have hkn : n = k := by omega
    subst hkn
    go_wp2
    go_loopw [99] (fun i wy => ∃ j : Nat, i = .int .i64 j ∧ j ≤ m ∧ Hid (Below w2.heap.size w2 wy)) (fun i _ => m - (intOf i).toNat)
    case atStart => exact ⟨0, rfl, by omega, HB.out⟩
    case round =>
     rename World => wy
     clear HB
     obtain ⟨k, rfl, hk, HB⟩ := hrel
     by_cases hlt : k < m
     ·
      have hkI : (k : Int) < (m : Int) := by omega
      obtain ⟨bb, off, rfl, hbb, q0, q1, q2, q3⟩ := lv_get (HC.out.next HB.out) HM.out hlt
      obtain ⟨x, hx⟩ : ∃ x, x = L.getD k default := ⟨_, rfl⟩
      have HXX := Lib.hid hx
      rw [← hx] at q0 q1 q2 q3
      obtain ⟨F, hF⟩ : ∃ F, F = wy.heap.size := ⟨_, rfl⟩
      obtain ⟨w3, hw3⟩ : ∃ W, W = wy.alloc (.cells #[.string x.s, .int .i64 x.d.1, .int .i64 x.d.2, .int .i64 x.t] 43) := ⟨_, rfl⟩
      have b3 : Below wy.heap.size wy w3 := by rw [hw3]; exact below1
      have HB3 := Lib.hid (HB.out.trans (b3.mono HB.out.size))
      have HX3 : Hid (w3.heap[F]? = some (.cells #[.string x.s, .int .i64 x.d.1, .int .i64 x.d.2, .int .i64 x.t] 43)) := by show _ = _; rw [hw3, hF]; exact heap_alloc_new wy _
      have hz3 : w3.heap.size = F + 1 := by rw [hw3, hF]; simp
      have HW3 := Lib.hid hw3
      have HFF := Lib.hid hF
      have key : ∃ w5 : World, True := ⟨w3, trivial⟩
      clear hx hw3 hF key
      by_cases h0 : k = 0
      ·
       subst h0
       simp only [Nat.zero_mul, Nat.add_zero] at q0 q1 q2 q3
       clear b3 hz3
       go_wp2_with fail
       rw [← HW3.out, ← HFF.out]
       have HB5 : Hid (∀ q, Below w2.heap.size w2 (w3.drewN q)) := fun q => below_drewN HB3.out q
       have HX5 : Hid (∀ q, (w3.drewN q).heap[F]? = some (.cells #[.string x.s, .int .i64 x.d.1, .int .i64 x.d.2, .int .i64 x.t] 43)) := fun q => by simpa using HX3.out
       go_quiet (fail)
       go_wp2
       generalize hw5 : w3.drewN _ = w5
       replace hw5 := hw5.symm
       have HB5 : Hid (Below w2.heap.size w2 w5) := by show Below _ _ _; rw [hw5]; exact HB5.out _
       have HX5 : Hid (w5.heap[F]? = some (.cells #[.string x.s, .int .i64 x.d.1, .int .i64 x.d.2, .int .i64 x.t] 43)) := by show _ = _; rw [hw5]; exact HX5.out _
       have HZ5 : Hid (F < w5.heap.size) := lt_of_block HX5.out
       clear hw5
       go_loopw [120] (fun i wx => ∃ j : Nat, i = .int .i64 j ∧ j ≤ n ∧ Hid (Below w5.heap.size w5 wx)) (fun i _ => n - (intOf i).toNat)
       case atStart => exact ⟨0, rfl, by omega, Below.refl _ _⟩
       case round =>
        rename World => wx
        obtain ⟨j, rfl, hj, HBx⟩ := hrel
        by_cases hjt : j < n
        ·
         have hjI : (j : Int) < (n : Int) := by omega
         obtain ⟨ybb, yoff, yma, ymn, ymc, yla, yln, ylc, yer, yst, rfl, hbY, r0, r1, r2, r3, r4, r5, r6, r7, r8⟩ := Fcts.get (RowsAt.next fct_steady HL2.out (HB5.out.trans (HBx.out.mono HB5.out.size))) HN.out hjt
         obtain ⟨y, hy⟩ : ∃ y, y = l.getD j default := ⟨_, rfl⟩
         rw [← hy] at r0 r1 r2 r3 r4
         have HNO : Hid (¬ (y.kd = 2 ∧ y.d = x.d)) := by
          have h1 := alive_kept HP.out (i := 0) (k := j) (by rw [← HM.out]; exact hlt) (by rw [← HN.out]; exact hjt)
          rw [← hy, ← HXX.out] at h1
          exact h1
         obtain ⟨yk, hyk⟩ : ∃ z, z = y.kd := ⟨_, rfl⟩
         rw [← hyk] at r0 HNO
         have HBy := Lib.hid (HBx.out.alloc HBx.out.size (.cells #[.int .i64 yk, .string y.s, .int .i64 y.d.1, .int .i64 y.d.2, .int .i64 y.t, .slice yma ymn ymc, .slice yla yln ylc, .int .i64 yer, .bool yst] 40))
         have t1 := (Below.cell (below1 (w := wx) (o := (.cells #[.int .i64 yk, .string y.s, .int .i64 y.d.1, .int .i64 y.d.2, .int .i64 y.t, .slice yma ymn ymc, .slice yla yln ylc, .int .i64 yer, .bool yst] 40))) (p := ⟨F, 1, none⟩) (Nat.lt_of_lt_of_le HZ5.out HBx.out.size)).trans (boxc ((HBx.out.block _ HZ5.out).trans HX5.out) 1 _ rfl)
         have t2 := (Below.cell (below1 (w := wx) (o := (.cells #[.int .i64 yk, .string y.s, .int .i64 y.d.1, .int .i64 y.d.2, .int .i64 y.t, .slice yma ymn ymc, .slice yla yln ylc, .int .i64 yer, .bool yst] 40))) (p := ⟨F, 2, none⟩) (Nat.lt_of_lt_of_le HZ5.out HBx.out.size)).trans (boxc ((HBx.out.block _ HZ5.out).trans HX5.out) 2 _ rfl)
         obtain ⟨d1, hd1⟩ : ∃ z, z = x.d.1 := ⟨_, rfl⟩
         obtain ⟨d2, hd2⟩ : ∃ z, z = x.d.2 := ⟨_, rfl⟩
         obtain ⟨e1, he1⟩ : ∃ z, z = y.d.1 := ⟨_, rfl⟩
         obtain ⟨e2, he2⟩ : ∃ z, z = y.d.2 := ⟨_, rfl⟩
         have HNO2 : Hid (¬ (yk = 2 ∧ e1 = d1 ∧ e2 = d2)) := fun e => HNO.out ⟨e.1, Prod.ext (he1.symm.trans (e.2.1.trans hd1)) (he2.symm.trans (e.2.2.trans hd2))⟩
         rw [← hd1, ← he1, ← he2] at t1
         rw [← hd2, ← he1, ← he2] at t2
         rw [← he1, ← he2] at HBy
         rw [← he1] at r2
         rw [← he2] at r3
         clear hy hyk hd1 hd2 he1 he2 HNO
         by_cases g3 : yk = 2
         ·
          by_cases g1 : e1 = d1
          ·
           by_cases g2 : e2 = d2
           ·
            exact absurd ⟨g3, g1, g2⟩ HNO2.out
           ·
            have g2b : (e2 == d2) = false := by simpa using g2
            subst g1
            subst g3
            go_wp2
            go_roundw
            case rel => exact ⟨j + 1, by go_num, by omega, HBy⟩
            case measure => simp [intOf]; omega
          ·
           have g1b : (e1 == d1) = false := by simpa using g1
           subst g3
           go_wp2
           go_roundw
           case rel => exact ⟨j + 1, by go_num, by omega, HBy⟩
           case measure => simp [intOf]; omega
         ·
          have g3b : (yk == 2) = false := by simpa using g3
          go_wp2
          go_roundw
          case rel => exact ⟨j + 1, by go_num, by omega, HBy⟩
          case measure => simp [intOf]; omega
        ·
         have hjn : n = j := by omega
         subst hjn
         have HB6 := Lib.hid (HB5.out.trans (HBx.out.mono HB5.out.size))
         go_wp2
         go_roundw
         case rel => exact ⟨0 + 1, by go_num, by omega, HB6⟩
         case measure => simp [intOf]; omega
      ·
       obtain ⟨p, hp⟩ : ∃ p, k = p + 1 := ⟨k - 1, by omega⟩
       have hkp : (k : Int) - 1 = (p : Int) := by omega
       have hpm : (p : Int) < (m : Int) := by omega
       have hp0 : (0 : Int) ≤ (p : Int) := by omega
       have hk0 : (0 : Int) < (k : Int) := by omega
       obtain ⟨bb', off', he, hbb', s0, s1, s2, s3⟩ := lv_get (HC.out.next HB.out) HM.out (j := p) (by omega)
       cases he
       obtain ⟨z, hz⟩ : ∃ z, z = L.getD p default := ⟨_, rfl⟩
       rw [← hz] at s0 s1 s2 s3
       have HLS : Hid (∀ W, Calls Tryz.prog 23 #[.agg #[.int .i64 z.d.1, .int .i64 z.d.2], .agg #[.int .i64 x.d.1, .int .i64 x.d.2]] W fun e w' => e = .returned (.bool true) ∧ Lays W w') := fun W => by
        have h1 := less_lays z.d x.d W
        have h2 := up_next HUP.out (i := p) (by rw [← hp, ← HM.out]; exact hlt)
        rw [← hp, ← hz, ← HXX.out] at h2
        rwa [h2] at h1
       have HR0 : Hid (NxR F bb (off + p * 4) x z w3 w3) := ⟨boxc HX3.out 1 _ rfl, boxc HX3.out 2 _ rfl, (b3.cell (p := ⟨bb, off + p * 4 + 1, none⟩) hbb').trans s1, (b3.cell (p := ⟨bb, off + p * 4 + 2, none⟩) hbb').trans s2, Below.refl _ _, by omega, by have := HFF.out; omega⟩
       clear hz s0 s1 s2 s3 b3 hz3 hp
       go_wp2_with fail
       rw [← HW3.out, ← HFF.out]
       refine wp_flow 14 (fun _ => 1000) (fun ww => NxR F bb (off + p * 4) x z w3 ww) (fun _ w w' => (fun (w w' : World) => RowKit.Below w.heap.size w w') w w') (fun kF vF wF => match kF with | 0 => (vF = .int .i64 k) | 1 => (vF = .bool true) | 2 => (vF = .bool true) | 3 => (vF = .slice (some ⟨bb, off, none⟩) m uc) | 4 => (vF = .int .i64 k) | 5 => (vF = .int .i64 p) | 6 => (vF = .pointer (some ⟨bb, off + p * 4, none⟩)) | 7 => (vF = .pointer (some ⟨bb, off + p * 4 + 1, none⟩)) | 8 => (vF = .agg #[.int .i64 z.d.1, .int .i64 z.d.2]) | 9 => (vF = .pointer (some ⟨F, 1, none⟩)) | 10 => (vF = .agg #[.int .i64 x.d.1, .int .i64 x.d.2]) | 11 => (vF = .bool true) | 12 => (vF = .bool false) | 13 => (vF = .bool false) | _ => True) (fun _ _ _ _ => True) (by kernel_rfl) (by kernel_rfl) ?_ ?_ ?_ ?_ ?_
       ·
        exact NxR.start HR0.out
       ·
        intro iF wF1 wF2 hR hT; exact hR.step hR.size hT
       ·
        intro kF hkF iF hiF hne hdd hanc hdan vF wF1 wF2 h hT
        rcases (by omega : kF = 0 ∨ kF = 1 ∨ kF = 2 ∨ kF = 3 ∨ kF = 4 ∨ kF = 5 ∨ kF = 6 ∨ kF = 7 ∨ kF = 8 ∨ kF = 9 ∨ kF = 10 ∨ kF = 11 ∨ kF = 12 ∨ kF = 13) with rfl | rfl | rfl | rfl | rfl | rfl | rfl | rfl | rfl | rfl | rfl | rfl | rfl | rfl
        iterate 14 exact h
       ·
        generalize hAF : fillOf _ _ _ = AF
        replace hAF := fun x => congrFun hAF x
        simp only [take_succ_cons, take_zero, fillOf, Act.put, setIfInBounds_toArray, set_cons_zero, set_cons_succ, Nat.reduceAdd, Nat.zero_add] at hAF
        refine .cons ?_ (.cons ?_ (.cons ?_ (.cons ?_ (.cons ?_ (.cons ?_ (.cons ?_ (.cons ?_ (.cons ?_ (.cons ?_ (.cons ?_ (.cons ?_ (.cons ?_ (.cons ?_ (.nil))))))))))))))
        all_goals
         intro xF ww hR hd K hK
         first | simp only [← hAF, Act.put, setIfInBounds_toArray, set_cons_zero, set_cons_succ] at hK ⊢ | simp only [← hAF, Act.put] at hK ⊢
         clear hAF
         try simp only [Nat.zero_add, Nat.reduceAdd] at hK ⊢
        ·
         clear hd
         obtain ⟨r0, r1, r2, r3, hbl, hsz, hlb⟩ := id hR
         rw [if_pos (by rfl)]
         go_simp
         exact hK.out _ _ (Below.refl _ _) (rfl) (fun _ _ _ => ⟨trivial, trivial⟩)
        ·
         have dd0 := hd 0 (by kernel_rfl)
         clear hd
         try generalize xF 0 = yy0 at *
         obtain rfl := dd0
         obtain ⟨r0, r1, r2, r3, hbl, hsz, hlb⟩ := id hR
         rw [if_pos (by rfl)]
         go_simp
         refine hK.out _ _ ?_ ?_ ?_
         ·
          exact Below.refl _ _
         ·
          first | exact rfl | exact congrArg Value.bool (decide_eq_true (by omega))
         ·
          exact fun _ _ _ => ⟨trivial, trivial⟩
        ·
         have dd1 := hd 1 (by kernel_rfl)
         clear hd
         try generalize xF 1 = yy1 at *
         obtain rfl := dd1
         obtain ⟨r0, r1, r2, r3, hbl, hsz, hlb⟩ := id hR
         rw [if_pos (by rfl)]
         go_simp
         exact hK.out _ _ (Below.refl _ _) (rfl) (fun _ _ _ => ⟨trivial, trivial⟩)
        ·
         have dd2 := hd 2 (by kernel_rfl)
         clear hd
         try generalize xF 2 = yy2 at *
         obtain rfl := dd2
         obtain ⟨r0, r1, r2, r3, hbl, hsz, hlb⟩ := id hR
         rw [if_pos (by rfl)]
         go_simp
         exact hK.out _ _ (Below.refl _ _) (rfl) (fun _ _ _ => ⟨trivial, trivial⟩)
        ·
         have dd2 := hd 2 (by kernel_rfl)
         clear hd
         try generalize xF 2 = yy2 at *
         obtain rfl := dd2
         obtain ⟨r0, r1, r2, r3, hbl, hsz, hlb⟩ := id hR
         rw [if_pos (by rfl)]
         go_simp
         exact hK.out _ _ (Below.refl _ _) (rfl) (fun _ _ _ => ⟨trivial, trivial⟩)
        ·
         have dd2 := hd 2 (by kernel_rfl)
         have dd4 := hd 4 (by kernel_rfl)
         clear hd
         try generalize xF 2 = yy2 at *
         try generalize xF 4 = yy4 at *
         obtain rfl := dd2
         obtain rfl := dd4
         obtain ⟨r0, r1, r2, r3, hbl, hsz, hlb⟩ := id hR
         rw [if_pos (by rfl)]
         go_simp
         refine hK.out _ _ ?_ ?_ ?_
         ·
          exact Below.refl _ _
         ·
          first | exact rfl | exact congrArg (Value.int .i64) (IntWalk.i64_in _ (by omega))
         ·
          exact fun _ _ _ => ⟨trivial, trivial⟩
        ·
         have dd2 := hd 2 (by kernel_rfl)
         have dd3 := hd 3 (by kernel_rfl)
         have dd5 := hd 5 (by kernel_rfl)
         clear hd
         try generalize xF 2 = yy2 at *
         try generalize xF 3 = yy3 at *
         try generalize xF 5 = yy5 at *
         obtain rfl := dd2
         obtain rfl := dd3
         obtain rfl := dd5
         obtain ⟨r0, r1, r2, r3, hbl, hsz, hlb⟩ := id hR
         rw [if_pos (by rfl)]
         go_simp
         exact hK.out _ _ (Below.refl _ _) (rfl) (fun _ _ _ => ⟨trivial, trivial⟩)
        ·
         have dd2 := hd 2 (by kernel_rfl)
         have dd6 := hd 6 (by kernel_rfl)
         clear hd
         try generalize xF 2 = yy2 at *
         try generalize xF 6 = yy6 at *
         obtain rfl := dd2
         obtain rfl := dd6
         obtain ⟨r0, r1, r2, r3, hbl, hsz, hlb⟩ := id hR
         rw [if_pos (by rfl)]
         go_simp
         exact hK.out _ _ (Below.refl _ _) (rfl) (fun _ _ _ => ⟨trivial, trivial⟩)
        ·
         have dd2 := hd 2 (by kernel_rfl)
         have dd7 := hd 7 (by kernel_rfl)
         clear hd
         try generalize xF 2 = yy2 at *
         try generalize xF 7 = yy7 at *
         obtain rfl := dd2
         obtain rfl := dd7
         obtain ⟨r0, r1, r2, r3, hbl, hsz, hlb⟩ := id hR
         rw [if_pos (by rfl)]
         go_simp
         exact hK.out _ _ (Below.refl _ _) (rfl) (fun _ _ _ => ⟨trivial, trivial⟩)
        ·
         have dd2 := hd 2 (by kernel_rfl)
         clear hd
         try generalize xF 2 = yy2 at *
         obtain rfl := dd2
         obtain ⟨r0, r1, r2, r3, hbl, hsz, hlb⟩ := id hR
         rw [if_pos (by rfl)]
         go_simp
         exact hK.out _ _ (Below.refl _ _) (rfl) (fun _ _ _ => ⟨trivial, trivial⟩)
        ·
         have dd2 := hd 2 (by kernel_rfl)
         have dd9 := hd 9 (by kernel_rfl)
         clear hd
         try generalize xF 2 = yy2 at *
         try generalize xF 9 = yy9 at *
         obtain rfl := dd2
         obtain rfl := dd9
         obtain ⟨r0, r1, r2, r3, hbl, hsz, hlb⟩ := id hR
         rw [if_pos (by rfl)]
         go_simp
         exact hK.out _ _ (Below.refl _ _) (rfl) (fun _ _ _ => ⟨trivial, trivial⟩)
        ·
         have dd2 := hd 2 (by kernel_rfl)
         have dd8 := hd 8 (by kernel_rfl)
         have dd10 := hd 10 (by kernel_rfl)
         clear hd
         try generalize xF 2 = yy2 at *
         try generalize xF 8 = yy8 at *
         try generalize xF 10 = yy10 at *
         obtain rfl := dd2
         obtain rfl := dd8
         obtain rfl := dd10
         obtain ⟨r0, r1, r2, r3, hbl, hsz, hlb⟩ := id hR
         rw [if_pos (by rfl)]
         go_simp
         (go_at_call 23; (with_reducible refine (HLS.out _).mono ?_); rintro e wK ⟨rfl, hbK⟩)
         try go_wp2_with fail
         exact hK.out _ _ (hbK.below) (rfl) (fun _ _ _ => ⟨trivial, trivial⟩)
        ·
         have dd2 := hd 2 (by kernel_rfl)
         have dd11 := hd 11 (by kernel_rfl)
         clear hd
         try generalize xF 2 = yy2 at *
         try generalize xF 11 = yy11 at *
         obtain rfl := dd2
         obtain rfl := dd11
         obtain ⟨r0, r1, r2, r3, hbl, hsz, hlb⟩ := id hR
         rw [if_pos (by rfl)]
         go_simp
         exact hK.out _ _ (Below.refl _ _) (rfl) (fun _ _ _ => ⟨trivial, trivial⟩)
        ·
         have dd2 := hd 2 (by kernel_rfl)
         have dd12 := hd 12 (by kernel_rfl)
         clear hd
         try generalize xF 2 = yy2 at *
         try generalize xF 12 = yy12 at *
         obtain rfl := dd2
         obtain rfl := dd12
         obtain ⟨r0, r1, r2, r3, hbl, hsz, hlb⟩ := id hR
         rw [if_pos (by rfl)]
         go_simp
         exact hK.out _ _ (Below.refl _ _) (rfl) (fun _ _ _ => ⟨trivial, trivial⟩)
       intro xF ww hR hF hP
       clear hP
       have dd0 := hF 0 (by omega) (by decide)
       have dd1 := hF 1 (by omega) (by decide)
       have dd2 := hF 2 (by omega) (by decide)
       have dd3 := hF 3 (by omega) (by decide)
       have dd4 := hF 4 (by omega) (by decide)
       have dd5 := hF 5 (by omega) (by decide)
       have dd6 := hF 6 (by omega) (by decide)
       have dd7 := hF 7 (by omega) (by decide)
       have dd8 := hF 8 (by omega) (by decide)
       have dd9 := hF 9 (by omega) (by decide)
       have dd10 := hF 10 (by omega) (by decide)
       have dd11 := hF 11 (by omega) (by decide)
       have dd12 := hF 12 (by omega) (by decide)
       have dd13 := hF 13 (by omega) (by decide)
       clear hF
       simp only [take_succ_cons, take_zero, drop_succ_cons, drop_zero, fillOf, Act.put, setIfInBounds_toArray, set_cons_zero, set_cons_succ, Nat.reduceAdd, Nat.zero_add]
       try generalize xF 0 = yy0 at *
       try generalize xF 1 = yy1 at *
       try generalize xF 2 = yy2 at *
       try generalize xF 3 = yy3 at *
       try generalize xF 4 = yy4 at *
       try generalize xF 5 = yy5 at *
       try generalize xF 6 = yy6 at *
       try generalize xF 7 = yy7 at *
       try generalize xF 8 = yy8 at *
       try generalize xF 9 = yy9 at *
       try generalize xF 10 = yy10 at *
       try generalize xF 11 = yy11 at *
       try generalize xF 12 = yy12 at *
       try generalize xF 13 = yy13 at *
       clear xF
       obtain rfl := dd0
       obtain rfl := dd1
       obtain rfl := dd2
       obtain rfl := dd3
       obtain rfl := dd4
       obtain rfl := dd5
       obtain rfl := dd6
       obtain rfl := dd7
       obtain rfl := dd8
       obtain rfl := dd9
       obtain rfl := dd10
       obtain rfl := dd11
       obtain rfl := dd12
       obtain rfl := dd13
       have hRE := Lib.hid hR
       clear hR
       have HB5 : Hid (Below w2.heap.size w2 ww) := HB3.out.trans (hRE.out.below.mono (by have := HB.out.size; have := HFF.out; omega))
       have HX5 : Hid (ww.heap[F]? = some (.cells #[.string x.s, .int .i64 x.d.1, .int .i64 x.d.2, .int .i64 x.t] 43)) := (hRE.out.below.block _ (by omega)).trans HX3.out
       go_wp2
       obtain ⟨w5, hw5⟩ : ∃ W, W = ww := ⟨_, rfl⟩
       rw [← hw5]
       have HB5 : Hid (Below w2.heap.size w2 w5) := by show Below _ _ _; rw [hw5]; exact HB5.out
       have HX5 : Hid (w5.heap[F]? = some (.cells #[.string x.s, .int .i64 x.d.1, .int .i64 x.d.2, .int .i64 x.t] 43)) := by show _ = _; rw [hw5]; exact HX5.out
       have HZ5 : Hid (F < w5.heap.size) := lt_of_block HX5.out
       clear hw5
       go_loopw [120] (fun i wx => ∃ j : Nat, i = .int .i64 j ∧ j ≤ n ∧ Hid (Below w5.heap.size w5 wx)) (fun i _ => n - (intOf i).toNat)
       case atStart => exact ⟨0, rfl, by omega, Below.refl _ _⟩
       case round =>
        rename World => wx
        obtain ⟨j, rfl, hj, HBx⟩ := hrel
        by_cases hjt : j < n
        ·
         have hjI : (j : Int) < (n : Int) := by omega
         obtain ⟨ybb, yoff, yma, ymn, ymc, yla, yln, ylc, yer, yst, rfl, hbY, r0, r1, r2, r3, r4, r5, r6, r7, r8⟩ := Fcts.get (RowsAt.next fct_steady HL2.out (HB5.out.trans (HBx.out.mono HB5.out.size))) HN.out hjt
         obtain ⟨y, hy⟩ : ∃ y, y = l.getD j default := ⟨_, rfl⟩
         rw [← hy] at r0 r1 r2 r3 r4
         have HNO : Hid (¬ (y.kd = 2 ∧ y.d = x.d)) := by
          have h1 := alive_kept HP.out (i := k) (k := j) (by rw [← HM.out]; exact hlt) (by rw [← HN.out]; exact hjt)
          rw [← hy, ← HXX.out] at h1
          exact h1
         obtain ⟨yk, hyk⟩ : ∃ z, z = y.kd := ⟨_, rfl⟩
         rw [← hyk] at r0 HNO
         have HBy := Lib.hid (HBx.out.alloc HBx.out.size (.cells #[.int .i64 yk, .string y.s, .int .i64 y.d.1, .int .i64 y.d.2, .int .i64 y.t, .slice yma ymn ymc, .slice yla yln ylc, .int .i64 yer, .bool yst] 40))
         have t1 := (Below.cell (below1 (w := wx) (o := (.cells #[.int .i64 yk, .string y.s, .int .i64 y.d.1, .int .i64 y.d.2, .int .i64 y.t, .slice yma ymn ymc, .slice yla yln ylc, .int .i64 yer, .bool yst] 40))) (p := ⟨F, 1, none⟩) (Nat.lt_of_lt_of_le HZ5.out HBx.out.size)).trans (boxc ((HBx.out.block _ HZ5.out).trans HX5.out) 1 _ rfl)
         have t2 := (Below.cell (below1 (w := wx) (o := (.cells #[.int .i64 yk, .string y.s, .int .i64 y.d.1, .int .i64 y.d.2, .int .i64 y.t, .slice yma ymn ymc, .slice yla yln ylc, .int .i64 yer, .bool yst] 40))) (p := ⟨F, 2, none⟩) (Nat.lt_of_lt_of_le HZ5.out HBx.out.size)).trans (boxc ((HBx.out.block _ HZ5.out).trans HX5.out) 2 _ rfl)
         obtain ⟨d1, hd1⟩ : ∃ z, z = x.d.1 := ⟨_, rfl⟩
         obtain ⟨d2, hd2⟩ : ∃ z, z = x.d.2 := ⟨_, rfl⟩
         obtain ⟨e1, he1⟩ : ∃ z, z = y.d.1 := ⟨_, rfl⟩
         obtain ⟨e2, he2⟩ : ∃ z, z = y.d.2 := ⟨_, rfl⟩
         have HNO2 : Hid (¬ (yk = 2 ∧ e1 = d1 ∧ e2 = d2)) := fun e => HNO.out ⟨e.1, Prod.ext (he1.symm.trans (e.2.1.trans hd1)) (he2.symm.trans (e.2.2.trans hd2))⟩
         rw [← hd1, ← he1, ← he2] at t1
         rw [← hd2, ← he1, ← he2] at t2
         rw [← he1, ← he2] at HBy
         rw [← he1] at r2
         rw [← he2] at r3
         clear hy hyk hd1 hd2 he1 he2 HNO
         by_cases g3 : yk = 2
         ·
          by_cases g1 : e1 = d1
          ·
           by_cases g2 : e2 = d2
           ·
            exact absurd ⟨g3, g1, g2⟩ HNO2.out
           ·
            have g2b : (e2 == d2) = false := by simpa using g2
            subst g1
            subst g3
            go_wp2
            go_roundw
            case rel => exact ⟨j + 1, by go_num, by omega, HBy⟩
            case measure => simp [intOf]; omega
          ·
           have g1b : (e1 == d1) = false := by simpa using g1
           subst g3
           go_wp2
           go_roundw
           case rel => exact ⟨j + 1, by go_num, by omega, HBy⟩
           case measure => simp [intOf]; omega
         ·
          have g3b : (yk == 2) = false := by simpa using g3
          go_wp2
          go_roundw
          case rel => exact ⟨j + 1, by go_num, by omega, HBy⟩
          case measure => simp [intOf]; omega
        ·
         have hjn : n = j := by omega
         subst hjn
         have HB6 := Lib.hid (HB5.out.trans (HBx.out.mono HB5.out.size))
         go_wp2
         go_roundw
         case rel => exact ⟨k + 1, by go_num, by omega, HB6⟩
         case measure => simp [intOf]; omega
     ·
      have hkn : m = k := by omega
      subst hkn
      have HA := Lib.hid (awake_any wy (HMX.out _ (HB2.out.trans (HB.out.mono HB2.out.size))))
      go_wp2_with fail
      (with_reducible refine HA.out.mono ?_)
      rintro e w9 ⟨rfl, hb9⟩
      have HB9 := Lib.hid ((HB2.out.trans (HB.out.mono HB2.out.size)).trans (hb9.mono (HB2.out.trans (HB.out.mono HB2.out.size)).size))
      clear hb9
      go_wp2
      go_ret
      exact ⟨rfl, HB9.out⟩
 ·
  have HA := Lib.hid (awake_any w1 (HMX.out _ hb1))
  clear hfar hb1 HFR
  go_wp2_with fail
  (with_reducible refine HA.out.mono ?_)
  rintro e w2 ⟨rfl, hb2⟩
  have HB2 := Lib.hid (HB1.out.trans (hb2.mono HB1.out.size))
  clear hb2
  go_wp2
  go_ret
  exact ⟨rfl, HB2.out⟩
end Go.Proofs.YtnbdcnbhejfdhaaGreat
