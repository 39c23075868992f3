/- the cursors' law CursorSeeks: behind a seek a cursor has just its numbers from there on. -/
import Derived.Test.YtojngbobecdpeaaLawCurS
namespace Go.Proofs.Ytojngbobecdpeaa
open Go Go.RowKit Go.ChangeShapes at_ pm cl
namespace Cur
/-- gone on with to so many places, one behind the other -/
def seekN (L : List Int) (k : Nat) (x : Cur) : Cur := (L.take k).foldl (fun c p => fwd p c) x
def lowN (L : List Int) (k : Nat) : Int := (L.take k).foldl max 0
theorem seekN_succ {L : List Int} {k : Nat} (h : k < L.length) (x : Cur) : seekN L (k + 1) x = fwd (L.getD k 0) (seekN L k x) := by
  unfold seekN
  rw [take_snoc h, List.foldl_append]; rfl
theorem lowN_succ {L : List Int} {k : Nat} (h : k < L.length) : lowN L (k + 1) = max (lowN L k) (L.getD k 0) := by
  unfold lowN
  rw [take_snoc h, List.foldl_append]; rfl
theorem seekN_right {x : Cur} (hx : right 8 x = true) {L : List Int} : ∀ k, k ≤ L.length → right 8 (seekN L k x) = true
  | 0, _ => hx
  | k + 1, h => by rw [seekN_succ (by omega)]; exact fwd_right _ 8 _ (seekN_right hx k (by omega))
theorem seekN_nums {x : Cur} (hx : right 8 x = true) {L : List Int} : ∀ k, k ≤ L.length → nums (seekN L k x) = (nums x).filter (fun n => decide (lowN L k ≤ n))
  | 0, _ => by
    refine (List.filter_eq_self.2 (fun y hy => ?_)).symm
    have := (right_gd 8 x hx).2 y hy
    exact decide_eq_true this.1
  | k + 1, h => by
    rw [seekN_succ (by omega), fwd_nums _ 8 _ (seekN_right hx k (by omega)), seekN_nums hx k (by omega), lowN_succ (by omega), List.filter_filter]
    refine List.filter_congr (fun y _ => ?_)
    rw [← Bool.decide_and]
    refine decide_eq_decide.2 ?_
    omega
end Cur
/-- all blocks but one are as before -/
def KX (q : Nat) (W W' : World) : Prop := (W'.os = W.os ∧ W'.tape = W.tape ∧ W'.output = W.output) ∧ W.heap.size ≤ W'.heap.size ∧ ∀ j, j < W.heap.size → j ≠ q → W'.heap[j]? = W.heap[j]?
section
variable {q : Nat} {W W' W2 : World} {P : World → Prop}
theorem KX.refl : KX q W W := ⟨⟨rfl, rfl, rfl⟩, Nat.le_refl _, fun _ _ _ => rfl⟩
theorem KX.next (h : KX q W W') (hb : Below W'.heap.size W' W2) : KX q W W2 :=
  ⟨⟨hb.os.trans h.1.1, hb.tape.trans h.1.2.1, hb.output.trans h.1.2.2⟩, Nat.le_trans h.2.1 hb.size, fun j hj hq => (hb.block j (Nat.lt_of_lt_of_le hj h.2.1)).trans (h.2.2 j hj hq)⟩
theorem KX.store (h : KX q W W') (cs : Array Value) : KX q W (W'.setRow q cs) :=
  ⟨h.1, by rw [setRow_size]; exact h.2.1, fun j hj hq => (setRow_other _ _ _ _ hq).trans (h.2.2 j hj hq)⟩
theorem FrX.to (h : FrX q none W P) (hk : KX q W W') : P W' := h W' hk.1 hk.2.1 (fun j hj hq _ => hk.2.2 j hj hq)
theorem KX.below {B : Nat} {w : World} (h : KX q W W') (hb : Below B w W) (hq : B ≤ q) (hs : B ≤ W.heap.size) : Below B w W' :=
  ⟨h.1.1.trans hb.os, h.1.2.1.trans hb.tape, h.1.2.2.trans hb.output, Nat.le_trans hb.size h.2.1, fun j hj => (h.2.2 j (by omega) (by omega)).trans (hb.block j hj)⟩
end
theorem FrX.args {q : Nat} {v : Value} {l : List Int} {w W : World} (h : At w w.heap.size v l) (hb : Below w.heap.size w W) (hq : w.heap.size ≤ q) : FrX q none W (fun W => At W W.heap.size v l) := by
  intro W2 h0 h1 h2
  have hb2 : Below w.heap.size w W2 := ⟨h0.1.trans hb.os, h0.2.1.trans hb.tape, h0.2.2.trans hb.output, Nat.le_trans hb.size h1, fun j hj => (h2 j (Nat.lt_of_lt_of_le hj hb.size) (by omega) (by simp)).trans (hb.block j hj)⟩
  exact (h.below hb2).mono hb2.size
/-- where the loop stands -/
def SK (x : Cur) (L : List Int) (q e k : Nat) (W : World) : Prop :=
  ∃ (lo : Option Addr) (ln lc : Nat) (ko : Option Addr) (kn kc : Nat), W.heap[q]? = some (.cells #[.int .i64 (Cur.seekN L k x).k, .slice lo ln lc, .int .i64 (Cur.seekN L k x).a, .slice ko kn kc] 25) ∧
    FrX q none W (fun W => curR e W W.heap.size [.int .i64 (Cur.seekN L k x).k, .slice lo ln lc, .int .i64 (Cur.seekN L k x).a, .slice ko kn kc] (Cur.seekN L k x))
set_option maxHeartbeats 25600000 in
set_option maxRecDepth 100000 in
theorem seeks_any (e : Nat) (x : Cur) (c : List Value) (L : List Int) (vp : Value) (w : World) (h : curR e w w.heap.size c x) (hp : At w w.heap.size vp L) : Calls Try.prog 6 #[.agg c.toArray, vp] w (Said true w) := by
  have HAW : Hid (∀ W, Calls Try.prog 9 #[] W (Said true W)) := awake_any
  have HS : Hid (∀ W, Below w.heap.size w W → Calls Try.prog 8 #[.agg c.toArray, .int .i64 12] W (SzA x W)) := fun W hW => size_cu 12 e 12 x c W rfl (by omega) (curR_steady e _ _ _ _ _ _ h hW hW.size)
  have HR : Hid (∀ W, Below w.heap.size w W → Calls Try.prog 12 #[.agg c.toArray] W (Said (x.right 8) W)) := fun W hW => cright_any e x c W (curR_steady e _ _ _ _ _ _ h hW hW.size)
  have HX := Lib.hid h
  have HP := Lib.hid hp
  obtain ⟨np, hnp⟩ : ∃ n, n = L.length := ⟨_, rfl⟩
  obtain ⟨pa, pc, rfl, _⟩ := hp
  rw [← hnp] at HP ⊢
  have HNP := Lib.hid hnp
  obtain ⟨lo, ln, lc, ko, kn, kc, rfl⟩ := cur_form h
  obtain ⟨r, hr⟩ : ∃ r, r = x.right 8 := ⟨_, rfl⟩
  rw [← hr] at HR
  have HRR := Lib.hid hr
  obtain ⟨W2, hW2⟩ : ∃ W, W = w.alloc (.cells #[.int .i64 x.k, .slice lo ln lc, .int .i64 x.a, .slice ko kn kc] 25) := ⟨_, rfl⟩
  obtain ⟨q0, hq0⟩ : ∃ q, q = w.heap.size := ⟨_, rfl⟩
  have b2 : Below w.heap.size w W2 := by rw [hW2]; exact below1
  have x2 : W2.heap[q0]? = some (.cells #[.int .i64 x.k, .slice lo ln lc, .int .i64 x.a, .slice ko kn kc] 25) := by rw [hW2, hq0]; exact heap_alloc_new _ _
  have HC := Lib.hid (HS.out _ b2)
  have HW2 := Lib.hid hW2
  have HQ0 := Lib.hid hq0
  have B2 := Lib.hid b2
  have X2 := Lib.hid x2
  clear h hr b2 hW2 hq0 x2 HS hnp
  go_enter Try.func6, Try.ntmps6
  go_wp2_with fail
  rw [← HW2.out, ← HQ0.out]
  (with_reducible refine HC.out.mono ?_)
  rintro e3 w3 ⟨z, b, rfl, hz0, hz1, hzs, b3⟩
  have B3 := Lib.hid (B2.out.trans (b3.mono B2.out.size))
  have X3 := Lib.hid ((b3.block _ (lt_of_block X2.out)).trans X2.out)
  have HZ := Lib.hid hzs
  have c0 := boxc X3.out 0 _ rfl
  have c1 := boxc X3.out 1 _ rfl
  have c2 := boxc X3.out 2 _ rfl
  have c3 := boxc X3.out 3 _ rfl
  have HC3 := Lib.hid (HR.out _ B3.out)
  clear b3 hzs HC X2 HW2 B2
  cases b with
  | false =>
    go_wp2_with fail
    (with_reducible refine (HAW.out _).mono ?_)
    rintro ea wa ⟨rfl, ba⟩
    go_wp2
    go_ret
    exact ⟨rfl, B3.out.trans (ba.mono B3.out.size)⟩
  | true =>
    by_cases g1 : 200 < z
    · skip
      go_wp2_with fail
      (with_reducible refine (HAW.out _).mono ?_)
      rintro ea wa ⟨rfl, ba⟩
      go_wp2
      go_ret
      exact ⟨rfl, B3.out.trans (ba.mono B3.out.size)⟩
    · go_wp2_with fail
      (with_reducible refine HC3.out.mono ?_)
      rintro e4 w4 ⟨rfl, b4⟩
      have B4 := Lib.hid (B3.out.trans (b4.mono B3.out.size))
      have X4 := Lib.hid ((b4.block _ (lt_of_block X3.out)).trans X3.out)
      clear b4 c0 c1 c2 c3
      cases r with
      | false =>
        go_wp2_with fail
        (with_reducible refine (HAW.out _).mono ?_)
        rintro ea wa ⟨rfl, ba⟩
        go_wp2
        go_ret
        exact ⟨rfl, B4.out.trans (ba.mono B4.out.size)⟩
      | true =>
        by_cases g2 : 20 < np
        · have g2i : (20 : Int) < (np : Int) := by omega
          go_wp2_with fail
          (with_reducible refine (HAW.out _).mono ?_)
          rintro ea wa ⟨rfl, ba⟩
          go_wp2
          go_ret
          exact ⟨rfl, B4.out.trans (ba.mono B4.out.size)⟩
        · have g2i : ¬ (20 : Int) < (np : Int) := by omega
          have HR8 : Hid (x.right 8 = true) := HRR.out.symm
          have c0 := boxc X4.out 0 _ rfl
          have c1 := boxc X4.out 1 _ rfl
          have c2 := boxc X4.out 2 _ rfl
          have c3 := boxc X4.out 3 _ rfl
          have HAL := Lib.hid (all_cu e x _ w4 (curR_steady e _ _ _ _ _ _ HX.out B4.out B4.out.size))
          go_wp2_with fail
          (with_reducible refine HAL.out.mono ?_)
          rintro e5 w5 ⟨v5, rfl, o5, b5⟩
          rw [Cur.allN_right HR8.out (Nat.le_refl _)] at o5
          obtain ⟨na, hna⟩ : ∃ n, n = x.nums.length := ⟨_, rfl⟩
          have HNA := Lib.hid hna
          have f5 := fre_at o5
          rw [← hna] at o5
          obtain ⟨aa, ac, rfl⟩ := own_slice o5
          have hna2 : na ≤ 200 := by
            have h1 := Cur.nums_le 8 x HR8.out
            have h2 := HZ.out (by first | rfl | trivial)
            omega
          have hq4 := lt_of_block X4.out
          have FA : Hid (FrX q0 none w5 (fun W => At W W.heap.size (.slice aa na ac) x.nums)) := FrX.of f5 hq4 (fun b hb => by cases hb)
          have B5 : Hid (Below w.heap.size w w5) := B4.out.trans (b5.mono B4.out.size)
          have FP : Hid (FrX q0 none w5 (fun W => At W W.heap.size (.slice pa np pc) L)) := FrX.args HP.out B5.out (Nat.le_of_eq HQ0.out.symm)
          have D5 : Hid (SK x L q0 e 0 w5) := ⟨lo, ln, lc, ko, kn, kc, (b5.block _ hq4).trans X4.out, FrX.arg HX.out B5.out (Nat.le_of_eq HQ0.out.symm)⟩
          clear b5 o5 f5 hna hq4 c0 c1 c2 c3 HC3 X3 B3 X4 B4 HX HP HRR HR HZ
          go_wp2
          go_loopw [8, 42, 98] (fun l i _ wr => ∃ (k : Nat) (z : Int), i = .int .i64 k ∧ k ≤ np ∧ l = .int .i64 z ∧ Hid (z = Cur.lowN L k) ∧ KX q0 w5 wr ∧ Hid (SK x L q0 e k wr)) (fun _ i _ _ => np - (intOf i).toNat)
          case atStart => exact ⟨0, 0, rfl, Nat.zero_le _, rfl, rfl, KX.refl, D5⟩
          case round =>
            obtain ⟨k, z, rfl, hk, rfl, HLO, hK, HD⟩ := hrel
            have HK := Lib.hid hK
            clear hK
            by_cases hlt : k < np
            · have hkI : (k : Int) < (np : Int) := by omega
              have HKL : Hid (k < L.length) := by show _ < _; rw [← HNP.out]; exact hlt
              obtain ⟨lo2, ln2, lc2, ko2, kn2, kc2, hY, hF⟩ := HD.out
              have hap := FP.out.to HK.out
              obtain ⟨pb, po, rfl, hpc⟩ : ∃ b off, pa = some ⟨b, off, none⟩ ∧ wr.cell? ⟨b, off + k, none⟩ = some (.int .i64 (L.getD k 0)) := by
                obtain ⟨ao, cap, e1, _, _, h3⟩ := hap
                obtain ⟨b, off, e2, _, hc⟩ := h3 (by have := HKL.out; omega)
                simp only [Value.slice.injEq] at e1
                exact ⟨b, off, e1.1.trans e2, hc k HKL.out⟩
              obtain ⟨p, hpE⟩ : ∃ p, p = L.getD k 0 := ⟨_, rfl⟩
              rw [← hpE] at hpc
              have HSK : Hid (Calls Try.prog 15 #[.agg #[.int .i64 (Cur.seekN L k x).k, .slice lo2 ln2 lc2, .int .i64 (Cur.seekN L k x).a, .slice ko2 kn2 kc2], .int .i64 p] wr (CurA e (Cur.seekN L (k + 1) x) wr)) := by
                have hr8 := Cur.seekN_right HR8.out (L := L) k (by have := HKL.out; omega)
                exact (seek_any e p _ _ wr hF.at).mono (fun e' w' hh => by
                  unfold SeekP at hh
                  rw [if_pos hr8, hpE, ← Cur.seekN_succ HKL.out] at hh
                  exact hh)
              have HLO2 : Hid (max z p = Cur.lowN L (k + 1)) := by show _ = _; rw [Cur.lowN_succ HKL.out, HLO.out, hpE]
              have YR := Lib.hid hY
              have d0 := boxc hY 0 _ rfl
              have d1 := boxc hY 1 _ rfl
              have d2 := boxc hY 2 _ rfl
              have d3 := boxc hY 3 _ rfl
              clear hF hY hap hpE HD
              go_wp2_with fail
              (with_reducible refine HSK.out.mono ?_)
              rintro e6 w6 ⟨c6, rfl, hf6, b6⟩
              obtain ⟨lo6, ln6, lc6, ko6, kn6, kc6, rfl⟩ := cur_form hf6.at
              have hQr := lt_of_block YR.out
              have Y6 : w6.heap[q0]? = some (.cells #[.int .i64 (Cur.seekN L k x).k, .slice lo2 ln2 lc2, .int .i64 (Cur.seekN L k x).a, .slice ko2 kn2 kc2] 25) := (b6.block _ hQr).trans YR.out
              have K7 : Hid (KX q0 w5 (w6.setRow q0 #[.int .i64 (Cur.seekN L (k + 1) x).k, .slice lo6 ln6 lc6, .int .i64 (Cur.seekN L (k + 1) x).a, .slice ko6 kn6 kc6])) := (HK.out.next b6).store _
              have X7 : Hid ((w6.setRow q0 #[.int .i64 (Cur.seekN L (k + 1) x).k, .slice lo6 ln6 lc6, .int .i64 (Cur.seekN L (k + 1) x).a, .slice ko6 kn6 kc6]).heap[q0]? = some (.cells #[.int .i64 (Cur.seekN L (k + 1) x).k, .slice lo6 ln6 lc6, .int .i64 (Cur.seekN L (k + 1) x).a, .slice ko6 kn6 kc6] 25)) := setRow_heap w6 q0 _ _ _ _ Y6
              have F7 : Hid (FrX q0 none (w6.setRow q0 #[.int .i64 (Cur.seekN L (k + 1) x).k, .slice lo6 ln6 lc6, .int .i64 (Cur.seekN L (k + 1) x).a, .slice ko6 kn6 kc6]) (fun W => curR e W W.heap.size [.int .i64 (Cur.seekN L (k + 1) x).k, .slice lo6 ln6 lc6, .int .i64 (Cur.seekN L (k + 1) x).a, .slice ko6 kn6 kc6] (Cur.seekN L (k + 1) x))) := FrX.store (FrX.of hf6 hQr (fun b hb => by cases hb)) _
              clear hf6 b6 d0 d1 d2 d3 hQr hpc HSK YR HK
              go_wp2_with ((with_reducible show wpList _ _ _ (Oper.mk _ (Op.store 25 (.tmp 2) _) _ _ _ _ :: _) _ _); refine wpList_store_row rfl 25 (.tmp 2) _ rfl q0 #[.int .i64 (Cur.seekN L (k + 1) x).k, .slice lo6 ln6 lc6, .int .i64 (Cur.seekN L (k + 1) x).a, .slice ko6 kn6 kc6] rfl rfl 25 #[.int .i64 (Cur.seekN L k x).k, .slice lo2 ln2 lc2, .int .i64 (Cur.seekN L k x).a, .slice ko2 kn2 kc2] Y6 csize rfl (by simp [Value.oneCell']) ?_)
              obtain ⟨w7, h7⟩ : ∃ W, W = World.setRow w6 q0 #[.int .i64 (Cur.seekN L (k + 1) x).k, .slice lo6 ln6 lc6, .int .i64 (Cur.seekN L (k + 1) x).a, .slice ko6 kn6 kc6] := ⟨_, rfl⟩
              rw [← h7] at K7 X7 F7 ⊢
              clear h7 Y6
              obtain ⟨z2, hz2⟩ : ∃ z2, z2 = max z p := ⟨_, rfl⟩
              rw [← hz2] at HLO2
              have A7 := Lib.hid (FA.out.to K7.out)
              go_wp2
              simp only [← hz2]
              clear hz2
              go_loopw [11, 54, 65] (fun v i _ wi => ∃ (j n : Nat) (ao : Option Addr) (cap : Nat), i = .int .i64 j ∧ j ≤ na ∧ v = .slice ao n cap ∧ n ≤ j ∧ Below w7.heap.size w7 wi ∧ Hid (wi.ownsRow w7.heap.size 3 1 (.slice ao n cap) n (i64s ((x.nums.take j).filter (fun y => decide (z2 ≤ y)))))) (fun _ i _ _ => na - (intOf i).toNat)
              case atStart => exact ⟨0, 0, none, 0, rfl, Nat.zero_le _, rfl, Nat.le_refl _, Below.refl _ _, World.ownsRow_nil _ _ _ _⟩
              case round =>
                obtain ⟨j, n, ao, cap, rfl, hj, rfl, hn, hbl, HO⟩ := hrel
                have HB := Lib.hid hbl
                clear hbl
                by_cases hjl : j < na
                · have hjI : (j : Int) < (na : Int) := by omega
                  have HJL : Hid (j < x.nums.length) := by show _ < _; rw [← HNA.out]; exact hjl
                  obtain ⟨ab, ao2, rfl, hac⟩ : ∃ b off, aa = some ⟨b, off, none⟩ ∧ wr.cell? ⟨b, off + j, none⟩ = some (.int .i64 (x.nums.getD j 0)) := by
                    obtain ⟨ao, cap, e1, _, _, h3⟩ := (A7.out.below HB.out).mono HB.out.size
                    obtain ⟨b, off, e2, _, hc⟩ := h3 (by have := HJL.out; omega)
                    simp only [Value.slice.injEq] at e1
                    exact ⟨b, off, e1.1.trans e2, hc j HJL.out⟩
                  obtain ⟨y, hyE⟩ : ∃ y, y = x.nums.getD j 0 := ⟨_, rfl⟩
                  rw [← hyE] at hac
                  have HTK : Hid ((x.nums.take (j + 1)).filter (fun y => decide (z2 ≤ y)) = (x.nums.take j).filter (fun y => decide (z2 ≤ y)) ++ [y].filter (fun y => decide (z2 ≤ y))) := by
                    show _ = _
                    rw [take_snoc HJL.out, List.filter_append, ← hyE]
                  have HS7 : Hid (w7.heap.size ≤ wr.heap.size) := HB.out.size
                  clear hyE
                  by_cases hge : z2 ≤ y
                  · have hkb : (n + 1) * 8 ≤ 140737488355328 := by omega
                    have HGE := Lib.hid hge
                    go_wp2_with (at_builtin; refine kit.app1 (.tmp 61) (.tmp 63) 22 rfl rfl w7.heap.size Try.underlying22 infoInt rfl (by decide) (by decide) HO.out rfl rfl rfl (by intro u hu; simp at hu; subst hu; rfl) hkb HS7.out ?_)
                    intro v' w5' hown' hb5
                    obtain ⟨ao5, cap5, rfl⟩ := own_slice hown'
                    have HO5 : Hid (w5'.ownsRow w7.heap.size 3 1 (.slice ao5 (n + 1) cap5) (n + 1) (i64s ((x.nums.take (j + 1)).filter (fun y => decide (z2 ≤ y))))) := by
                      show World.ownsRow _ _ _ _ _ _ _
                      rw [HTK.out, List.filter_cons, decide_eq_true HGE.out, i64s_app]; exact hown'
                    have HB5 := Lib.hid (HB.out.trans hb5)
                    clear hown' hb5 hac
                    go_wp2
                    go_roundw
                    case rel => exact ⟨j + 1, n + 1, ao5, cap5, by go_num, by omega, rfl, by omega, HB5.out, HO5⟩
                    case measure => simp [intOf]; omega
                  · have HO5 : Hid (wr.ownsRow w7.heap.size 3 1 (.slice ao n cap) n (i64s ((x.nums.take (j + 1)).filter (fun y => decide (z2 ≤ y))))) := by
                      show World.ownsRow _ _ _ _ _ _ _
                      rw [HTK.out, List.filter_cons, decide_eq_false hge]
                      simp only [Bool.false_eq_true, if_false, List.filter_nil, List.append_nil]
                      exact HO.out
                    go_wp2
                    go_roundw
                    case rel => exact ⟨j + 1, n, ao, cap, by go_num, by omega, rfl, by omega, HB.out, HO5⟩
                    case measure => simp [intOf]; omega
                · obtain rfl : j = na := by omega
                  have hkL : k + 1 ≤ L.length := HKL.out
                  have hwl : (x.nums.take j).filter (fun y => decide (z2 ≤ y)) = (Cur.seekN L (k + 1) x).nums := by
                    rw [List.take_of_length_le (by rw [HNA.out]; exact Nat.le_refl _), Cur.seekN_nums HR8.out _ hkL, HLO2.out]
                  have HO8 : Hid (wr.ownsRow w7.heap.size 3 1 (.slice ao n cap) n (i64s (Cur.seekN L (k + 1) x).nums)) := by show World.ownsRow _ _ _ _ _ _ _; rw [← hwl]; exact HO.out
                  have hy8 : (Cur.seekN L (k + 1) x).right 8 = true := Cur.seekN_right HR8.out _ hkL
                  obtain ⟨y, hyc⟩ : ∃ y, y = Cur.seekN L (k + 1) x := ⟨_, rfl⟩
                  have HYC := Lib.hid hyc
                  have HY8 := Lib.hid hy8
                  have F8 := Lib.hid (F7.out.next HB.out)
                  have X8 := Lib.hid ((HB.out.block _ (lt_of_block X7.out)).trans X7.out)
                  have K8 := Lib.hid (K7.out.next HB.out)
                  rw [← hyc] at HO8 HY8 F8 X8
                  have HN8 : Hid (Calls Try.prog 10 #[.agg #[.int .i64 y.k, .slice lo6 ln6 lc6, .int .i64 y.a, .slice ko6 kn6 kc6]] wr (LstA (y.nums[0]?) wr)) := by
                    have h := now_any e _ _ wr F8.out.at
                    rw [Cur.now_head HY8.out] at h
                    exact h
                  obtain ⟨s, hs⟩ : ∃ s, s = y.nums[0]? := ⟨_, rfl⟩
                  rw [← hs] at HN8
                  have HSS := Lib.hid hs
                  have d0 := boxc X8.out 0 _ rfl
                  have d1 := boxc X8.out 1 _ rfl
                  have d2 := boxc X8.out 2 _ rfl
                  have d3 := boxc X8.out 3 _ rfl
                  have HNL : Hid (n = y.nums.length) := by
                    have := HO8.out.1
                    rw [i64s_len] at this
                    show _ = _
                    omega
                  clear hwl HO hy8 hyc hs F7 X7 K7 A7 HB
                  go_wp2_with fail
                  (with_reducible refine HN8.out.mono ?_)
                  rintro e9 w9 ⟨rfl, b9⟩
                  have F9 := Lib.hid (F8.out.next b9)
                  have X9 := Lib.hid ((b9.block _ (lt_of_block X8.out)).trans X8.out)
                  have K9 := Lib.hid (K8.out.next b9)
                  have O9 := Lib.hid (own_stay HO8.out b9)
                  clear b9 HN8 F8 X8 K8 HO8 d0 d1 d2 d3
                  have d0 := boxc X9.out 0 _ rfl
                  have d1 := boxc X9.out 1 _ rfl
                  have d2 := boxc X9.out 2 _ rfl
                  have d3 := boxc X9.out 3 _ rfl
                  go_wp2_with fail
                  (with_reducible refine (all_cu e _ _ w9 F9.out.at).mono ?_)
                  rintro e10 w10 ⟨v10, rfl, o10, b10⟩
                  rw [Cur.allN_right HY8.out (Nat.le_refl _)] at o10
                  have A10 := Lib.hid (at_.own o10)
                  have F10 := Lib.hid (F9.out.next b10)
                  have X10 := Lib.hid ((b10.block _ (lt_of_block X9.out)).trans X9.out)
                  have K10 := Lib.hid (K9.out.next b10)
                  have W10 : Hid (At w10 w10.heap.size (.slice ao n cap) y.nums) := by
                    have h := own_stay O9.out b10
                    refine at_.own (base := w7.heap.size) (e := 3) ?_
                    rw [← HNL.out]; exact h
                  clear o10 b10 F9 X9 K9 O9 d0 d1 d2 d3
                  go_wp2_with fail
                  (with_reducible refine (ints_same _ _ _ w10 A10.out W10.out).mono ?_)
                  rintro e11 w11 ⟨rfl, b11⟩
                  have F11 := Lib.hid (F10.out.next b11)
                  have X11 := Lib.hid ((b11.block _ (lt_of_block X10.out)).trans X10.out)
                  have K11 := Lib.hid (K10.out.next b11)
                  have W11 : Hid (At w11 w11.heap.size (.slice ao n cap) y.nums) := (W10.out.below b11).mono b11.size
                  have d0 := boxc X11.out 0 _ rfl
                  have d1 := boxc X11.out 1 _ rfl
                  have d2 := boxc X11.out 2 _ rfl
                  have d3 := boxc X11.out 3 _ rfl
                  have HRI := Lib.hid (cright_any e y _ w11 F11.out.at)
                  rw [HY8.out] at HRI
                  clear b11 F10 X10 K10 W10 A10
                  cases s with
                  | none =>
                    obtain rfl : n = 0 := by
                      have := HSS.out
                      rw [HNL.out]
                      cases hh : y.nums with
                      | nil => rfl
                      | cons a r => rw [hh] at this; simp at this
                    simp only [Option.isSome_none, Option.getD_none]
                    go_wp2_with fail
                    (with_reducible refine HRI.out.mono ?_)
                    rintro e12 w12 ⟨rfl, b12⟩
                    have K12 := Lib.hid (K11.out.next b12)
                    have D12 : Hid (SK x L q0 e (k + 1) w12) := by
                      show SK _ _ _ _ _ _
                      unfold SK
                      rw [← HYC.out]
                      exact ⟨lo6, ln6, lc6, ko6, kn6, kc6, (b12.block _ (lt_of_block X11.out)).trans X11.out, F11.out.next b12⟩
                    clear b12 d0 d1 d2 d3
                    go_wp2
                    go_roundw
                    case rel => exact ⟨k + 1, z2, by go_num, by omega, rfl, HLO2, K12.out, D12⟩
                    case measure => simp [intOf]; omega
                  | some a =>
                    have hn0 : 0 < n := by
                      have := HSS.out
                      rw [HNL.out]
                      cases hh : y.nums with
                      | nil => rw [hh] at this; simp at this
                      | cons a r => simp
                    have hn0i : (0 : Int) < (n : Int) := by omega
                    obtain ⟨wb, wo, rfl, hwc⟩ : ∃ b off, ao = some ⟨b, off, none⟩ ∧ w11.cell? ⟨b, off, none⟩ = some (.int .i64 a) := by
                      obtain ⟨ao, cap, e1, _, _, h3⟩ := W11.out
                      have h0 : 0 < y.nums.length := by rw [← HNL.out]; exact hn0
                      obtain ⟨b, off, e2, _, hc⟩ := h3 h0
                      simp only [Value.slice.injEq] at e1
                      refine ⟨b, off, e1.1.trans e2, ?_⟩
                      have h4 := hc 0 h0
                      have h5 : y.nums.getD 0 0 = a := by
                        rw [List.getD_eq_getElem?_getD, ← HSS.out]; rfl
                      rw [h5] at h4; exact h4
                    simp only [Option.isSome_some, Option.getD_some]
                    go_wp2_with fail
                    (with_reducible refine HRI.out.mono ?_)
                    rintro e12 w12 ⟨rfl, b12⟩
                    have K12 := Lib.hid (K11.out.next b12)
                    have D12 : Hid (SK x L q0 e (k + 1) w12) := by
                      show SK _ _ _ _ _ _
                      unfold SK
                      rw [← HYC.out]
                      exact ⟨lo6, ln6, lc6, ko6, kn6, kc6, (b12.block _ (lt_of_block X11.out)).trans X11.out, F11.out.next b12⟩
                    clear b12 d0 d1 d2 d3 hwc
                    go_wp2
                    go_roundw
                    case rel => exact ⟨k + 1, z2, by go_num, by omega, rfl, HLO2, K12.out, D12⟩
                    case measure => simp [intOf]; omega
            · have K5 : Hid (Below w.heap.size w wr) := HK.out.below B5.out (Nat.le_of_eq HQ0.out.symm) B5.out.size
              go_wp2_with fail
              (with_reducible refine (HAW.out _).mono ?_)
              rintro ea wa ⟨rfl, ba⟩
              go_wp2
              go_ret
              exact ⟨rfl, K5.out.trans (ba.mono K5.out.size)⟩
end Go.Proofs.Ytojngbobecdpeaa
