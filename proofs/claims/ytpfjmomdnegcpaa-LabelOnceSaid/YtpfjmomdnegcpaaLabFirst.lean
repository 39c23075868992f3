/- label.first. -/
import Derived.Test.YtpfjmomdnegcpaaLabText
import Derived.Test.YtpfjmomdnegcpaaLabRead
import Derived.Test.YtpfjmomdnegcpaaShelf
namespace Go.Proofs.Ytpfjmomdnegcpaa
open Go.RowKit Go.ChangeShapes cl
/-- the library's variable holds some number -/
def MX (w : World) : Prop := ∃ m : Int, w.cell? ⟨0, 0, none⟩ = some (.int .i64 m)
theorem MX.next {w w' : World} (h : MX w) (hb : Below w.heap.size w w') : MX w' := by
  obtain ⟨m, hm⟩ := h
  exact ⟨m, (hb.cell (p := ⟨0, 0, none⟩) (World.block_lt_of_cell? _ _ hm)).trans hm⟩
/-- a label, what stands behind it, and whether there is one -/
def FirstP (s : ByteArray) (w : World) (e : Ending) (w' : World) : Prop := ∃ (x : Lab) (left : ByteArray) (ok : Bool), e = .returned (.tuple #[.agg #[.string x.1, .string x.2], .string left, .bool ok]) ∧ Below w.heap.size w w' ∧
  (ok = true → left.size < s.size ∧ x.1.size ≤ s.size ∧ x.2.size ≤ s.size) ∧ ∀ x0 t, lm.good x0 = true → kit.bytes s = lm.oneT x0 ++ t → ok = true ∧ x = x0 ∧ kit.bytes left = lm.noComma t
theorem first_bad {s : ByteArray} {w W : World} (h : ∀ x0 t, lm.good x0 = true → kit.bytes s = lm.oneT x0 ++ t → False) (hb : Below w.heap.size w W) : FirstP s w (.returned (.tuple #[.agg #[.string ⟨#[]⟩, .string ⟨#[]⟩], .string ⟨#[]⟩, .bool false])) W :=
  ⟨(⟨#[]⟩, ⟨#[]⟩), ⟨#[]⟩, false, rfl, hb, fun e => absurd e (by decide), fun x0 t hg hs => (h x0 t hg hs).elim⟩

set_option maxHeartbeats 3200000 in
set_option maxRecDepth 100000 in
theorem first_any (s : ByteArray) (w : World) (hs : s.size ≤ 600) (hm : MX w) :
    Calls Try.prog 34 #[.string s] w (FirstP s w) := by
  obtain ⟨m, hmc⟩ := hm
  have hz0 : 0 < w.heap.size := World.block_lt_of_cell? _ _ hmc
  obtain ⟨N, hN⟩ : ∃ N : ByteArray, N = ⟨(Lib.cut s.data.toList [61, 34]).1.toArray⟩ := ⟨_, rfl⟩
  obtain ⟨A, hA⟩ : ∃ A : ByteArray, A = ⟨(Lib.cut s.data.toList [61, 34]).2.1.toArray⟩ := ⟨_, rfl⟩
  obtain ⟨B, hB⟩ : ∃ B : Bool, B = (Lib.cut s.data.toList [61, 34]).2.2 := ⟨_, rfl⟩
  have htell := lm.cut_tells s N A B hN hA hB
  have hcut : ∀ W : World, W.cell? ⟨0, 0, none⟩ = some (.int .i64 m) → Calls Try.prog 39 #[.string s, .string ⟨#[61, 34]⟩] W fun e w' => e = .returned (.tuple #[.string N, .string A, .bool B]) ∧ ∃ n, w' = W.drewN n := fun W hW => by
    have := Try.strings_Cut s ⟨#[61, 34]⟩ m W (by omega) hW
    rw [hN, hA, hB]; exact this
  have hA0 : Below w.heap.size w (w.alloc (.cells #[.string ⟨#[]⟩, .string ⟨#[]⟩] 38)) := (Below.refl _ _).alloc (Nat.le_refl _) _
  have HC := Lib.hid (hcut (w.alloc (.cells #[.string ⟨#[]⟩, .string ⟨#[]⟩] 38)) ((hA0.cell (p := ⟨0, 0, none⟩) hz0).trans hmc))
  obtain ⟨t1, t2, t3⟩ := htell
  have HT := Lib.hid t3
  clear hN hA hB hcut t3 hmc
  by_cases hb : B = true
  rotate_left
  · have hbf : B = false := by simpa using hb
    rw [hbf] at HC
    have HNO : Hid (∀ x0 t, lm.good x0 = true → kit.bytes s = lm.oneT x0 ++ t → False) := fun x0 t hg he => hb (HT.out x0 t hg he).1
    clear hb hbf
    go_enter Try.func34, Try.ntmps34
    go_wp2_with fail
    (with_reducible refine HC.out.mono ?_)
    rintro e w1 ⟨rfl, nq, rfl⟩
    have hb1 : Below (w.alloc (.cells #[.string ⟨#[]⟩, .string ⟨#[]⟩] 38)).heap.size (w.alloc (.cells #[.string ⟨#[]⟩, .string ⟨#[]⟩] 38)) ((w.alloc (.cells #[.string ⟨#[]⟩, .string ⟨#[]⟩] 38)).drewN nq) := below_drewN (Below.refl _ _) nq
    obtain ⟨c0, c1, f0, f1, hz1⟩ := two hb1
    have hbA := hA0.trans (hb1.mono (by simp))
    have HRET := Lib.hid (fun W (hb : Below w.heap.size w W) => first_bad HNO.out hb)
    have hset := (hbA.setCell (p := ⟨w.heap.size, 0, none⟩) (Nat.le_refl _) (.string ⟨#[]⟩)).setCell (p := ⟨w.heap.size, 1, none⟩) (Nat.le_refl _) (.string ⟨#[]⟩)
    have HR2 := Lib.hid (HRET.out _ hset)
    go_wp2
    refine bodyPost_ret (v := .tuple #[.agg #[.string ⟨#[]⟩, .string ⟨#[]⟩], .string ⟨#[]⟩, .bool false]) (by simp [results, Try.results34, go_sem]) rfl HR2.out
  rw [hb] at HC
  have hAs := t2 hb
  have HTT : Hid (∀ x0 t, lm.good x0 = true → kit.bytes s = lm.oneT x0 ++ t → N = x0.1 ∧ kit.bytes A = escN (kit.bytes x0.2) ++ 34 :: t) := fun x0 t hg he => (HT.out x0 t hg he).2
  have HNs := Lib.hid t1
  clear hb t1 t2
  go_enter Try.func34, Try.ntmps34
  go_wp2_with fail
  (with_reducible refine HC.out.mono ?_)
  rintro e w1 ⟨rfl, nq, rfl⟩
  have hb1 : Below (w.alloc (.cells #[.string ⟨#[]⟩, .string ⟨#[]⟩] 38)).heap.size (w.alloc (.cells #[.string ⟨#[]⟩, .string ⟨#[]⟩] 38)) ((w.alloc (.cells #[.string ⟨#[]⟩, .string ⟨#[]⟩] 38)).drewN nq) := below_drewN (Below.refl _ _) nq
  generalize hw1 : (w.alloc (.cells #[.string ⟨#[]⟩, .string ⟨#[]⟩] 38)).drewN nq = w1 at hb1 ⊢
  obtain ⟨c0, c1, f0, f1, hz1⟩ := two hb1
  have hbA := hA0.trans (hb1.mono (by simp))
  have hA6 : A.size ≤ 600 := by omega
  have HU := Lib.hid infoU8
  clear hw1 hb1
  go_wp2
  go_loopw [7, 8, 24, 38] (fun o i _ _ wr => ∃ (k : Nat) (val : List Nat), i = .int .i64 k ∧ k ≤ A.size ∧ val.length ≤ k ∧ Hid (wr.ownsRow w1.heap.size 5 1 o val.length (kit.u8s val)) ∧ Below w1.heap.size w1 wr ∧ Hid (∀ v0 t, kit.bytes A = escN v0 ++ 34 :: t → ∃ j, j ≤ v0.length ∧ val = v0.take j ∧ (kit.bytes A).drop k = escN (v0.drop j) ++ 34 :: t)) (fun _ i _ _ _ => A.size - (intOf i).toNat)
  case atStart => exact ⟨0, [], rfl, Nat.zero_le _, Nat.zero_le _, ⟨rfl, Or.inl ⟨rfl, rfl⟩⟩, Below.refl _ _, fun v0 t h => ⟨0, Nat.zero_le _, rfl, by simpa using h⟩⟩
  case round =>
    obtain ⟨k, val, rfl, hk, hvl, HO, hbl, HI⟩ := hrel
    have g0 := (hbl.cell (p := ⟨w.heap.size, 0, none⟩) hz1).trans c0
    have g1 := (hbl.cell (p := ⟨w.heap.size, 1, none⟩) hz1).trans c1
    have e0 := (hbl.frozen (p := ⟨w.heap.size, 0, none⟩) hz1).trans f0
    have e1 := (hbl.frozen (p := ⟨w.heap.size, 1, none⟩) hz1).trans f1
    have hz := hbl.size
    have hbw := hbA.trans (hbl.mono (by omega))
    by_cases hlt : k < A.size
    · have hkI : (k : Int) < (A.size : Int) := by omega
      have HDR := Lib.hid (kit.bytes_drop A k hlt)
      by_cases h34 : (A[k]'hlt).toNat = 34
      · have HB : Hid ((A[k]'hlt).toNat = 34) := h34
        have g34b : (((A[k]'hlt).toNat : Int) == 34) = true := by rw [h34]; rfl
        have hstr := fun q => kit.run_string (P := Try.prog) (src := 47) (dst := 9) Try.underlying47 Try.underlying5 Try.underlying9 (own_stay HO.out (below_drewN (Below.refl _ _) q))
        obtain ⟨LF, hLF⟩ : ∃ L : ByteArray, L = ⟨(Lib.trimPrefix (A.extract (k + 1) A.size).data.toList [44]).toArray⟩ := ⟨_, rfl⟩
        have htr := lm.trim_tells (A.extract (k + 1) A.size)
        rw [← hLF, lm.bytes_tail] at htr
        have hex : (A.extract (k + 1) A.size).size = A.size - (k + 1) := by rw [ByteArray.size_extract]; omega
        have HTP : Hid (∀ W : World, Calls Try.prog 40 #[.string (A.extract (k + 1) A.size), .string ⟨#[44]⟩] W fun e w' => e = .returned (.string LF) ∧ w' = W) := fun W => by
          have := Try.strings_TrimPrefix (A.extract (k + 1) A.size) ⟨#[44]⟩ W
          rw [hLF]; exact this
        obtain ⟨V, hV⟩ : ∃ V, V = kit.str val := ⟨_, rfl⟩
        rw [← hV] at hstr
        have hstr1 := kit.run_string (P := Try.prog) (w := wr.drew) (src := 47) (dst := 9) Try.underlying47 Try.underlying5 Try.underlying9 HO.out
        rw [← hV] at hstr1
        have HRET : Hid (∀ W, Below w.heap.size w W → FirstP s w (.returned (.tuple #[.agg #[.string N, .string V], .string LF, .bool true])) W) := fun W hW => by
          refine ⟨(N, V), LF, true, rfl, hW, fun _ => ⟨by have := htr.2; omega, HNs.out, by show V.size ≤ _; rw [hV, kit.str_size]; omega⟩, fun x0 t hg he => ?_⟩
          obtain ⟨a1, a2⟩ := HTT.out x0 t hg he
          obtain ⟨j, hj, hv, hd⟩ := HI.out _ _ a2
          rw [HDR.out, HB.out] at hd
          obtain ⟨b1, b2⟩ := (lm.esc_at hd.symm).1 rfl
          have hjl : (kit.bytes x0.2).length ≤ j := by
            have := congrArg List.length b1
            rw [List.length_drop, List.length_nil] at this; omega
          refine ⟨rfl, ?_, by rw [htr.1, b2]⟩
          rw [hV, a1, hv, List.take_of_length_le hjl, kit.str_bytes]
        have wa : IntKind.i64.wrap ((k : Int) + 1) = (k : Int) + 1 := IntWalk.i64_in _ (by omega)
        have wb : ((k : Int) + 1).toNat = k + 1 := by omega
        have wc : (k : Int) + 1 ≤ (A.size : Int) := by omega
        have wz : (0 : Int) ≤ (k : Int) + 1 := by omega
        have wn : k + 1 ≤ A.size := hlt
        clear hLF htr hex hV h34
        go_wp2
        go_region_with (go_at_call 40; (with_reducible refine (HTP.out _).mono ?_); rintro e w' ⟨rfl, rfl⟩)
        all_goals
          go_wp2
          refine bodyPost_ret (v := .tuple #[.agg #[.string N, .string V], .string LF, .bool true]) (by simp [results, Try.results34, go_sem, g0, g1]) rfl (HRET.out _ ?_)
          exact (hbw.drew.setCell (p := ⟨w.heap.size, 0, none⟩) (Nat.le_refl _) (.string N)).setCell (p := ⟨w.heap.size, 1, none⟩) (Nat.le_refl _) (.string V)
      · have g34 : ¬ ((A[k]'hlt).toNat : Int) = 34 := by omega
        have g34b : (((A[k]'hlt).toNat : Int) == 34) = false := by simpa using g34
        by_cases h92 : (A[k]'hlt).toNat = 92
        · have g92 : (((A[k]'hlt).toNat : Int) == 92) = true := by rw [h92]; rfl
          by_cases hk1 : k + 1 < A.size
          · have hk1I : (k : Int) + 1 < (A.size : Int) := by omega
            have HDR1 := Lib.hid (kit.bytes_drop A (k + 1) hk1)
            have HI2 : Hid (∀ v0 t, kit.bytes A = escN v0 ++ 34 :: t → ∃ j, j ≤ v0.length ∧ val ++ [(A[k + 1]'hk1).toNat] = v0.take j ∧ (kit.bytes A).drop (k + 2) = escN (v0.drop j) ++ 34 :: t) := fun v0 t h => by
              obtain ⟨j, hj, hv, hd⟩ := HI.out v0 t h
              rw [HDR.out, HDR1.out] at hd
              obtain ⟨y, v', r', e1, e2, e3, _⟩ := (lm.esc_at hd.symm).2.2 h92
              simp only [List.cons.injEq] at e1
              obtain ⟨rfl, rfl⟩ := e1
              have hjl : j < v0.length := by
                have := congrArg List.length e2
                rw [List.length_drop, List.length_cons] at this; omega
              rw [List.drop_eq_getElem_cons hjl] at e2
              simp only [List.cons.injEq] at e2
              exact ⟨j + 1, hjl, by rw [List.take_succ_eq_append_getElem hjl, hv, e2.1], by rw [e2.2]; exact e3⟩
            go_wp2_with (at_builtin; refine kit.app1 (.tmp 52) (.tmp 56) 47 rfl rfl w1.heap.size Try.underlying47 infoU8 rfl (by decide) (by decide) HO.out rfl rfl rfl (by intro u hu; simp at hu; subst hu; rfl) (by omega) hz ?_)
            intro v2 w2 hown2 hb2
            have HO2 : Hid (w2.ownsRow w1.heap.size 5 1 v2 (val ++ [(A[k + 1]'hk1).toNat]).length (kit.u8s (val ++ [(A[k + 1]'hk1).toNat]))) := by
              show World.ownsRow _ _ _ _ _ _ _
              rw [kit.u8s_app]; simpa [kit.u8s] using hown2
            have hl2 : (val ++ [(A[k + 1]'hk1).toNat]).length ≤ k + 1 := by simp; omega
            have hbl2 := hbl.trans hb2
            clear hown2 hb2
            go_wp2
            go_roundw
            case rel => exact ⟨k + 2, val ++ [(A[k + 1]'hk1).toNat], by go_num, by omega, by omega, HO2.out, hbl2, HI2.out⟩
            case measure => simp [intOf]; omega
          · have hkl : k + 1 = A.size := by omega
            have hk1I : ¬ (k : Int) + 1 < (A.size : Int) := by omega
            have HI2 : Hid (∀ v0 t, kit.bytes A = escN v0 ++ 34 :: t → ∃ j, j ≤ v0.length ∧ val ++ [92] = v0.take j ∧ (kit.bytes A).drop (k + 1) = escN (v0.drop j) ++ 34 :: t) := fun v0 t h => by
              obtain ⟨j, hj, hv, hd⟩ := HI.out v0 t h
              rw [HDR.out] at hd
              obtain ⟨y, v', r', e1, _⟩ := (lm.esc_at hd.symm).2.2 h92
              rw [List.drop_eq_nil_of_le (by rw [kit.bytes_len]; omega)] at e1
              cases e1
            go_wp2_with (at_builtin; refine kit.app1 (.tmp 52) (.tmp 56) 47 rfl rfl w1.heap.size Try.underlying47 infoU8 rfl (by decide) (by decide) HO.out rfl rfl rfl (by intro u hu; simp at hu; subst hu; rfl) (by omega) hz ?_)
            intro v2 w2 hown2 hb2
            have HO2 : Hid (w2.ownsRow w1.heap.size 5 1 v2 (val ++ [92]).length (kit.u8s (val ++ [92]))) := by
              show World.ownsRow _ _ _ _ _ _ _
              rw [kit.u8s_app]; simpa [kit.u8s] using hown2
            have hl2 : (val ++ [92]).length ≤ k + 1 := by simp; omega
            have hbl2 := hbl.trans hb2
            clear hown2 hb2
            go_wp2
            go_roundw
            case rel => exact ⟨k + 1, val ++ [92], by go_num, by omega, by omega, HO2.out, hbl2, HI2.out⟩
            case measure => simp [intOf]; omega
        · have g92 : ¬ ((A[k]'hlt).toNat : Int) = 92 := by omega
          have g92b : (((A[k]'hlt).toNat : Int) == 92) = false := by simpa using g92
          have HI2 : Hid (∀ v0 t, kit.bytes A = escN v0 ++ 34 :: t → ∃ j, j ≤ v0.length ∧ val ++ [(A[k]'hlt).toNat] = v0.take j ∧ (kit.bytes A).drop (k + 1) = escN (v0.drop j) ++ 34 :: t) := fun v0 t h => by
            obtain ⟨j, hj, hv, hd⟩ := HI.out v0 t h
            rw [HDR.out] at hd
            obtain ⟨v', e1, e2⟩ := (lm.esc_at hd.symm).2.1 h34 h92
            have hjl : j < v0.length := by
              have := congrArg List.length e1
              rw [List.length_drop, List.length_cons] at this; omega
            rw [List.drop_eq_getElem_cons hjl] at e1
            simp only [List.cons.injEq] at e1
            exact ⟨j + 1, hjl, by rw [List.take_succ_eq_append_getElem hjl, hv, e1.1], by rw [e1.2]; exact e2⟩
          go_wp2_with (at_builtin; refine kit.app1 (.tmp 52) (.tmp 56) 47 rfl rfl w1.heap.size Try.underlying47 infoU8 rfl (by decide) (by decide) HO.out rfl rfl rfl (by intro u hu; simp at hu; subst hu; rfl) (by omega) hz ?_)
          intro v2 w2 hown2 hb2
          have HO2 : Hid (w2.ownsRow w1.heap.size 5 1 v2 (val ++ [(A[k]'hlt).toNat]).length (kit.u8s (val ++ [(A[k]'hlt).toNat]))) := by
            show World.ownsRow _ _ _ _ _ _ _
            rw [kit.u8s_app]; simpa [kit.u8s] using hown2
          have hl2 : (val ++ [(A[k]'hlt).toNat]).length ≤ k + 1 := by simp; omega
          have hbl2 := hbl.trans hb2
          clear hown2 hb2
          go_wp2
          go_roundw
          case rel => exact ⟨k + 1, val ++ [(A[k]'hlt).toNat], by go_num, by omega, by omega, HO2.out, hbl2, HI2.out⟩
          case measure => simp [intOf]; omega
    · obtain rfl : k = A.size := by omega
      have HNO : Hid (∀ x0 t, lm.good x0 = true → kit.bytes s = lm.oneT x0 ++ t → False) := fun x0 t hg he => by
        obtain ⟨j, hj, hv, hd⟩ := HI.out _ _ (HTT.out x0 t hg he).2
        rw [List.drop_eq_nil_of_le (by rw [kit.bytes_len]; exact Nat.le_refl _)] at hd
        have := congrArg List.length hd
        simp at this
      have hset := (hbw.setCell (p := ⟨w.heap.size, 0, none⟩) (Nat.le_refl _) (.string ⟨#[]⟩)).setCell (p := ⟨w.heap.size, 1, none⟩) (Nat.le_refl _) (.string ⟨#[]⟩)
      have HR2 := Lib.hid (first_bad HNO.out hset)
      go_wp2
      refine bodyPost_ret (v := .tuple #[.agg #[.string ⟨#[]⟩, .string ⟨#[]⟩], .string ⟨#[]⟩, .bool false]) (by simp [results, Try.results34, go_sem, g0, g1]) rfl HR2.out
end Go.Proofs.Ytpfjmomdnegcpaa
