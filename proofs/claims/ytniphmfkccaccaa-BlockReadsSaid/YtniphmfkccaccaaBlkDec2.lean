/- block.Decode on anything. -/
import Derived.Test.YtniphmfkccaccaaBlkRead2
import Derived.Test.YtniphmfkccaccaaBlkDec
namespace Go.Proofs.Ytniphmfkccaccaa
open Go.RowKit Go.ChangeShapes at_ cl

def DecA (c : Int) (D : ByteArray) (S : List (Int × Int)) (w : World) (e : Ending) (w' : World) : Prop :=
  (e = .returned (.tuple #[.slice none 0 0, .int .i64 3]) ∧ Below w.heap.size w w') ∨
  (∃ (v : Value) (K : List Int), e = .returned (.tuple #[v, .int .i64 0]) ∧ K.length ≤ 4000 ∧ bm.Rise K K.length ∧ c = (K.length : Int) ∧ D = kit.str (bm.dat K K.length) ∧ S = bm.skp K K.length ∧ w'.ownsRow w.heap.size 3 1 v K.length (i64s K) ∧ Below w.heap.size w w')
theorem code_zero {l : List Int} (h : bm.code l = 0) : l.length ≤ 4000 ∧ bm.Rise l l.length := by
  unfold bm.code at h
  by_cases h1 : 4000 < l.length
  · rw [if_pos h1] at h; cases h
  · rw [if_neg h1] at h
    by_cases h2 : bm.Rise l l.length
    · exact ⟨by omega, h2⟩
    · rw [if_neg h2] at h; cases h
theorem str_ne {s t : ByteArray} (h : ¬ s = t) : ¬ s.toList = t.toList := fun e => h (ByteArray.ext (Array.ext' (by rw [← ByteArray.toList_eq, ← ByteArray.toList_eq]; exact e)))

set_option maxHeartbeats 6400000 in
set_option maxRecDepth 100000 in
theorem decode_any (c : Int) (D : ByteArray) (S : List (Int × Int)) (vs : Value) (w : World) (hD : D.size ≤ 100000) (hS : S.length ≤ 400) (h : Skps w w.heap.size vs S) :
    Calls Try.prog 13 #[.agg #[.int .i64 c, .string D, vs]] w (DecA c D S w) := by
  have HF : Hid (∀ W', Below w.heap.size w W' → DecA c D S w (.returned (.tuple #[.slice none 0 0, .int .i64 3])) W') := fun W' h => Or.inl ⟨rfl, h⟩
  have HREAD : Hid (∀ (x a : Int) (m1 : Nat) (W : World), m1 < 16 → Calls Try.prog 24 #[.string D, .agg #[.int .i64 x, .int .i64 a], .int .i64 ((m1 : Int) + 1)] W (ReadQ (m1 + 1) W)) := fun x a m1 W h1 => read_any D x a m1 W hD h1
  obtain ⟨q0, hq0⟩ : ∃ q, q = S.length := ⟨_, rfl⟩
  have HQ0 := Lib.hid hq0
  rw [← hq0] at hS
  obtain ⟨ao, cap, rfl⟩ : ∃ ao cap, vs = .slice ao q0 cap := by
    obtain ⟨ao, cap, e, _⟩ := h.form
    exact ⟨ao, cap, by rw [hq0]; exact e⟩
  have HC := Lib.hid h
  have hA : Below w.heap.size w (w.alloc (.cells #[.int .i64 c, .string D, .slice ao q0 cap] 26)) := (Below.refl _ _).alloc (Nat.le_refl _) _
  clear h hq0 hD
  by_cases hc0 : c < 0
  · go_enter Try.func13, Try.ntmps13
    go_wp2
    go_ret2
    exact HF.out _ hA
  by_cases hc1 : 4000 < c
  · go_enter Try.func13, Try.ntmps13
    go_wp2
    go_ret2
    exact HF.out _ hA
  obtain ⟨n, rfl⟩ : ∃ n : Nat, c = (n : Int) := ⟨c.toNat, by omega⟩
  have hn : n ≤ 4000 := by omega
  clear hc0 hc1
  by_cases hq : (n + 15) / 16 = q0
  case neg =>
    have hdne : ((q0 : Int) != ((n : Int) + 16 - 1) / 16) = true := by simp; omega
    have hdne2 : ((q0 : Int) == ((n : Int) + 16 - 1) / 16) = false := by simp; omega
    clear hq
    go_enter Try.func13, Try.ntmps13
    go_wp2
    go_ret2
    exact HF.out _ hA
  have HQQ := Lib.hid hq
  have hdiv : ((n : Int) + 16 - 1) / 16 = (q0 : Int) := by omega
  have hdne : ((q0 : Int) != ((n : Int) + 16 - 1) / 16) = false := by rw [hdiv]; simp
  clear hq
  go_enter Try.func13, Try.ntmps13
  go_wp2
  go_loopw [4, 5, 6, 7, 8, 33] (fun u4 _ _ _ _ i wr => ∃ (k : Nat) (K : List Int), i = .int .i64 k ∧ k ≤ q0 ∧ Hid (K.length = min (16 * k) n) ∧ Hid (wr.ownsRow (w.heap.size + 1) 3 1 u4 K.length (i64s K)) ∧ Below (w.heap.size + 1) (w.alloc (.cells #[.int .i64 n, .string D, .slice ao q0 cap] 26)) wr) (fun _ _ _ _ _ i _ => q0 - (intOf i).toNat)
  case atStart => exact ⟨0, [], rfl, by omega, (by show _ = _; simp), World.ownsRow_nil _ _ _ _, Below.refl _ _⟩
  case round =>
    obtain ⟨k, K, rfl, hk, HKL, HO, hbl⟩ := hrel
    have hb0 : Below w.heap.size w wr := ((Below.refl _ _).alloc (Nat.le_refl _) _).trans (hbl.mono (by omega))
    obtain ⟨c0, c1, c2, f0, f1, f2, hz⟩ := cl.three (w := w) (w2 := wr) (t := 26) (by rw [World.size_alloc]; exact hbl)
    by_cases hlt : k < q0
    · have hkn : 16 * k < n := by have := HQQ.out; omega
      have hkI : (k : Int) < (q0 : Int) := by omega
      obtain ⟨b, off, rfl, hB, p0, p1⟩ := Skps.get HC.out HQ0.out hlt
      have d0 := (hb0.cell (p := ⟨b, off + k * 2, none⟩) hB).trans p0
      have d1 := (hb0.cell (p := ⟨b, off + k * 2 + 1, none⟩) hB).trans p1
      clear p0 p1
      obtain ⟨⟨x, y⟩, hxy⟩ : ∃ x, x = S.getD k (0, 0) := ⟨_, rfl⟩
      rw [← hxy] at d0 d1
      simp only at d0 d1
      clear hxy
      by_cases h16 : 16 ≤ n - 16 * k
      · obtain ⟨mm, hmm⟩ : ∃ mm, mm = 16 := ⟨_, rfl⟩
        have hle : (16 : Int) ≤ (n : Int) - (k : Int) * 16 := by omega
        have HRE : Hid (∀ W : World, Calls Try.prog 24 #[.string D, .agg #[.int .i64 x, .int .i64 y], .int .i64 16] W (ReadQ mm W)) := fun W => by
          subst hmm
          exact HREAD.out x y 15 W (by omega)
        have hmm16 : mm ≤ 16 := by omega
        have htl : K.length ≤ 4000 := by rw [HKL.out]; omega
        have HKN : Hid (K.length + mm = min (16 * (k + 1)) n) := by show _ = _; rw [HKL.out]; omega
        obtain ⟨kl, hkl⟩ : ∃ z, z = K.length := ⟨_, rfl⟩
        have HKL2 := Lib.hid hkl
        rw [← hkl] at htl HO HKN
        clear hkl HKL hmm
        go_wp2_with fail
        refine (HRE.out _).mono ?_
        intro e w5 hq5
        rcases hq5 with ⟨rfl, hb5⟩ | ⟨v5, K5, rfl, hK5, ho5, hb5⟩
        · have hz5 := hb5.size
          rw [World.size_alloc] at hz5
          have hbw : Below (w.heap.size + 1) wr w5 := ((Below.refl _ _).alloc hz _).trans (hb5.mono (by rw [World.size_alloc]; have : w.heap.size < wr.heap.size := hz; omega))
          have hbf := hb0.trans (hbw.mono (Nat.le_succ _))
          go_wp2
          go_ret2
          exact HF.out _ hbf
        · have hz5 := hb5.size
          rw [World.size_alloc] at hz5
          have hbw : Below (w.heap.size + 1) wr w5 := ((Below.refl _ _).alloc hz _).trans (hb5.mono (by rw [World.size_alloc]; have : w.heap.size < wr.heap.size := hz; omega))
          have HO5 : Hid (w5.ownsRow (w.heap.size + 1) 3 1 u4 kl (i64s K)) := own_stay (HO.out.alloc _) hb5
          obtain ⟨a5, c5, rfl⟩ := own_slice ho5
          have HNA := Lib.hid (Cells.own ho5).news
          have HK5 := Lib.hid hK5
          have HTM : Hid ((i64s K5).length = mm) := by show _ = _; rw [i64s_len]; exact hK5
          clear ho5 hK5
          go_wp2_with (at_builtin; refine kit.appN (.tmp 53) (.tmp 54) 22 rfl rfl (w.heap.size + 1) Try.underlying22 infoInt rfl (by decide) (by decide) HO5.out rfl (i64s K5) rfl (by rw [HTM.out]; omega) HNA.out.1 HNA.out.2 i64s_one (by omega) (by have : w.heap.size < wr.heap.size := hz; omega) ?_)
          intro v6 w6 hown' hb6
          have HO6 : Hid (w6.ownsRow (w.heap.size + 1) 3 1 v6 (K ++ K5).length (i64s (K ++ K5))) := by
            show World.ownsRow _ _ _ _ _ _ _
            rw [i64s_app]
            exact own_cast (by rw [List.length_append, HK5.out, ← HKL2.out]) hown'
          have HKL6 : Hid ((K ++ K5).length = min (16 * (k + 1)) n) := by show _ = _; rw [List.length_append, HK5.out, ← HKL2.out]; exact HKN.out
          have hbln := (hbl.trans hbw).trans hb6
          clear hown' HTM HNA
          go_wp2
          go_roundw
          case rel => exact ⟨k + 1, K ++ K5, by go_num, by omega, HKL6, HO6, hbln⟩
          case measure => simp [intOf]; omega
      · obtain ⟨mm, hmm⟩ : ∃ mm, mm = n - 16 * k := ⟨_, rfl⟩
        have hle : (n : Int) - (k : Int) * 16 < 16 := by omega
        have HRE : Hid (∀ W : World, Calls Try.prog 24 #[.string D, .agg #[.int .i64 x, .int .i64 y], .int .i64 ((n : Int) - (k : Int) * 16)] W (ReadQ mm W)) := fun W => by
          have := HREAD.out x y (mm - 1) W (by omega)
          rw [show (((mm - 1 : Nat) : Int) + 1) = (n : Int) - (k : Int) * 16 by omega, show mm - 1 + 1 = mm by omega] at this
          exact this
        have hmm16 : mm ≤ 16 := by omega
        have htl : K.length ≤ 4000 := by rw [HKL.out]; omega
        have HKN : Hid (K.length + mm = min (16 * (k + 1)) n) := by show _ = _; rw [HKL.out]; omega
        obtain ⟨kl, hkl⟩ : ∃ z, z = K.length := ⟨_, rfl⟩
        have HKL2 := Lib.hid hkl
        rw [← hkl] at htl HO HKN
        clear hkl HKL hmm
        go_wp2_with fail
        refine (HRE.out _).mono ?_
        intro e w5 hq5
        rcases hq5 with ⟨rfl, hb5⟩ | ⟨v5, K5, rfl, hK5, ho5, hb5⟩
        · have hz5 := hb5.size
          rw [World.size_alloc] at hz5
          have hbw : Below (w.heap.size + 1) wr w5 := ((Below.refl _ _).alloc hz _).trans (hb5.mono (by rw [World.size_alloc]; have : w.heap.size < wr.heap.size := hz; omega))
          have hbf := hb0.trans (hbw.mono (Nat.le_succ _))
          go_wp2
          go_ret2
          exact HF.out _ hbf
        · have hz5 := hb5.size
          rw [World.size_alloc] at hz5
          have hbw : Below (w.heap.size + 1) wr w5 := ((Below.refl _ _).alloc hz _).trans (hb5.mono (by rw [World.size_alloc]; have : w.heap.size < wr.heap.size := hz; omega))
          have HO5 : Hid (w5.ownsRow (w.heap.size + 1) 3 1 u4 kl (i64s K)) := own_stay (HO.out.alloc _) hb5
          obtain ⟨a5, c5, rfl⟩ := own_slice ho5
          have HNA := Lib.hid (Cells.own ho5).news
          have HK5 := Lib.hid hK5
          have HTM : Hid ((i64s K5).length = mm) := by show _ = _; rw [i64s_len]; exact hK5
          clear ho5 hK5
          go_wp2_with (at_builtin; refine kit.appN (.tmp 53) (.tmp 54) 22 rfl rfl (w.heap.size + 1) Try.underlying22 infoInt rfl (by decide) (by decide) HO5.out rfl (i64s K5) rfl (by rw [HTM.out]; omega) HNA.out.1 HNA.out.2 i64s_one (by omega) (by have : w.heap.size < wr.heap.size := hz; omega) ?_)
          intro v6 w6 hown' hb6
          have HO6 : Hid (w6.ownsRow (w.heap.size + 1) 3 1 v6 (K ++ K5).length (i64s (K ++ K5))) := by
            show World.ownsRow _ _ _ _ _ _ _
            rw [i64s_app]
            exact own_cast (by rw [List.length_append, HK5.out, ← HKL2.out]) hown'
          have HKL6 : Hid ((K ++ K5).length = min (16 * (k + 1)) n) := by show _ = _; rw [List.length_append, HK5.out, ← HKL2.out]; exact HKN.out
          have hbln := (hbl.trans hbw).trans hb6
          clear hown' HTM HNA
          go_wp2
          go_roundw
          case rel => exact ⟨k + 1, K ++ K5, by go_num, by omega, HKL6, HO6, hbln⟩
          case measure => simp [intOf]; omega
    · obtain rfl : k = q0 := by omega
      have HKN : Hid (K.length = n) := by show _ = _; rw [HKL.out]; have := HQQ.out; omega
      have HE := Lib.hid (encode_any K u4 wr (at_.own HO.out))
      have HCZ : Hid (bm.code K = 0 → K.length ≤ 4000 ∧ bm.Rise K K.length) := code_zero
      have HGD : Hid (bm.code K = 0 → bm.cnt K = (K.length : Int) ∧ bm.dats K = bm.dat K K.length ∧ bm.skps K = bm.skp K K.length) := fun h => (bm.said_good (code_zero h).1 (code_zero h).2).2
      go_wp2_with fail
      refine HE.out.mono ?_
      rintro e w5 ⟨sv5, rfl, ho5, hb5⟩
      have hzz : w.heap.size + 1 ≤ wr.heap.size := hz
      have hbl5 := hbl.trans (hb5.mono hzz)
      have hb05 := hb0.trans (hb5.mono (by omega))
      obtain ⟨d0, d1, d2, g0, g1, g2, hz5⟩ := cl.three (w := w) (w2 := w5) (t := 26) (by rw [World.size_alloc]; exact hbl5)
      have HO5 : Hid (w5.ownsRow (w.heap.size + 1) 3 1 u4 K.length (i64s K)) := own_stay HO.out hb5
      obtain ⟨co, hco⟩ : ∃ c, c = bm.code K := ⟨_, rfl⟩
      obtain ⟨ct, hct⟩ : ∃ c, c = bm.cnt K := ⟨_, rfl⟩
      obtain ⟨DT, hDT⟩ : ∃ c, c = kit.str (bm.dats K) := ⟨_, rfl⟩
      obtain ⟨SK, hSK⟩ : ∃ c, c = bm.skps K := ⟨_, rfl⟩
      rw [← hco] at HCZ HGD
      rw [← hct, ← hSK] at HGD
      have HDT := Lib.hid hDT
      rw [← hSK] at ho5
      rw [← hco, ← hct, ← hDT]
      have hB6 : ∀ u0 u1 u2, Below w5.heap.size w5 (w5.alloc (.cells #[u0, u1, u2] 26)) := fun u0 u1 u2 => (Below.refl _ _).alloc (Nat.le_refl _) _
      have HB6 := Lib.hid hB6
      clear hco hct hDT hSK hB6 HE
      by_cases hcz : co = 0
      · subst hcz
        have hgd := HGD.out rfl
        have hcz := HCZ.out rfl
        by_cases hDD : DT = D
        · subst hDD
          have HS5 : Hid (∀ W : World, Below w5.heap.size w5 W → Calls Try.prog 25 #[sv5, .slice ao k cap] W (Said (decide (SK = S)) W)) := fun W hW => by
            have h1 : Skps W W.heap.size sv5 SK := Cells.next (Cells.own ho5) hW
            have h2 : Skps W W.heap.size (.slice ao k cap) S := by
              have hb9 := hb05.trans (hW.mono hb05.size)
              exact (HC.out.below hb9).mono hb9.size
            exact equal_any SK S _ _ W h1 h2
          obtain ⟨a5, c5, rfl⟩ := own_slice ho5
          obtain ⟨q5, hq5⟩ : ∃ q, q = SK.length := ⟨_, rfl⟩
          rw [← hq5] at HS5 ⊢
          clear ho5 hq5
          have HS6 := Lib.hid (HS5.out _ (HB6.out (.int .i64 ct) (.string DT) (.slice a5 q5 c5)))
          by_cases hSS : SK = S
          · rw [decide_eq_true hSS] at HS6
            have HFIN : Hid (K.length ≤ 4000 ∧ bm.Rise K K.length ∧ (n : Int) = (K.length : Int) ∧ DT = kit.str (bm.dat K K.length) ∧ S = bm.skp K K.length) := ⟨hcz.1, hcz.2, by rw [HKN.out], by rw [HDT.out, hgd.2.1], by rw [← hSS, hgd.2.2]⟩
            clear hgd hcz hSS
            obtain ⟨a4, c4, rfl⟩ := own_slice HO5.out
            go_wp2_with fail
            refine HS6.out.mono ?_
            rintro e w7 ⟨rfl, hb7⟩
            have hbz := (HB6.out (.int .i64 ct) (.string DT) (.slice a5 q5 c5)).trans (hb7.mono (by simp))
            have HO7 : Hid (w7.ownsRow (w.heap.size + 1) 3 1 (.slice a4 K.length c4) K.length (i64s K)) := own_stay HO5.out hbz
            have hbf := hb05.trans (hbz.mono hb05.size)
            go_wp2
            go_ret2
            exact Or.inr ⟨_, K, rfl, HFIN.out.1, HFIN.out.2.1, HFIN.out.2.2.1, HFIN.out.2.2.2.1, HFIN.out.2.2.2.2, Joins.ownsRow_le HO7.out (Nat.le_succ _), hbf⟩
          · rw [decide_eq_false hSS] at HS6
            clear hgd hcz hSS
            go_wp2_with fail
            refine HS6.out.mono ?_
            rintro e w7 ⟨rfl, hb7⟩
            have hbz := (HB6.out (.int .i64 ct) (.string DT) (.slice a5 q5 c5)).trans (hb7.mono (by simp))
            have hbf := hb05.trans (hbz.mono hb05.size)
            go_wp2
            go_ret2
            exact HF.out _ hbf
        · have hne := str_ne hDD
          have hbf := hb05.trans ((HB6.out (.int .i64 ct) (.string DT) sv5).mono hb05.size)
          obtain ⟨a5, c5, rfl⟩ := own_slice ho5
          clear hgd hcz hDD ho5
          go_wp2
          go_ret2
          exact HF.out _ hbf
      · have hcne : (co != 0) = true := by simpa using hcz
        have hcne2 : (co == 0) = false := by simpa using hcz
        have hbf := hb05.trans ((HB6.out (.int .i64 ct) (.string DT) sv5).mono hb05.size)
        obtain ⟨a5, c5, rfl⟩ := own_slice ho5
        clear ho5
        go_wp2
        go_ret2
        exact HF.out _ hbf
end Go.Proofs.Ytniphmfkccaccaa
