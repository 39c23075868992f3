/- The document's Decode by its contract. -/
import Derived.Test.YtniphmfkccaccaaRefOne
namespace Go.Proofs.Ytniphmfkccaccaa
open Go.RowKit Go.ChangeShapes at_ cl

theorem dec_len {B : List Nat} {n : Nat} {S : List (Int × Int)} : ∀ k, 16 * k < n + 16 → ∀ K p, bm.decF B n S k = some (K, p) → K.length = min (16 * k) n := by
  intro k
  induction k with
  | zero =>
    intro _ K p h
    rw [bm.decF] at h
    simp only [Option.some.injEq, Prod.mk.injEq] at h
    obtain ⟨rfl, rfl⟩ := h
    simp
  | succ k ih =>
    intro hk K p h
    rw [bm.decF] at h
    cases hd : bm.decF B n S k with
    | none => rw [hd] at h; cases h
    | some r0 =>
      obtain ⟨K0, p0⟩ := r0
      rw [hd] at h
      simp only at h
      split at h
      · cases ho : bm.oneF B (S.getD k (0, 0)).1 p0 (min 16 (n - 16 * k) - 1) with
        | none => rw [ho] at h; cases h
        | some r1 =>
          obtain ⟨L, q⟩ := r1
          rw [ho] at h
          simp only [Option.some.injEq, Prod.mk.injEq] at h
          obtain ⟨rfl, rfl⟩ := h
          have h1 := ih (by omega) _ _ hd
          have h2 := (bm.one_len _ _ _ ho).1
          rw [List.length_append, h1, h2]; omega
      · cases h

set_option maxHeartbeats 6400000 in
set_option maxRecDepth 100000 in
theorem rdecode_any (c : Int) (D : ByteArray) (S : List (Int × Int)) (vs : Value) (w : World) (hD : D.size ≤ 100000) (hS : S.length ≤ 400) (h : Skps w w.heap.size vs S) :
    Calls Try.prog 14 #[.agg #[.int .i64 c, .string D, vs]] w (DecF c D S w) := by
  have HF : Hid (∀ W', (∀ K, ¬ GoodK c D S K) → Below w.heap.size w W' → DecF c D S w (.returned (.tuple #[.slice none 0 0, .int .i64 3])) W') := fun W' hk h => Or.inl ⟨rfl, hk, h⟩
  have HREAD : Hid (∀ (x a : Int) (m1 : Nat) (W : World), m1 < 16 → Calls Try.prog 26 #[.string D, .agg #[.int .i64 x, .int .i64 a], .int .i64 ((m1 : Int) + 1)] W (OneP (bm.oneF (kit.bytes D) x a m1) (m1 + 1) W)) := fun x a m1 W h1 => rone_any D x a m1 W hD h1
  have HNEG : Hid (c < 0 → ∀ K, ¬ GoodK c D S K) := fun h K hk => by have := hk.2.2.1; omega
  have HBIG : Hid (4000 < c → ∀ K, ¬ GoodK c D S K) := fun h K hk => by have := hk.2.2.1; have := hk.1; omega
  have HCNT : Hid (∀ n : Nat, c = (n : Int) → ¬ (n + 15) / 16 = S.length → ∀ K, ¬ GoodK c D S K) := fun n hn h K hk => by subst hn; exact h (dec_good hk).1
  have HNO : Hid (∀ n : Nat, c = (n : Int) → bm.decF (kit.bytes D) n S S.length = none → ∀ K, ¬ GoodK c D S K) := fun n hn h K hk => by
    subst hn
    rw [(dec_good hk).2] at h; cases h
  have HNP : Hid (∀ (n : Nat) (K : List Int) (p : Int), c = (n : Int) → bm.decF (kit.bytes D) n S S.length = some (K, p) → p ≠ (D.size : Int) → ∀ K, ¬ GoodK c D S K) := fun n K p hn h hp K' hk => by
    subst hn
    rw [(dec_good hk).2] at h
    simp only [Option.some.injEq, Prod.mk.injEq] at h
    rw [kit.bytes_len] at h
    exact hp h.2.symm
  have HYES : Hid (∀ (n : Nat) (K : List Int), c = (n : Int) → n ≤ 4000 → (n + 15) / 16 = S.length → bm.decF (kit.bytes D) n S S.length = some (K, (D.size : Int)) → GoodK c D S K) := fun n K hn h4 hq h => by
    subst hn
    exact good_dec h4 hq (by rw [kit.bytes_len]; exact h)
  obtain ⟨q0, hq0⟩ : ∃ q, q = S.length := ⟨_, rfl⟩
  have HQ0 := Lib.hid hq0
  rw [← hq0] at hS HCNT HNO HNP HYES
  obtain ⟨B, hB⟩ : ∃ B, B = kit.bytes D := ⟨_, rfl⟩
  rw [← hB] at HREAD HNO HNP HYES
  obtain ⟨ao, cap, rfl⟩ : ∃ ao cap, vs = .slice ao q0 cap := by
    obtain ⟨ao, cap, e, _⟩ := h.form
    exact ⟨ao, cap, by rw [hq0]; exact e⟩
  have HC := Lib.hid h
  have hA : Below w.heap.size w (w.alloc (.cells #[.int .i64 c, .string D, .slice ao q0 cap] 26)) := (Below.refl _ _).alloc (Nat.le_refl _) _
  clear h hq0 hB
  have hDm : D.size ≤ 9223372036854775807 := by omega
  by_cases hc0 : c < 0
  · go_enter Try.func14, Try.ntmps14
    go_wp2
    go_ret2
    exact HF.out _ (HNEG.out hc0) hA
  by_cases hc1 : 4000 < c
  · go_enter Try.func14, Try.ntmps14
    go_wp2
    go_ret2
    exact HF.out _ (HBIG.out hc1) hA
  obtain ⟨n, rfl⟩ : ∃ n : Nat, c = (n : Int) := ⟨c.toNat, by omega⟩
  have hn : n ≤ 4000 := by omega
  clear hc0 hc1
  by_cases hq : (n + 15) / 16 = q0
  case neg =>
    have hdne : ((q0 : Int) != ((n : Int) + 16 - 1) / 16) = true := by simp; omega
    have hdne2 : ((q0 : Int) == ((n : Int) + 16 - 1) / 16) = false := by simp; omega
    have HQN := Lib.hid hq
    clear hq
    go_enter Try.func14, Try.ntmps14
    go_wp2
    go_ret2
    exact HF.out _ (HCNT.out n rfl HQN.out) hA
  have HQQ := Lib.hid hq
  have hdiv : ((n : Int) + 16 - 1) / 16 = (q0 : Int) := by omega
  have hdne : ((q0 : Int) != ((n : Int) + 16 - 1) / 16) = false := by rw [hdiv]; simp
  have HLEN : Hid (∀ k, 16 * k < n + 16 → ∀ K p, bm.decF B n S k = some (K, p) → K.length = min (16 * k) n) := dec_len
  clear hq
  go_enter Try.func14, Try.ntmps14
  go_wp2
  go_loopw [4, 5, 6, 7, 8, 9, 10, 33] (fun u4 u5 _ _ _ _ _ i wr => ∃ (k : Nat) (K : List Int) (p : Int) (kl : Nat) (oo : Option Addr) (oc : Nat), i = .int .i64 k ∧ k ≤ q0 ∧ u4 = .slice oo kl oc ∧ u5 = .int .i64 p ∧ Hid (bm.decF B n S k = some (K, p)) ∧ Hid (kl = K.length) ∧ Hid (wr.ownsRow (w.heap.size + 1) 3 1 (.slice oo kl oc) kl (i64s K)) ∧ Below (w.heap.size + 1) (w.alloc (.cells #[.int .i64 n, .string D, .slice ao q0 cap] 26)) wr) (fun _ _ _ _ _ _ _ i _ => q0 - (intOf i).toNat)
  case atStart => exact ⟨0, [], 0, 0, none, 0, rfl, by omega, rfl, rfl, (by show _ = _; rw [bm.decF]), rfl, World.ownsRow_nil _ _ _ _, Below.refl _ _⟩
  case round =>
    obtain ⟨k, K, p, kl, oo, oc, rfl, hk, rfl, rfl, HDF, HKL, HO, hbl⟩ := hrel
    have hb0 : Below w.heap.size w wr := ((Below.refl _ _).alloc (Nat.le_refl _) _).trans (hbl.mono (by omega))
    obtain ⟨c0, c1, c2, f0, f1, f2, hz⟩ := cl.three (w := w) (w2 := wr) (t := 26) (by rw [World.size_alloc]; exact hbl)
    by_cases hlt : k < q0
    · have hkn : 16 * k < n := by have := HQQ.out; omega
      have hkI : (k : Int) < (q0 : Int) := by omega
      have HK16 : Hid (K.length = 16 * k) := by show _ = _; rw [HLEN.out k (by omega) _ _ HDF.out]; omega
      obtain ⟨b, off, rfl, hB, p0, p1⟩ := Skps.get HC.out HQ0.out hlt
      have d0 := (hb0.cell (p := ⟨b, off + k * 2, none⟩) hB).trans p0
      have d1 := (hb0.cell (p := ⟨b, off + k * 2 + 1, none⟩) hB).trans p1
      clear p0 p1
      have HSTOP := Lib.hid (bm.dec_stop HDF.out)
      have HFALL := Lib.hid (bm.dec_fall HDF.out)
      have HSTEP : Hid (∀ L q, (S.getD k (0, 0)).2 = p ∧ (0 < K.length → bm.las K < (S.getD k (0, 0)).1) → bm.oneF B (S.getD k (0, 0)).1 p (min 16 (n - 16 * k) - 1) = some (L, q) → bm.decF B n S (k + 1) = some (K ++ L, q)) := fun L q h1 h2 => bm.dec_step HDF.out h1 h2
      obtain ⟨⟨x, y⟩, hxy⟩ : ∃ x, x = S.getD k (0, 0) := ⟨_, rfl⟩
      rw [← hxy] at d0 d1 HSTOP HFALL HSTEP
      simp only at d0 d1 HSTOP HFALL HSTEP
      clear hxy
      obtain ⟨R, hR⟩ : ∃ R, R = bm.oneF B x p (min 16 (n - 16 * k) - 1) := ⟨_, rfl⟩
      rw [← hR] at HFALL HSTEP
      have HR := Lib.hid hR
      clear hR
      have HM : Hid (∃ i, q0 = k + 1 + i) := ⟨q0 - (k + 1), by omega⟩
      have HNIL : Hid ((∀ i, bm.decF B n S (k + 1 + i) = none) → ∀ K, ¬ GoodK (n : Int) D S K) := fun h => HNO.out n rfl (by obtain ⟨i, hi⟩ := HM.out; rw [hi]; exact h i)
      by_cases hyp : y = p
      case neg =>
        have HNK : Hid (∀ K, ¬ GoodK (n : Int) D S K) := HNIL.out (HSTOP.out (fun h => hyp h.1))
        have hypb : (y != p) = true := by simpa using hyp
        have hypb2 : (y == p) = false := by simpa using hyp
        clear hyp
        go_wp2
        go_quiet (fail)
        go_wp2
        go_ret2
        refine HF.out _ HNK.out ?_
        refine below_drewN ?_ _
        exact hb0.alloc (by omega) _
      subst hyp
      have hypb : (y != y) = false := by simp
      by_cases hk0 : kl = 0
      · have HOKS : Hid (y = y ∧ (0 < K.length → bm.las K < x)) := ⟨rfl, fun h => by rw [← HKL.out] at h; omega⟩
        subst hk0
        go_wp2
        go_quiet (fail)
        obtain ⟨mm, hmm⟩ : ∃ mm, mm = min 16 (n - 16 * k) := ⟨_, rfl⟩
        have HRE : Hid (∀ W : World, Calls Try.prog 26 #[.string D, .agg #[.int .i64 x, .int .i64 y], .int .i64 (min 16 ((n : Int) - (k : Int) * 16))] W (OneP R mm W)) := fun W => by
          have := HREAD.out x y (mm - 1) W (by omega)
          rw [show (((mm - 1 : Nat) : Int) + 1) = min 16 ((n : Int) - (k : Int) * 16) by omega, show mm - 1 + 1 = mm by omega] at this
          rw [HR.out, ← hmm]
          exact this
        have hmm16 : mm ≤ 16 := by omega
        have htl : 0 ≤ 4000 := by rw [HKL.out, HK16.out]; omega
        clear hmm
        go_wp2_with fail
        (with_reducible refine (HRE.out _).mono ?_)
        intro e w5 hq5
        rcases hq5 with ⟨hno, rfl, hb5⟩ | ⟨v5, L, q5, hso, rfl, hK5, ho5, hb5⟩
        · have HNK : Hid (∀ K, ¬ GoodK (n : Int) D S K) := HNIL.out (HFALL.out HOKS.out hno)
          have hbw := (below_drewN ((Below.refl wr.heap.size wr).alloc (Nat.le_refl _) _) _).trans (hb5.mono (by simp))
          have hbf := hb0.trans (hbw.mono (by omega))
          clear hno
          go_wp2
          go_ret2
          exact HF.out _ HNK.out hbf
        · have HDF5 : Hid (bm.decF B n S (k + 1) = some (K ++ L, q5)) := HSTEP.out L q5 HOKS.out hso
          have hbw := (below_drewN ((Below.refl wr.heap.size wr).alloc (Nat.le_refl _) _) _).trans (hb5.mono (by simp))
          have hbw5 := hbl.trans (hbw.mono (by have : w.heap.size < wr.heap.size := hz; omega))
          have hz5 : w.heap.size + 1 ≤ w5.heap.size := by have := hbw.size; have : w.heap.size < wr.heap.size := hz; omega
          have HO5 := Lib.hid (own_stay HO.out hbw)
          obtain ⟨a5, c5, rfl⟩ := own_slice ho5
          have HNA := Lib.hid (Cells.own ho5).news
          have HTM : Hid ((i64s L).length = mm) := by show _ = _; rw [i64s_len]; exact hK5
          have HKL5 : Hid (mm = (K ++ L).length) := by show _ = _; rw [List.length_append, hK5, ← HKL.out] <;> omega
          clear ho5 hK5 hso
          go_wp2_with (at_builtin; refine kit.appN (.tmp 75) (.tmp 76) 22 rfl rfl (w.heap.size + 1) Try.underlying22 infoInt rfl (by decide) (by decide) HO5.out rfl (i64s L) rfl (by rw [HTM.out]; omega) HNA.out.1 HNA.out.2 i64s_one (by omega) (by omega) ?_)
          intro v6 w6 hown' hb6
          have HO6 : Hid (w6.ownsRow (w.heap.size + 1) 3 1 v6 (mm) (i64s (K ++ L))) := by
            show World.ownsRow _ _ _ _ _ _ _
            rw [i64s_app]
            exact hown'
          have hbln := hbw5.trans hb6
          obtain ⟨a6, c6, rfl⟩ := own_slice hown'
          obtain ⟨kn, hkn'⟩ : ∃ z, z = mm := ⟨_, rfl⟩
          rw [← hkn'] at HO6 HKL5 ⊢
          clear hown' HTM HNA hkn'
          go_wp2
          go_roundw
          case rel => exact ⟨k + 1, K ++ L, q5, kn, _, _, by go_num, by omega, rfl, rfl, HDF5, HKL5, HO6, hbln⟩
          case measure => simp [intOf]; omega

      · obtain ⟨t, rfl⟩ : ∃ t, kl = t + 1 := ⟨kl - 1, by omega⟩
        have hat : At wr wr.heap.size (.slice oo (t + 1) oc) K := by have h := HO.out; rw [HKL.out] at h ⊢; exact at_.own h
        obtain ⟨oo', oc', hv, hv1, hv2, hc⟩ := hat
        simp only [Value.slice.injEq] at hv
        obtain ⟨rfl, hv3, rfl⟩ := hv
        obtain ⟨bo, bf, rfl, hbB, hcell⟩ := hc (by omega)
        have ck := hcell t (by omega)
        have HLAS : Hid (K.getD t 0 = bm.las K) := by show _ = _; unfold bm.las; rw [← hv3, Nat.add_sub_cancel]
        obtain ⟨z, hz1⟩ : ∃ z, z = K.getD t 0 := ⟨_, rfl⟩
        rw [← hz1] at ck HLAS
        clear hcell hc hv1 hv2 hv3 hz1 hk0
        have hwt : IntKind.i64.wrap (t : Int) = (t : Int) := IntWalk.i64_in _ (by have := HKL.out; have := HK16.out; omega)
        have ht0 : (0 : Int) ≤ (t : Int) := by omega
        have htt : (t : Int) < (t : Int) + 1 := by omega
        by_cases hzx : z < x
        · have HOKS : Hid (y = y ∧ (0 < K.length → bm.las K < x)) := ⟨rfl, fun _ => by rw [← HLAS.out]; exact hzx⟩
          have hnx : ¬ x ≤ z := by omega
          go_wp2
          go_quiet (fail)
          obtain ⟨mm, hmm⟩ : ∃ mm, mm = min 16 (n - 16 * k) := ⟨_, rfl⟩
          have HRE : Hid (∀ W : World, Calls Try.prog 26 #[.string D, .agg #[.int .i64 x, .int .i64 y], .int .i64 (min 16 ((n : Int) - (k : Int) * 16))] W (OneP R mm W)) := fun W => by
            have := HREAD.out x y (mm - 1) W (by omega)
            rw [show (((mm - 1 : Nat) : Int) + 1) = min 16 ((n : Int) - (k : Int) * 16) by omega, show mm - 1 + 1 = mm by omega] at this
            rw [HR.out, ← hmm]
            exact this
          have hmm16 : mm ≤ 16 := by omega
          have htl : (t + 1) ≤ 4000 := by rw [HKL.out, HK16.out]; omega
          clear hmm
          go_wp2_with fail
          (with_reducible refine (HRE.out _).mono ?_)
          intro e w5 hq5
          rcases hq5 with ⟨hno, rfl, hb5⟩ | ⟨v5, L, q5, hso, rfl, hK5, ho5, hb5⟩
          · have HNK : Hid (∀ K, ¬ GoodK (n : Int) D S K) := HNIL.out (HFALL.out HOKS.out hno)
            have hbw := (below_drewN ((Below.refl wr.heap.size wr).alloc (Nat.le_refl _) _) _).trans (hb5.mono (by simp))
            have hbf := hb0.trans (hbw.mono (by omega))
            clear hno
            go_wp2
            go_ret2
            exact HF.out _ HNK.out hbf
          · have HDF5 : Hid (bm.decF B n S (k + 1) = some (K ++ L, q5)) := HSTEP.out L q5 HOKS.out hso
            have hbw := (below_drewN ((Below.refl wr.heap.size wr).alloc (Nat.le_refl _) _) _).trans (hb5.mono (by simp))
            have hbw5 := hbl.trans (hbw.mono (by have : w.heap.size < wr.heap.size := hz; omega))
            have hz5 : w.heap.size + 1 ≤ w5.heap.size := by have := hbw.size; have : w.heap.size < wr.heap.size := hz; omega
            have HO5 := Lib.hid (own_stay HO.out hbw)
            obtain ⟨a5, c5, rfl⟩ := own_slice ho5
            have HNA := Lib.hid (Cells.own ho5).news
            have HTM : Hid ((i64s L).length = mm) := by show _ = _; rw [i64s_len]; exact hK5
            have HKL5 : Hid ((t + 1) + mm = (K ++ L).length) := by show _ = _; rw [List.length_append, hK5, ← HKL.out] <;> omega
            clear ho5 hK5 hso
            go_wp2_with (at_builtin; refine kit.appN (.tmp 75) (.tmp 76) 22 rfl rfl (w.heap.size + 1) Try.underlying22 infoInt rfl (by decide) (by decide) HO5.out rfl (i64s L) rfl (by rw [HTM.out]; omega) HNA.out.1 HNA.out.2 i64s_one (by omega) (by omega) ?_)
            intro v6 w6 hown' hb6
            have HO6 : Hid (w6.ownsRow (w.heap.size + 1) 3 1 v6 ((t + 1) + mm) (i64s (K ++ L))) := by
              show World.ownsRow _ _ _ _ _ _ _
              rw [i64s_app]
              exact hown'
            have hbln := hbw5.trans hb6
            obtain ⟨a6, c6, rfl⟩ := own_slice hown'
            obtain ⟨kn, hkn'⟩ : ∃ z, z = (t + 1) + mm := ⟨_, rfl⟩
            rw [← hkn'] at HO6 HKL5 ⊢
            clear hown' HTM HNA hkn'
            go_wp2
            go_roundw
            case rel => exact ⟨k + 1, K ++ L, q5, kn, _, _, by go_num, by omega, rfl, rfl, HDF5, HKL5, HO6, hbln⟩
            case measure => simp [intOf]; omega

        · have HNK : Hid (∀ K, ¬ GoodK (n : Int) D S K) := HNIL.out (HSTOP.out (fun h => hzx (by rw [HLAS.out]; exact h.2 (by rw [← HKL.out] <;> omega))))
          have hxz : x ≤ z := by omega
          clear hzx
          go_wp2
          go_quiet (fail)
          go_wp2
          go_ret2
          refine HF.out _ HNK.out ?_
          refine below_drewN ?_ _
          exact hb0.alloc (by omega) _
    · obtain rfl : k = q0 := by omega
      have HPP : Hid (p ≠ (D.size : Int) → ∀ K, ¬ GoodK (n : Int) D S K) := HNP.out n K p rfl HDF.out
      have HGG : Hid (p = (D.size : Int) → GoodK (n : Int) D S K) := fun h => HYES.out n K rfl hn HQQ.out (by rw [← h]; exact HDF.out)
      by_cases hp : p = (D.size : Int)
      · have HGK := Lib.hid (HGG.out hp)
        subst hp
        have HO' : Hid (wr.ownsRow w.heap.size 3 1 (.slice oo kl oc) K.length (i64s K)) := by have h := HO.out; rw [HKL.out] at h ⊢; exact Joins.ownsRow_le h (Nat.le_succ _)
        go_wp2
        go_ret2
        exact Or.inr ⟨_, K, rfl, HGK.out, HO'.out, hb0⟩
      · have HNK := Lib.hid (HPP.out hp)
        have hpb : (p != (D.size : Int)) = true := by simpa using hp
        have hpb2 : (p == (D.size : Int)) = false := by simpa using hp
        clear hp
        go_wp2
        go_ret2
        exact HF.out _ HNK.out hb0
end Go.Proofs.Ytniphmfkccaccaa
