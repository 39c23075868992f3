/- PagesMoves, walked. -/
import Derived.Test.YtilnmfbimfmacaaPgAt
namespace Go.Proofs.Ytilnmfbimfmacaa
open Go.RowKit Go.ChangeShapes Go.Joins cl pg

instance lawfulBytes : LawfulBEq ByteArray where
  eq_of_beq {a b} h := by
    cases a; cases b
    exact congrArg ByteArray.mk (eq_of_beq h)
  rfl {a} := by
    cases a
    exact beq_self_eq_true (α := Array UInt8) _
/-- what stands behind the page, of l and of m -/
def told (l m : List ByteArray) (most : Int) : List ByteArray := (cut l .empty most).list ++ m.drop (beh m (cut l .empty most).after)
theorem ris_nodup {l : List ByteArray} (h : Ris l) (s : ByteArray) : l.count s ≤ 1 := by
  have : l.Nodup := h.imp fun h => lt_ne h
  exact List.nodup_iff_count.1 this s
theorem drop_above {m : List ByteArray} (h : Ris m) {a s : ByteArray} (hs : s ∈ m.drop (beh m a)) : lt a s = true := by
  obtain ⟨j, hj, e⟩ := List.getElem_of_mem hs
  rw [List.length_drop] at hj
  rw [List.getElem_drop] at e
  have := (split_beh h a).2.2 (beh m a + j) (by omega) (by omega)
  simp only [List.getD, List.getElem?_eq_getElem (show beh m a + j < m.length by omega), Option.getD_some] at this
  rw [e] at this; exact this
theorem above_drop {m : List ByteArray} (h : Ris m) {a s : ByteArray} (hs : s ∈ m) (ha : lt a s = true) : s ∈ m.drop (beh m a) := by
  obtain ⟨j, hj, e⟩ := get_mem hs
  have hge : beh m a ≤ j := by
    by_cases hlt : j < beh m a
    · have := (split_beh h a).2.1 j hlt
      rw [e, ha] at this; cases this
    · omega
  rw [← e]
  have e2 : (m.drop (beh m a)).getD (j - beh m a) .empty = m.getD j .empty := by
    simp [List.getD, show beh m a + (j - beh m a) = j by omega]
  rw [← e2]
  exact mem_get (by rw [List.length_drop]; omega)
theorem told_count {l m : List ByteArray} {most : Int} (hl : okL l) (hm : okL m) (h1 : ¬ most < 1) {s : ByteArray} (hs : s ∈ l) : (told l m most).count s ≤ 1 ∧ (s ∈ m → (told l m most).count s = 1) := by
  obtain ⟨k, rfl⟩ : ∃ k : Nat, most = (k : Int) := ⟨most.toNat, by omega⟩
  have hkp : 0 < k := by omega
  have hln : 0 < l.length := List.length_pos_of_mem hs
  have hc : cut l .empty (k : Int) = page l k 0 := cut_at rfl hkp (by omega) (by rw [beh_empty hl]; omega)
  unfold told
  rw [hc, List.count_append]
  have hlist : (page l k 0).list = l.take k := by simp [page]
  have haft : (page l k 0).after = l.getD (min k l.length - 1) .empty := by simp [page]
  rw [hlist, haft]
  obtain ⟨t, ht⟩ : ∃ t, t = min k l.length := ⟨_, rfl⟩
  rw [← ht]
  have htk : l.take k = l.take t := by rw [ht, List.take_eq_take_min]
  rw [htk]
  have c1 : (l.take t).count s ≤ 1 := ris_nodup (List.Pairwise.sublist (List.take_sublist _ _) hl.1) s
  have c2 : (m.drop (beh m (l.getD (t - 1) .empty))).count s ≤ 1 := ris_nodup (List.Pairwise.sublist (List.drop_sublist _ _) hm.1) s
  obtain ⟨j, hj, e⟩ := get_mem hs
  by_cases hjt : j < t
  · have hin : s ∈ l.take t := by
      rw [← e]
      have e2 : (l.take t).getD j .empty = l.getD j .empty := by simp [List.getD, hjt]
      rw [← e2]; exact mem_get (by rw [List.length_take]; omega)
    have hle : lt (l.getD (t - 1) .empty) s = false := by
      rw [← e]
      by_cases h0 : j = t - 1
      · rw [h0]; exact lt_irrefl _
      · exact lt_asymm (ris_get hl.1 (show j < t - 1 by omega) (by omega))
    have hz : (m.drop (beh m (l.getD (t - 1) .empty))).count s = 0 := List.count_eq_zero.2 fun h => by
      have := drop_above hm.1 h
      rw [hle] at this; cases this
    have hp := List.count_pos_iff.2 hin
    exact ⟨by omega, fun _ => by omega⟩
  · have hz : (l.take t).count s = 0 := List.count_eq_zero.2 fun h => by
      obtain ⟨i, hi, e2⟩ := get_mem h
      rw [List.length_take] at hi
      have e3 : (l.take t).getD i .empty = l.getD i .empty := by simp [List.getD, show i < t by omega]
      rw [e3] at e2
      have := ris_get hl.1 (show i < j by omega) hj
      rw [e, e2, lt_irrefl] at this; cases this
    refine ⟨by omega, fun hm2 => ?_⟩
    have ha : lt (l.getD (t - 1) .empty) s = true := by rw [← e]; exact ris_get hl.1 (by omega) hj
    have hp := List.count_pos_iff.2 (above_drop hm.1 hm2 ha)
    omega
theorem count_snoc {L : List ByteArray} {k : Nat} (hk : k < L.length) (s : ByteArray) : (L.take (k + 1)).count s = (L.take k).count s + if L.getD k .empty = s then 1 else 0 := by
  rw [List.take_succ_eq_append_getElem hk, List.count_append]
  simp only [List.getD, List.getElem?_eq_getElem hk, Option.getD_some, List.count_singleton, beq_iff_eq]
theorem any_snoc {L : List ByteArray} {k : Nat} (hk : k < L.length) (s : ByteArray) : (decide (s ∈ L.take (k + 1))) = (decide (s ∈ L.take k) || decide (L.getD k .empty = s)) := by
  rw [List.take_succ_eq_append_getElem hk]
  simp only [List.getD, List.getElem?_eq_getElem hk, Option.getD_some, List.mem_append, List.mem_singleton]
  rw [Bool.eq_iff_iff]
  simp only [decide_eq_true_eq, Bool.or_eq_true]
  exact ⟨fun h => h.imp id Eq.symm, fun h => h.imp id Eq.symm⟩
theorem toList_beq (a b : ByteArray) : (a.toList == b.toList) = decide (a = b) := by
  by_cases h : a = b
  · subst h; simp
  · rw [decide_eq_false h]; exact beq_eq_false_iff_ne.2 fun e => h (toList_inj e)

set_option maxHeartbeats 12800000 in
set_option maxRecDepth 100000 in
theorem lawmoves_any (l m : List ByteArray) (v u : Value) (most : Int) (w : World) (h : Strs w w.heap.size v l) (g : Strs w w.heap.size u m) :
    Calls Try.prog 6 #[v, u, .int .i64 most] w (Said true w) := by
  have E0 := env2 h g
  have HA := Lib.hid h
  have HB := Lib.hid g
  obtain ⟨ao, cap, rfl, _, hll⟩ := h.form
  obtain ⟨bo, cap2, rfl, _, hml⟩ := g.form
  unfold maxLen at hll hml
  clear h g
  have HRI := Lib.hid (crise E0 (.head _))
  have HRJ := Lib.hid (crise E0 (.tail _ (.head _)))
  go_enter Try.func6, Try.ntmps6
  go_wp2_with fail
  refine HRI.out.mono ?_
  rintro e w1 ⟨r, rfl, HOK, rfl⟩
  cases r with
  | false =>
    go_wp2_with fail
    refine (awake_any _).mono ?_
    rintro e w1 ⟨rfl, hb⟩
    go_wp2
    go_ret
    exact ⟨rfl, hb⟩
  | true =>
    have hok : okL l := HOK.out rfl
    clear HOK HRI
    go_wp2_with fail
    refine HRJ.out.mono ?_
    rintro e w1 ⟨r, rfl, HOK, rfl⟩
    cases r with
    | false =>
      go_wp2_with fail
      refine (awake_any _).mono ?_
      rintro e w1 ⟨rfl, hb⟩
      go_wp2
      go_ret
      exact ⟨rfl, hb⟩
    | true =>
      have hok2 : okL m := HOK.out rfl
      clear HOK HRJ
      by_cases hlow : most < 1
      · go_wp2_with fail
        refine (awake_any _).mono ?_
        rintro e w1 ⟨rfl, hb⟩
        go_wp2
        go_ret
        exact ⟨rfl, hb⟩
      · obtain ⟨pg, hpg⟩ : ∃ pg, pg = cut l .empty most := ⟨_, rfl⟩
        have HT : Hid (told l m most = pg.list ++ m.drop (beh m pg.after)) := by show _ = _; rw [hpg]; rfl
        obtain ⟨pl, pa, pm⟩ := pg
        have hl2 := hok.2.2.1
        have hm2 := hok2.2.2.1
        have HTC : Hid (∀ s, s ∈ l → (told l m most).count s ≤ 1 ∧ (s ∈ m → (told l m most).count s = 1)) := fun s hs => told_count hok hok2 hlow hs
        have hpl : pl.length ≤ 200 := by
          have : pl = ((l.drop (beh l .empty)).take (clamp most (l.length - beh l .empty))) := congrArg Pg.list hpg
          rw [this, List.length_take, List.length_drop]; omega
        go_wp2_with fail
        refine (ccut E0 (.head _) hok.1 hok.2.2.1 .empty most hpg.symm).mono ?_
        rintro e W1 ⟨v1, rfl, E1, hb1⟩
        obtain ⟨q1, hq1⟩ : ∃ q, q = pl.length := ⟨_, rfl⟩
        obtain ⟨a1, c1, rfl⟩ := E1.form (.head _) hq1
        have HQ1 := Lib.hid hq1
        have E2 := E1.alloc (.cells #[.slice a1 q1 c1, .string pa, .bool pm] 26)
        have hok1 := hok2.1
        rw [← hq1] at hpl
        clear hpg hok hok2 E0 E1 hb1 hlow hq1
        go_wp2_with fail
        refine (cskip E2 (.tail _ (.tail _ (.head _))) hok1 hm2 pa).mono ?_
        rintro e W2 ⟨v2, rfl, E3, hb2⟩
        obtain ⟨p0, p1, p2⟩ := (show W2.cell? ⟨W1.heap.size, 0, none⟩ = some (.slice a1 q1 c1) ∧ W2.cell? ⟨W1.heap.size, 1, none⟩ = some (.string pa) ∧ W2.cell? ⟨W1.heap.size, 2, none⟩ = some (.bool pm) from ⟨later (hb2.mono (by simp)) rfl, later (hb2.mono (by simp)) rfl, later (hb2.mono (by simp)) rfl⟩)
        have hg1 : W1.heap.size < W2.heap.size := by have := hb2.size; simp at this; omega
        obtain ⟨q2, hq2⟩ : ∃ q, q = (m.drop (beh m pa)).length := ⟨_, rfl⟩
        have hq200 : q2 ≤ 200 := by rw [hq2, List.length_drop]; omega
        obtain ⟨a2, c2, rfl⟩ := E3.form (.head _) hq2
        have HQ2 := Lib.hid hq2
        have HE := Lib.hid E3
        clear hq2 E2 E3 hb2 hok1
        go_wp2
        go_loopw [10, 11, 13, 14, 16, 39] (fun _ _ _ _ _ i wr => ∃ k : Nat, i = .int .i64 k ∧ k ≤ l.length ∧ Below W2.heap.size W2 wr) (fun _ _ _ _ _ i _ => l.length - (intOf i).toNat)
        case atStart => exact ⟨0, rfl, by omega, Below.refl _ _⟩
        case round =>
          obtain ⟨k, rfl, hk, hbl⟩ := hrel
          have hzr := hbl.size
          have HE' := Lib.hid (HE.out.step hbl)
          by_cases hlt : k < l.length
          · have hL := HE'.out.2 (.slice ao l.length cap, l) (.tail _ (.tail _ (.head _)))
            obtain ⟨b, o, cc, e1, _, _, hcell⟩ := Strs.addr' hL rfl (by show 0 < l.length; omega)
            simp only [Value.slice.injEq, true_and] at e1
            obtain ⟨rfl, rfl⟩ := e1
            have x0 := hcell k hlt
            have HCM : Hid (∀ j, j < m.length → ∃ b2 o2, bo = some ⟨b2, o2, none⟩ ∧ wr.cell? ⟨b2, o2 + j, none⟩ = some (.string (m.getD j .empty))) := fun j hj => by
              have hM := HE'.out.2 (.slice bo m.length cap2, m) (.tail _ (.tail _ (.tail _ (.head _))))
              obtain ⟨b2, o2, cc2, e2, _, _, hcell2⟩ := Strs.addr' hM rfl (by show 0 < m.length; omega)
              simp only [Value.slice.injEq, true_and] at e2
              obtain ⟨rfl, rfl⟩ := e2
              exact ⟨b2, o2, rfl, hcell2 j hj⟩
            have HTS := Lib.hid (HTC.out (l.getD k .empty) (mem_get hlt))
            obtain ⟨s, hs⟩ : ∃ s, s = l.getD k .empty := ⟨_, rfl⟩
            rw [← hs] at x0 HTS
            have hkI : (k : Int) < (l.length : Int) := by omega
            have k0 := (hbl.cell (p := ⟨W1.heap.size, 0, none⟩) (show W1.heap.size < _ from hg1)).trans p0
            have hgr : W1.heap.size < wr.heap.size := by omega
            clear hcell hs hL
            go_wp2
            go_loop [11, 13, 45] (fun st _ j => ∃ (t : Nat) (f : Bool), j = .int .i64 t ∧ t ≤ m.length ∧ st = .bool f ∧ Hid (f = decide (s ∈ m.take t))) (fun _ _ j => m.length - (intOf j).toNat)
            case atStart => exact ⟨0, false, rfl, by omega, rfl, rfl⟩
            case round =>
              obtain ⟨t, f, rfl, ht, rfl, HF⟩ := hrel
              by_cases htl : t < m.length
              · obtain ⟨b2, o2, rfl, y0⟩ := HCM.out t htl
                have HSN := Lib.hid (any_snoc htl s)
                obtain ⟨x, hx⟩ : ∃ x, x = m.getD t .empty := ⟨_, rfl⟩
                rw [← hx] at y0 HSN
                have htI : (t : Int) < (m.length : Int) := by omega
                clear hx
                cases f with
                | true =>
                  have HF' : Hid (true = decide (s ∈ m.take (t + 1))) := by show _ = _; rw [HSN.out, ← HF.out]; rfl
                  go_wp2
                  go_round
                  case rel => exact ⟨t + 1, true, by go_num, by omega, rfl, HF'⟩
                  case measure => simp [intOf]; omega
                | false =>
                  by_cases hxs : x = s
                  · have HF' : Hid (true = decide (s ∈ m.take (t + 1))) := by show _ = _; rw [HSN.out, decide_eq_true hxs, Bool.or_true]
                    subst hxs
                    go_wp2
                    go_round
                    case rel => exact ⟨t + 1, true, by go_num, by omega, rfl, HF'⟩
                    case measure => simp [intOf]; omega
                  · have HF' : Hid (false = decide (s ∈ m.take (t + 1))) := by show _ = _; rw [HSN.out, ← HF.out, decide_eq_false hxs]; rfl
                    have hne : (x.toList == s.toList) = false := by rw [toList_beq]; exact decide_eq_false hxs
                    clear hxs
                    go_wp2
                    go_round
                    case rel => exact ⟨t + 1, false, by go_num, by omega, rfl, HF'⟩
                    case measure => simp [intOf]; omega
              · have HFM : Hid (f = decide (s ∈ m)) := by
                  have := HF.out
                  rw [List.take_of_length_le (by omega)] at this
                  exact this
                have S1 := HE'.out.2 (.slice a1 q1 c1, pl) (.tail _ (.head _))
                have S2 := HE'.out.2 (.slice a2 q2 c2, m.drop (beh m pa)) (.head _)
                have hA9 : Below wr.heap.size wr (wr.alloc (.cells #[] 9)) := (Below.refl _ _).alloc (Nat.le_refl _) _
                have HNW := Lib.hid (Cells.news' (S1.next hA9))
                have HO0 := Lib.hid (own_none (w := wr) (W := wr) 9 (Nat.le_refl _) 1)
                have HS2 := Lib.hid S2
                clear S1 S2 HF
                go_wp2_with (at_builtin; refine kit.appN (.tmp 56) (.tmp 58) 22 rfl rfl wr.heap.size Try.underlying22 infoStr rfl (by decide) (by decide) HO0.out rfl (cl.strs pl) rfl (by rw [strs_len, ← HQ1.out, Nat.mul_one]) HNW.out.1 HNW.out.2 strs_one (by omega) (by rw [World.size_alloc]; omega) ?_)
                intro v5 w5 ho5 hba5
                have hb5 := hA9.trans hba5
                have HO5 := Lib.hid ho5
                have HNW2 := Lib.hid (Cells.news' (HS2.out.next hb5))
                have hz5 := hb5.size
                clear ho5 HNW HO0 HS2 hA9 hba5
                go_wp2_with (at_builtin; refine kit.appN (.tmp 59) (.tmp 60) 22 rfl rfl wr.heap.size Try.underlying22 infoStr rfl (by decide) (by decide) HO5.out rfl (cl.strs (m.drop (beh m pa))) rfl (by rw [strs_len, ← HQ2.out, Nat.mul_one]) HNW2.out.1 HNW2.out.2 strs_one (by omega) hz5 ?_)
                intro v6 w6 ho6 hb6
                obtain ⟨L, hLL⟩ : ∃ L, L = told l m most := ⟨_, rfl⟩
                have HLL := Lib.hid hLL
                obtain ⟨q, hq⟩ : ∃ q, q = L.length := ⟨_, rfl⟩
                have hqq : q = q1 + q2 := by rw [hq, hLL, HT.out, List.length_append, ← HQ1.out, ← HQ2.out]
                have HO6 : w6.ownsRow wr.heap.size 9 1 v6 L.length (cl.strs L) := by
                  rw [← hq, hqq, hLL, HT.out, strs_app]
                  simpa using ho6
                have HS6 := Lib.hid (Cells.own HO6)
                have hq400 : q ≤ 400 := by omega
                rw [← hLL] at HTS
                obtain ⟨a6, c6, rfl, _⟩ := Strs.form' HS6.out hq
                have HQ := Lib.hid hq
                have hb56 := hb5.trans hb6
                have hbl6 : Below W2.heap.size W2 w6 := hbl.trans (hb56.mono hzr)
                clear ho6 hb6 hb5 HO6 HO5 HNW2 hLL hq hqq hb56
                go_wp2
                go_loop [14, 16, 63] (fun c _ j => ∃ (t n : Nat), j = .int .i64 t ∧ t ≤ q ∧ c = .int .i64 n ∧ n ≤ t ∧ Hid (n = (L.take t).count s)) (fun _ _ j => q - (intOf j).toNat)
                case atStart => exact ⟨0, 0, rfl, by omega, rfl, by omega, rfl⟩
                case round =>
                  obtain ⟨t9, n9, rfl, ht9, rfl, hn9, HC9⟩ := hrel
                  by_cases ht9l : t9 < q
                  · obtain ⟨b6, o6, c6', e6, _, _, hc6⟩ := Strs.addr' HS6.out HQ.out (by omega)
                    simp only [Value.slice.injEq, true_and] at e6
                    obtain ⟨rfl, rfl⟩ := e6
                    have z0 := hc6 t9 ht9l
                    have HSN := Lib.hid (count_snoc (L := L) (k := t9) (by rw [← HQ.out]; exact ht9l) s)
                    obtain ⟨x, hx⟩ : ∃ x, x = L.getD t9 .empty := ⟨_, rfl⟩
                    rw [← hx] at z0 HSN
                    have htI : (t9 : Int) < (q : Int) := by omega
                    clear hx hc6
                    by_cases hxs : x = s
                    · have HC' : Hid (n9 + 1 = (L.take (t9 + 1)).count s) := by show _ = _; rw [HSN.out, if_pos hxs, ← HC9.out]
                      subst hxs
                      go_wp2
                      go_round
                      case rel => exact ⟨t9 + 1, n9 + 1, by go_num, by omega, by go_num, by omega, HC'⟩
                      case measure => simp [intOf]; omega
                    · have HC' : Hid (n9 = (L.take (t9 + 1)).count s) := by show _ = _; rw [HSN.out, if_neg hxs, ← HC9.out]; rfl
                      have hne : (x.toList == s.toList) = false := by rw [toList_beq]; exact decide_eq_false hxs
                      clear hxs
                      go_wp2
                      go_round
                      case rel => exact ⟨t9 + 1, n9, by go_num, by omega, rfl, by omega, HC'⟩
                      case measure => simp [intOf]; omega
                  · have hcnt : n9 = L.count s := by
                      have := HC9.out
                      rw [List.take_of_length_le (by rw [← HQ.out]; omega)] at this
                      exact this
                    obtain ⟨h1, h2⟩ := HTS.out
                    rw [← hcnt] at h1 h2
                    have hn1 : n9 ≤ 1 := h1
                    cases f with
                    | true =>
                      have hin : s ∈ m := of_decide_eq_true HFM.out.symm
                      obtain rfl : n9 = 1 := h2 hin
                      clear h1 h2 hcnt
                      go_wp2
                      go_roundw
                      case rel => exact ⟨k + 1, by go_num, by omega, hbl6⟩
                      case measure => simp [intOf]; omega
                    | false =>
                      have hn2 : ¬ (1 : Int) < (n9 : Int) := by omega
                      clear h1 h2 hcnt
                      go_wp2
                      go_roundw
                      case rel => exact ⟨k + 1, by go_num, by omega, hbl6⟩
                      case measure => simp [intOf]; omega
          · have hb0 : Below w.heap.size w wr := HE'.out.1
            go_wp2_with fail
            refine (awake_any _).mono ?_
            rintro e w5 ⟨rfl, hb⟩
            have hfin := hb0.trans (hb.mono hb0.size)
            go_wp2
            go_ret
            exact ⟨rfl, hfin⟩
end Go.Proofs.Ytilnmfbimfmacaa
