/- PagesAll, walked. -/
import Derived.Test.YtilnmfbimfmacaaPgAt
namespace Go.Proofs.Ytilnmfbimfmacaa
open Go.RowKit Go.ChangeShapes Go.Joins cl pg

theorem page_facts {l : List ByteArray} {m k : Nat} (hm : 0 < m) (hk : k < count l.length m) : 0 < (page l m k).list.length ∧ (page l m k).list.length ≤ m ∧ (k + 1 < count l.length m → (page l m k).list.length = m) ∧ (page l m k).more = decide (k + 1 < count l.length m) ∧ l.take (k * m) ++ (page l m k).list = l.take ((k + 1) * m) := by
  have h1 := (count_lt hm).1 hk
  have hs : (k + 1) * m = k * m + m := by rw [Nat.add_mul, Nat.one_mul]
  refine ⟨(page_len hm h1).1, ?_, fun h2 => ?_, ?_, ?_⟩
  · unfold page; simp only [List.length_take]; omega
  · have h3 := (count_lt hm).1 h2
    unfold page; simp only [List.length_take, List.length_drop]; omega
  · unfold page
    exact decide_eq_decide.2 (count_lt hm).symm
  · unfold page
    rw [hs, List.take_add]

set_option maxHeartbeats 6400000 in
set_option maxRecDepth 100000 in
theorem lawall_any (l : List ByteArray) (v : Value) (most : Int) (w : World) (h : Strs w w.heap.size v l) :
    Calls Try.prog 5 #[v, .int .i64 most] w (Said true w) := by
  have E0 := env1 h
  obtain ⟨ao, cap, rfl, _, _⟩ := h.form
  clear h
  have HRI := Lib.hid (crise E0 (.head _))
  go_enter Try.func5, Try.ntmps5
  go_wp2_with fail
  refine HRI.out.mono ?_
  rintro e w1 ⟨r, rfl, HOK, rfl⟩
  cases r with
  | false =>
    go_wp2_with fail
    refine (awake_any _).mono ?_
    rintro e w1 ⟨rfl, hb⟩
    go_wp2
    go_ret
    exact ⟨rfl, hb⟩
  | true =>
    have hok : okL l := HOK.out rfl
    clear HOK HRI
    go_wp2_with fail
    refine (call1 E0 (.head _) hok most).mono ?_
    rintro e W1 ⟨v1, ps, rfl, HM, hpa, E1, hb1⟩
    by_cases hlow : most < 1
    · have hp0 : ps = [] := by
        have := HM.out
        rw [all_low hlow] at this
        exact List.map_eq_nil_iff.1 this
      subst hp0
      obtain ⟨a1, c1, rfl⟩ := hpa.form (n := 0) rfl
      go_wp2_with fail
      refine (awake_any _).mono ?_
      rintro e w2 ⟨rfl, hb⟩
      have hfin := (E1.step hb).1
      go_wp2
      go_ret
      exact ⟨rfl, hfin⟩
    · obtain ⟨m, rfl⟩ : ∃ m : Nat, most = (m : Int) := ⟨most.toNat, by omega⟩
      have hmp : 0 < m := by omega
      obtain ⟨n, hn⟩ : ∃ n, n = ps.length := ⟨_, rfl⟩
      have hnc : n = count l.length m := by rw [hn, ← all_length hmp, ← HM.out, List.length_map]
      have HNC := Lib.hid hnc
      have HN := Lib.hid hn
      have hn200 : n ≤ l.length := by
        rw [hnc]; unfold count
        by_cases h0 : l.length = 0
        · rw [h0]; exact Nat.le_of_lt_succ (Nat.div_lt_of_lt_mul (by omega))
        · exact (Nat.div_le_iff_le_mul_add_pred hmp).2 (by have := Nat.le_mul_of_pos_right l.length hmp; rw [Nat.mul_comm m]; omega)
      have hl200 := hok.2.2.1
      obtain ⟨a1, c1, rfl⟩ := hpa.form hn
      have HPA := Lib.hid hpa
      have HE1 := Lib.hid E1
      clear hnc hn hpa hok E0 hb1 E1
      go_wp2
      go_loopw [6, 7, 8, 26] (fun vo _ _ i wr => ∃ k : Nat, i = .int .i64 k ∧ k ≤ n ∧ Hid (wr.ownsRow W1.heap.size 9 1 vo (l.take (k * m)).length (strs (l.take (k * m)))) ∧ Below W1.heap.size W1 wr) (fun _ _ _ i _ => n - (intOf i).toNat)
      case atStart => exact ⟨0, rfl, by omega, by rw [Nat.zero_mul]; exact World.ownsRow_nil _ _ _ _, Below.refl _ _⟩
      case round =>
        obtain ⟨k, rfl, hk, HO, hbl⟩ := hrel
        by_cases hlt : k < n
        · obtain ⟨b, off, lv, p, rfl, hB, hj, q0, q1, q2, hS⟩ := HPA.out.get HN.out hlt
          obtain ⟨hp, hkc⟩ := all_get hmp (map_get HM.out hj)
          obtain ⟨f1, f2, f3, f4, f5⟩ := page_facts hmp hkc
          rw [← hp, ← HNC.out] at f4
          rw [← hp] at f1 f2 f3 f5
          rw [← HNC.out] at f3
          have k0 := (hbl.cell (p := ⟨b, off + k * 3, none⟩) hB).trans q0
          have k1 := (hbl.cell (p := ⟨b, off + k * 3 + 1, none⟩) hB).trans q1
          have k2 := (hbl.cell (p := ⟨b, off + k * 3 + 2, none⟩) hB).trans q2
          obtain ⟨q, hq⟩ : ∃ q, q = p.list.length := ⟨_, rfl⟩
          rw [← hq] at f1 f2 f3
          have f6 : q ≤ l.length := by rw [hq, hp]; exact (page_len hmp ((count_lt hmp).1 hkc)).2
          obtain ⟨pa, pc, rfl, _⟩ := hS.form' hq
          have hkI : (k : Int) < (n : Int) := by omega
          have HNW : Hid ((pa = none → q = 0 ∧ pc = 0) ∧ ∀ ad, pa = some ad → ∀ j u, (cl.strs p.list)[j]? = some u → (wr.alloc (.cells #[.slice pa q pc, .string p.after, .bool p.more] 26)).cell? (ad.add j) = some u) :=
            (hS.below (hbl.alloc hbl.size _)).news'
          have HNL : Hid ((cl.strs p.list).length = q * 1) := by show _ = _; rw [strs_len, ← hq, Nat.mul_one]
          have hol : (l.take (k * m)).length ≤ l.length := by rw [List.length_take]; omega
          have HST : Hid (l.take (k * m) ++ p.list = l.take ((k + 1) * m)) := f5
          have HQL : Hid (q = p.list.length) := hq
          obtain ⟨q9, hq9⟩ : ∃ q9, q9 = (l.take (k * m)).length := ⟨_, rfl⟩
          have HQ9 := Lib.hid hq9
          rw [← hq9] at HO hol
          have hzr := hbl.size
          obtain ⟨pm, hpm⟩ : ∃ pm, pm = p.more := ⟨_, rfl⟩
          obtain ⟨pf, hpf⟩ : ∃ pf, pf = p.after := ⟨_, rfl⟩
          rw [← hpm, ← hpf] at HNW
          rw [← hpm] at k2 f4
          rw [← hpf] at k1
          have hq0 : ((q : Int) == 0) = false := beq_eq_false_iff_ne.2 (by omega)
          have hqm : (q : Int) ≤ (m : Int) := by omega
          clear hp hj hkc f5 hq hS q0 q1 q2 hq9 hpm hpf
          by_cases hlast : k + 1 < n
          · obtain rfl : pm = true := by rw [f4]; exact decide_eq_true hlast
            obtain rfl : q = m := f3 hlast
            have hIl : (k : Int) < (n : Int) - 1 := by omega
            have hqq : ((q : Int) != (q : Int)) = false := by simp
            clear f4 f3
            go_wp2_with (at_builtin; refine kit.appN (.tmp 66) (.tmp 68) 22 rfl rfl W1.heap.size Try.underlying22 infoStr rfl (by decide) (by decide) (HO.out.alloc _) rfl (cl.strs p.list) rfl HNL.out HNW.out.1 HNW.out.2 strs_one (by omega) (by rw [World.size_alloc]; omega) ?_)
            intro v' w5 ho5 hb5
            have HO5 : Hid (w5.ownsRow W1.heap.size 9 1 v' (l.take ((k + 1) * q)).length (cl.strs (l.take ((k + 1) * q)))) := by
              show World.ownsRow _ _ _ _ _ _ _
              rw [← HST.out, List.length_append, strs_app, ← HQL.out, ← HQ9.out]; exact ho5
            have hbl5 := (hbl.alloc hzr (.cells #[.slice pa q pc, .string pf, .bool true] 26)).trans hb5
            clear ho5 hb5
            go_wp2
            go_roundw
            case rel => exact ⟨k + 1, by go_num, by omega, HO5, hbl5⟩
            case measure => simp [intOf]; omega
          · obtain rfl : pm = false := by rw [f4]; exact decide_eq_false hlast
            have hIl : ¬ (k : Int) < (n : Int) - 1 := by omega
            clear f4 f3
            go_wp2_with (at_builtin; refine kit.appN (.tmp 66) (.tmp 68) 22 rfl rfl W1.heap.size Try.underlying22 infoStr rfl (by decide) (by decide) (HO.out.alloc _) rfl (cl.strs p.list) rfl HNL.out HNW.out.1 HNW.out.2 strs_one (by omega) (by rw [World.size_alloc]; omega) ?_)
            intro v' w5 ho5 hb5
            have HO5 : Hid (w5.ownsRow W1.heap.size 9 1 v' (l.take ((k + 1) * m)).length (cl.strs (l.take ((k + 1) * m)))) := by
              show World.ownsRow _ _ _ _ _ _ _
              rw [← HST.out, List.length_append, strs_app, ← HQL.out, ← HQ9.out]; exact ho5
            have hbl5 := (hbl.alloc hzr (.cells #[.slice pa q pc, .string pf, .bool false] 26)).trans hb5
            clear ho5 hb5
            go_wp2
            go_roundw
            case rel => exact ⟨k + 1, by go_num, by omega, HO5, hbl5⟩
            case measure => simp [intOf]; omega
        · have hall : l.take (k * m) = l := List.take_of_length_le (by
            have h1 : ¬ k < count l.length m := by rw [← HNC.out]; exact hlt
            have h2 : ¬ k * m < l.length := fun h => h1 ((count_lt hmp).2 h)
            omega)
          have ho := HO.out
          rw [hall] at ho
          have E2 := HE1.out.push ho hbl
          clear hall ho HO
          go_wp2_with fail
          refine (ctexts E2 (.head _) (.tail _ (.head _)) rfl).mono ?_
          rintro e W3 ⟨rfl, E3, _⟩
          go_wp2_with fail
          refine (awake_any _).mono ?_
          rintro e w2 ⟨rfl, hb⟩
          have hfin := (E3.step hb).1
          go_wp2
          go_ret
          exact ⟨rfl, hfin⟩
end Go.Proofs.Ytilnmfbimfmacaa
