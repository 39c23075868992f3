/- PostingFolds, walked. -/
import Derived.Test.YtbcofpppjjpclaaFoldMath
import Derived.Test.YtbcofpppjjpclaaLawMany
import Derived.RegionTactic
namespace Go.Proofs.Ytbcofpppjjpclaa
open Go.RowKit Go.ChangeShapes at_ pm

theorem infoRows : (Try.prog.info? 22).map (fun i => (i.zero, i.size, i.bytes)) = some (some (.slice none 0 0), 1, 24) := by kernel_rfl
theorem own_none' (W : World) (t : TypeId) : (W.alloc (.cells #[] t)).ownsRow W.heap.size t 1 (.slice (some ⟨W.heap.size, 0, none⟩) 0 0) 0 [] := own_none W t
theorem cell_one {ps : List (Value × List Int)} {W : World} (h : Rows W ps) : ∀ u ∈ ps.map (·.1), u.oneCell' = true := by
  intro u hu
  obtain ⟨p, hp, rfl⟩ := List.mem_map.1 hu
  obtain ⟨ao, c, e, _⟩ := h p hp
  rw [e]; rfl
theorem all_snoc {ls : List (List Int)} {t : Nat} (ht : t < ls.length) (n : Int) : ((ls.take (t + 1)).all fun x => has x n) = (((ls.take t).all fun x => has x n) && has (ls.getD t []) n) := by
  rw [List.take_succ_eq_append_getElem ht, List.all_append]
  simp [List.getD, ht]
theorem at_cell {w : World} {B n c j : Nat} {ao : Option Addr} {l : List Int} (h : At w B (.slice ao n c) l) (hj : j < n) : ∃ b o, ao = some ⟨b, o, none⟩ ∧ b < B ∧ w.cell? ⟨b, o + j, none⟩ = some (.int .i64 (l.getD j 0)) := by
  obtain ⟨ao', c', e, _, _, h4⟩ := h
  simp only [Value.slice.injEq] at e
  obtain ⟨rfl, rfl, rfl⟩ := e
  obtain ⟨b, o, rfl, hB, hc⟩ := h4 (by omega)
  exact ⟨b, o, rfl, hB, hc j hj⟩
theorem cell?_setCell_some {w : World} {p q : Addr} {x v : Value} (h : w.cell? q = some v) : ∃ v', (w.setCell p x).cell? q = some v' := by
  by_cases e : p = q
  · subst e; exact ⟨x, World.cell?_setCell_same w p x h⟩
  · exact ⟨v, (World.cell?_setCell_other w p q x e).trans h⟩
theorem slice_of {W : World} {ps ps0 : List (Value × List Int)} (h : Rows W ps0) (hp : ps.Perm ps0) {i : Nat} {v : Value} (hv : (ps.map (·.1))[i]? = some v) : ∃ ao n c, v = .slice ao n c := by
  obtain ⟨p, h1, rfl⟩ := List.mem_map.1 (List.mem_of_getElem? hv)
  obtain ⟨ao, c, e, _⟩ := h p (hp.mem_iff.1 h1)
  exact ⟨ao, _, c, e⟩
theorem exch_comm {xs : List Value} {a b : Nat} (h : a ≠ b) (u v : Value) : (xs.set b v).set a u = (xs.set a u).set b v := List.set_comm _ _ (Ne.symm h)

set_option maxHeartbeats 12800000 in
set_option maxRecDepth 100000 in
theorem folds_any (ls : List (List Int)) (os : List Int) (v vo : Value) (w : World) (ha : LRows w w.heap.size v ls) (ho : At w w.heap.size vo os) :
    Calls Try.prog 8 #[v, vo] w (Said true w) := by
  have E0 : Env w w [(vo, os)] := ⟨Below.refl _ _, fun p hp => by
    obtain rfl : p = (vo, os) := by simpa using hp
    exact ho⟩
  have HW : Hid (∀ W : World, Below w.heap.size w W → LRows W W.heap.size v ls) := fun W hb => (ha.below hb).mono hb.size
  obtain ⟨ao, n, cap, rfl, hnn⟩ : ∃ ao n cap, v = .slice ao n cap ∧ n = ls.length := by
    obtain ⟨ao, cap, e, _⟩ := ha
    exact ⟨ao, _, cap, e, rfl⟩
  have HNN := Lib.hid hnn
  obtain ⟨oo, on, oc, rfl, hon⟩ := E0.form (.head _)
  have HON := Lib.hid hon
  have hon63 : on ≤ 9223372036854775807 := by
    obtain ⟨_, _, e, _, h9, _⟩ := ho
    rw [hon]; unfold maxLen at h9; exact h9
  clear ha ho hnn hon
  cases hr : rowsOk ls with
  | false =>
    have R : Hid (∀ (W : World) (L : List (Value × List Int)), Env w W L → Calls Try.prog 12 #[.slice ao n cap] W (fun e W' => e = .returned (.bool false) ∧ Env w W' L)) := fun W L E => by
      have h := cright E (HW.out W E.1)
      rw [hr] at h
      exact h
    clear hr
    go_enter Try.func8, Try.ntmps8
    go_wp2_with fail
    refine (R.out _ _ E0).mono ?_
    rintro e W1 ⟨rfl, E1⟩
    go_wp2_with fail
    refine (awake_any _).mono ?_
    rintro e W2 ⟨rfl, hb2⟩
    have hfin := (E1.step hb2).1
    go_wp2
    go_ret
    exact ⟨rfl, hfin⟩
  | true =>
    have R : Hid (∀ (W : World) (L : List (Value × List Int)), Env w W L → Calls Try.prog 12 #[.slice ao n cap] W (fun e W' => e = .returned (.bool true) ∧ Env w W' L)) := fun W L E => by
      have h := cright E (HW.out W E.1)
      rw [hr] at h
      exact h
    obtain ⟨hg, h30⟩ := many_good hr
    have HG := Lib.hid hg
    have h30n : n ≤ 30 := by rw [HNN.out]; exact h30
    clear hr hg h30
    by_cases h40 : 40 < on
    · go_enter Try.func8, Try.ntmps8
      go_wp2_with fail
      refine (R.out _ _ E0).mono ?_
      rintro e W1 ⟨rfl, E1⟩
      go_wp2_with fail
      refine (awake_any _).mono ?_
      rintro e W2 ⟨rfl, hb2⟩
      have hfin := (E1.step hb2).1
      go_wp2
      go_ret
      exact ⟨rfl, hfin⟩
    · go_enter Try.func8, Try.ntmps8
      go_wp2_with fail
      refine (R.out _ _ E0).mono ?_
      rintro e W1 ⟨rfl, E1⟩
      have hL1 := HW.out W1 E1.1
      obtain ⟨ps0, hps, hrows, hnp, hnone, hnews⟩ := lrows_pairs hL1
      have HPS := Lib.hid hps
      have HROWS := Lib.hid hrows
      have hnp2 : n = (ps0.map (·.1)).length := by rw [List.length_map]; exact hnp
      have HNP := Lib.hid hnp
      have HO0 := Lib.hid (own_none' W1 22)
      have HNONE := Lib.hid hnone
      have HNEWS : Hid (∀ ad, ao = some ad → ∀ j u, (ps0.map (·.1))[j]? = some u → (W1.alloc (.cells #[] 22)).cell? (ad.add j) = some u) := fun ad e j u hj => by
        have h1 := hnews ad e j u hj
        exact (World.cell?_alloc_lt _ _ _ (World.block_lt_of_cell? _ _ h1)).trans h1
      have HONE := Lib.hid (cell_one hrows)
      have HLEN : Hid ((ps0.map (·.1)).length = n * 1) := by show _ = _; omega
      clear hps hrows hnp hnp2 hnone hnews hL1 R
      go_wp2_with (at_builtin; refine kit.appN (.tmp 24) (.tmp 25) 30 rfl rfl W1.heap.size Try.underlying30 infoRows rfl (by decide) (by decide) HO0.out rfl (ps0.map (·.1)) rfl HLEN.out HNONE.out HNEWS.out HONE.out (by omega) (by rw [World.size_alloc]; omega) ?_)
      intro vm W2 hown hba
      have HO2 : Hid (W2.ownsRow W1.heap.size 22 1 vm ps0.length (ps0.map (·.1))) := by
        show World.ownsRow _ _ _ _ _ _ _
        rw [← HNP.out]; simpa using hown
      have hb2 : Below W1.heap.size W1 W2 := ((Below.refl _ _).alloc (Nat.le_refl _) _).trans hba
      have HE1 := Lib.hid E1
      obtain ⟨mo, mc, rfl⟩ : ∃ mo mc, vm = .slice mo n mc := by
        rcases HO2.out.2 with ⟨e, h0⟩ | ⟨g, c, cur, e, _⟩
        · exact ⟨none, 0, by rw [e, HNP.out, h0]⟩
        · exact ⟨_, c, by rw [e, HNP.out]⟩
      clear hown hba HO0 HNEWS HNONE HLEN HONE E0 E1
      go_wp2
      go_loopw [6, 7, 8, 9, 29] (fun _ _ _ _ i wr => ∃ (k : Nat) (ps : List (Value × List Int)), i = .int .i64 k ∧ k ≤ on ∧ Hid (ps.Perm ps0) ∧ Hid (wr.ownsRow W1.heap.size 22 1 (.slice mo n mc) ps.length (ps.map (·.1))) ∧ Below W1.heap.size W1 wr) (fun _ _ _ _ i _ => on - (intOf i).toNat)
      case atStart => exact ⟨0, ps0, rfl, by omega, List.Perm.refl _, HO2.out, hb2⟩
      case round =>
        obtain ⟨k, ps, rfl, hk, HP, HO, hbl⟩ := hrel
        have HE : Hid (Env w wr [(.slice oo on oc, os)]) := HE1.out.step hbl
        have hpl : ps.length = n := by rw [HNP.out, HP.out.length_eq]
        by_cases hlt : k < on
        · obtain ⟨b, o, rfl, _, x0⟩ := at_cell (HE.out.2 _ (.head _)) hlt
          simp only at x0
          obtain ⟨x, hx⟩ : ∃ x, x = os.getD k 0 := ⟨_, rfl⟩
          rw [← hx] at x0
          have hkI : (k : Int) < (on : Int) := by omega
          clear hx
          by_cases hn1 : 1 < n
          · obtain ⟨g, rfl⟩ : ∃ g, mo = some ⟨g, 0, none⟩ := by
              rcases HO.out.2 with ⟨e, h0⟩ | ⟨g, c, cur, e, _⟩
              · omega
              · simp only [Value.slice.injEq] at e
                exact ⟨g, e.1⟩
            have hO := HO.out
            rw [hpl] at hO
            have hlen1 : (ps.map (·.1)).length = n := by rw [List.length_map]; exact hpl
            obtain ⟨ia, hia⟩ : ∃ ia, ia = k % n := ⟨_, rfl⟩
            have hian : ia < n := by rw [hia]; exact Nat.mod_lt _ (by omega)
            obtain ⟨jb, hjb, hjx⟩ := kit.umod x (m := n) (by omega)
            have e1 : (k : Int).tmod (n : Int) = (ia : Int) := by rw [hia]; rfl
            have e2 : (k : Int) % (n : Int) = (ia : Int) := by rw [hia]; rfl
            have u1 : IntKind.u64.wrap (n : Int) = (n : Int) := IntWalk.u64_in _ (by omega)
            have i1 : IntKind.i64.wrap (jb : Int) = (jb : Int) := IntWalk.i64_in _ (by omega)
            have hgB := (hO.lt g rfl).1
            have hc1 := hO.cellAt ia (by omega)
            have hc2 := hO.cellAt jb (by omega)
            have hf1 := hO.frozenAt ia
            have hf2 := hO.frozenAt jb
            obtain ⟨va, hva⟩ : ∃ va, (ps.map (·.1))[ia]? = some va := ⟨_, List.getElem?_eq_getElem (by omega)⟩
            obtain ⟨vb, hvb⟩ : ∃ vb, (ps.map (·.1))[jb]? = some vb := ⟨_, List.getElem?_eq_getElem (by omega)⟩
            rw [hva] at hc1
            rw [hvb] at hc2
            have HX : Hid ((exch ps ia jb).map (·.1) = ((ps.map (·.1)).set ia vb).set jb va) := by
              show _ = _
              have ea : (ps.getD ia (.slice none 0 0, [])).1 = va := by
                have : ia < ps.length := by omega
                simp [List.getD, this] at hva ⊢
                exact hva
              have eb : (ps.getD jb (.slice none 0 0, [])).1 = vb := by
                have : jb < ps.length := by omega
                simp [List.getD, this] at hvb ⊢
                exact hvb
              rw [exch_cells, ea, eb]
            have HP' : Hid ((exch ps ia jb).Perm ps0) := (exch_perm (by omega) (by omega)).trans HP.out
            obtain ⟨aa, na, ca, rfl⟩ := slice_of HROWS.out HP.out hva
            obtain ⟨ba, nb, cb, rfl⟩ := slice_of HROWS.out HP.out hvb
            have HPL : Hid ((exch ps ia jb).length = n) := by show _ = _; rw [exch_len]; exact hpl
            have HOO := Lib.hid hO
            have hiaI : (ia : Int) < (n : Int) := by omega
            have hjbI : (jb : Int) < (n : Int) := by omega
            have hn1I : (1 : Int) < (n : Int) := by omega
            clear hia hpl hlen1 hO hva hvb
            go_wp2
            go_quiet (fail)
            have d1 : (wr.drewN nq).cell? ⟨g, ia, none⟩ = some (.slice aa na ca) := hc1
            have d2 : (wr.drewN nq).cell? ⟨g, jb, none⟩ = some (.slice ba nb cb) := hc2
            have d3 : (wr.drewN nq).frozen? ⟨g, ia, none⟩ = false := hf1
            have d4 : (wr.drewN nq).frozen? ⟨g, jb, none⟩ = false := hf2
            have HOQ : Hid ((wr.drewN nq).ownsRow W1.heap.size 22 1 (.slice (some ⟨g, 0, none⟩) n mc) n (ps.map (·.1))) := HOO.out
            have hblq : Below W1.heap.size W1 (wr.drewN nq) := below_drewN hbl _
            clear hc1 hc2 hf1 hf2 HOO e1 e2 u1 i1
            generalize wr.drewN nq = wq at d1 d2 d3 d4 HOQ hblq
            by_cases hab : ia = jb
            · subst hab
              have heq := Option.some.inj (d1.symm.trans d2)
              simp only [Value.slice.injEq] at heq
              obtain ⟨rfl, rfl, rfl⟩ := heq
              clear d2 d4
              go_wp2
              go_region
              all_goals
                have HO9 : Hid (((wq.setCell ⟨g, ia, none⟩ (.slice aa na ca)).setCell ⟨g, ia, none⟩ (.slice aa na ca)).drew.ownsRow W1.heap.size 22 1 (.slice (some ⟨g, 0, none⟩) n mc) (exch ps ia ia).length ((exch ps ia ia).map (·.1))) := by
                  show World.ownsRow _ _ _ _ _ _ _
                  rw [HPL.out, HX.out]
                  exact ((HOQ.out.stored ia (.slice aa na ca)).1.stored ia (.slice aa na ca)).1
                have hbl9 : Below W1.heap.size W1 ((wq.setCell ⟨g, ia, none⟩ (.slice aa na ca)).setCell ⟨g, ia, none⟩ (.slice aa na ca)).drew := ((hblq.setCell hgB _).setCell hgB _).drew
                clear d1 d3
                go_wp2
                go_roundw
                case rel => exact ⟨k + 1, exch ps ia ia, by go_num, by omega, HP', HO9, hbl9⟩
                case measure => simp [intOf]; omega
            · have hab2 : ¬ jb = ia := fun e => hab e.symm
              obtain ⟨v9, hy9⟩ := cell?_setCell_some (w := wq) (p := ⟨g, ia, none⟩) (x := .slice ba nb cb) (q := ⟨g, jb, none⟩) (v := .slice ba nb cb) d2
              go_wp2
              go_region
              all_goals
                have HO9 : Hid (((wq.setCell ⟨g, ia, none⟩ (.slice ba nb cb)).setCell ⟨g, jb, none⟩ (.slice aa na ca)).drew.ownsRow W1.heap.size 22 1 (.slice (some ⟨g, 0, none⟩) n mc) (exch ps ia jb).length ((exch ps ia jb).map (·.1))) := by
                  show World.ownsRow _ _ _ _ _ _ _
                  rw [HPL.out, HX.out]
                  exact ((HOQ.out.stored ia (.slice ba nb cb)).1.stored jb (.slice aa na ca)).1
                have hbl9 : Below W1.heap.size W1 ((wq.setCell ⟨g, ia, none⟩ (.slice ba nb cb)).setCell ⟨g, jb, none⟩ (.slice aa na ca)).drew := ((hblq.setCell hgB _).setCell hgB _).drew
                clear d1 d2 d3 d4 hy9
                go_wp2
                go_roundw
                case rel => exact ⟨k + 1, exch ps ia jb, by go_num, by omega, HP', HO9, hbl9⟩
                case measure => simp [intOf]; omega
          · clear hpl
            go_wp2
            go_roundw
            case rel => exact ⟨k + 1, ps, by go_num, by omega, HP, HO, hbl⟩
            case measure => simp [intOf]; omega
        · obtain ⟨wA, rfl⟩ : ∃ x : World, x = wr := ⟨_, rfl⟩
          have hb0w : Below w.heap.size w wA := HE.out.1
          have HLM : Hid (∀ W : World, Below wA.heap.size wA W → LRows W W.heap.size (.slice mo n mc) (ps.map (·.2))) := fun W hb => by
            have hR : Rows wA ps := fun p hp => ((HROWS.out p (HP.out.mem_iff.1 hp)).below hbl).mono hbl.size
            exact ((lrows_own HO.out hR).below hb).mono hb.size
          have hperm : ls.Perm (ps.map (·.2)) := by
            have := (HP.out.map (·.2)).symm
            rw [HPS.out] at this; exact this
          have hg := HG.out
          have hg2 : ∀ l ∈ ps.map (·.2), Good 2000 l := fun l hl => hg l (hperm.mem_iff.2 hl)
          have h30 : ls.length ≤ 30 := by rw [← HNN.out]; exact h30n
          have h302 : (ps.map (·.2)).length ≤ 30 := by rw [← hperm.length_eq]; exact h30
          have EA : allOf (ps.map (·.2)) = allOf ls := (allOf_perm hperm fun l hl => (hg l hl).1).symm
          have EM : mergeOf (ps.map (·.2)) = mergeOf ls := (mergeOf_perm hperm fun l hl => (hg l hl).1).symm
          have HWr : Hid (∀ W : World, Below wA.heap.size wA W → LRows W W.heap.size (.slice ao n cap) ls) := fun W hb => HW.out W (hb0w.trans (hb.mono hb0w.size))
          have C1 : Hid (∀ (W : World) (L : List (Value × List Int)), Env wA W L → Calls Try.prog 22 #[.slice ao n cap] W (fun e W' => ∃ u, e = .returned u ∧ Env wA W' ((u, allOf ls) :: L))) := fun W L E =>
            (all_any ls _ W (HWr.out W E.1) hg).mono fun _ _ ⟨u, he, ho, hb⟩ => ⟨u, he, E.push ho hb⟩
          have C2 : Hid (∀ (W : World) (L : List (Value × List Int)), Env wA W L → Calls Try.prog 22 #[.slice mo n mc] W (fun e W' => ∃ u, e = .returned u ∧ Env wA W' ((u, allOf ls) :: L))) := fun W L E => by
            rw [← EA]
            exact (all_any _ _ W (HLM.out W E.1) hg2).mono fun _ _ ⟨u, he, ho, hb⟩ => ⟨u, he, E.push ho hb⟩
          have C3 : Hid (∀ (W : World) (L : List (Value × List Int)), Env wA W L → Calls Try.prog 24 #[.slice ao n cap] W (fun e W' => ∃ u, e = .returned u ∧ Env wA W' ((u, mergeOf ls) :: L))) := fun W L E =>
            (merge_any _ ls _ W (Nat.le_refl _) (HWr.out W E.1) hg h30).mono fun _ _ ⟨u, he, ho, hb⟩ => ⟨u, he, E.push ho hb⟩
          have C4 : Hid (∀ (W : World) (L : List (Value × List Int)), Env wA W L → Calls Try.prog 24 #[.slice mo n mc] W (fun e W' => ∃ u, e = .returned u ∧ Env wA W' ((u, mergeOf ls) :: L))) := fun W L E => by
            rw [← EM]
            exact (merge_any _ _ _ W (Nat.le_refl _) (HLM.out W E.1) hg2 h302).mono fun _ _ ⟨u, he, ho, hb⟩ => ⟨u, he, E.push ho hb⟩
          have E0 : Env wA wA [] := ⟨Below.refl _ _, fun p hp => by cases hp⟩
          have gA := allOf_good hg
          have gM := merge_good hg
          clear hperm hg2 h302 EA EM HLM HO HP HE
          go_wp2_with fail
          refine (C1.out _ _ E0).mono ?_
          rintro e W3 ⟨v3, rfl, E3⟩
          go_wp2_with fail
          refine (C2.out _ _ E3).mono ?_
          rintro e W4 ⟨v4, rfl, E4⟩
          go_wp2_with fail
          refine (cints E4 (.tail _ (.head _)) (.head _) rfl).mono ?_
          rintro e W5 ⟨rfl, E5⟩
          go_wp2_with fail
          refine (C3.out _ _ E5).mono ?_
          rintro e W6 ⟨v6, rfl, E6⟩
          go_wp2_with fail
          refine (C4.out _ _ E6).mono ?_
          rintro e W7 ⟨v7, rfl, E7⟩
          go_wp2_with fail
          refine (cints E7 (.tail _ (.head _)) (.head _) rfl).mono ?_
          rintro e W8 ⟨rfl, E8⟩
          have E8' : Env wA W8 [] := ⟨E8.1, fun p hp => by cases hp⟩
          clear E0 E3 E4 E5 E6 E7 E8 C2 C4
          go_wp2_with fail
          refine (C3.out _ _ E8').mono ?_
          rintro e W9 ⟨v9, rfl, E9⟩
          obtain ⟨M, hM⟩ : ∃ M, M = mergeOf ls := ⟨_, rfl⟩
          have HM := Lib.hid hM
          rw [← hM] at E9 gM
          obtain ⟨m9, n9, c9, rfl, hn9⟩ := E9.form (.head _)
          have HN9 := Lib.hid hn9
          have hn9k : n9 ≤ 60000 := by
            have := gM.2
            rw [← hn9] at this; omega
          have HE9 := Lib.hid E9
          have HGA := Lib.hid gA
          have HG2 := HG
          clear hM hn9 E8' C3 gM gA hg
          go_wp2
          go_loopw [11, 12, 14, 80] (fun _ _ _ i wz => ∃ k2 : Nat, i = .int .i64 k2 ∧ k2 ≤ n9 ∧ Hid (Env wA wz [(.slice m9 n9 c9, M)])) (fun _ _ _ i _ => n9 - (intOf i).toNat)
          case atStart => exact ⟨0, rfl, by omega, HE9.out⟩
          case round =>
            obtain ⟨wz, rfl⟩ : ∃ x : World, x = wr := ⟨_, rfl⟩
            obtain ⟨k2, rfl, hk2, HEZ⟩ := hrel
            by_cases hlt2 : k2 < n9
            · obtain ⟨bm, om, rfl, _, y0⟩ := at_cell (HEZ.out.2 _ (.head _)) hlt2
              simp only at y0
              have HEV := Lib.hid (every_all (ls := ls) (n := M.getD k2 0) (by rw [← HM.out]; exact mem_get (by rw [← HN9.out]; exact hlt2)))
              obtain ⟨z, hz⟩ : ∃ z, z = M.getD k2 0 := ⟨_, rfl⟩
              rw [← hz] at y0 HEV
              have hk2I : (k2 : Int) < (n9 : Int) := by omega
              clear hz
              go_wp2
              go_loopw [12, 14, 86] (fun f _ j wy => ∃ (t : Nat) (b : Bool), j = .int .i64 t ∧ t ≤ n ∧ f = .bool b ∧ Hid (b = (ls.take t).all fun x => has x z) ∧ Hid (Env wA wy [(.slice (some ⟨bm, om, none⟩) n9 c9, M)])) (fun _ _ j _ => n - (intOf j).toNat)
              case atStart => exact ⟨0, true, rfl, by omega, rfl, rfl, HEZ.out⟩
              case round =>
                obtain ⟨wy, rfl⟩ : ∃ x : World, x = wr := ⟨_, rfl⟩
                obtain ⟨t, b, rfl, ht, rfl, HB, HEY⟩ := hrel
                by_cases htl : t < n
                · obtain ⟨ao3, cp3, e3, _, _, hc3⟩ := HWr.out wy HEY.out.1
                  simp only [Value.slice.injEq] at e3
                  obtain ⟨rfl, hn3, rfl⟩ := e3
                  obtain ⟨b3, o3, rfl, _, hat3⟩ := hc3 (by omega)
                  obtain ⟨x3, hx3, hA3⟩ := hat3 t (by omega)
                  have htls : t < ls.length := by omega
                  have HSN := Lib.hid (all_snoc htls z)
                  have gl := HG2.out (ls.getD t []) (by simp [List.getD, htls])
                  obtain ⟨l3, hl3⟩ : ∃ l3, l3 = ls.getD t [] := ⟨_, rfl⟩
                  rw [← hl3] at hA3 HSN gl
                  have H1 := Lib.hid (phas_any l3 z x3 wy hA3 gl.1 (Nat.le_trans gl.2 (by decide)))
                  obtain ⟨a3, c3, rfl, _, _, _⟩ := hA3
                  have htI : (t : Int) < (n : Int) := by omega
                  clear hat3 hc3 hl3 hn3
                  cases b with
                  | false =>
                    have HB' : Hid (false = (ls.take (t + 1)).all fun x => has x z) := by show _ = _; rw [HSN.out, ← HB.out]; rfl
                    go_wp2
                    go_roundw
                    case rel => exact ⟨t + 1, false, by go_num, by omega, rfl, HB', HEY⟩
                    case measure => simp [intOf]; omega
                  | true =>
                    have HB' : Hid (has l3 z = (ls.take (t + 1)).all fun x => has x z) := by show _ = _; rw [HSN.out, ← HB.out]; rfl
                    obtain ⟨b9, hb9⟩ : ∃ b9, b9 = has l3 z := ⟨_, rfl⟩
                    rw [← hb9] at HB' H1
                    clear hb9
                    go_wp2_with fail
                    refine H1.out.mono ?_
                    rintro e wx ⟨rfl, hbx⟩
                    have HEX := Lib.hid (HEY.out.step hbx)
                    clear hx3 hbx
                    go_wp2
                    go_roundw
                    case rel => exact ⟨t + 1, b9, by go_num, by omega, rfl, HB', HEX⟩
                    case measure => simp [intOf]; omega
                · have HBE : Hid (b = ls.all fun x => has x z) := by
                    have := HB.out
                    rw [List.take_of_length_le (by rw [← HNN.out]; omega)] at this
                    exact this
                  go_wp2_with fail
                  refine (C1.out _ _ HEY.out).mono ?_
                  rintro e wx ⟨vx, rfl, EX⟩
                  have H2 := chas EX (.head _) HGA.out z
                  rw [HEV.out, ← HBE.out] at H2
                  go_wp2_with fail
                  refine H2.mono ?_
                  rintro e wv ⟨rfl, EV⟩
                  have HEV2 : Hid (Env wA wv [(.slice (some ⟨bm, om, none⟩) n9 c9, M)]) := ⟨EV.1, fun p hp => EV.2 p (List.mem_cons_of_mem _ hp)⟩
                  clear EX EV H2
                  have hbb : (b != b) = false := by cases b <;> rfl
                  go_wp2
                  go_roundw
                  case rel => exact ⟨k2 + 1, by go_num, by omega, HEV2⟩
                  case measure => simp [intOf]; omega
            · have hbz := HEZ.out.1
              go_wp2_with fail
              refine (awake_any _).mono ?_
              rintro e wx ⟨rfl, hb⟩
              have hfin : Below w.heap.size w wx := hb0w.trans ((hbz.trans (hb.mono hbz.size)).mono hb0w.size)
              go_wp2
              go_ret
              exact ⟨rfl, hfin⟩
end Go.Proofs.Ytbcofpppjjpclaa
