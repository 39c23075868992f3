/- law LabelOnce. -/
import Derived.Test.YtpfjmomdnegcpaaLabAwake
import Derived.Test.YtpfjmomdnegcpaaAt
import Derived.Test.YtpfjmomdnegcpaaLawBack02
import Derived.Test.YtpfjmomdnegcpaaCopy
import Derived.BigQuiet
import Derived.Deep.RegionWith
namespace Go.Proofs.Ytpfjmomdnegcpaa
open Go.RowKit Go.ChangeShapes cl
theorem at_cell {w : World} {B n c j : Nat} {ao : Option Addr} {l : List Int} (h : at_.At w B (.slice ao n c) l) (hj : j < n) : ∃ b o, ao = some ⟨b, o, none⟩ ∧ b < B ∧ w.cell? ⟨b, o + j, none⟩ = some (.int .i64 (l.getD j 0)) := by
  obtain ⟨ao', c', e, _, _, h4⟩ := h
  simp only [Value.slice.injEq] at e
  obtain ⟨rfl, rfl, rfl⟩ := e
  obtain ⟨b, o, rfl, hB, hc⟩ := h4 (by omega)
  exact ⟨b, o, rfl, hB, hc j hj⟩
/-- an exchange of two -/
def swp (L : List Lab) (a b : Nat) : List Lab := (L.set a (L.getD b (.empty, .empty))).set b (L.getD a (.empty, .empty))
theorem swp_perm {L : List Lab} {a b : Nat} (ha : a < L.length) (hb : b < L.length) : (swp L a b).Perm L := by
  have e1 : L.getD a (.empty, .empty) = L[a] := by simp [List.getD, ha]
  have e2 : L.getD b (.empty, .empty) = L[b] := by simp [List.getD, hb]
  unfold swp
  rw [e1, e2]
  exact Sort.perm_set_set L a b ha hb
theorem lcells_set : ∀ (L : List Lab) (i : Nat) (x : Lab), ((lcells L).set (i * 2) (.string x.1)).set (i * 2 + 1) (.string x.2) = lcells (L.set i x) := by
  have e : ∀ (y : Lab) (s : List Lab), lcells (y :: s) = .string y.1 :: .string y.2 :: lcells s := fun _ _ => rfl
  intro L
  induction L with
  | nil => intro i x; rfl
  | cons y r ih =>
    intro i x
    cases i with
    | zero => rfl
    | succ i =>
      rw [e, List.set_cons_succ, e, Nat.succ_mul]
      show Value.string y.1 :: Value.string y.2 :: ((lcells r).set (i * 2) _).set (i * 2 + 1) _ = _
      rw [ih]
theorem once_set {w : World} {B g n c : Nat} {L : List Lab} (h : w.ownsRow B 38 2 (.slice (some ⟨g, 0, none⟩) n c) n (lcells L)) (i j : Nat) (ya yb xa xb : ByteArray) :
    ((((w.setCell ⟨g, i * 2, none⟩ (.string ya)).setCell ⟨g, i * 2 + 1, none⟩ (.string yb)).setCell ⟨g, j * 2, none⟩ (.string xa)).setCell ⟨g, j * 2 + 1, none⟩ (.string xb)).ownsRow B 38 2 (.slice (some ⟨g, 0, none⟩) n c) n (lcells ((L.set i (ya, yb)).set j (xa, xb))) ∧
    Below B w ((((w.setCell ⟨g, i * 2, none⟩ (.string ya)).setCell ⟨g, i * 2 + 1, none⟩ (.string yb)).setCell ⟨g, j * 2, none⟩ (.string xa)).setCell ⟨g, j * 2 + 1, none⟩ (.string xb)) := by
  obtain ⟨o1, b1⟩ := kit.own_set (j := i * 2) (u := .string ya) h
  obtain ⟨o2, b2⟩ := kit.own_set (j := i * 2 + 1) (u := .string yb) o1
  rw [lcells_set L i (ya, yb)] at o2
  obtain ⟨o3, b3⟩ := kit.own_set (j := j * 2) (u := .string xa) o2
  obtain ⟨o4, b4⟩ := kit.own_set (j := j * 2 + 1) (u := .string xb) o3
  rw [lcells_set _ j (xa, xb)] at o4
  exact ⟨o4, ((b1.trans b2).trans b3).trans b4⟩

set_option maxHeartbeats 4000000 in
set_option maxRecDepth 100000 in
theorem once_any (l : List Lab) (v : Value) (os : List Int) (vo : Value) (w : World) (h : Labs w w.heap.size v l) (hz : ∀ x ∈ l, x.1.size ≤ maxLen ∧ x.2.size ≤ maxLen) (ho : at_.At w w.heap.size vo os) (hw : ∀ x ∈ os, (Lit.int .i64 x).wf = true) (hm : MX w) : Calls Try.prog 7 #[v, vo] w (Said true w) := by
  obtain ⟨n, hn⟩ : ∃ n, n = l.length := ⟨_, rfl⟩
  have HN := Lib.hid hn
  obtain ⟨ao, cap, rfl⟩ : ∃ ao cap, v = .slice ao n cap := by
    obtain ⟨ao, cap, e, _⟩ := h.form
    exact ⟨ao, cap, by rw [hn]; exact e⟩
  obtain ⟨on, hon⟩ : ∃ on, on = os.length := ⟨_, rfl⟩
  obtain ⟨oo, oc, rfl⟩ : ∃ oo oc, vo = .slice oo on oc := by
    obtain ⟨oo, oc, e, _⟩ := ho
    exact ⟨oo, oc, by rw [hon]; exact e⟩
  have hon63 : on ≤ 9223372036854775807 := by
    obtain ⟨_, _, _, _, h9, _⟩ := ho
    rw [hon]; unfold maxLen at h9; exact h9
  have Hl : Hid (∀ W, Below w.heap.size w W → Labs W W.heap.size (.slice ao n cap) l) := fun W hW => (Cells.below h hW).mono hW.size
  have AW : Hid (∀ W, Below w.heap.size w W → Calls Try.prog 9 #[] W (Said true W)) := fun W hW => awake_any W (MX.next hm hW)
  have B : Below w.heap.size w w := Below.refl _ _
  have HOS : Hid (∀ W, Below w.heap.size w W → at_.At W W.heap.size (.slice oo on oc) os) := fun W hW => (ho.below hW).mono hW.size
  have HWF := Lib.hid hw
  have HON := Lib.hid hon
  have Fl : Hid (∀ W, Below w.heap.size w W → Calls Try.prog 14 #[.slice ao n cap] W (Far l W)) := fun W hW => far_any l _ W (Hl.out W hW) hz
  have HSZ := Lib.hid hz
  have CA : Hid (∀ (c : List Lab) (u : Value) W, Labs W W.heap.size u c → (∀ x ∈ c, x.1.size ≤ maxLen ∧ x.2.size ≤ maxLen) → c.length ≤ 100000 → Calls Try.prog 15 #[u] W (CanonP (lm.canonF c) W)) := fun c u W hW hs hl => canon_any c u W hW hs hl
  have SM : Hid (∀ (c : List Lab) (u u' : Value) W, Labs W W.heap.size u c → Labs W W.heap.size u' c → Calls Try.prog 19 #[u, u'] W (Said true W)) := fun c u u' W h1 h2 => by
    have := same_any c c u u' W h1 h2
    rw [decide_eq_true (rfl : c = c)] at this
    exact this
  clear h hz hm hn ho hw hon
  by_cases h60 : 60 < on
  · have h60I : (60 : Int) < (on : Int) := by omega
    go_enter Try.func7, Try.ntmps7
    go_wp2_with fail
    (with_reducible refine (Fl.out _ B).mono ?_)
    rintro e wX ⟨rr, rfl, n1, b⟩
    replace B := B.trans (b.mono B.size)
    clear b
    cases rr with
    | true =>
      clear n1
      go_wp2_with fail
      (with_reducible refine (AW.out _ B).mono ?_)
      rintro e wX ⟨rfl, b⟩
      replace B := B.trans (b.mono B.size)
      clear b
      go_wp2
      go_ret
      exact ⟨rfl, B⟩
    | false =>
      clear n1
      go_wp2_with fail
      (with_reducible refine (AW.out _ B).mono ?_)
      rintro e wX ⟨rfl, b⟩
      replace B := B.trans (b.mono B.size)
      clear b
      go_wp2
      go_ret
      exact ⟨rfl, B⟩
  have h60I : ¬ (60 : Int) < (on : Int) := by omega
  go_enter Try.func7, Try.ntmps7
  go_wp2_with fail
  (with_reducible refine (Fl.out _ B).mono ?_)
  rintro e wX ⟨rr, rfl, n1, b⟩
  replace B := B.trans (b.mono B.size)
  clear b
  cases rr with
  | true =>
    clear n1
    go_wp2_with fail
    (with_reducible refine (AW.out _ B).mono ?_)
    rintro e wX ⟨rfl, b⟩
    replace B := B.trans (b.mono B.size)
    clear b
    go_wp2
    go_ret
    exact ⟨rfl, B⟩
  | false =>
    have HNE := Lib.hid (n1.out rfl)
    clear n1
    have hn40 : n ≤ 40 := by rw [HN.out]; exact HNE.out.1
    have HNA := Lib.hid (Cells.news' (Hl.out (wX.alloc (.cells #[] 38)) (B.alloc B.size _)))
    have HO0 : Hid ((wX.alloc (.cells #[] 38)).ownsRow wX.heap.size 38 2 (.slice (some ⟨wX.heap.size, 0, none⟩) 0 0) 0 []) := own_none 38 (Nat.le_refl _) 2
    have HLN : Hid ((lcells l).length = n * 2) := by show _ = _; rw [lcells_len, HN.out]
    go_wp2_with (at_builtin; refine kit.appN (.tmp 26) (.tmp 27) 24 rfl rfl wX.heap.size Try.underlying24 infoLab rfl (by decide) (by decide) HO0.out rfl (lcells l) rfl HLN.out HNA.out.1 HNA.out.2 lcells_one (by omega) (by simp) ?_)
    intro v5 w5 hown5 hb5
    have HO5 : Hid (w5.ownsRow wX.heap.size 38 2 v5 n (lcells l)) := by
      show World.ownsRow _ _ _ _ _ _ _
      simpa using hown5
    have B5 := (B.alloc B.size (.cells #[] 38)).trans (hb5.mono B.size)
    obtain ⟨mo, mc, rfl⟩ : ∃ mo mc, v5 = .slice mo n mc := by
      obtain ⟨mo, mc, e, _⟩ := (Cells.own HO5.out).form
      exact ⟨mo, mc, e⟩
    have hbX : Below wX.heap.size wX w5 := ((Below.refl _ _).alloc (Nat.le_refl _) _).trans hb5
    clear hown5 hb5 HNA HO0 B5
    go_wp2
    go_loopw [6, 7, 8, 9, 31] (fun _ _ _ _ i wr => ∃ (k : Nat) (L : List Lab), i = .int .i64 k ∧ k ≤ on ∧ Hid (L.Perm l) ∧ Hid (wr.ownsRow wX.heap.size 38 2 (.slice mo n mc) n (lcells L)) ∧ Below wX.heap.size wX wr) (fun _ _ _ _ i _ => on - (intOf i).toNat)
    case atStart => exact ⟨0, l, rfl, by omega, List.Perm.refl _, HO5.out, hbX⟩
    case round =>
      obtain ⟨k, L, rfl, hk, HP, HO, hbl⟩ := hrel
      have hBw := B.trans (hbl.mono B.size)
      have hpl : L.length = n := by rw [HN.out, HP.out.length_eq]
      by_cases hlt : k < on
      · obtain ⟨b, o, rfl, _, x0⟩ := at_cell (HOS.out _ hBw) hlt
        obtain ⟨x, hx⟩ : ∃ x, x = os.getD k 0 := ⟨_, rfl⟩
        rw [← hx] at x0
        have hkI : (k : Int) < (on : Int) := by omega
        clear hx
        by_cases hn1 : 1 < n
        · rcases own_form HO.out with ⟨_, h0⟩ | ⟨g, c9, e9, hg9⟩
          · omega
          have hO := HO.out
          obtain ⟨rfl, rfl⟩ : mo = some ⟨g, 0, none⟩ ∧ mc = c9 := by
            simp only [Value.slice.injEq] at e9
            exact ⟨e9.1, e9.2.2⟩
          obtain ⟨ia, hia⟩ : ∃ ia, ia = k % n := ⟨_, rfl⟩
          have hian : ia < n := by rw [hia]; exact Nat.mod_lt _ (by omega)
          obtain ⟨jb, hjb, hjx⟩ := kit.umod x (m := n) (by omega)
          have e1 : (k : Int).tmod (n : Int) = (ia : Int) := by rw [hia]; rfl
          have e2 : (k : Int) % (n : Int) = (ia : Int) := by rw [hia]; rfl
          have u1 : IntKind.u64.wrap (n : Int) = (n : Int) := IntWalk.u64_in _ (by omega)
          have i1 : IntKind.i64.wrap (jb : Int) = (jb : Int) := IntWalk.i64_in _ (by omega)
          obtain ⟨ga, gb⟩ := lcells_get L ia (by omega)
          obtain ⟨gc, gd⟩ := lcells_get L jb (by omega)
          have hc1 := hO.cells (g := g) rfl _ _ ga
          have hc2 := hO.cells (g := g) rfl _ _ gb
          have hc3 := hO.cells (g := g) rfl _ _ gc
          have hc4 := hO.cells (g := g) rfl _ _ gd
          rw [Addr.add_lit, Nat.zero_add] at hc1 hc2 hc3 hc4
          have hf1 := hO.frozenAt (ia * 2)
          have hf2 := hO.frozenAt (ia * 2 + 1)
          have hf3 := hO.frozenAt (jb * 2)
          have hf4 := hO.frozenAt (jb * 2 + 1)
          have HX0 : Hid (swp L ia jb = (L.set ia (L[jb]'(by omega))).set jb (L[ia]'(by omega))) := by
            show swp _ _ _ = _
            have e1 : L.getD ia (.empty, .empty) = L[ia]'(by omega) := by simp [List.getD, show ia < L.length by omega]
            have e2 : L.getD jb (.empty, .empty) = L[jb]'(by omega) := by simp [List.getD, show jb < L.length by omega]
            unfold swp
            rw [e1, e2]
          obtain ⟨⟨xa, xb⟩, hxe⟩ : ∃ x, x = L[ia]'(by omega) := ⟨_, rfl⟩
          obtain ⟨⟨ya, yb⟩, hye⟩ : ∃ x, x = L[jb]'(by omega) := ⟨_, rfl⟩
          rw [← hxe] at hc1 hc2 HX0
          rw [← hye] at hc3 hc4 HX0
          simp only at hc1 hc2 hc3 hc4
          have HX : Hid (swp L ia jb = (L.set ia (ya, yb)).set jb (xa, xb)) := HX0.out
          have HP' : Hid ((swp L ia jb).Perm l) := (swp_perm (by omega) (by omega)).trans HP.out
          have hiaI : (ia : Int) < (n : Int) := by omega
          have hjbI : (jb : Int) < (n : Int) := by omega
          have hn1I : (1 : Int) < (n : Int) := by omega
          clear ga gb gc gd hxe hye HX0 e9
          have HOO := Lib.hid hO
          clear hia hpl hO
          go_wp2
          go_quiet (fail)
          have d1 : (wr.drewN nq).cell? ⟨g, ia * 2, none⟩ = some (.string xa) := hc1
          have d2 : (wr.drewN nq).cell? ⟨g, ia * 2 + 1, none⟩ = some (.string xb) := hc2
          have d3 : (wr.drewN nq).cell? ⟨g, jb * 2, none⟩ = some (.string ya) := hc3
          have d4 : (wr.drewN nq).cell? ⟨g, jb * 2 + 1, none⟩ = some (.string yb) := hc4
          have r1 : (wr.drewN nq).frozen? ⟨g, ia * 2, none⟩ = false := hf1
          have r2 : (wr.drewN nq).frozen? ⟨g, ia * 2 + 1, none⟩ = false := hf2
          have r3 : (wr.drewN nq).frozen? ⟨g, jb * 2, none⟩ = false := hf3
          have r4 : (wr.drewN nq).frozen? ⟨g, jb * 2 + 1, none⟩ = false := hf4
          have HOQ : Hid ((wr.drewN nq).ownsRow wX.heap.size 38 2 (.slice (some ⟨g, 0, none⟩) n mc) n (lcells L)) := HOO.out
          have hblq : Below wX.heap.size wX (wr.drewN nq) := below_drewN hbl _
          clear hc1 hc2 hc3 hc4 hf1 hf2 hf3 hf4 HOO e1 e2 u1 i1
          generalize wr.drewN nq = wq at d1 d2 d3 d4 r1 r2 r3 r4 HOQ hblq
          by_cases hab : ia = jb
          · subst hab
            obtain rfl : xa = ya := by have := d1.symm.trans d3; simpa using this
            obtain rfl : xb = yb := by have := d2.symm.trans d4; simpa using this
            clear d3 d4 r3 r4
            go_wp2
            go_region
            all_goals
              have hset := once_set HOQ.out ia ia xa xb xa xb
              have HO9 : Hid (((((wq.setCell ⟨g, ia * 2, none⟩ (.string xa)).setCell ⟨g, ia * 2 + 1, none⟩ (.string xb)).setCell ⟨g, ia * 2, none⟩ (.string xa)).setCell ⟨g, ia * 2 + 1, none⟩ (.string xb)).drew.ownsRow wX.heap.size 38 2 (.slice (some ⟨g, 0, none⟩) n mc) n (lcells (swp L ia ia))) := by
                show World.ownsRow _ _ _ _ _ _ _
                rw [HX.out]; exact hset.1
              have hbl9 := (hblq.trans hset.2).drew
              clear d1 d2 r1 r2 hset
              go_wp2
              go_roundw
              case rel => exact ⟨k + 1, swp L ia ia, by go_num, by omega, HP', HO9.out, hbl9⟩
              case measure => simp [intOf]; omega
          · have hab2 : ¬ jb = ia := fun e => hab e.symm
            have q1 : ¬ jb * 2 = ia * 2 + 1 := by omega
            have q2 : ¬ jb * 2 + 1 = ia * 2 := by omega
            have q3 : ¬ ia * 2 + 1 = jb * 2 := by omega
            have q4 : ¬ ia * 2 = jb * 2 + 1 := by omega
            go_wp2
            go_region
            all_goals
              have hset := once_set HOQ.out ia jb ya yb xa xb
              have HO9 : Hid (((((wq.setCell ⟨g, ia * 2, none⟩ (.string ya)).setCell ⟨g, ia * 2 + 1, none⟩ (.string yb)).setCell ⟨g, jb * 2, none⟩ (.string xa)).setCell ⟨g, jb * 2 + 1, none⟩ (.string xb)).drew.ownsRow wX.heap.size 38 2 (.slice (some ⟨g, 0, none⟩) n mc) n (lcells (swp L ia jb))) := by
                show World.ownsRow _ _ _ _ _ _ _
                rw [HX.out]; exact hset.1
              have hbl9 := (hblq.trans hset.2).drew
              clear d1 d2 d3 d4 r1 r2 r3 r4 hset
              go_wp2
              go_roundw
              case rel => exact ⟨k + 1, swp L ia jb, by go_num, by omega, HP', HO9.out, hbl9⟩
              case measure => simp [intOf]; omega
        · clear hpl
          go_wp2
          go_roundw
          case rel => exact ⟨k + 1, L, by go_num, by omega, HP, HO, hbl⟩
          case measure => simp [intOf]; omega
      · have hltI : ¬ (k : Int) < (on : Int) := by omega
        clear hlt
        have B := hBw
        have L5 : Hid (Labs wr wr.heap.size (.slice mo n mc) L) := by
          show Cells _ _ _ _ _ _
          rw [hpl]
          exact Cells.own HO.out
        have HLL : Hid (L.length ≤ 100000) := by show _ ≤ _; omega
        have HLl : Hid (l.length ≤ 100000) := by show _ ≤ _; rw [← HN.out]; omega
        have HSL : Hid (∀ x ∈ L, x.1.size ≤ maxLen ∧ x.2.size ≤ maxLen) := fun x hx => HSZ.out x (HP.out.mem_iff.1 hx)
        have hcp := lm.canon_perm HP.out
        obtain ⟨⟨f1, c1⟩, h1⟩ : ∃ r, r = lm.canonF l := ⟨_, rfl⟩
        obtain ⟨⟨f2, c2⟩, h2⟩ : ∃ r, r = lm.canonF L := ⟨_, rfl⟩
        have K1 : Hid (∀ W, Below w.heap.size w W → Calls Try.prog 15 #[.slice ao n cap] W (CanonP (f1, c1) W)) := fun W hW => by
          rw [h1]; exact CA.out l _ W (Hl.out W hW) HSZ.out HLl.out
        have K2 : Hid (∀ W, Labs W W.heap.size (.slice mo n mc) L → Calls Try.prog 15 #[.slice mo n mc] W (CanonP (f2, c2) W)) := fun W hW => by
          rw [h2]; exact CA.out L _ W hW HSL.out HLL.out
        rw [← h1, ← h2] at hcp
        obtain ⟨hfe, hce⟩ := hcp
        simp only at hfe hce
        subst hce
        have HC1 := Lib.hid h1
        clear h1 h2 hbl hBw hpl
        by_cases hf : f1 = 0
        · have hf2 : f2 = 0 := hfe.2 hf
          subst hf
          subst hf2
          have HFX := Lib.hid (lm.canon_fix HC1.out.symm)
          have HSM := Lib.hid (lm.form_small HC1.out.symm)
          have HVAL : Hid (∀ x ∈ l, lval c2 x.1 = x.2) := fun x hx => lm.canon_val HC1.out.symm hx
          clear hfe
          go_wp2_with fail
          (with_reducible refine (K1.out _ B).mono ?_)
          rintro e wX ⟨v6, rfl, h6, b⟩
          replace L5 := Lib.hid (Cells.next L5.out b)
          replace B := B.trans (b.mono B.size)
          have L6 := Lib.hid h6
          clear h6
          clear b
          go_wp2_with fail
          (with_reducible refine (K2.out _ L5.out).mono ?_)
          rintro e wX ⟨v7, rfl, h7, b⟩
          replace L6 := Lib.hid (Cells.next L6.out b)
          replace B := B.trans (b.mono B.size)
          have L7 := Lib.hid h7
          clear h7 L5
          clear b
          go_wp2_with fail
          (with_reducible refine (SM.out c2 v6 v7 _ L6.out L7.out).mono ?_)
          rintro e wX ⟨rfl, b⟩
          replace L6 := Lib.hid (Cells.next L6.out b)
          replace B := B.trans (b.mono B.size)
          clear L7
          clear b
          have HK3 := Lib.hid (CA.out c2 v6 wX L6.out HSM.out.1 HSM.out.2)
          rw [HFX.out] at HK3
          go_wp2_with fail
          (with_reducible refine (HK3.out).mono ?_)
          rintro e wX ⟨v8, rfl, h8, b⟩
          replace L6 := Lib.hid (Cells.next L6.out b)
          replace B := B.trans (b.mono B.size)
          have L8 := Lib.hid h8
          clear h8 HK3
          clear b
          have HV : Hid (∀ (x : Lab) W, Below wX.heap.size wX W → x ∈ l → Calls Try.prog 20 #[v6, .string x.1] W (SaysT x.2 W)) := fun x W hW hx => by
            rw [← HVAL.out x hx]
            exact value_any c2 v6 x.1 W ((Cells.below L6.out hW).mono hW.size)
          have HLW := Lib.hid (Hl.out wX B)
          go_wp2
          go_loopw [17, 96] (fun _ i wr => ∃ k : Nat, i = .int .i64 k ∧ k ≤ n ∧ Below wX.heap.size wX wr) (fun _ i _ => n - (intOf i).toNat)
          case atStart => exact ⟨0, rfl, Nat.zero_le _, Below.refl _ _⟩
          case round =>
            obtain ⟨k, rfl, hk, hbl⟩ := hrel
            have hz := hbl.size
            by_cases hlt : k < n
            · obtain ⟨b0, off, rfl, hB0, p0, p1⟩ := Labs.get (l := l) HLW.out HN.out hlt
              have HMEM : Hid (l.getD k (.empty, .empty) ∈ l) := by
                show _ ∈ l
                have : k < l.length := by rw [← HN.out]; exact hlt
                simp [List.getD, this]
              obtain ⟨⟨xa, xb⟩, hx⟩ : ∃ x, x = l.getD k (.empty, .empty) := ⟨_, rfl⟩
              rw [← hx] at p0 p1 HMEM
              simp only at p0 p1
              have e0 := (hbl.cell (p := ⟨b0, off + k * 2, none⟩) hB0).trans p0
              have e1 := (hbl.cell (p := ⟨b0, off + k * 2 + 1, none⟩) hB0).trans p1
              have hkI : (k : Int) < (n : Int) := by omega
              have hblA := hbl.alloc hz (.cells #[.string xa, .string xb] 38)
              have hblD : Below wX.heap.size wX (wr.alloc (.cells #[.string xa, .string xb] 38)).drew := hblA.drew
              have d0 : (wr.alloc (.cells #[.string xa, .string xb] 38)).drew.cell? ⟨wr.heap.size, 0, none⟩ = some (.string xa) := (by show (wr.alloc _).cell? _ = _; rw [World.cell?_alloc_at _ _ _ _ rfl]; rfl)
              have d1 : (wr.alloc (.cells #[.string xa, .string xb] 38)).drew.cell? ⟨wr.heap.size, 1, none⟩ = some (.string xb) := (by show (wr.alloc _).cell? _ = _; rw [World.cell?_alloc_at _ _ _ _ rfl]; rfl)
              have hzD : wr.heap.size < (wr.alloc (.cells #[.string xa, .string xb] 38)).drew.heap.size := by
                show wr.heap.size < (wr.alloc _).heap.size
                simp
              have HVK := Lib.hid (HV.out (xa, xb) _ hblD HMEM.out)
              clear p0 p1 hx
              go_wp2
              go_region_with (go_at_call 20; (with_reducible refine HVK.out.mono ?_); rintro e w' ⟨rfl, b⟩; have k0 := (b.cell (p := ⟨wr.heap.size, 0, none⟩) hzD).trans d0; have k1 := (b.cell (p := ⟨wr.heap.size, 1, none⟩) hzD).trans d1; have hblE := hblD.trans (b.mono hblD.size); clear b)
              all_goals
                go_wp2
                go_roundw
                case rel => exact ⟨k + 1, by go_num, by omega, hblE⟩
                case measure => simp [intOf]; omega
            · have hb9 := hbl
              replace B := B.trans (hbl.mono B.size)
              have L6' := Lib.hid (Cells.next L6.out hbl)
              have L8' := Lib.hid (Cells.next L8.out hbl)
              have HS9 := Lib.hid (SM.out c2 v8 v6 _ L8'.out L6'.out)
              clear hb9 hbl
              go_wp2_with fail
              (with_reducible refine HS9.out.mono ?_)
              rintro e w9 ⟨rfl, b⟩
              replace B := B.trans (b.mono B.size)
              clear b
              go_wp2_with fail
              (with_reducible refine (AW.out _ B).mono ?_)
              rintro e wX ⟨rfl, b⟩
              replace B := B.trans (b.mono B.size)
              clear b
              go_wp2
              go_ret
              exact ⟨rfl, B⟩
        · have hf2 : ¬ f2 = 0 := fun e => hf (hfe.1 e)
          have g1 : (f1 == 0) = false := by simpa using hf
          have g2 : (f2 == 0) = false := by simpa using hf2
          have g3 : (f1 != 0) = true := by simpa using hf
          clear hfe hf hf2
          go_wp2_with fail
          (with_reducible refine (K1.out _ B).mono ?_)
          rintro e wX ⟨v6, rfl, h6, b⟩
          replace L5 := Lib.hid (Cells.next L5.out b)
          replace B := B.trans (b.mono B.size)
          have L6 := Lib.hid h6
          clear h6
          clear b
          go_wp2_with fail
          (with_reducible refine (K2.out _ L5.out).mono ?_)
          rintro e wX ⟨v7, rfl, h7, b⟩
          replace L6 := Lib.hid (Cells.next L6.out b)
          replace B := B.trans (b.mono B.size)
          have L7 := Lib.hid h7
          clear h7 L5
          clear b
          go_wp2_with fail
          (with_reducible refine (SM.out c2 v6 v7 _ L6.out L7.out).mono ?_)
          rintro e wX ⟨rfl, b⟩
          replace B := B.trans (b.mono B.size)
          clear L6 L7
          clear b
          go_wp2_with fail
          (with_reducible refine (AW.out _ B).mono ?_)
          rintro e wX ⟨rfl, b⟩
          replace B := B.trans (b.mono B.size)
          clear b
          go_wp2
          go_ret
          exact ⟨rfl, B⟩
end Go.Proofs.Ytpfjmomdnegcpaa
