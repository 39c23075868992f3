/- law DotOne. -/
import Derived.Test.YtdcmoeklldkccaaDotBox
import Derived.Test.YtdcmoeklldkccaaDotLk
import Derived.Test.YtdcmoeklldkccaaFlow
import Derived.Test.YtdcmoeklldkccaaAt
import Derived.Test.YtdcmoeklldkccaaCopy
import Derived.BigQuiet
import Derived.Deep.RegionWith
namespace Go.Proofs.Ytdcmoeklldkccaa
open Go Go.RowKit Go.ChangeShapes cl Go.Sort

theorem own_form2 {w : World} {B n k : Nat} {e : TypeId} {v : Value} {xs : List Value} (h : w.ownsRow B e k v n xs) : (v = .slice none 0 0 ∧ n = 0) ∨ ∃ g cap, v = .slice (some ⟨g, 0, none⟩) n cap ∧ B ≤ g := by
  rcases h.2 with ⟨rfl, hx⟩ | ⟨g, cap, cur, rfl, hbg, _⟩
  · exact Or.inl ⟨rfl, hx⟩
  · exact Or.inr ⟨g, cap, rfl, hbg⟩
theorem at_cell {w : World} {B n c j : Nat} {ao : Option Addr} {l : List Int} (h : at_.At w B (.slice ao n c) l) (hj : j < n) : ∃ b o, ao = some ⟨b, o, none⟩ ∧ b < B ∧ w.cell? ⟨b, o + j, none⟩ = some (.int .i64 (l.getD j 0)) := by
  obtain ⟨ao', c', e, _, _, h4⟩ := h
  simp only [Value.slice.injEq] at e
  obtain ⟨rfl, rfl, rfl⟩ := e
  obtain ⟨b, o, rfl, hB, hc⟩ := h4 (by omega)
  exact ⟨b, o, rfl, hB, hc j hj⟩
/-- an exchange of two -/
def swp (L : List Dot) (a b : Nat) : List Dot := (L.set a (L.getD b (0, 0))).set b (L.getD a (0, 0))
theorem swp_perm {L : List Dot} {a b : Nat} (ha : a < L.length) (hb : b < L.length) : (swp L a b).Perm L := by
  have e1 : L.getD a (0, 0) = L[a] := by simp [List.getD, ha]
  have e2 : L.getD b (0, 0) = L[b] := by simp [List.getD, hb]
  unfold swp
  rw [e1, e2]
  exact Sort.perm_set_set L a b ha hb
theorem dcells_set : ∀ (L : List Dot) (i : Nat) (x : Dot), ((dcells L).set (i * 2) (.int .i64 x.1)).set (i * 2 + 1) (.int .i64 x.2) = dcells (L.set i x) := by
  have e : ∀ (y : Dot) (s : List Dot), dcells (y :: s) = .int .i64 y.1 :: .int .i64 y.2 :: dcells s := fun _ _ => rfl
  intro L
  induction L with
  | nil => intro i x; rfl
  | cons y r ih =>
    intro i x
    cases i with
    | zero => rfl
    | succ i =>
      rw [e, List.set_cons_succ, e, Nat.succ_mul]
      show Value.int .i64 y.1 :: Value.int .i64 y.2 :: ((dcells r).set (i * 2) _).set (i * 2 + 1) _ = _
      rw [ih]
theorem once_set {w : World} {B g n c : Nat} {L : List Dot} (h : w.ownsRow B 26 2 (.slice (some ⟨g, 0, none⟩) n c) n (dcells L)) (i j : Nat) (ya yb xa xb : Int) :
    ((((w.setCell ⟨g, i * 2, none⟩ (.int .i64 ya)).setCell ⟨g, i * 2 + 1, none⟩ (.int .i64 yb)).setCell ⟨g, j * 2, none⟩ (.int .i64 xa)).setCell ⟨g, j * 2 + 1, none⟩ (.int .i64 xb)).ownsRow B 26 2 (.slice (some ⟨g, 0, none⟩) n c) n (dcells ((L.set i (ya, yb)).set j (xa, xb))) ∧
    Below B w ((((w.setCell ⟨g, i * 2, none⟩ (.int .i64 ya)).setCell ⟨g, i * 2 + 1, none⟩ (.int .i64 yb)).setCell ⟨g, j * 2, none⟩ (.int .i64 xa)).setCell ⟨g, j * 2 + 1, none⟩ (.int .i64 xb)) := by
  obtain ⟨o1, b1⟩ := kit.own_set (j := i * 2) (u := .int .i64 ya) h
  obtain ⟨o2, b2⟩ := kit.own_set (j := i * 2 + 1) (u := .int .i64 yb) o1
  rw [dcells_set L i (ya, yb)] at o2
  obtain ⟨o3, b3⟩ := kit.own_set (j := j * 2) (u := .int .i64 xa) o2
  obtain ⟨o4, b4⟩ := kit.own_set (j := j * 2 + 1) (u := .int .i64 xb) o3
  rw [dcells_set _ j (xa, xb)] at o4
  exact ⟨o4, ((b1.trans b2).trans b3).trans b4⟩

set_option maxHeartbeats 8000000 in
set_option maxRecDepth 100000 in
theorem one_law (l : List Dot) (vl : Value) (os : List Int) (vo : Value) (w : World) (hl : Dots w w.heap.size vl l) (hwf : ∀ x ∈ l, (Lit.int .i64 x.1).wf = true ∧ (Lit.int .i64 x.2).wf = true) (ho : at_.At w w.heap.size vo os) :
    Calls Try.prog 8 #[vl, vo] w (Said true w) := by
  have HWF := Lib.hid hwf
  clear hwf
  obtain ⟨nl, hnl⟩ : ∃ q, q = l.length := ⟨_, rfl⟩
  obtain ⟨aol, cpl, rfl⟩ : ∃ ao cap, vl = .slice ao nl cap := by
    obtain ⟨ao, cap, e, _⟩ := hl.form
    exact ⟨ao, cap, by rw [hnl]; exact e⟩
  have hfl : nl ≤ 9223372036854775807 := by
    obtain ⟨_, _, e, _, h9⟩ := hl.form
    rw [hnl]; unfold maxLen at h9; exact h9
  have HNl := Lib.hid hnl
  have HDl : Hid (∀ W, Below w.heap.size w W → Dots W W.heap.size (.slice aol nl cpl) l) := fun W hW => (hl.below hW).mono hW.size
  clear hnl hl
  obtain ⟨n, hnn⟩ : ∃ n, n = nl := ⟨_, rfl⟩
  obtain ⟨on, hon⟩ : ∃ on, on = os.length := ⟨_, rfl⟩
  obtain ⟨oo, oc, rfl⟩ : ∃ oo oc, vo = .slice oo on oc := by
    obtain ⟨oo, oc, e, _⟩ := ho
    exact ⟨oo, oc, by rw [hon]; exact e⟩
  have hon63 : on ≤ 9223372036854775807 := by
    obtain ⟨_, _, _, _, h9, _⟩ := ho
    rw [hon]; unfold maxLen at h9; exact h9
  have HOS : Hid (∀ W, Below w.heap.size w W → at_.At W W.heap.size (.slice oo on oc) os) := fun W hW => (ho.below hW).mono hW.size
  have HAW : Hid (∀ W, Calls Try.prog 11 #[] W (Said true W)) := fun W => awake_any W
  subst hnn
  clear hon ho
  by_cases cn : 60 < n
  · have cn1 : (60 : Int) < (n : Int) := by omega
    have cn2 : decide ((60 : Int) < (n : Int)) = true := decide_eq_true cn1
    go_enter Try.func8, Try.ntmps8
    go_wp2_with fail
    (with_reducible refine (HAW.out _).mono ?_)
    rintro e w1 ⟨rfl, b1⟩
    go_wp2
    go_ret
    exact ⟨rfl, b1⟩
  have cn1 : ¬ (60 : Int) < (n : Int) := by omega
  have cn2 : decide ((60 : Int) < (n : Int)) = false := decide_eq_false cn1
  by_cases con : 60 < on
  · have con1 : (60 : Int) < (on : Int) := by omega
    have con2 : decide ((60 : Int) < (on : Int)) = true := decide_eq_true con1
    go_enter Try.func8, Try.ntmps8
    go_wp2_with fail
    (with_reducible refine (HAW.out _).mono ?_)
    rintro e w1 ⟨rfl, b1⟩
    go_wp2
    go_ret
    exact ⟨rfl, b1⟩
  have con1 : ¬ (60 : Int) < (on : Int) := by omega
  have con2 : decide ((60 : Int) < (on : Int)) = false := decide_eq_false con1
  go_enter Try.func8, Try.ntmps8
  have HN := HNl
  have HNA := Lib.hid (Cells.news' (HDl.out (w.alloc (.cells #[] 26)) ctx_below))
  have HO0 : Hid ((w.alloc (.cells #[] 26)).ownsRow w.heap.size 26 2 (.slice (some ⟨w.heap.size, 0, none⟩) 0 0) 0 []) := own_none 26 (Nat.le_refl _) 2
  have HLN : Hid ((dcells l).length = n * 2) := by show _ = _; rw [dcells_len, HN.out]
  go_wp2_with (at_builtin; refine kit.appN (.tmp 25) (.tmp 26) 22 rfl rfl w.heap.size Try.underlying22 infoDot rfl (by decide) (by decide) HO0.out rfl (dcells l) rfl HLN.out HNA.out.1 HNA.out.2 dcells_one (by omega) (by simp) ?_)
  intro v5 w5 hown5 hb5
  have HO5 : Hid (w5.ownsRow w.heap.size 26 2 v5 n (dcells l)) := by
    show World.ownsRow _ _ _ _ _ _ _
    simpa using hown5
  obtain ⟨mo, mc, rfl⟩ : ∃ mo mc, v5 = .slice mo n mc := by
    obtain ⟨mo, mc, e, _⟩ := (Cells.own HO5.out).form
    exact ⟨mo, mc, e⟩
  have hbX : Below w.heap.size w w5 := ((Below.refl _ _).alloc (Nat.le_refl _) _).trans hb5
  clear hown5 hb5 HNA HO0
  go_wp2
  go_loopw [6, 7, 8, 9, 30] (fun _ _ _ _ i wr => ∃ (k : Nat) (L : List Dot), i = .int .i64 k ∧ k ≤ on ∧ Hid (L.Perm l) ∧ Hid (wr.ownsRow w.heap.size 26 2 (.slice mo n mc) n (dcells L)) ∧ Below w.heap.size w wr) (fun _ _ _ _ i _ => on - (intOf i).toNat)
  case atStart => exact ⟨0, l, rfl, by omega, List.Perm.refl _, HO5.out, hbX⟩
  case round =>
    obtain ⟨k, L, rfl, hk, HP, HO, hbl⟩ := hrel
    have hBw := hbl
    have hpl : L.length = n := by rw [HN.out, HP.out.length_eq]
    by_cases hlt : k < on
    · obtain ⟨b, o, rfl, _, x0⟩ := at_cell (HOS.out _ hBw) hlt
      obtain ⟨x, hx⟩ : ∃ x, x = os.getD k 0 := ⟨_, rfl⟩
      rw [← hx] at x0
      have hkI : (k : Int) < (on : Int) := by omega
      clear hx
      by_cases hn1 : 1 < n
      · rcases own_form2 HO.out with ⟨_, h0⟩ | ⟨g, c9, e9, hg9⟩
        · omega
        have hO := HO.out
        obtain ⟨rfl, rfl⟩ : mo = some ⟨g, 0, none⟩ ∧ mc = c9 := by
          simp only [Value.slice.injEq] at e9
          exact ⟨e9.1, e9.2.2⟩
        obtain ⟨ia, hia⟩ : ∃ ia, ia = k % n := ⟨_, rfl⟩
        have hian : ia < n := by rw [hia]; exact Nat.mod_lt _ (by omega)
        obtain ⟨jb, hjb, hjx⟩ := kit.umod x (m := n) (by omega)
        have e1 : (k : Int).tmod (n : Int) = (ia : Int) := by rw [hia]; rfl
        have e2 : (k : Int) % (n : Int) = (ia : Int) := by rw [hia]; rfl
        have u1 : IntKind.u64.wrap (n : Int) = (n : Int) := IntWalk.u64_in _ (by omega)
        have i1 : IntKind.i64.wrap (jb : Int) = (jb : Int) := IntWalk.i64_in _ (by omega)
        obtain ⟨ga, gb⟩ := dcells_get L ia (by omega)
        obtain ⟨gc, gd⟩ := dcells_get L jb (by omega)
        have hc1 := hO.cells (g := g) rfl _ _ ga
        have hc2 := hO.cells (g := g) rfl _ _ gb
        have hc3 := hO.cells (g := g) rfl _ _ gc
        have hc4 := hO.cells (g := g) rfl _ _ gd
        rw [Addr.add_lit, Nat.zero_add] at hc1 hc2 hc3 hc4
        have hf1 := hO.frozenAt (ia * 2)
        have hf2 := hO.frozenAt (ia * 2 + 1)
        have hf3 := hO.frozenAt (jb * 2)
        have hf4 := hO.frozenAt (jb * 2 + 1)
        have HX0 : Hid (swp L ia jb = (L.set ia (L[jb]'(by omega))).set jb (L[ia]'(by omega))) := by
          show swp _ _ _ = _
          have e1 : L.getD ia (0, 0) = L[ia]'(by omega) := by simp [List.getD, show ia < L.length by omega]
          have e2 : L.getD jb (0, 0) = L[jb]'(by omega) := by simp [List.getD, show jb < L.length by omega]
          unfold swp
          rw [e1, e2]
        obtain ⟨⟨xa, xb⟩, hxe⟩ : ∃ x, x = L[ia]'(by omega) := ⟨_, rfl⟩
        obtain ⟨⟨ya, yb⟩, hye⟩ : ∃ x, x = L[jb]'(by omega) := ⟨_, rfl⟩
        rw [← hxe] at hc1 hc2 HX0
        rw [← hye] at hc3 hc4 HX0
        simp only at hc1 hc2 hc3 hc4
        have HX : Hid (swp L ia jb = (L.set ia (ya, yb)).set jb (xa, xb)) := HX0.out
        have HP' : Hid ((swp L ia jb).Perm l) := (swp_perm (by omega) (by omega)).trans HP.out
        have hiaI : (ia : Int) < (n : Int) := by omega
        have hjbI : (jb : Int) < (n : Int) := by omega
        have hn1I : (1 : Int) < (n : Int) := by omega
        clear ga gb gc gd hxe hye HX0 e9
        have HOO := Lib.hid hO
        clear hia hpl hO
        go_wp2
        go_quiet (fail)
        have d1 : (wr.drewN nq).cell? ⟨g, ia * 2, none⟩ = some (.int .i64 xa) := hc1
        have d2 : (wr.drewN nq).cell? ⟨g, ia * 2 + 1, none⟩ = some (.int .i64 xb) := hc2
        have d3 : (wr.drewN nq).cell? ⟨g, jb * 2, none⟩ = some (.int .i64 ya) := hc3
        have d4 : (wr.drewN nq).cell? ⟨g, jb * 2 + 1, none⟩ = some (.int .i64 yb) := hc4
        have r1 : (wr.drewN nq).frozen? ⟨g, ia * 2, none⟩ = false := hf1
        have r2 : (wr.drewN nq).frozen? ⟨g, ia * 2 + 1, none⟩ = false := hf2
        have r3 : (wr.drewN nq).frozen? ⟨g, jb * 2, none⟩ = false := hf3
        have r4 : (wr.drewN nq).frozen? ⟨g, jb * 2 + 1, none⟩ = false := hf4
        have HOQ : Hid ((wr.drewN nq).ownsRow w.heap.size 26 2 (.slice (some ⟨g, 0, none⟩) n mc) n (dcells L)) := HOO.out
        have hblq : Below w.heap.size w (wr.drewN nq) := below_drewN hbl _
        clear hc1 hc2 hc3 hc4 hf1 hf2 hf3 hf4 HOO e1 e2 u1 i1
        generalize wr.drewN nq = wq at d1 d2 d3 d4 r1 r2 r3 r4 HOQ hblq
        by_cases hab : ia = jb
        · subst hab
          obtain rfl : xa = ya := by have := d1.symm.trans d3; simpa using this
          obtain rfl : xb = yb := by have := d2.symm.trans d4; simpa using this
          clear d3 d4 r3 r4
          go_wp2
          go_region
          all_goals
            have hset := once_set HOQ.out ia ia xa xb xa xb
            have HO9 : Hid (((((wq.setCell ⟨g, ia * 2, none⟩ (.int .i64 xa)).setCell ⟨g, ia * 2 + 1, none⟩ (.int .i64 xb)).setCell ⟨g, ia * 2, none⟩ (.int .i64 xa)).setCell ⟨g, ia * 2 + 1, none⟩ (.int .i64 xb)).drew.ownsRow w.heap.size 26 2 (.slice (some ⟨g, 0, none⟩) n mc) n (dcells (swp L ia ia))) := by
              show World.ownsRow _ _ _ _ _ _ _
              rw [HX.out]; exact hset.1
            have hbl9 := (hblq.trans hset.2).drew
            clear d1 d2 r1 r2 hset
            go_wp2
            go_roundw
            case rel => exact ⟨k + 1, swp L ia ia, by go_num, by omega, HP', HO9.out, hbl9⟩
            case measure => simp [intOf]; omega
        · have hab2 : ¬ jb = ia := fun e => hab e.symm
          have q1 : ¬ jb * 2 = ia * 2 + 1 := by omega
          have q2 : ¬ jb * 2 + 1 = ia * 2 := by omega
          have q3 : ¬ ia * 2 + 1 = jb * 2 := by omega
          have q4 : ¬ ia * 2 = jb * 2 + 1 := by omega
          go_wp2
          go_region
          all_goals
            have hset := once_set HOQ.out ia jb ya yb xa xb
            have HO9 : Hid (((((wq.setCell ⟨g, ia * 2, none⟩ (.int .i64 ya)).setCell ⟨g, ia * 2 + 1, none⟩ (.int .i64 yb)).setCell ⟨g, jb * 2, none⟩ (.int .i64 xa)).setCell ⟨g, jb * 2 + 1, none⟩ (.int .i64 xb)).drew.ownsRow w.heap.size 26 2 (.slice (some ⟨g, 0, none⟩) n mc) n (dcells (swp L ia jb))) := by
              show World.ownsRow _ _ _ _ _ _ _
              rw [HX.out]; exact hset.1
            have hbl9 := (hblq.trans hset.2).drew
            clear d1 d2 d3 d4 r1 r2 r3 r4 hset
            go_wp2
            go_roundw
            case rel => exact ⟨k + 1, swp L ia jb, by go_num, by omega, HP', HO9.out, hbl9⟩
            case measure => simp [intOf]; omega
      · clear hpl
        go_wp2
        go_roundw
        case rel => exact ⟨k + 1, L, by go_num, by omega, HP, HO, hbl⟩
        case measure => simp [intOf]; omega
    · have hltI : ¬ (k : Int) < (on : Int) := by omega
      clear hlt
      have HF := Lib.hid (from_says HDl.out (by have := HN.out; omega) wr hbl)
      go_wp2_with fail
      (with_reducible refine HF.out.mono ?_)
      rintro e w6 ⟨p1, p2, p3, p4, p5, p6, c, rfl, hc6, his6, hb6⟩
      obtain ⟨W1, hW1⟩ : ∃ W, W = w6.alloc (.cells #[.slice p1 p2 p3, .slice p4 p5 p6] 24) := ⟨_, rfl⟩
      have k6 : Below w6.heap.size w6 W1 := by rw [hW1]; exact ctx_below
      have E1 : Below w.heap.size w W1 := hbl.trans ((hb6.trans (k6.mono hb6.size)).mono hbl.size)
      have X0 : Hid (KB W1 w6.heap.size p1 p2 p3 p4 p5 p6 c) := by rw [hW1]; exact KB.mk (CBox.mk' hc6 rfl)
      have HIc := Lib.hid his6
      have HOL : Hid (∀ W, Below W1.heap.size W1 W → Dots W W.heap.size (.slice mo n mc) L) := fun W hW => by
        have h1 : Dots wr wr.heap.size (.slice mo n mc) L := by
          show Cells _ _ _ _ _ _
          rw [hpl]
          exact Cells.own HO.out
        exact ((h1.next hb6).next k6).next hW
      have FR : Hid (∀ W, Below W1.heap.size W1 W → Calls Try.prog 28 #[.slice mo n mc] W (CtxP (fun d => valid d = true ∧ d ∈ L) 1000 W)) := fun W hW => by
        refine (from_any L (.slice mo n mc) W (HOL.out W hW) (by omega)).mono ?_
        rintro e w' ⟨v, cc, rfl, h1, h2, h3⟩
        exact ⟨v, cc, rfl, h1, ⟨h2.right, h2.know, h2.len1, by have := h2.len2; omega⟩, h3⟩
      have SM : Hid (∀ (v : Value) (cc : dm.Ctx) (W : World), Below W1.heap.size W1 W → CtxAt W W.heap.size v cc → dm.Is cc (fun d => valid d = true ∧ d ∈ L) 1000 → Calls Try.prog 25 #[.agg #[.slice p1 p2 p3, .slice p4 p5 p6], v] W (Said true W)) := fun v cc W hW h1 h2 => by
        have := csame_any c cc _ v W (X0.out W hW).ctx h1
        rwa [decide_eq_true (HIc.out.eq h2 (fun d => by rw [HP.out.mem_iff]))] at this
      obtain ⟨hp2, hp5⟩ : p2 = c.1.length ∧ p5 = c.2.length := by
        obtain ⟨_, _, _, _, _, _, e, h1, h2⟩ := hc6.form
        simp only [Value.agg.injEq, Array.mk.injEq, List.cons.injEq, Value.slice.injEq, and_true] at e
        exact ⟨e.1.2.1.trans h1, e.2.2.1.trans h2⟩
      have HP5 := Lib.hid hp5
      have hp100 : p5 ≤ 100 := by rw [hp5]; exact HIc.out.len2
      have HCD : Hid (∀ W, Below W1.heap.size W1 W → Dots W W.heap.size (.slice p4 p5 p6) c.2) := fun W hW => (X0.out W hW).ctx.parts.2
      have HHC : Hid (∀ (d : Dot) W, Below W1.heap.size W1 W → Calls Try.prog 16 #[.agg #[.slice p1 p2 p3, .slice p4 p5 p6], .agg #[.int .i64 d.1, .int .i64 d.2]] W (Said (dm.hasF c d) W)) := fun d W hW => has_says X0.out d W hW
      have HGAP : Hid (∀ j, j < c.2.length → dm.hasF c ((c.2.getD j (0, 0)).1, (c.2.getD j (0, 0)).2 - 1) = true → ∃ j', j' < c.2.length ∧ c.2.getD j' (0, 0) = ((c.2.getD j (0, 0)).1, (c.2.getD j (0, 0)).2 - 1)) := fun j hj hh => by
        exact dm.mem_getD (dm.no_gap HIc.out.right (dm.getD_mem hj) (dm.hasF_iff.1 hh))
      have HVD : Hid (∀ j, j < c.2.length → 1 ≤ (c.2.getD j (0, 0)).2 ∧ (c.2.getD j (0, 0)).2 ≤ 1099511627776) := fun j hj => by
        have := (dm.valid_iff _).1 (HIc.out.right.cok _ (dm.getD_mem hj)).1
        exact ⟨this.2.2.1, this.2.2.2⟩
      have D : Below W1.heap.size W1 W1 := Below.refl _ _
      have HW1 := Lib.hid hW1
      clear hW1 hc6 his6 hb6 k6 hp2 hp5 HF
      go_wp2_with fail
      rw [← HW1.out]
      refine wp_flow 4 (fun _ => 1000) (fun ww => RowKit.Below W1.heap.size W1 ww) (fun _ w w' => (fun (w w' : World) => RowKit.Below w.heap.size w w') w w') (fun kF vF wF => match kF with | 0 => (vF = .agg #[.slice p1 p2 p3, .slice p4 p5 p6]) | 1 => (vF = .slice mo n mc) | 2 => (∃ cc, CtxAt wF wF.heap.size vF cc ∧ dm.Is cc (fun d => valid d = true ∧ d ∈ L) 1000) | 3 => (vF = .bool true) | _ => True) (fun _ _ _ _ => True) (by kernel_rfl) (by kernel_rfl) ?_ ?_ ?_ ?_ ?_
      · exact D.drew
      · intro iF wF1 wF2 hR hT; exact hR.trans (hT.mono hR.size)
      · intro kF hkF iF hiF hne hdd hanc hdan vF wF1 wF2 h hT
        rcases (by omega : kF = 0 ∨ kF = 1 ∨ kF = 2 ∨ kF = 3) with rfl | rfl | rfl | rfl
        · have h : (vF = .agg #[.slice p1 p2 p3, .slice p4 p5 p6]) := h
          show (vF = .agg #[.slice p1 p2 p3, .slice p4 p5 p6])
          have hT : (fun (w w' : World) => RowKit.Below w.heap.size w w') wF1 wF2 := hT
          simp only at hT
          exact h
        · have h : (vF = .slice mo n mc) := h
          show (vF = .slice mo n mc)
          have hT : (fun (w w' : World) => RowKit.Below w.heap.size w w') wF1 wF2 := hT
          simp only at hT
          exact h
        · have h : (∃ cc, CtxAt wF1 wF1.heap.size vF cc ∧ dm.Is cc (fun d => valid d = true ∧ d ∈ L) 1000) := h
          show (∃ cc, CtxAt wF2 wF2.heap.size vF cc ∧ dm.Is cc (fun d => valid d = true ∧ d ∈ L) 1000)
          have hT : (fun (w w' : World) => RowKit.Below w.heap.size w w') wF1 wF2 := hT
          simp only at hT
          obtain ⟨cc, h1, h2⟩ := h
          exact ⟨cc, h1.next hT, h2⟩
        · have h : (vF = .bool true) := h
          show (vF = .bool true)
          have hT : (fun (w w' : World) => RowKit.Below w.heap.size w w') wF1 wF2 := hT
          simp only at hT
          exact h
      · refine FlowAll.cons ?_ ?_
        · intro xF w12 hR hd K hK
          clear hd
          simp only [List.take_succ_cons, List.take_zero, fillOf, Act.put, List.setIfInBounds_toArray, List.set_cons_zero, List.set_cons_succ, Nat.reduceAdd, Nat.zero_add] at hK ⊢
          try generalize xF 0 = yy0 at *
          try generalize xF 1 = yy1 at *
          try generalize xF 2 = yy2 at *
          try generalize xF 3 = yy3 at *
          clear xF
          obtain hbR := id hR
          obtain ⟨x0, y0, _, _⟩ := X0.out _ hR
          rw [if_pos (by rfl)]
          go_simp
          refine hK.out _ _ ?_ ?_ ?_
          · exact Below.refl _ _
          · exact rfl
          · exact fun _ _ _ => ⟨trivial, trivial⟩
        refine FlowAll.cons ?_ ?_
        · intro xF w12 hR hd K hK
          clear hd
          simp only [List.take_succ_cons, List.take_zero, fillOf, Act.put, List.setIfInBounds_toArray, List.set_cons_zero, List.set_cons_succ, Nat.reduceAdd, Nat.zero_add] at hK ⊢
          try generalize xF 0 = yy0 at *
          try generalize xF 1 = yy1 at *
          try generalize xF 2 = yy2 at *
          try generalize xF 3 = yy3 at *
          clear xF
          obtain hbR := id hR
          rw [if_pos (by rfl)]
          go_simp
          refine hK.out _ _ ?_ ?_ ?_
          · exact Below.refl _ _
          · exact rfl
          · exact fun _ _ _ => ⟨trivial, trivial⟩
        refine FlowAll.cons ?_ ?_
        · intro xF w12 hR hd K hK
          have dd1 : ((xF 1) = .slice mo n mc) := hd 1 (by kernel_rfl)
          clear hd
          simp only [List.take_succ_cons, List.take_zero, fillOf, Act.put, List.setIfInBounds_toArray, List.set_cons_zero, List.set_cons_succ, Nat.reduceAdd, Nat.zero_add] at hK ⊢
          try generalize xF 0 = yy0 at *
          try generalize xF 1 = yy1 at *
          try generalize xF 2 = yy2 at *
          try generalize xF 3 = yy3 at *
          clear xF
          obtain rfl := dd1
          obtain hbR := id hR
          rw [if_pos (by rfl)]
          go_simp
          (go_at_call 28; (with_reducible refine (FR.out _ hR).mono ?_); rintro e wK ⟨vK, ccK, rfl, hcK, hsK, hbK⟩)
          try go_wp2_with fail
          refine hK.out _ _ ?_ ?_ ?_
          · exact hbK
          · exact ⟨ccK, hcK, hsK⟩
          · exact fun _ _ _ => ⟨trivial, trivial⟩
        refine FlowAll.cons ?_ ?_
        · intro xF w12 hR hd K hK
          have dd0 : ((xF 0) = .agg #[.slice p1 p2 p3, .slice p4 p5 p6]) := hd 0 (by kernel_rfl)
          have dd2 : (∃ cc, CtxAt w12 w12.heap.size (xF 2) cc ∧ dm.Is cc (fun d => valid d = true ∧ d ∈ L) 1000) := hd 2 (by kernel_rfl)
          clear hd
          simp only [List.take_succ_cons, List.take_zero, fillOf, Act.put, List.setIfInBounds_toArray, List.set_cons_zero, List.set_cons_succ, Nat.reduceAdd, Nat.zero_add] at hK ⊢
          try generalize xF 0 = yy0 at *
          try generalize xF 1 = yy1 at *
          try generalize xF 2 = yy2 at *
          try generalize xF 3 = yy3 at *
          clear xF
          obtain rfl := dd0
          obtain ⟨cc2, hc2, hs2⟩ := dd2
          obtain hbR := id hR
          rw [if_pos (by rfl)]
          go_simp
          (go_at_call 25; (with_reducible refine (SM.out _ _ _ hR hc2 hs2).mono ?_); rintro e wK ⟨rfl, hbK⟩)
          try go_wp2_with fail
          refine hK.out _ _ ?_ ?_ ?_
          · exact hbK
          · exact rfl
          · exact fun _ _ _ => ⟨trivial, trivial⟩
        exact FlowAll.nil
      intro xF w12 hR hF hP
      clear hP
      have dd0 : ((xF 0) = .agg #[.slice p1 p2 p3, .slice p4 p5 p6]) := hF 0 (by omega) (by decide)
      have dd1 : ((xF 1) = .slice mo n mc) := hF 1 (by omega) (by decide)
      have dd2 : (∃ cc, CtxAt w12 w12.heap.size (xF 2) cc ∧ dm.Is cc (fun d => valid d = true ∧ d ∈ L) 1000) := hF 2 (by omega) (by decide)
      have dd3 : ((xF 3) = .bool true) := hF 3 (by omega) (by decide)
      clear hF
      simp only [List.take_succ_cons, List.take_zero, List.drop_succ_cons, List.drop_zero, fillOf, Act.put, List.setIfInBounds_toArray, List.set_cons_zero, List.set_cons_succ, Nat.reduceAdd, Nat.zero_add]
      try generalize xF 0 = yy0 at *
      try generalize xF 1 = yy1 at *
      try generalize xF 2 = yy2 at *
      try generalize xF 3 = yy3 at *
      clear xF
      obtain rfl := dd0
      obtain rfl := dd1
      obtain ⟨cc2, hc2, hs2⟩ := dd2
      obtain rfl := dd3
      have hRE := Lib.hid hR
      clear hR
      have D2 := hRE.out
      clear hRE D
      obtain ⟨x0, y0, _, _⟩ := X0.out _ D2
      go_wp2
      clear x0 y0
      go_loopw [74, 112] (fun i _ wt => ∃ q : Nat, i = .int .i64 q ∧ q ≤ p5 ∧ Below W1.heap.size W1 wt) (fun i _ _ => p5 - (intOf i).toNat)
      case atStart => exact ⟨0, rfl, Nat.zero_le _, D2⟩
      case round =>
        clear D2
        rename World => wt
        obtain ⟨q, rfl, hq, D⟩ := hrel
        by_cases hlq : q < p5
        · obtain ⟨b0, off, rfl, hB, p0, p1'⟩ := Dots.get (HCD.out _ D) HP5.out hlq
          have HQL : Hid (q < c.2.length) := by show q < _; rw [← HP5.out]; exact hlq
          obtain ⟨⟨u, v⟩, hx⟩ : ∃ x, x = c.2.getD q (0, 0) := ⟨_, rfl⟩
          have HG1 := Lib.hid (HGAP.out q HQL.out)
          have hvd := HVD.out q HQL.out
          rw [← hx] at p0 p1' HG1 hvd
          simp only at p0 p1' hvd
          have hqI : (q : Int) < (p5 : Int) := by omega
          have hsub : IntKind.i64.wrap (v - 1) = v - 1 := IntWalk.i64_in _ (by omega)
          clear hx
          have hal : Below wt.heap.size wt (wt.alloc (.cells #[.int .i64 u, .int .i64 v] 26)) := ctx_below
          have D1 := D.trans (hal.mono D.size)
          have c0 : (wt.alloc (.cells #[.int .i64 u, .int .i64 v] 26)).cell? ⟨wt.heap.size, 0, none⟩ = some (.int .i64 u) := World.cell?_alloc_at _ _ _ _ rfl
          have c1 : (wt.alloc (.cells #[.int .i64 u, .int .i64 v] 26)).cell? ⟨wt.heap.size, 1, none⟩ = some (.int .i64 v) := World.cell?_alloc_at _ _ _ _ rfl
          have hsz : (wt.alloc (.cells #[.int .i64 u, .int .i64 v] 26)).heap.size = wt.heap.size + 1 := World.size_alloc _ _
          have HC := Lib.hid (And.intro c0 (And.intro c1 hsz))
          have HH := Lib.hid (HHC.out (u, v - 1) _ D1)
          obtain ⟨R, hR⟩ : ∃ R, R = dm.hasF c (u, v - 1) := ⟨_, rfl⟩
          rw [← hR] at HH HG1
          clear hR
          obtain ⟨x0, y0, _, _⟩ := X0.out _ D
          clear c0 c1 hsz
          go_wp2_with fail
          (with_reducible refine HH.out.mono ?_)
          rintro e w7 ⟨rfl, b7⟩
          have D3 := D1.trans (b7.mono D1.size)
          have e0 := (b7.cell (p := ⟨wt.heap.size, 0, none⟩) (by rw [HC.out.2.2]; exact Nat.lt_succ_self _)).trans HC.out.1
          have e1 := (b7.cell (p := ⟨wt.heap.size, 1, none⟩) (by rw [HC.out.2.2]; exact Nat.lt_succ_self _)).trans HC.out.2.1
          have hlw : wt.heap.size < w7.heap.size := by have := b7.size; rw [HC.out.2.2] at this; omega
          clear b7 HH x0 y0 HC
          cases R with
          | false =>
            go_wp2
            go_roundw
            case rel => exact ⟨q + 1, by go_num, by omega, D3⟩
            case measure => simp [intOf]; omega
          | true =>
            obtain ⟨x0, y0, _, _⟩ := X0.out _ D3
            have HE := Lib.hid (And.intro e0 e1)
            clear e0 e1
            go_wp2
            clear x0 y0
            go_loopw [13, 89, 109] (fun f i _ wu => ∃ (r : Nat) (F : Bool), i = .int .i64 r ∧ r ≤ p5 ∧ f = .bool F ∧ Hid (F = (c.2.take r).any (fun x => decide (x = (u, v - 1)))) ∧ Below W1.heap.size W1 wu ∧ wt.heap.size < wu.heap.size ∧ Hid (wu.cell? ⟨wt.heap.size, 0, none⟩ = some (.int .i64 u) ∧ wu.cell? ⟨wt.heap.size, 1, none⟩ = some (.int .i64 v))) (fun _ i _ _ => p5 - (intOf i).toNat)
            case atStart => exact ⟨0, false, rfl, Nat.zero_le _, rfl, rfl, D3, hlw, HE.out⟩
            case round =>
              rename World => wu
              clear D3 hlw HE
              obtain ⟨r, F, rfl, hr, rfl, HF, D4, hlu, HE⟩ := hrel
              by_cases hlr : r < p5
              · obtain ⟨b1, off1, hb1, hB1, z0, z1⟩ := Dots.get (HCD.out _ D4) HP5.out hlr
                simp only [Option.some.injEq, Addr.mk.injEq] at hb1
                obtain ⟨rfl, rfl, _⟩ := hb1
                have HRL : Hid (r < c.2.length) := by show r < _; rw [← HP5.out]; exact hlr
                have HSN : Hid ((c.2.take (r + 1)).any (fun x => decide (x = (u, v - 1))) = ((c.2.take r).any (fun x => decide (x = (u, v - 1))) || decide (c.2.getD r (0, 0) = (u, v - 1)))) := by
                  show _ = _
                  rw [dm.take_snoc HRL.out, List.any_append]
                  simp
                obtain ⟨⟨s, t⟩, hx⟩ : ∃ x, x = c.2.getD r (0, 0) := ⟨_, rfl⟩
                rw [← hx] at z0 z1 HSN
                rw [← HF.out] at HSN
                simp only at z0 z1
                have hrI : (r : Int) < (p5 : Int) := by omega
                have hal2 : Below wu.heap.size wu (wu.alloc (.cells #[.int .i64 s, .int .i64 t] 26)) := ctx_below
                have D5 := D4.trans (hal2.mono D4.size)
                have HE5 : Hid ((wu.alloc (.cells #[.int .i64 s, .int .i64 t] 26)).cell? ⟨wt.heap.size, 0, none⟩ = some (.int .i64 u) ∧ (wu.alloc (.cells #[.int .i64 s, .int .i64 t] 26)).cell? ⟨wt.heap.size, 1, none⟩ = some (.int .i64 v)) := ⟨(hal2.cell (p := ⟨wt.heap.size, 0, none⟩) hlu).trans HE.out.1, (hal2.cell (p := ⟨wt.heap.size, 1, none⟩) hlu).trans HE.out.2⟩
                have hlu5 : wt.heap.size < (wu.alloc (.cells #[.int .i64 s, .int .i64 t] 26)).heap.size := by rw [World.size_alloc]; omega
                obtain ⟨e0, e1⟩ := HE.out
                clear hx
                cases F with
                | true =>
                  have HF2 : Hid (true = (c.2.take (r + 1)).any (fun x => decide (x = (u, v - 1)))) := by show _ = _; rw [HSN.out]; rfl
                  go_wp2
                  go_roundw
                  case rel => exact ⟨r + 1, true, by go_num, by omega, rfl, HF2, D5, hlu5, HE5.out⟩
                  case measure => simp [intOf]; omega
                | false =>
                  by_cases hsu : s = u
                  · subst hsu
                    by_cases htv : t = v - 1
                    · have HF2 : Hid (true = (c.2.take (r + 1)).any (fun x => decide (x = (s, v - 1)))) := by show _ = _; rw [HSN.out, htv]; simp
                      have hd : (t == v - 1) = true := by simpa using htv
                      clear htv
                      go_wp2
                      go_roundw
                      case rel => exact ⟨r + 1, true, by go_num, by omega, rfl, HF2, D5, hlu5, HE5.out⟩
                      case measure => simp [intOf]; omega
                    · have HF2 : Hid (false = (c.2.take (r + 1)).any (fun x => decide (x = (s, v - 1)))) := by show _ = _; rw [HSN.out]; simp [htv]
                      have hd : (t == v - 1) = false := by simpa using htv
                      go_wp2
                      go_roundw
                      case rel => exact ⟨r + 1, false, by go_num, by omega, rfl, HF2, D5, hlu5, HE5.out⟩
                      case measure => simp [intOf]; omega
                  · have HF2 : Hid (false = (c.2.take (r + 1)).any (fun x => decide (x = (u, v - 1)))) := by show _ = _; rw [HSN.out]; simp [hsu]
                    have hd : (s == u) = false := by simpa using hsu
                    go_wp2
                    go_roundw
                    case rel => exact ⟨r + 1, false, by go_num, by omega, rfl, HF2, D5, hlu5, HE5.out⟩
                    case measure => simp [intOf]; omega
              · obtain rfl : r = p5 := by omega
                obtain rfl : F = true := by
                  rw [HF.out, List.take_of_length_le (by rw [HP5.out]; exact Nat.le_refl _), List.any_eq_true]
                  obtain ⟨j', hj', e⟩ := HG1.out (by first | rfl | trivial)
                  exact ⟨_, dm.getD_mem hj', by rw [e]; simp⟩
                go_wp2
                go_roundw
                case rel => exact ⟨q + 1, by go_num, by omega, D4⟩
                case measure => simp [intOf]; omega
        · obtain rfl : q = p5 := by omega
          go_wp2_with fail
          (with_reducible refine (HAW.out _).mono ?_)
          rintro e w9 ⟨rfl, b9⟩
          have hb9 := E1.trans ((D.trans (b9.mono D.size)).mono E1.size)
          go_wp2
          go_ret
          exact ⟨rfl, hb9⟩
end Go.Proofs.Ytdcmoeklldkccaa
