/- the document's Canon of labels. -/
import Derived.Test.YtpfjmomdnegcpaaLabCanon
import Derived.Test.YtpfjmomdnegcpaaCopyIn
namespace Go.Proofs.Ytpfjmomdnegcpaa.lm
theorem lcells_take : ∀ (l : List Lab) (k : Nat), (lcells l).take (k * 2) = lcells (l.take k) := by
  intro l
  induction l with
  | nil => intro k; simp [lcells]
  | cons x r ih =>
    intro k
    cases k with
    | zero => simp [lcells]
    | succ k =>
      have e : ∀ (y : Lab) (s : List Lab), lcells (y :: s) = .string y.1 :: .string y.2 :: lcells s := fun _ _ => rfl
      rw [e, List.take_succ_cons, e, Nat.succ_mul, List.take_succ_cons, List.take_succ_cons, ih]
theorem lcells_drop : ∀ (l : List Lab) (k : Nat), (lcells l).drop (k * 2) = lcells (l.drop k) := by
  intro l
  induction l with
  | nil => intro k; simp [lcells]
  | cons x r ih =>
    intro k
    cases k with
    | zero => simp
    | succ k =>
      have e : ∀ (y : Lab) (s : List Lab), lcells (y :: s) = .string y.1 :: .string y.2 :: lcells s := fun _ _ => rfl
      rw [e, List.drop_succ_cons, Nat.succ_mul, List.drop_succ_cons, List.drop_succ_cons, ih]
/-- the cells behind the copy, and behind the store -/
theorem put_at (S : List Lab) (x : Lab) (m : Nat) (hm : m ≤ S.length) :
    ((((lcells (S ++ [x])).take ((m + 1) * 2) ++ ((lcells (S ++ [x])).drop (m * 2)).take ((S.length - m) * 2) ++ (lcells (S ++ [x])).drop ((m + 1) * 2 + (S.length - m) * 2)).set (m * 2) (.string x.1)).set (m * 2 + 1) (.string x.2)) = lcells (S.take m ++ x :: S.drop m) := by
  have e : ∀ (y : Lab) (s : List Lab), lcells (y :: s) = .string y.1 :: .string y.2 :: lcells s := fun _ _ => rfl
  have hz : (m + 1) * 2 + (S.length - m) * 2 = (S.length + 1) * 2 := by omega
  rw [hz, lcells_take, lcells_drop, lcells_drop, lcells_take]
  have h1 : (S ++ [x]).drop (S.length + 1) = [] := List.drop_eq_nil_of_le (by simp)
  have h2 : ((S ++ [x]).drop m).take (S.length - m) = S.drop m := by
    rw [List.drop_append_of_le_length hm, List.take_append_of_le_length (by rw [List.length_drop]; exact Nat.le_refl _), List.take_of_length_le (by rw [List.length_drop]; exact Nat.le_refl _)]
  obtain ⟨y, hy⟩ : ∃ y, (S ++ [x]).take (m + 1) = S.take m ++ [y] := by
    have h3 : m < (S ++ [x]).length := by simp; omega
    exact ⟨_, by rw [List.take_succ_eq_append_getElem h3, List.take_append_of_le_length hm]⟩
  have hl : (lcells (S.take m)).length = m * 2 := by rw [lcells_len, List.length_take]; omega
  rw [h1, h2, hy, lcells_app, e]
  have h4 : lcells ([] : List Lab) = [] := rfl
  rw [h4, List.append_nil, List.append_assoc, List.set_append_right _ _ (by omega), hl, Nat.sub_self]
  simp only [List.cons_append, List.nil_append, List.set_cons_zero]
  rw [List.set_append_right _ _ (by omega), hl, show m * 2 + 1 - m * 2 = 1 by omega, lcells_app, e]
  rfl
end Go.Proofs.Ytpfjmomdnegcpaa.lm
namespace Go.Proofs.Ytpfjmomdnegcpaa
open Go.RowKit Go.ChangeShapes Go.Maps Go.WideMaps cl Go.Sort
theorem sizeLab : (Try.prog.info? 38).map (·.size) = some 2 := by kernel_rfl
/-- behind the append of the insertion -/
theorem rc_after {S : List Lab} {q : Nat} {w wo wr wd w4 : World} {v v4 : Value} {xa xb : ByteArray} {t : TypeId} (hbx5 : Below w.heap.size w wr) (hz5 : wo.heap.size < wr.heap.size) (g0 : wr.cell? ⟨wo.heap.size, 0, none⟩ = some (.string xa)) (g1 : wr.cell? ⟨wo.heap.size, 1, none⟩ = some (.string xb))
    (hgo : ∀ k, v.ownBlock = some k → k < wo.heap.size) (hlt : ∀ k, v.ownBlock = some k → w.heap.size ≤ k)
    (hown4 : w4.ownsRow w.heap.size 38 2 v4 (q + 1) (lcells S ++ (#[.string xa, .string xb] : Array Value).toList)) (hgrow4 : (wd.alloc (.cells #[.string xa, .string xb] t)).grownBy w4 v.ownBlock) (hloc : v4.ownBlock = v.ownBlock ∨ v4.ownBlock = some (wd.heap.size + 1))
    (hd : Below wr.heap.size wr wd) :
    ∃ g4 c4, v4 = .slice (some ⟨g4, 0, none⟩) (q + 1) c4 ∧ q + 1 ≤ c4 ∧ Hid (w4.drew.ownsRow w.heap.size 38 2 (.slice (some ⟨g4, 0, none⟩) (q + 1) c4) (q + 1) (lcells (S ++ [(xa, xb)]))) ∧
      Hid (w4.drew.cell? ⟨wo.heap.size, 0, none⟩ = some (.string xa)) ∧ Hid (w4.drew.cell? ⟨wo.heap.size, 1, none⟩ = some (.string xb)) ∧ Hid (wo.heap.size ≠ g4) ∧ Hid (Below w.heap.size w w4.drew) := by
  rcases own_form hown4 with ⟨_, h⟩ | ⟨g4, c4, rfl, hg4⟩
  · omega
  obtain ⟨ao, c9, e9, hc9, _⟩ := (Cells.own hown4).form
  simp only [Value.slice.injEq] at e9
  obtain ⟨_, _, rfl⟩ := e9
  have hzd : wr.heap.size ≤ wd.heap.size := hd.size
  have hwb : w.heap.size ≤ wr.heap.size := hbx5.size
  have hbox : ∀ k u, wr.cell? ⟨wo.heap.size, k, none⟩ = some u → w4.cell? ⟨wo.heap.size, k, none⟩ = some u := fun k u hu => by
    rw [grown_cell hgrow4 (p := ⟨wo.heap.size, k, none⟩) (by rw [World.size_alloc]; show wo.heap.size < _; omega) (fun e => by have := hgo _ e.symm; simp at this), ← hu]
    exact (hd.alloc (by exact hzd) _).cell (p := ⟨wo.heap.size, k, none⟩) hz5
  refine ⟨g4, c4, rfl, hc9, ?_, hbox 0 _ g0, hbox 1 _ g1, ?_, ?_⟩
  · show World.ownsRow _ _ _ _ _ _ _
    rw [lcells_app]
    exact hown4
  · intro e
    rcases hloc with h | h
    · have := hgo g4 h.symm
      omega
    · have : g4 = wd.heap.size + 1 := Option.some.inj h
      omega
  · exact ((((hbx5.trans (hd.mono hwb)).alloc (by omega) _).grown hgrow4 (by rw [World.size_alloc]; omega) (fun k hk => hlt k hk))).drew
/-- behind the copy of the insertion -/
theorem rc_copied {S : List Lab} {q m r g4 c4 : Nat} {w wo w4 w6 : World} {xa xb : ByteArray} {L2 : List Lab} (hr : r = m + 1) (hS : S.length = q) (hm : m ≤ q) (hins : L2 = lm.ins (xa, xb) S) (hi : lm.ins (xa, xb) S = S.take m ++ (xa, xb) :: S.drop m)
    (hown : w6.ownsRow w.heap.size 38 2 (.slice (some ⟨g4, 0, none⟩) (q + 1) c4) (q + 1) ((lcells (S ++ [(xa, xb)])).take (r * 2) ++ ((lcells (S ++ [(xa, xb)])).drop (m * 2)).take ((q - m) * 2) ++ (lcells (S ++ [(xa, xb)])).drop (r * 2 + (q - m) * 2)))
    (hb : Below w.heap.size w w4) (hb6 : Below w.heap.size w4 w6) (hoth : ∀ p : Addr, p.block ≠ g4 → w6.cell? p = w4.cell? p) (b0 : w4.cell? ⟨wo.heap.size, 0, none⟩ = some (.string xa)) (b1 : w4.cell? ⟨wo.heap.size, 1, none⟩ = some (.string xb)) (hne : wo.heap.size ≠ g4) :
    w6.cell? ⟨wo.heap.size, 0, none⟩ = some (.string xa) ∧ w6.cell? ⟨wo.heap.size, 1, none⟩ = some (.string xb) ∧ (∃ u0 u1, w6.cell? ⟨g4, m * 2, none⟩ = some u0 ∧ w6.cell? ⟨g4, m * 2 + 1, none⟩ = some u1) ∧ w6.frozen? ⟨g4, m * 2, none⟩ = false ∧ w6.frozen? ⟨g4, m * 2 + 1, none⟩ = false ∧
    Hid (((w6.setCell ⟨g4, m * 2, none⟩ (.string xa)).setCell ⟨g4, m * 2 + 1, none⟩ (.string xb)).ownsRow w.heap.size 38 2 (.slice (some ⟨g4, 0, none⟩) (q + 1) c4) (q + 1) (lcells L2)) ∧ Hid (Below w.heap.size w ((w6.setCell ⟨g4, m * 2, none⟩ (.string xa)).setCell ⟨g4, m * 2 + 1, none⟩ (.string xb))) := by
  have hp := lm.put_at S (xa, xb) m (by omega)
  rw [hS, ← hr] at hp
  obtain ⟨Y, hY⟩ : ∃ Y, Y = ((lcells (S ++ [(xa, xb)])).take (r * 2) ++ ((lcells (S ++ [(xa, xb)])).drop (m * 2)).take ((q - m) * 2) ++ (lcells (S ++ [(xa, xb)])).drop (r * 2 + (q - m) * 2)) := ⟨_, rfl⟩
  rw [← hY] at hown hp
  have hl := hown.1
  have fr := hown.frozenAt
  obtain ⟨o1, e1⟩ := kit.own_set (j := m * 2) (u := .string xa) hown
  obtain ⟨o2, e2⟩ := kit.own_set (j := m * 2 + 1) (u := .string xb) o1
  refine ⟨(hoth ⟨wo.heap.size, 0, none⟩ hne).trans b0, (hoth ⟨wo.heap.size, 1, none⟩ hne).trans b1, ?_, fr _, fr _, ?_, ((hb.trans hb6).trans e1).trans e2⟩
  · have c0 := hown.cells (g := g4) rfl (m * 2) _ (List.getElem?_eq_getElem (show m * 2 < Y.length by omega))
    have c1 := hown.cells (g := g4) rfl (m * 2 + 1) _ (List.getElem?_eq_getElem (show m * 2 + 1 < Y.length by omega))
    rw [Addr.add_lit, Nat.zero_add] at c0 c1
    exact ⟨_, _, c0, c1⟩
  · show World.ownsRow _ _ _ _ _ _ _
    rw [hins, hi, ← hp]
    exact o2
theorem ret8b {R : Int × List Lab} {f : Int} {w W : World} (h : R = (f, [])) (hb : Below w.heap.size w W) : CanonP R w (.returned (.tuple #[.slice none 0 0, .int .i64 f])) W := ret8 h hb

set_option maxHeartbeats 3000000 in
set_option maxRecDepth 100000 in
theorem rcanon_any (l : List Lab) (v : Value) (w : World) (h : Labs w w.heap.size v l) (hs : ∀ x ∈ l, x.1.size ≤ maxLen ∧ x.2.size ≤ maxLen) (hl6 : l.length ≤ 100000) :
    Calls Try.prog 16 #[v] w (CanonP (lm.canonF l) w) := by
  obtain ⟨R, hR⟩ : ∃ R, R = lm.canonF l := ⟨_, rfl⟩
  rw [← hR]
  have HR := Lib.hid hR
  obtain ⟨n, hn⟩ : ∃ n, n = l.length := ⟨_, rfl⟩
  obtain ⟨ao, cap, rfl, hcap⟩ : ∃ ao cap, v = .slice ao n cap ∧ n ≤ cap := by
    obtain ⟨ao, cap, e, hc, _⟩ := h.form
    exact ⟨ao, cap, by rw [hn]; exact e, by rw [hn]; exact hc⟩
  have HC := Lib.hid h
  have HN := Lib.hid hn
  have HS := Lib.hid hs
  have hn63 : n ≤ 100000 := by omega
  have HNM : Hid (∀ (s : ByteArray) (W : World), s.size ≤ maxLen → Calls Try.prog 11 #[.string s] W (Said (lb.isName s) W)) := fun s W h => rname_any s W h
  have HVL : Hid (∀ (s : ByteArray) (W : World), s.size ≤ maxLen → Calls Try.prog 13 #[.string s] W (Said (lb.isVal s) W)) := fun s W h => rval_any s W h
  clear h hn hs hR hl6
  go_enter Try.func16, Try.ntmps16
  go_wp2
  go_step3
  go_wp2
  go_step3
  go_wp2
  go_loopw [4, 5, 6, 8, 9, 12] (fun o _ _ _ _ i wr => ∃ (k : Nat) (q : Nat) (oa : Option Addr) (oc : Nat), o = .slice oa q oc ∧ i = .int .i64 k ∧ k ≤ n ∧ q ≤ 6 ∧ Hid (lm.faults [] l = lm.faults (l.take k) (l.drop k)) ∧ Hid (lm.Good (l.take k)) ∧ Hid (q = (lm.kept (l.take k)).length) ∧ Hid (wr.ownsRow w.heap.size 38 2 (.slice oa q oc) q (lcells (lm.sortN (lm.kept (l.take k))))) ∧ Below w.heap.size w wr) (fun _ _ _ _ _ i _ => n - (intOf i).toNat)
  case atStart =>
    refine ⟨0, 0, none, 0, rfl, rfl, by omega, by omega, rfl, lm.good_nil, rfl, ?_, Below.refl _ _⟩
    · exact ⟨rfl, Or.inl ⟨rfl, rfl⟩⟩
  case round =>
    obtain ⟨k, q, oa, oc, rfl, rfl, hk, hq6, HF, HG, HQ, HW, hb0⟩ := hrel
    obtain ⟨wo, hwo⟩ : ∃ x, x = wr := ⟨wr, rfl⟩
    subst hwo
    have hz := hb0.size
    by_cases hlt : k < n
    · obtain ⟨b, off, rfl, hB, p0, p1⟩ := HC.out.get HN.out hlt
      have HKL : Hid (k < l.length) := by show k < l.length; rw [← HN.out]; exact hlt
      have hsz := HS.out (l.getD k (.empty, .empty)) (by have := HKL.out; simp [List.getD, this])
      obtain ⟨⟨xa, xb⟩, hx⟩ : ∃ x, x = l.getD k (.empty, .empty) := ⟨_, rfl⟩
      rw [← hx] at p0 p1 hsz
      simp only at p0 p1 hsz
      have HX := Lib.hid hx
      have e0 := (hb0.cell (p := ⟨b, off + k * 2, none⟩) hB).trans p0
      have e1 := (hb0.cell (p := ⟨b, off + k * 2 + 1, none⟩) hB).trans p1
      have HSA := Lib.hid hsz.1
      have HSB := Lib.hid hsz.2
      have hkI : (k : Int) < (n : Int) := by omega
      have HST : Hid (lm.faults (l.take k) (l.drop k) = if lm.fault (l.take k) (xa, xb) = 0 then lm.faults (l.take (k + 1)) (l.drop (k + 1)) else lm.fault (l.take k) (xa, xb)) := lm.faults_step HKL.out HX.out
      have HBAD : Hid (∀ f : Int, f ≠ 0 → lm.fault (l.take k) (xa, xb) = f → R = (f, [])) := fun f hf he => by
        rw [HR.out]
        refine lm.canon_fault ?_ hf
        rw [HF.out, HST.out, he, if_neg hf]
      have hbx : Below w.heap.size w (wo.alloc (.cells #[.string xa, .string xb] 38)) := hb0.alloc (by omega) _
      have HWX := Lib.hid (HW.out.alloc (.cells #[.string xa, .string xb] 38))
      have HN1 := Lib.hid (HNM.out xa (wo.alloc (.cells #[.string xa, .string xb] 38)) HSA.out)
      clear p0 p1 hx hsz
      by_cases hnm : lb.isName xa = true
      rotate_left
      · have hnmf : lb.isName xa = false := by simpa using hnm
        have HB8 : Hid (R = (8, [])) := HBAD.out 8 (by decide) (by unfold lm.fault lm.good; rw [hnmf]; rfl)
        rw [hnmf] at HN1
        clear hnm hnmf
        go_wp2_with fail
        (with_reducible refine HN1.out.mono ?_)
        rintro e w1 ⟨rfl, hb1⟩
        have HRET := Lib.hid (ret8 HB8.out (hbx.trans (hb1.mono (by simp; omega))))
        go_wp2
        exact bodyPost_ret (v := .tuple #[.slice none 0 0, .int .i64 8]) (by simp [results, Try.results16, go_sem]) rfl HRET.out
      rw [hnm] at HN1
      go_wp2_with fail
      (with_reducible refine HN1.out.mono ?_)
      rintro e w1 ⟨rfl, hb1⟩
      obtain ⟨c0, c1, _, _, hz1'⟩ := two hb1
      have hbx2 := hbx.trans (hb1.mono (by simp; omega))
      have hz2' : w.heap.size ≤ w1.heap.size := by omega
      have HV1 := Lib.hid (HVL.out xb w1 HSB.out)
      have HW1 := Lib.hid (own_stay HWX.out hb1)
      clear HN1
      by_cases hvl : lb.isVal xb = true
      rotate_left
      · have hvlf : lb.isVal xb = false := by simpa using hvl
        have HB8 : Hid (R = (8, [])) := HBAD.out 8 (by decide) (by unfold lm.fault lm.good; rw [hvlf, Bool.and_false]; rfl)
        rw [hvlf] at HV1
        clear hvl hvlf
        go_wp2_with fail
        (with_reducible refine HV1.out.mono ?_)
        rintro e w2 ⟨rfl, hb2⟩
        have HRET := Lib.hid (ret8 HB8.out (hbx2.trans (hb2.mono (by omega))))
        go_wp2
        exact bodyPost_ret (v := .tuple #[.slice none 0 0, .int .i64 8]) (by simp [results, Try.results16, go_sem]) rfl HRET.out
      rw [hvl] at HV1
      have HGD : Hid (lm.good (xa, xb) = true) := by show (_ && _) = true; rw [hnm, hvl]; rfl
      go_wp2_with fail
      (with_reducible refine HV1.out.mono ?_)
      rintro e w2 ⟨rfl, hb2⟩
      have d0 := (hb2.cell (p := ⟨wo.heap.size, 0, none⟩) hz1').trans c0
      have d1 := (hb2.cell (p := ⟨wo.heap.size, 1, none⟩) hz1').trans c1
      have hz3 : wo.heap.size < w2.heap.size := by have := hb2.size; omega
      have hbx3 := hbx2.trans (hb2.mono (by omega))
      have HW2 := Lib.hid (own_stay HW1.out hb2)
      have HHN : Hid (∀ j, j < k → (xa ∈ lm.names (l.take k) → True)) := fun _ _ _ => trivial
      clear HV1 c0 c1 hvl hnm HHN
      have hck : k ≤ cap := by omega
      have hkz : (0 : Int) ≤ (k : Int) := by omega
      go_wp2
      go_loopw [8, 31] (fun _ i wr => ∃ j : Nat, i = .int .i64 j ∧ j ≤ k ∧ Hid (∀ i, i < j → (l.getD i (.empty, .empty)).1 ≠ xa) ∧ Below w2.heap.size w2 wr) (fun _ i _ => k - (intOf i).toNat)
      case atStart => exact ⟨0, rfl, by omega, fun i hi => absurd hi (Nat.not_lt_zero _), Below.refl _ _⟩
      case round =>
        obtain ⟨j, rfl, hj, HJ, hbj⟩ := hrel
        have hzj := hbj.size
        by_cases hjk : j < k
        · obtain ⟨b', off', hbo, hB', r0, r1⟩ := HC.out.get HN.out (show j < n by omega)
          simp only [Option.some.injEq, Addr.mk.injEq] at hbo
          obtain ⟨rfl, rfl, _⟩ := hbo
          have hbw := hbx3.trans (hbj.mono (by omega))
          have s0 := (hbw.cell (p := ⟨b, off + j * 2, none⟩) hB').trans r0
          have s1 := (hbw.cell (p := ⟨b, off + j * 2 + 1, none⟩) hB').trans r1
          have t0 := (hbj.cell (p := ⟨wo.heap.size, 0, none⟩) hz3).trans d0
          obtain ⟨⟨ya, yb⟩, hy⟩ : ∃ y, y = l.getD j (.empty, .empty) := ⟨_, rfl⟩
          rw [← hy] at s0 s1
          simp only at s0 s1
          have HY := Lib.hid hy
          have hjI : (j : Int) < (k : Int) := by omega
          have hbj2 := hbj.alloc hzj (.cells #[.string ya, .string yb] 38)
          have t0' : (wr.alloc (.cells #[.string ya, .string yb] 38)).cell? ⟨wo.heap.size, 0, none⟩ = some (.string xa) := (hbj2.cell (p := ⟨wo.heap.size, 0, none⟩) hz3).trans d0
          clear r0 r1 hy t0
          by_cases he : ya = xa
          · have HIN : Hid (xa ∈ lm.names (l.take k)) := by
              show _ ∈ _
              refine List.mem_map.2 ⟨l.getD j (.empty, .empty), ?_, by rw [← HY.out]; exact he⟩
              have hjl : j < l.length := by have := HKL.out; omega
              have : (l.take k)[j]'(by rw [List.length_take]; omega) = l.getD j (.empty, .empty) := by simp [List.getD, hjl]
              rw [← this]; exact List.getElem_mem _
            have HB8 : Hid (R = (8, [])) := HBAD.out 8 (by decide) (by unfold lm.fault; rw [if_neg (by rw [HGD.out]; decide), if_pos HIN.out])
            have HRET := Lib.hid (ret8 HB8.out (hbx3.trans (hbj2.mono (by omega))))
            subst he
            go_wp2
            exact bodyPost_ret (v := .tuple #[.slice none 0 0, .int .i64 8]) (by simp [results, Try.results16, go_sem]) rfl HRET.out
          · have HJ' : Hid (∀ i, i < j + 1 → (l.getD i (.empty, .empty)).1 ≠ xa) := fun i hi => by
              by_cases e : i = j
              · rw [e, ← HY.out]; exact he
              · exact HJ.out i (by omega)
            have hne := str_ne he
            have hneb : (ya.toList == xa.toList) = false := by simpa using hne
            clear he
            go_wp2
            go_roundw
            case rel => exact ⟨j + 1, by go_num, by omega, HJ', hbj2⟩
            case measure => simp [intOf]; omega
        · obtain rfl : j = k := by omega
          have HNI : Hid (xa ∉ lm.names (l.take j)) := fun hm => by
            obtain ⟨y, hy, e⟩ := List.mem_map.1 hm
            obtain ⟨i, hi, rfl⟩ := List.getElem_of_mem hy
            have hil : i < j := by rw [List.length_take] at hi; omega
            refine HJ.out i hil ?_
            have : i < l.length := by have := HKL.out; omega
            rw [← e]
            simp [List.getD, this]
          have HFZ : Hid ((xb = .empty ∨ (lm.kept (l.take j)).length ≠ 6) → lm.fault (l.take j) (xa, xb) = 0) := fun h => lm.fault_zero.2 ⟨HGD.out, HNI.out, h⟩
          have f0 := (hbj.cell (p := ⟨wo.heap.size, 0, none⟩) hz3).trans d0
          have f1 := (hbj.cell (p := ⟨wo.heap.size, 1, none⟩) hz3).trans d1
          have hbx4 := hbx3.trans (hbj.mono (by omega))
          have HW3 := Lib.hid (own_stay HW2.out hbj)
          have hz4 : wo.heap.size < wr.heap.size := by omega
          clear d0 d1
          by_cases he : xb = .empty
          · subst he
            have hF0 := HFZ.out (Or.inl rfl)
            have HF2 : Hid (lm.faults [] l = lm.faults (l.take (j + 1)) (l.drop (j + 1))) := by show _ = _; rw [HF.out, HST.out, if_pos hF0]
            have HG2 : Hid (lm.Good (l.take (j + 1))) := lm.good_step HKL.out HX.out HG.out hF0
            have HK2 : Hid (lm.kept (l.take (j + 1)) = lm.kept (l.take j)) := by show _ = _; rw [lm.kept_step HKL.out HX.out, if_pos rfl]
            clear hF0
            go_wp2
            go_roundw
            case rel => exact ⟨j + 1, q, oa, oc, rfl, by go_num, by omega, hq6, HF2.out, HG2.out, by show q = _; rw [HK2.out]; exact HQ.out, by show World.ownsRow _ _ _ _ _ _ _; rw [HK2.out]; exact HW3.out, hbx4⟩
            case measure => simp [intOf]; omega
          obtain ⟨hs1, hs2, hs3⟩ : xb.toList.isEmpty = false ∧ ¬ xb.toList = [] ∧ ¬ xb = ByteArray.empty := kit.ne_empty (Nat.pos_of_ne_zero fun e => he (ByteArray.ext (Array.eq_empty_of_size_eq_zero e)))
          by_cases h6 : q = 6
          · have HB4 : Hid (R = (4, [])) := HBAD.out 4 (by decide) (by unfold lm.fault; rw [if_neg (by rw [HGD.out]; decide), if_neg HNI.out, if_neg he, if_pos (by rw [← HQ.out]; exact h6)])
            have HRET := Lib.hid (ret8 HB4.out hbx4)
            subst h6
            go_wp2
            exact bodyPost_ret (v := .tuple #[.slice none 0 0, .int .i64 4]) (by simp [results, Try.results16, go_sem]) rfl HRET.out
          have hF0 := HFZ.out (Or.inr (by rw [← HQ.out]; exact h6))
          have HF2 : Hid (lm.faults [] l = lm.faults (l.take (j + 1)) (l.drop (j + 1))) := by show _ = _; rw [HF.out, HST.out, if_pos hF0]
          have HG2 : Hid (lm.Good (l.take (j + 1))) := lm.good_step HKL.out HX.out HG.out hF0
          have HK2 : Hid (lm.kept (l.take (j + 1)) = lm.kept (l.take j) ++ [(xa, xb)]) := by show _ = _; rw [lm.kept_step HKL.out HX.out, if_neg he]
          have HQ2 : Hid (q + 1 = (lm.kept (l.take (j + 1))).length) := by show _ = _; rw [HK2.out, List.length_append, ← HQ.out]; rfl
          have h6b : ((q : Int) == 6) = false := by simp; omega
          have h6c : ¬ (q : Int) = 6 := by omega
          have hq5 : q ≤ 5 := by omega
          obtain ⟨S, hS⟩ : ∃ S, S = lm.sortN (lm.kept (l.take j)) := ⟨_, rfl⟩
          have HSS : Hid (lm.sortN (lm.kept (l.take (j + 1))) = lm.ins (xa, xb) S) := by show _ = _; rw [HK2.out, lm.sortN_snoc, hS]
          have HSR : Hid (lm.Srt S) := by show lm.Srt _; rw [hS]; exact lm.sortN_srt (HG.out.2.1.sublist ((lm.kept_sub _).map _))
          have HSL : Hid (S.length = q) := by show _ = _; rw [hS, (lm.sortN_perm _).length_eq, ← HQ.out]
          have HSD := Lib.hid hS
          rw [← hS] at HW3
          have HW0 := Lib.hid HW.out
          clear hF0 he h6 hS HW2 HW1 HW
          go_wp2
          obtain ⟨w3, hw3⟩ : ∃ x, x = wr := ⟨wr, rfl⟩
          subst hw3
          go_loopw [9] (fun v9 wr => ∃ m : Nat, v9 = .int .i64 m ∧ m ≤ q ∧ Hid (∀ i, m ≤ i → i < S.length → tless xa (S.getD i (.empty, .empty)).1 = true) ∧ Below w3.heap.size w3 wr) (fun v9 _ => (intOf v9).toNat)
          case atStart => exact ⟨q, rfl, Nat.le_refl _, (fun i h1 h2 => by rw [HSL.out] at h2; omega), Below.refl _ _⟩
          case round =>
            obtain ⟨m, rfl, hm, HGT, hbd⟩ := hrel
            have g0 := (hbd.cell (p := ⟨wo.heap.size, 0, none⟩) hz4).trans f0
            have g1 := (hbd.cell (p := ⟨wo.heap.size, 1, none⟩) hz4).trans f1
            have HW4 := Lib.hid (own_stay HW3.out hbd)
            have hbx5 := hbx4.trans (hbd.mono (by omega))
            have hz5 : wo.heap.size < wr.heap.size := by have := hbd.size; omega
            by_cases h0 : m = 0
            · have HINS : Hid (lm.ins (xa, xb) S = S.take m ++ (xa, xb) :: S.drop m) := lm.ins_at HSR.out (by omega) (fun h => absurd h0 (by omega)) HGT.out
              have h0I : ¬ (0 : Int) < (m : Int) := by omega
              have h0d : decide ((0 : Int) < (m : Int)) = false := decide_eq_false h0I
              have h0n : ¬ 0 < m := by omega
              have h0e : decide (0 < m) = false := decide_eq_false h0n
              clear h0
              have HGO : Hid (∀ k, (Value.slice oa q oc).ownBlock = some k → k < wo.heap.size) := fun k e => (HW0.out.lt k e).2
              have HGL : Hid (∀ k, (Value.slice oa q oc).ownBlock = some k → w.heap.size ≤ k) := fun k e => (HW0.out.lt k e).1
              go_wp2
              go_quiet (fail)
              go_wp2_with (at_builtin; refine kit.app1h (.tmp 64) (.tmp 66) 24 rfl rfl w.heap.size Try.underlying24 infoLab rfl (by decide) (by decide) (own_stay HW4.out (below_drewN (Below.refl _ _) _)) rfl rfl rfl lcells_two (by omega) (below_drewN hbx5 _).size ?_)
              intro v4 w4 hown4 hgrow4 hloc4
              obtain ⟨g4, c4, rfl, hqc, HW7, HX0, HX1, HNE, HB4⟩ := rc_after (S := S) (q := q) hbx5 hz5 g0 g1 HGO.out HGL.out hown4 hgrow4 hloc4 (below_drewN (Below.refl _ _) _)
              clear hown4 hgrow4 hloc4
              obtain ⟨r, hr⟩ : ∃ r, r = m + 1 := ⟨_, rfl⟩
              have HRr := Lib.hid hr
              have hr1 : (m : Int) + 1 = (r : Int) := by omega
              have hr2 : (r : Int) ≤ (q : Int) + 1 := by omega
              have hr3 : (m : Int) ≤ (q : Int) + 1 := by omega
              have hr4 : r ≤ q + 1 := by omega
              have hr5 : m ≤ q + 1 := by omega
              have hr6 : IntKind.i64.wrap (r : Int) = (r : Int) := IntWalk.i64_in _ (by omega)
              have hr7 : (r : Int).toNat = r := Int.toNat_natCast r
              have hr8 : (0 : Int) ≤ (r : Int) := by omega
              have hr9 : IntKind.i64.wrap (m : Int) = (m : Int) := IntWalk.i64_in _ (by omega)
              have hr10 : (m : Int).toNat = m := Int.toNat_natCast m
              have hr11 : (0 : Int) ≤ (m : Int) := by omega
              have hc0 : ¬ c4 = m := by omega
              have HMQ : Hid (Nat.min (q + 1 - m) (q + 1 - r) = q - m) := by
                show Nat.min _ _ = _
                rw [hr, show Nat.min (q + 1 - m) (q + 1 - (m + 1)) = min (q + 1 - m) (q + 1 - (m + 1)) from rfl, Nat.min_eq_right (by omega)]; omega
              by_cases hmq : m < q
              · have hc1 : ¬ c4 = r := by omega
                clear hr
                go_wp2
                go_region_law (refine kit.step_copy_own_k rfl (.tmp 71) (.tmp 74) 24 24 rfl w.heap.size Try.underlying24 sizeLab (dp := some ⟨g4, r * 2, none⟩) (sp := some ⟨g4, m * 2, none⟩) (dLen := q + 1 - r) (dCap := c4 - r) (sLen := q + 1 - m) (sCap := c4 - m) (by simp [Act.eval, Act.put]) (by simp [Act.eval, Act.put]) HW7.out (q - m) (r * 2) (m * 2) (by first | exact HMQ.out | (simp; exact HMQ.out)) (fun _ => ⟨rfl, rfl⟩) (by have := HRr.out; omega) (by have := HRr.out; omega) lcells_one ?_; intro w6 HG6 HB6 HO6)
                all_goals
                  obtain ⟨k0, k1, ⟨u0, u1, c60, c61⟩, fr0, fr1, HF6, HB7⟩ := rc_copied HRr.out HSL.out hm HSS.out HINS.out HG6.out HB4.out HB6.out HO6.out HX0.out HX1.out HNE.out
                  go_wp2
                  go_roundw
                  case rel => exact ⟨j + 1, q + 1, some ⟨g4, 0, none⟩, c4, by first | exact rfl | exact ⟨rfl, rfl, rfl⟩, by go_num, by omega, by omega, HF2.out, HG2.out, HQ2.out, HF6.out, HB7.out⟩
                  case measure => simp [intOf]; omega
              · have HE : Hid (m = q) := by show m = q; omega
                by_cases hc : c4 = r
                · obtain rfl := hc.symm
                  clear hr hmq
                  go_wp2
                  go_region_law (refine kit.step_copy_own_k rfl (.tmp 71) (.tmp 74) 24 24 rfl w.heap.size Try.underlying24 sizeLab (dp := some ⟨g4, 0, none⟩) (sp := some ⟨g4, m * 2, none⟩) (dLen := 0) (dCap := 0) (sLen := q + 1 - m) (sCap := r - m) (by simp [Act.eval, Act.put]) (by simp [Act.eval, Act.put]) HW7.out (q - m) (r * 2) (m * 2) (by have := HE.out; rw [show Nat.min (q + 1 - m) 0 = min (q + 1 - m) 0 from rfl, Nat.min_eq_right (Nat.zero_le _)]; omega) (fun h => absurd h (by have := HE.out; omega)) (by have := HRr.out; omega) (by have := HRr.out; omega) lcells_one ?_; intro w6 HG6 HB6 HO6)
                  all_goals
                    obtain ⟨k0, k1, ⟨u0, u1, c60, c61⟩, fr0, fr1, HF6, HB7⟩ := rc_copied HRr.out HSL.out hm HSS.out HINS.out HG6.out HB4.out HB6.out HO6.out HX0.out HX1.out HNE.out
                    go_wp2
                    go_roundw
                    case rel => exact ⟨j + 1, q + 1, some ⟨g4, 0, none⟩, r, by first | exact rfl | exact ⟨rfl, rfl, rfl⟩, by go_num, by omega, by omega, HF2.out, HG2.out, HQ2.out, HF6.out, HB7.out⟩
                    case measure => simp [intOf]; omega
                · clear hr hmq
                  go_wp2
                  go_region_law (refine kit.step_copy_own_k rfl (.tmp 71) (.tmp 74) 24 24 rfl w.heap.size Try.underlying24 sizeLab (dp := some ⟨g4, r * 2, none⟩) (sp := some ⟨g4, m * 2, none⟩) (dLen := q + 1 - r) (dCap := c4 - r) (sLen := q + 1 - m) (sCap := c4 - m) (by simp [Act.eval, Act.put]) (by simp [Act.eval, Act.put]) HW7.out (q - m) (r * 2) (m * 2) (by first | exact HMQ.out | (simp; exact HMQ.out)) (fun _ => ⟨rfl, rfl⟩) (by have := HRr.out; omega) (by have := HRr.out; omega) lcells_one ?_; intro w6 HG6 HB6 HO6)
                  all_goals
                    obtain ⟨k0, k1, ⟨u0, u1, c60, c61⟩, fr0, fr1, HF6, HB7⟩ := rc_copied HRr.out HSL.out hm HSS.out HINS.out HG6.out HB4.out HB6.out HO6.out HX0.out HX1.out HNE.out
                    go_wp2
                    go_roundw
                    case rel => exact ⟨j + 1, q + 1, some ⟨g4, 0, none⟩, c4, by first | exact rfl | exact ⟨rfl, rfl, rfl⟩, by go_num, by omega, by omega, HF2.out, HG2.out, HQ2.out, HF6.out, HB7.out⟩
                    case measure => simp [intOf]; omega
            · rcases own_form HW4.out with ⟨_, h⟩ | ⟨g, cap2, hv, hg⟩
              · omega
              have HV := Lib.hid hv
              simp only [Value.slice.injEq] at hv
              obtain ⟨rfl, _, rfl⟩ := hv
              obtain ⟨p, hp⟩ : ∃ p, m = p + 1 := ⟨m - 1, by omega⟩
              have hps : p < S.length := by have := HSL.out; omega
              obtain ⟨r0, r1⟩ := lcells_get S p hps
              have s0 := HW4.out.cells (g := g) rfl _ _ r0
              have s1 := HW4.out.cells (g := g) rfl _ _ r1
              rw [Addr.add_lit, Nat.zero_add] at s0 s1
              obtain ⟨⟨ya, yb⟩, hy⟩ : ∃ y, y = S[p] := ⟨_, rfl⟩
              rw [← hy] at s0 s1
              simp only at s0 s1
              have HY : Hid ((ya, yb) = S.getD p (.empty, .empty)) := by show _ = _; rw [hy]; simp [List.getD, hps]
              have HP := Lib.hid hp
              have hp1 : (m : Int) - 1 = (p : Int) := by omega
              have h0I : (0 : Int) < (m : Int) := by omega
              have h0d : decide ((0 : Int) < (m : Int)) = true := decide_eq_true h0I
              have h0n : 0 < m := by omega
              have h0e : decide (0 < m) = true := decide_eq_true h0n
              have hpq : p < q := by omega
              have hpI : (p : Int) < (q : Int) := by omega
              clear r0 r1 hy h0 hps
              have hne : ya ≠ xa := fun e => HNI.out (by
                rw [← e]
                have hm1 : (ya, yb) ∈ S := by
                  rw [HY.out]
                  have hpl : p < S.length := by have := HSL.out; omega
                  have : S.getD p (.empty, .empty) = S[p] := by simp [List.getD, hpl]
                  rw [this]; exact List.getElem_mem _
                rw [HSD.out] at hm1
                have hm2 := (lm.kept_mem.1 ((lm.sortN_perm _).mem_iff.1 hm1)).1
                exact List.mem_map.2 ⟨_, hm2, rfl⟩)
              have hnb : (ya.toList == xa.toList) = false := by simpa using str_ne hne
              have hnl : ¬ ya.toList = xa.toList := str_ne hne
              by_cases hgt : tless xa ya = true
              · have HGT2 : Hid (∀ i, p ≤ i → i < S.length → tless xa (S.getD i (.empty, .empty)).1 = true) := fun i h1 h2 => by
                  by_cases e : i = p
                  · rw [e, ← HY.out]; exact hgt
                  · exact HGT.out i (by have := HP.out; omega) h2
                have hgt2 : Op.bytesLess ya.toList xa.toList = false := by
                  cases h : Op.bytesLess ya.toList xa.toList with
                  | false => rfl
                  | true => exact (tless_asymm (s := xa) (t := ya) hgt h).elim
                clear hne
                clear hgt hp
                go_wp2
                go_quiet (fail)
                go_wp2
                go_roundw
                case rel => exact ⟨p, by go_num, by omega, HGT2, below_drewN hbd _⟩
                case measure => simp [intOf]; omega
              · have hgtf : tless xa ya = false := by simpa using hgt
                have HINS : Hid (lm.ins (xa, xb) S = S.take m ++ (xa, xb) :: S.drop m) := lm.ins_at HSR.out (by have := HSL.out; omega) (fun _ => by rw [HP.out, Nat.add_sub_cancel, ← HY.out]; exact hgtf) HGT.out
                have hgt2 : Op.bytesLess ya.toList xa.toList = true := (tless_total (s := ya) (t := xa) hne).resolve_right (by rw [hgtf]; exact Bool.false_ne_true)
                clear hne
                clear hgt hgtf hp
                have HGO : Hid (∀ k, (Value.slice (some ⟨g, 0, none⟩) q oc).ownBlock = some k → k < wo.heap.size) := fun k e => (HW0.out.lt k e).2
                have HGL : Hid (∀ k, (Value.slice (some ⟨g, 0, none⟩) q oc).ownBlock = some k → w.heap.size ≤ k) := fun k e => (HW0.out.lt k e).1
                go_wp2
                go_quiet (fail)
                go_wp2_with (at_builtin; refine kit.app1h (.tmp 64) (.tmp 66) 24 rfl rfl w.heap.size Try.underlying24 infoLab rfl (by decide) (by decide) (own_stay HW4.out (below_drewN (Below.refl _ _) _)) rfl rfl rfl lcells_two (by omega) (below_drewN hbx5 _).size ?_)
                intro v4 w4 hown4 hgrow4 hloc4
                obtain ⟨g4, c4, rfl, hqc, HW7, HX0, HX1, HNE, HB4⟩ := rc_after (S := S) (q := q) hbx5 hz5 g0 g1 HGO.out HGL.out hown4 hgrow4 hloc4 (below_drewN (Below.refl _ _) _)
                clear hown4 hgrow4 hloc4
                obtain ⟨r, hr⟩ : ∃ r, r = m + 1 := ⟨_, rfl⟩
                have HRr := Lib.hid hr
                have hr1 : (m : Int) + 1 = (r : Int) := by omega
                have hr2 : (r : Int) ≤ (q : Int) + 1 := by omega
                have hr3 : (m : Int) ≤ (q : Int) + 1 := by omega
                have hr4 : r ≤ q + 1 := by omega
                have hr5 : m ≤ q + 1 := by omega
                have hr6 : IntKind.i64.wrap (r : Int) = (r : Int) := IntWalk.i64_in _ (by omega)
                have hr7 : (r : Int).toNat = r := Int.toNat_natCast r
                have hr8 : (0 : Int) ≤ (r : Int) := by omega
                have hr9 : IntKind.i64.wrap (m : Int) = (m : Int) := IntWalk.i64_in _ (by omega)
                have hr10 : (m : Int).toNat = m := Int.toNat_natCast m
                have hr11 : (0 : Int) ≤ (m : Int) := by omega
                have hc0 : ¬ c4 = m := by omega
                have HMQ : Hid (Nat.min (q + 1 - m) (q + 1 - r) = q - m) := by
                  show Nat.min _ _ = _
                  rw [hr, show Nat.min (q + 1 - m) (q + 1 - (m + 1)) = min (q + 1 - m) (q + 1 - (m + 1)) from rfl, Nat.min_eq_right (by omega)]; omega
                by_cases hmq : m < q
                · have hc1 : ¬ c4 = r := by omega
                  clear hr
                  go_wp2
                  go_region_law (refine kit.step_copy_own_k rfl (.tmp 71) (.tmp 74) 24 24 rfl w.heap.size Try.underlying24 sizeLab (dp := some ⟨g4, r * 2, none⟩) (sp := some ⟨g4, m * 2, none⟩) (dLen := q + 1 - r) (dCap := c4 - r) (sLen := q + 1 - m) (sCap := c4 - m) (by simp [Act.eval, Act.put]) (by simp [Act.eval, Act.put]) HW7.out (q - m) (r * 2) (m * 2) (by first | exact HMQ.out | (simp; exact HMQ.out)) (fun _ => ⟨rfl, rfl⟩) (by have := HRr.out; omega) (by have := HRr.out; omega) lcells_one ?_; intro w6 HG6 HB6 HO6)
                  all_goals
                    obtain ⟨k0, k1, ⟨u0, u1, c60, c61⟩, fr0, fr1, HF6, HB7⟩ := rc_copied HRr.out HSL.out hm HSS.out HINS.out HG6.out HB4.out HB6.out HO6.out HX0.out HX1.out HNE.out
                    go_wp2
                    go_roundw
                    case rel => exact ⟨j + 1, q + 1, some ⟨g4, 0, none⟩, c4, by first | exact rfl | exact ⟨rfl, rfl, rfl⟩, by go_num, by omega, by omega, HF2.out, HG2.out, HQ2.out, HF6.out, HB7.out⟩
                    case measure => simp [intOf]; omega
                · have HE : Hid (m = q) := by show m = q; omega
                  by_cases hc : c4 = r
                  · obtain rfl := hc.symm
                    clear hr hmq
                    go_wp2
                    go_region_law (refine kit.step_copy_own_k rfl (.tmp 71) (.tmp 74) 24 24 rfl w.heap.size Try.underlying24 sizeLab (dp := some ⟨g4, 0, none⟩) (sp := some ⟨g4, m * 2, none⟩) (dLen := 0) (dCap := 0) (sLen := q + 1 - m) (sCap := r - m) (by simp [Act.eval, Act.put]) (by simp [Act.eval, Act.put]) HW7.out (q - m) (r * 2) (m * 2) (by have := HE.out; rw [show Nat.min (q + 1 - m) 0 = min (q + 1 - m) 0 from rfl, Nat.min_eq_right (Nat.zero_le _)]; omega) (fun h => absurd h (by have := HE.out; omega)) (by have := HRr.out; omega) (by have := HRr.out; omega) lcells_one ?_; intro w6 HG6 HB6 HO6)
                    all_goals
                      obtain ⟨k0, k1, ⟨u0, u1, c60, c61⟩, fr0, fr1, HF6, HB7⟩ := rc_copied HRr.out HSL.out hm HSS.out HINS.out HG6.out HB4.out HB6.out HO6.out HX0.out HX1.out HNE.out
                      go_wp2
                      go_roundw
                      case rel => exact ⟨j + 1, q + 1, some ⟨g4, 0, none⟩, r, by first | exact rfl | exact ⟨rfl, rfl, rfl⟩, by go_num, by omega, by omega, HF2.out, HG2.out, HQ2.out, HF6.out, HB7.out⟩
                      case measure => simp [intOf]; omega
                  · clear hr hmq
                    go_wp2
                    go_region_law (refine kit.step_copy_own_k rfl (.tmp 71) (.tmp 74) 24 24 rfl w.heap.size Try.underlying24 sizeLab (dp := some ⟨g4, r * 2, none⟩) (sp := some ⟨g4, m * 2, none⟩) (dLen := q + 1 - r) (dCap := c4 - r) (sLen := q + 1 - m) (sCap := c4 - m) (by simp [Act.eval, Act.put]) (by simp [Act.eval, Act.put]) HW7.out (q - m) (r * 2) (m * 2) (by first | exact HMQ.out | (simp; exact HMQ.out)) (fun _ => ⟨rfl, rfl⟩) (by have := HRr.out; omega) (by have := HRr.out; omega) lcells_one ?_; intro w6 HG6 HB6 HO6)
                    all_goals
                      obtain ⟨k0, k1, ⟨u0, u1, c60, c61⟩, fr0, fr1, HF6, HB7⟩ := rc_copied HRr.out HSL.out hm HSS.out HINS.out HG6.out HB4.out HB6.out HO6.out HX0.out HX1.out HNE.out
                      go_wp2
                      go_roundw
                      case rel => exact ⟨j + 1, q + 1, some ⟨g4, 0, none⟩, c4, by first | exact rfl | exact ⟨rfl, rfl, rfl⟩, by go_num, by omega, by omega, HF2.out, HG2.out, HQ2.out, HF6.out, HB7.out⟩
                      case measure => simp [intOf]; omega
    · obtain rfl : k = n := by omega
      have HT : Hid (l.take k = l ∧ l.drop k = []) := ⟨List.take_of_length_le (by rw [HN.out]; exact Nat.le_refl _), List.drop_eq_nil_of_le (by rw [HN.out]; exact Nat.le_refl _)⟩
      have HF0 : Hid (lm.faults [] l = 0) := by show _ = _; rw [HF.out, HT.out.2]; rfl
      have HQ1 : Hid (q = (lm.kept l).length) := by show _ = _; have := HQ.out; rw [HT.out.1] at this; exact this
      by_cases h0 : q = 0
      · have HB8 : Hid (R = (8, [])) := by
          show _ = _
          rw [HR.out, lm.canonF, if_pos HF0.out, if_pos (List.eq_nil_of_length_eq_zero (by rw [← HQ1.out]; exact h0))]
        have HRET := Lib.hid (ret8 HB8.out hb0)
        subst h0
        go_wp2
        exact bodyPost_ret (v := .tuple #[.slice none 0 0, .int .i64 8]) (by simp [results, Try.results16, go_sem]) rfl HRET.out
      · have h0b : ((q : Int) == 0) = false := by simp; omega
        have h0c : ¬ (q : Int) = 0 := by omega
        have HGL := (lm.faults_iff l).1 HF0.out
        have HRS : Hid (R = (0, lm.sortN (lm.kept l))) := by
          show _ = _
          rw [HR.out, lm.canon_ok HGL (fun e => by have := HQ1.out; rw [e] at this; exact h0 this)]
        have HLS : Hid (q = (lm.sortN (lm.kept l)).length) := by show _ = _; rw [(lm.sortN_perm _).length_eq]; exact HQ1.out
        have HRET : Hid (CanonP R w (.returned (.tuple #[.slice oa q oc, .int .i64 0])) wo) := by
          show CanonP _ _ _ _
          rw [HRS.out]
          refine ⟨_, rfl, ?_, hb0⟩
          show Cells _ _ _ _ _ _
          rw [← HLS.out]
          have := HW.out
          rw [HT.out.1] at this
          exact Cells.own this
        clear h0 HGL
        go_wp2
        exact bodyPost_ret (v := .tuple #[.slice oa q oc, .int .i64 0]) (by simp [results, Try.results16, go_sem]) rfl HRET.out
end Go.Proofs.Ytpfjmomdnegcpaa
