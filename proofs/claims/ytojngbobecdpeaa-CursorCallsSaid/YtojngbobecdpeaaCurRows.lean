/- the laws of cursors: lists of lists, and cursors over them. -/
import Derived.Test.YtojngbobecdpeaaCurMake
namespace Go.Proofs.Ytojngbobecdpeaa
open Go Go.RowKit Go.ChangeShapes at_ pm cl
def rows7 (ls : List (List Int)) : Bool := (ls.all fun l => decide (l.length ≤ 200) && rightOf l) && decide (ls.length ≤ 8)
theorem rows7_no {ls : List (List Int)} {k : Nat} (hk : k < ls.length) (h : (decide ((ls.getD k []).length ≤ 200) && rightOf (ls.getD k [])) = false) : rows7 ls = false := by
  rw [← Bool.not_eq_true]
  intro h2
  have h3 := List.all_eq_true.1 (Bool.and_eq_true_iff.1 h2).1 (ls.getD k []) (by simp [List.getD, hk])
  rw [h] at h3
  cases h3
theorem rows7_yes {ls : List (List Int)} (h : ∀ k, k < ls.length → (ls.getD k []).length ≤ 200 ∧ rightOf (ls.getD k []) = true) : rows7 ls = decide (ls.length ≤ 8) := by
  have h3 : (ls.all fun l => decide (l.length ≤ 200) && rightOf l) = true := by
    refine List.all_eq_true.2 fun l hl => ?_
    obtain ⟨k, hk, rfl⟩ := List.getElem_of_mem hl
    have := h k hk
    simp only [List.getD, List.getElem?_eq_getElem hk, Option.getD_some] at this
    simp [this.1, this.2]
  unfold rows7
  rw [h3, Bool.true_and]
theorem rows7_get {ls : List (List Int)} (h : rows7 ls = true) {l : List Int} (hl : l ∈ ls) : l.length ≤ 200 ∧ rightOf l = true := by
  have h3 := List.all_eq_true.1 (Bool.and_eq_true_iff.1 h).1 l hl
  simpa using h3

set_option maxHeartbeats 1600000 in
set_option maxRecDepth 100000 in
theorem lright_any (ls : List (List Int)) (v : Value) (w : World) (ha : LRows w w.heap.size v ls) :
    Calls Try.prog 27 #[v] w (Said (rows7 ls) w) := by
  obtain ⟨ao, ca, rfl, _, hla, hca⟩ := ha
  unfold maxLen at hla
  have KA := Lib.hid hca; clear hca
  go_enter Try.func27, Try.ntmps27
  go_wp2
  go_loopw [7, 19] (fun i _ wr => ∃ k : Nat, i = .int .i64 k ∧ k ≤ ls.length ∧ Hid (∀ j, j < k → (ls.getD j []).length ≤ 200 ∧ rightOf (ls.getD j []) = true) ∧ Below w.heap.size w wr) (fun i _ _ => ls.length - (intOf i).toNat)
  case atStart => exact ⟨0, rfl, by omega, (fun j hj => absurd hj (Nat.not_lt_zero _)), Below.refl _ _⟩
  case round =>
    obtain ⟨k, rfl, hk, HT, hbl⟩ := hrel
    by_cases hlt : k < ls.length
    · obtain ⟨ba, oa, hao, hBa, hcell⟩ := KA.out (by omega)
      subst hao
      obtain ⟨x, hx, hA⟩ := hcell k hlt
      obtain ⟨l, hl⟩ : ∃ l, l = ls.getD k [] := ⟨_, rfl⟩
      rw [← hl] at hA
      have HL := Lib.hid hl
      have HA := Lib.hid ((hA.below hbl).mono hbl.size)
      have c1 : wr.cell? ⟨ba, oa + k, none⟩ = some x := (hbl.cell (p := ⟨ba, _, none⟩) hBa).trans hx
      have hkI : (k : Int) < (ls.length : Int) := by omega
      obtain ⟨a1, cc, rfl, _, hmx, _⟩ := hA
      unfold maxLen at hmx
      clear hx hcell hl
      by_cases h1 : 200 < l.length
      · have HE : Hid (rows7 ls = false) := rows7_no hlt (by rw [← HL.out, decide_eq_false (by omega)]; rfl)
        have h1I : (200 : Int) < (l.length : Int) := by omega
        go_wp2
        go_ret
        rw [HE.out]; exact ⟨rfl, hbl⟩
      · have h1I : ¬ (200 : Int) < (l.length : Int) := by omega
        have H := pright_any l _ wr HA.out
        cases hr : rightOf l with
        | false =>
          rw [hr] at H
          have HE : Hid (rows7 ls = false) := rows7_no hlt (by rw [← HL.out, hr, Bool.and_false])
          go_wp2_with fail
          refine H.mono ?_
          rintro e w1 ⟨rfl, hb1⟩
          go_wp2
          go_ret
          rw [HE.out]; exact ⟨rfl, hbl.trans (hb1.mono hbl.size)⟩
        | true =>
          rw [hr] at H
          have HT' : Hid (∀ j, j < k + 1 → (ls.getD j []).length ≤ 200 ∧ rightOf (ls.getD j []) = true) := fun j hj => by
            by_cases e : j = k
            · rw [e, ← HL.out]; exact ⟨by omega, hr⟩
            · exact HT.out j (by omega)
          go_wp2_with fail
          refine H.mono ?_
          rintro e w1 ⟨rfl, hb1⟩
          have hbl1 := hbl.trans (hb1.mono hbl.size)
          go_wp2
          go_roundw
          case rel => exact ⟨k + 1, by go_num, by omega, HT', hbl1⟩
          case measure => simp [intOf]; omega
    · have HE : Hid (rows7 ls = decide (ls.length ≤ 8)) := rows7_yes fun j hj => HT.out j (by omega)
      by_cases h30 : ls.length ≤ 8
      · have h30I : (ls.length : Int) ≤ 8 := by omega
        have HE : Hid (rows7 ls = true) := HE.out.trans (decide_eq_true h30)
        go_wp2
        go_ret
        rw [HE.out]; exact ⟨rfl, hbl⟩
      · have h30I : ¬ (ls.length : Int) ≤ 8 := by omega
        have HE : Hid (rows7 ls = false) := HE.out.trans (decide_eq_false h30)
        go_wp2
        go_ret
        rw [HE.out]; exact ⟨rfl, hbl⟩
/-- a cursor over a list -/
def mkL (l : List Int) : Cur := .mk 1 l 0 []
/-- cursors of the call's own, each apart from the row that holds them -/
def CsO (B : Nat) (d : Nat) (L : List Cur) (v : Value) (W : World) : Prop := ∃ cs : List (List Value), cs.length = L.length ∧ (∀ (j : Nat) (c : List Value) (x : Cur), cs[j]? = some c → L[j]? = some x → FreA B v.ownBlock W (fun W => c.length = 4 ∧ curR d W W.heap.size c x)) ∧ W.ownsRow B 25 4 v L.length cs.flatten
theorem CsO.next {B d : Nat} {L : List Cur} {v : Value} {W W' : World} (h : CsO B d L v W) (hb : Below W.heap.size W W') : CsO B d L v W' := by
  obtain ⟨cs, h0, h1, h2⟩ := h
  exact ⟨cs, h0, fun j c x hc hx => (h1 j c x hc hx).next hb, own_stay h2 hb⟩
theorem CsO.rows {B d : Nat} {L : List Cur} {v : Value} {W : World} (h : CsO B d L v W) : RowsAt 4 (curR d) W W.heap.size v L := by
  obtain ⟨cs, h0, h1, h2⟩ := h
  exact RowsAt.own rfl h0 (fun j c x hc hx => (h1 j c x hc hx).at) h2
set_option maxHeartbeats 3200000 in
set_option maxRecDepth 100000 in
theorem cursors_any (ls : List (List Int)) (v : Value) (w : World) (ha : LRows w w.heap.size v ls) (hg : ∀ l ∈ ls, l.length ≤ 100000) (h8 : ls.length ≤ 1000) :
    Calls Try.prog 28 #[v] w (fun e w' => ∃ ao cap, e = .returned (.slice ao ls.length cap) ∧ (ls.length = 0 → ao = none) ∧ CsO w.heap.size 1 (ls.map mkL) (.slice ao ls.length cap) w' ∧ Below w.heap.size w w') := by
  obtain ⟨ao, ca, rfl, _, hla, hca⟩ := ha
  unfold maxLen at hla
  have KA := Lib.hid hca; clear hca
  have HG := Lib.hid hg; clear hg
  obtain ⟨m, hm⟩ : ∃ m, m = ls.length := ⟨_, rfl⟩
  have HM := Lib.hid hm
  rw [← hm] at hla h8 ⊢
  clear hm
  go_enter Try.func28, Try.ntmps28
  go_wp2
  go_loopw [3, 8, 17] (fun r i _ wr => ∃ k : Nat, i = .int .i64 k ∧ k ≤ m ∧ (∃ ro rc, r = .slice ro k rc ∧ (k = 0 → ro = none) ∧ Hid (∃ cs : List (List Value), cs.length = k ∧ (∀ (j : Nat) (c : List Value) (x : Cur), cs[j]? = some c → ((ls.map mkL).take k)[j]? = some x → FreA w.heap.size (Value.slice ro k rc).ownBlock wr (fun W => c.length = 4 ∧ curR 1 W W.heap.size c x)) ∧ wr.ownsRow w.heap.size 25 4 (.slice ro k rc) k cs.flatten)) ∧ Below w.heap.size w wr) (fun _ i _ _ => m - (intOf i).toNat)
  case atStart => exact ⟨0, rfl, by omega, ⟨none, 0, rfl, fun _ => rfl, [], rfl, fun j c x hc => by simp at hc, World.ownsRow_nil _ _ _ _⟩, Below.refl _ _⟩
  case round =>
    obtain ⟨k, rfl, hk, ⟨ro, rc, rfl, hro, HI⟩, hbl⟩ := hrel
    have HRO := Lib.hid hro
    clear hro
    by_cases hlt : k < m
    · have hkl : k < ls.length := by rw [← HM.out]; exact hlt
      obtain ⟨ba, oa, hao, hBa, hcell⟩ := KA.out (by omega)
      subst hao
      obtain ⟨x, hx, hA⟩ := hcell k hkl
      obtain ⟨l, hl⟩ : ∃ l, l = ls.getD k [] := ⟨_, rfl⟩
      rw [← hl] at hA
      have hle : l = ls[k] := by rw [hl]; simp [List.getD, hkl]
      have HEL : Hid ((ls.map mkL).take (k + 1) = (ls.map mkL).take k ++ [mkL l]) := by
        show _ = _
        rw [List.take_succ_eq_append_getElem (by rw [List.length_map]; exact hkl), List.getElem_map, hle]
      have hll : l.length ≤ 100000 := HG.out l (by rw [hle]; exact List.getElem_mem _)
      have hA' := (hA.below hbl).mono hbl.size
      have c1 : wr.cell? ⟨ba, oa + k, none⟩ = some x := (hbl.cell (p := ⟨ba, _, none⟩) hBa).trans hx
      have hkI : (k : Int) < (m : Int) := by omega
      have HC := Lib.hid (list_any l x wr hA' hll)
      obtain ⟨a1, cc, rfl, _, hmx, _⟩ := hA
      obtain ⟨q, hq⟩ : ∃ q, q = l.length := ⟨_, rfl⟩
      rw [← hq] at HC c1
      have HBL := Lib.hid hbl
      clear hx hcell hl hle hA' hmx hll hq hbl hkl hBa
      go_wp2_with fail
      (with_reducible refine HC.out.mono ?_)
      rintro e w3 ⟨c', rfl, hF, b3⟩
      obtain ⟨lo', ln', lc', ko', kn', kc', rfl⟩ := cur_form hF.at
      obtain ⟨cs, h0, hE, hO⟩ := HI.out
      have HO := Lib.hid (own_stay hO b3)
      have HE : Hid (∀ (j : Nat) (c : List Value) (x : Cur), cs[j]? = some c → ((ls.map mkL).take k)[j]? = some x → FreA w.heap.size (Value.slice ro k rc).ownBlock w3 (fun W => c.length = 4 ∧ curR 1 W W.heap.size c x)) := fun j c x hc hx => (hE j c x hc hx).next b3
      have hv : ∀ b, (Value.slice ro k rc).ownBlock = some b → b < wr.heap.size ∨ w3.heap.size ≤ b := by
        intro b hb
        left
        rcases hO.2 with ⟨e, _⟩ | ⟨g, cap, cur, e, hbg, hg, _⟩
        · simp only [Value.slice.injEq] at e
          rw [e.1] at hb
          simp [Value.ownBlock] at hb
        · simp only [Value.slice.injEq] at e
          rw [e.1] at hb
          simp only [Value.ownBlock, Option.some.injEq] at hb
          have := lt_of_block hg
          omega
      have HN : Hid (FreA w.heap.size (Value.slice ro k rc).ownBlock w3 (fun W => [Value.int .i64 (mkL l).k, .slice lo' ln' lc', .int .i64 (mkL l).a, .slice ko' kn' kc'].length = 4 ∧ curR 1 W W.heap.size [.int .i64 (mkL l).k, .slice lo' ln' lc', .int .i64 (mkL l).a, .slice ko' kn' kc'] (mkL l))) :=
        ((FreA.off hF hv).low HBL.out.size).imp (fun W h => ⟨rfl, h⟩)
      have H0 := Lib.hid h0
      have B3 := Lib.hid (HBL.out.trans (b3.mono HBL.out.size))
      have hzk : (mkL l).k = 1 := rfl
      have hza : (mkL l).a = 0 := rfl
      rw [hzk, hza] at HN
      have HSZ : Hid (w.heap.size ≤ w3.heap.size) := B3.out.size
      clear hF hE hO b3 hv h0 hzk hza
      go_wp2_with (at_builtin; refine kit.app1k w3.heap.size rfl (.tmp 12) (.tmp 15) 23 rfl rfl w.heap.size Try.underlying23 infoCur rfl (by decide) (by decide) HO.out rfl rfl rfl (by simp [Value.oneCell']) (by omega) HSZ.out ?_; intro v4 w4 hO4 hg4 hb4)
      obtain ⟨ro4, rc4, rfl⟩ := own_slice hO4
      have HI4 : Hid (∃ cs : List (List Value), cs.length = k + 1 ∧ (∀ (j : Nat) (c : List Value) (x : Cur), cs[j]? = some c → ((ls.map mkL).take (k + 1))[j]? = some x → FreA w.heap.size (Value.slice ro4 (k + 1) rc4).ownBlock w4 (fun W => c.length = 4 ∧ curR 1 W W.heap.size c x)) ∧ w4.ownsRow w.heap.size 25 4 (.slice ro4 (k + 1) rc4) (k + 1) cs.flatten) := by
        refine ⟨cs ++ [[.int .i64 1, .slice lo' ln' lc', .int .i64 0, .slice ko' kn' kc']], by rw [List.length_append, H0.out]; rfl, ?_, by rw [List.flatten_append, List.flatten_cons, List.flatten_nil, List.append_nil]; exact hO4⟩
        rw [HEL.out]
        refine snoc_fre (Q := fun c x => FreA w.heap.size (Value.slice ro4 (k + 1) rc4).ownBlock w4 (fun W => c.length = 4 ∧ curR 1 W W.heap.size c x)) (by rw [H0.out, List.length_take, List.length_map, ← HM.out]; omega) (fun j c x hc hx => ((HE.out j c x hc hx).next below1).grown hg4 hb4) ((HN.out.next below1).grown hg4 hb4)
      have HB4 : Hid (Below w.heap.size w w4) := B3.out.trans (app_below HO.out B3.out.size hg4)
      clear hO4 hg4 hb4
      go_wp2
      go_roundw
      case rel => exact ⟨k + 1, by go_num, by omega, ⟨ro4, rc4, rfl, fun h => absurd h (by omega), HI4⟩, HB4.out⟩
      case measure => simp [intOf]; omega
    · obtain rfl : k = m := by omega
      have HBL := Lib.hid hbl
      clear hbl
      go_wp2
      go_ret
      obtain ⟨cs, h0, hE, hO⟩ := HI.out
      have hml : k = (ls.map mkL).length := by rw [List.length_map]; exact HM.out
      refine ⟨ro, rc, rfl, HRO.out, ⟨cs, by rw [h0]; exact hml, fun j c x hc hx => hE j c x hc (by rw [List.take_of_length_le (by omega)]; exact hx), ?_⟩, HBL.out⟩
      rw [← hml]; exact hO
end Go.Proofs.Ytojngbobecdpeaa
