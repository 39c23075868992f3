/- PlaceHome, walked. -/
import Derived.Test.YthhkocbfeiccdaaGroups
namespace Go.Proofs.Ythhkocbfeiccdaa
open Go.RowKit Go.ChangeShapes Go.Joins at_ cl

theorem grp_range {G : Nat} (hG : 1 ≤ G) (bs : List Nat) : 0 ≤ grp bs (G : Int) ∧ grp bs (G : Int) < (G : Int) := by
  unfold grp
  rw [if_neg (by omega)]
  exact ⟨Int.emod_nonneg _ (by omega), Int.emod_lt_of_pos _ (by omega)⟩
theorem inc_ge {S : List Int} (h : pm.Inc S) (h0 : ∀ x ∈ S, 0 ≤ x) : ∀ j, j < S.length → (j : Int) ≤ S.getD j 0 := by
  intro j
  induction j with
  | zero => intro hj; exact h0 _ (pm.mem_get hj)
  | succ j ih =>
    intro hj
    have h1 := ih (by omega)
    have h2 := pm.inc_get h (show j < j + 1 by omega) hj
    omega
theorem inc_few {S : List Int} {G : Nat} (h : pm.Inc S) (h0 : ∀ x ∈ S, 0 ≤ x ∧ x < (G : Int)) : S.length ≤ G := by
  by_cases he : S.length = 0
  · omega
  · have h1 := inc_ge h (fun x hx => (h0 x hx).1) (S.length - 1) (by omega)
    have h2 := (h0 _ (pm.mem_get (show S.length - 1 < S.length by omega))).2
    omega
theorem has_snoc {L : List Int} {t : Nat} (ht : t < L.length) (x : Int) : pm.has (L.take (t + 1)) x = (pm.has (L.take t) x || decide (L.getD t 0 = x)) := by
  rw [Bool.eq_iff_iff, Bool.or_eq_true, pm.has_iff, pm.has_iff, decide_eq_true_eq, pm.take_snoc ht, List.mem_append, List.mem_singleton]
  exact ⟨fun h => h.imp id Eq.symm, fun h => h.imp id Eq.symm⟩
theorem at_cell {w : World} {B n c j : Nat} {ao : Option Addr} {l : List Int} (h : At w B (.slice ao n c) l) (hj : j < n) : ∃ b o, ao = some ⟨b, o, none⟩ ∧ b < B ∧ w.cell? ⟨b, o + j, none⟩ = some (.int .i64 (l.getD j 0)) := by
  obtain ⟨ao', c', e, _, _, h4⟩ := h
  simp only [Value.slice.injEq] at e
  obtain ⟨rfl, rfl, rfl⟩ := e
  obtain ⟨b, o, rfl, hB, hc⟩ := h4 (by omega)
  exact ⟨b, o, rfl, hB, hc j hj⟩

set_option maxHeartbeats 12800000 in
set_option maxRecDepth 100000 in
theorem home_any (l : List Lab) (v : Value) (x : Int) (w : World) (h : Labs w w.heap.size v l) (hs : ∀ x ∈ l, x.1.size ≤ maxLen ∧ x.2.size ≤ maxLen) :
    Calls Try.prog 7 #[v, .int .i64 x] w (Said true w) := by
  have HLO := Lib.hid (long_any l v w h hs)
  have HC := Lib.hid h
  obtain ⟨n, hn⟩ : ∃ n, n = l.length := ⟨_, rfl⟩
  obtain ⟨ao, cap, rfl⟩ : ∃ ao cap, v = .slice ao n cap := by
    obtain ⟨ao, cap, e, _⟩ := h.form
    exact ⟨ao, cap, by rw [hn]; exact e⟩
  have HN := Lib.hid hn
  clear h hs hn
  go_enter Try.func7, Try.ntmps7
  go_wp2_with fail
  refine HLO.out.mono ?_
  rintro e w1 ⟨r, rfl, HF, hb1⟩
  cases r with
  | true =>
    go_wp2_with fail
    refine (awake_any _).mono ?_
    rintro e w2 ⟨rfl, hb⟩
    have hfin := hb1.trans (hb.mono hb1.size)
    go_wp2
    go_ret
    exact ⟨rfl, hfin⟩
  | false =>
    have hf : Fit l := HF.out rfl
    clear HF HLO
    have HFL := Lib.hid hf
    have hn60 : n ≤ 60 := by rw [HN.out]; exact hf.1
    have HC1 : Hid (Labs w1 w1.heap.size (.slice ao n cap) l) := Cells.next HC.out hb1
    obtain ⟨j, hj8, hj⟩ := kit.umod x (m := 8) (by omega)
    have hj1 : (IntKind.u64.wrap x).tmod 8 = (j : Int) := hj
    have hj2 : (IntKind.u64.wrap x) % 8 = (j : Int) := by
      rw [← hj1]
      refine (Int.tmod_eq_emod_of_nonneg ?_).symm
      simp only [IntKind.wrap, IntKind.signed, IntKind.bits]
      exact Int.emod_nonneg _ (by decide)
    obtain ⟨G, hG⟩ : ∃ G, G = 1 + j := ⟨_, rfl⟩
    have hGI : (1 : Int) + (j : Int) = (G : Int) := by omega
    have hG1 : 1 ≤ G := by omega
    have hG8 : G ≤ 8 := by omega
    have hji : IntKind.i64.wrap (j : Int) = (j : Int) := IntWalk.i64_in _ (by omega)
    have HGR := Lib.hid (groups_any l (.slice ao n cap) (G : Int) w1 HC1.out hf)
    clear hG hj hf
    go_wp2_with fail
    refine HGR.out.mono ?_
    rintro e w2 ⟨v2, rfl, ho2, hb2⟩
    obtain ⟨S, hS⟩ : ∃ S, S = pm.set (0 :: gsOf l (G : Int)) := ⟨_, rfl⟩
    rw [← hS] at ho2
    have hSI : pm.Inc S := by rw [hS]; exact pm.set_inc _
    have hSM : ∀ y, y ∈ S ↔ y = 0 ∨ y ∈ gsOf l (G : Int) := fun y => by rw [hS, pm.set_mem, List.mem_cons]
    have hSr : ∀ y ∈ S, 0 ≤ y ∧ y < (G : Int) := fun y hy => by
      rcases (hSM y).1 hy with rfl | h
      · omega
      · obtain ⟨z, _, rfl⟩ := List.mem_map.1 h
        exact grp_range hG1 _
    have hSG := inc_few hSI hSr
    have hS0 : 0 < S.length := List.length_pos_of_mem ((hSM 0).2 (Or.inl rfl))
    have HSI := Lib.hid hSI
    have HSM := Lib.hid hSM
    obtain ⟨q, hq⟩ : ∃ q, q = S.length := ⟨_, rfl⟩
    have hat := own ho2
    obtain ⟨a2, c2, rfl⟩ : ∃ a2 c2, v2 = .slice a2 q c2 := by
      obtain ⟨a2, c2, e, _⟩ := hat
      exact ⟨a2, c2, by rw [hq]; exact e⟩
    have HAT := Lib.hid hat
    have HQ := Lib.hid hq
    have HB := Lib.hid (hb1.trans (hb2.mono hb1.size))
    rw [← hq] at hSG hS0
    have HC2 : Hid (Labs w2 w2.heap.size (.slice ao n cap) l) := Cells.next HC1.out hb2
    clear hS hSI hSM hSr hq hat ho2 hb1 hb2 HC1 HGR
    go_wp2
    go_loopw [6, 7, 9, 10, 12, 26] (fun _ _ _ _ _ i wr => ∃ k : Nat, i = .int .i64 k ∧ k ≤ G ∧ Below w2.heap.size w2 wr) (fun _ _ _ _ _ i _ => G - (intOf i).toNat)
    case atStart => exact ⟨0, rfl, by omega, Below.refl _ _⟩
    case round =>
      obtain ⟨wo, rfl⟩ : ∃ y : World, y = wr := ⟨_, rfl⟩
      obtain ⟨k, rfl, hk, hbl⟩ := hrel
      by_cases hlt : k < G
      · have hkI : (k : Int) < (G : Int) := by omega
        obtain ⟨f0, hf0⟩ : ∃ f0, f0 = decide (k = 0) := ⟨_, rfl⟩
        have hk0 : ((k : Int) == 0) = f0 := by
          rw [hf0]
          by_cases e : k = 0
          · subst e; rfl
          · rw [decide_eq_false e]; exact beq_eq_false_iff_ne.2 (by omega)
        have HF0 := Lib.hid hf0
        clear hf0
        go_wp2
        go_loopw [7, 9, 33] (fun st _ t wr => ∃ (p : Nat) (f : Bool), t = .int .i64 p ∧ p ≤ n ∧ st = .bool f ∧ Hid (f = (f0 || pm.has ((gsOf l (G : Int)).take p) (k : Int))) ∧ Below w2.heap.size w2 wr) (fun _ _ t _ => n - (intOf t).toNat)
        case atStart => exact ⟨0, f0, rfl, by omega, rfl, by show _ = _; rw [List.take_zero]; cases f0 <;> rfl, hbl⟩
        case round =>
          obtain ⟨wi, rfl⟩ : ∃ y : World, y = wr := ⟨_, rfl⟩
          obtain ⟨p, f, rfl, hp, rfl, HFF, hbi⟩ := hrel
          have hzi := hbi.size
          by_cases hpl : p < n
          · have hpl2 : p < l.length := by rw [← HN.out]; exact hpl
            obtain ⟨b, off, rfl, hB, x0, x1⟩ := Labs.get HC2.out HN.out hpl
            have hsz := fit_get HFL.out hpl2
            have HSN := Lib.hid (has_snoc (L := gsOf l (G : Int)) (t := p) (by rw [gs_len]; exact hpl2) (k : Int))
            have hgg := gs_get (g := (G : Int)) hpl2
            obtain ⟨⟨xa, xb⟩, hx⟩ : ∃ x, x = l.getD p (.empty, .empty) := ⟨_, rfl⟩
            rw [← hx] at x0 x1 hgg hsz
            have d0 := (hbi.cell (p := ⟨b, off + p * 2, none⟩) hB).trans x0
            have d1 := (hbi.cell (p := ⟨b, off + p * 2 + 1, none⟩) hB).trans x1
            simp only at d0 d1 hgg hsz
            obtain ⟨r, hr⟩ : ∃ r, r = grp (kit.bytes xa) (G : Int) := ⟨_, rfl⟩
            have HG : Hid (∀ W : World, Calls Try.prog 10 #[.string xa, .int .i64 (G : Int)] W fun e w' => e = .returned (.int .i64 r) ∧ W = w') := fun W => by rw [hr]; exact group_any xa _ W (by omega)
            rw [hgg, ← hr] at HSN
            have hpI : (p : Int) < (n : Int) := by omega
            have hbi2 := hbi.alloc hzi (.cells #[.string xa, .string xb] 41)
            clear hx hr x0 x1 hgg
            cases f with
            | true =>
              have HFF' : Hid (true = (f0 || pm.has ((gsOf l (G : Int)).take (p + 1)) (k : Int))) := by show _ = _; rw [HSN.out, ← Bool.or_assoc, ← HFF.out]; rfl
              go_wp2
              go_roundw
              case rel => exact ⟨p + 1, true, by go_num, by omega, rfl, HFF', hbi2⟩
              case measure => simp [intOf]; omega
            | false =>
              obtain ⟨f9, hf9⟩ : ∃ f9, f9 = decide (r = (k : Int)) := ⟨_, rfl⟩
              have hrk : (r == (k : Int)) = f9 := by
                rw [hf9]
                by_cases e : r = (k : Int)
                · rw [decide_eq_true e]; exact beq_iff_eq.2 e
                · rw [decide_eq_false e]; exact beq_eq_false_iff_ne.2 e
              have HFF' : Hid (f9 = (f0 || pm.has ((gsOf l (G : Int)).take (p + 1)) (k : Int))) := by show _ = _; rw [HSN.out, ← Bool.or_assoc, ← HFF.out, ← hf9]; rfl
              clear hf9
              go_wp2_with (go_at_call 10; (with_reducible refine (HG.out _).mono ?_); rintro e w9 ⟨rfl, rfl⟩)
              go_roundw
              case rel => exact ⟨p + 1, f9, by go_num, by omega, rfl, HFF', hbi2⟩
              case measure => simp [intOf]; omega
          · have HFE : Hid (f = (f0 || pm.has (gsOf l (G : Int)) (k : Int))) := by
              have := HFF.out
              rw [List.take_of_length_le (by rw [gs_len, ← HN.out]; omega)] at this
              exact this
            have HAI := Lib.hid ((HAT.out.below hbi).mono hbi.size)
            clear HFF
            go_wp2
            go_loop [10, 12, 49] (fun st _ t => ∃ (p : Nat) (f : Bool), t = .int .i64 p ∧ p ≤ q ∧ st = .bool f ∧ Hid (f = pm.has (S.take p) (k : Int))) (fun _ _ t => q - (intOf t).toNat)
            case atStart => exact ⟨0, false, rfl, by omega, rfl, rfl⟩
            case round =>
              obtain ⟨p5, f5, rfl, hp5, rfl, HF5⟩ := hrel
              by_cases hp5l : p5 < q
              · obtain ⟨b5, o5, rfl, _, z0⟩ := at_cell HAI.out hp5l
                have HSN := Lib.hid (has_snoc (L := S) (t := p5) (by rw [← HQ.out]; exact hp5l) (k : Int))
                obtain ⟨y, hy⟩ : ∃ y, y = S.getD p5 0 := ⟨_, rfl⟩
                rw [← hy] at z0 HSN
                have hp5I : (p5 : Int) < (q : Int) := by omega
                clear hy
                cases f5 with
                | true =>
                  have HF' : Hid (true = pm.has (S.take (p5 + 1)) (k : Int)) := by show _ = _; rw [HSN.out, ← HF5.out]; rfl
                  go_wp2
                  go_round
                  case rel => exact ⟨p5 + 1, true, by go_num, by omega, rfl, HF'⟩
                  case measure => simp [intOf]; omega
                | false =>
                  obtain ⟨f9, hf9⟩ : ∃ f9, f9 = decide (y = (k : Int)) := ⟨_, rfl⟩
                  have hrk : (y == (k : Int)) = f9 := by
                    rw [hf9]
                    by_cases e : y = (k : Int)
                    · rw [decide_eq_true e]; exact beq_iff_eq.2 e
                    · rw [decide_eq_false e]; exact beq_eq_false_iff_ne.2 e
                  have HF' : Hid (f9 = pm.has (S.take (p5 + 1)) (k : Int)) := by show _ = _; rw [HSN.out, ← HF5.out, ← hf9]; rfl
                  clear hf9
                  go_wp2
                  go_round
                  case rel => exact ⟨p5 + 1, f9, by go_num, by omega, rfl, HF'⟩
                  case measure => simp [intOf]; omega
              · have hff : f5 = f := by
                  have h1 := HF5.out
                  rw [List.take_of_length_le (by rw [← HQ.out]; omega)] at h1
                  rw [h1, HFE.out, HF0.out, Bool.eq_iff_iff, pm.has_iff, HSM.out, Bool.or_eq_true, decide_eq_true_eq, pm.has_iff]
                  exact ⟨fun h => h.imp (fun e => by omega) id, fun h => h.imp (fun e => by omega) id⟩
                subst hff
                have hbb : (f5 != f5) = false := by cases f5 <;> rfl
                go_wp2
                go_roundw
                case rel => exact ⟨k + 1, by go_num, by omega, hbi⟩
                case measure => simp [intOf]; omega
      · have HAO := Lib.hid ((HAT.out.below hbl).mono hbl.size)
        have hq63 : q ≤ 8 := by omega
        have hfin0 : Below w.heap.size w wo := HB.out.trans (hbl.mono HB.out.size)
        go_wp2
        go_loopw [13] (fun i wr => ∃ p : Nat, i = .int .i64 p ∧ 1 ≤ p ∧ p ≤ q ∧ Below wo.heap.size wo wr) (fun i _ => q - (intOf i).toNat)
        case atStart => exact ⟨1, rfl, by omega, by omega, Below.refl _ _⟩
        case round =>
          obtain ⟨p, rfl, hp1, hpq, hbz⟩ := hrel
          by_cases hplt : p < q
          · obtain ⟨b5, o5, rfl, hB5, z0⟩ := at_cell HAO.out hplt
            obtain ⟨b6, o6, e6, _, z1⟩ := at_cell HAO.out (show p - 1 < q by omega)
            simp only [Option.some.injEq, Addr.mk.injEq, and_true] at e6
            obtain ⟨rfl, rfl⟩ := e6
            have hyy := pm.inc_get HSI.out (show p - 1 < p by omega) (by rw [← HQ.out]; exact hplt)
            have z2 := (hbz.cell (p := ⟨b5, o5 + p, none⟩) hB5).trans z0
            have z3 := (hbz.cell (p := ⟨b5, o5 + (p - 1), none⟩) hB5).trans z1
            obtain ⟨y1, hy1⟩ : ∃ y, y = S.getD p 0 := ⟨_, rfl⟩
            obtain ⟨y2, hy2⟩ : ∃ y, y = S.getD (p - 1) 0 := ⟨_, rfl⟩
            rw [← hy1] at z2 hyy
            rw [← hy2] at z3 hyy
            have hpI : (p : Int) < (q : Int) := by omega
            have hpI2 : (p : Int) - 1 < (q : Int) := by omega
            have hpI3 : (0 : Int) ≤ (p : Int) - 1 := by omega
            have hpI4 : ((p : Int) - 1).toNat = p - 1 := by omega
            have i1 : IntKind.i64.wrap ((p : Int) - 1) = (p : Int) - 1 := IntWalk.i64_in _ (by omega)
            have hnle : ¬ y1 ≤ y2 := by omega
            clear hy1 hy2 z0 z1
            go_wp2
            go_quiet (fail)
            clear i1
            go_wp2
            go_roundw
            case rel => exact ⟨p + 1, by go_num, by omega, by omega, below_drewN hbz _⟩
            case measure => simp [intOf]; omega
          · have hqG : (q : Int) ≤ (G : Int) := by omega
            go_wp2_with fail
            refine (awake_any _).mono ?_
            rintro e wx ⟨rfl, hb⟩
            have hfin := hfin0.trans ((hbz.trans (hb.mono hbz.size)).mono hfin0.size)
            go_wp2
            go_ret
            exact ⟨rfl, hfin⟩
end Go.Proofs.Ythhkocbfeiccdaa
