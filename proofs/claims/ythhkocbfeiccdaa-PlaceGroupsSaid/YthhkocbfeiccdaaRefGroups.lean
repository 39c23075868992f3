/- the document's Groups by its contract. -/
import Derived.Test.YthhkocbfeiccdaaLawHome
import Derived.Laws.CopyOwn
import Derived.Deep.RegionLaw
namespace Go.Proofs.Ythhkocbfeiccdaa
open Go.RowKit Go.ChangeShapes Go.Joins at_ cl

/-- what the document's list holds behind k labels -/
def RefG (l : List Lab) (g : Int) (k : Nat) (acc : List Int) : Prop := pm.Inc acc ∧ (∀ y, y ∈ acc ↔ y = 0 ∨ y ∈ (gsOf l g).take k) ∧ acc.length ≤ k + 1
theorem refg_start (l : List Lab) (g : Int) : RefG l g 0 [0] := ⟨by unfold pm.Inc; simp, fun y => by simp, by simp⟩
theorem mem_take_gs {l : List Lab} {g : Int} {k : Nat} (hk : k < l.length) {r : Int} (hr : r = grp (kit.bytes (l.getD k (.empty, .empty)).1) g) (y : Int) : y ∈ (gsOf l g).take (k + 1) ↔ y ∈ (gsOf l g).take k ∨ y = r := by
  have h1 := gs_get (g := g) hk
  rw [pm.take_snoc (by rw [gs_len]; exact hk), List.mem_append, List.mem_singleton, h1, hr]
theorem refg_same {l : List Lab} {g : Int} {k : Nat} {acc : List Int} (h : RefG l g k acc) (hk : k < l.length) {r : Int} (hr : r = grp (kit.bytes (l.getD k (.empty, .empty)).1) g) (hin : r ∈ acc) : RefG l g (k + 1) acc := by
  refine ⟨h.1, fun y => ?_, by have := h.2.2; omega⟩
  rw [mem_take_gs hk hr, h.2.1 y]
  constructor
  · rintro (e | e)
    · exact Or.inl e
    · exact Or.inr (Or.inl e)
  · rintro (e | e | rfl)
    · exact Or.inl e
    · exact Or.inr e
    · exact (h.2.1 y).1 hin
theorem refg_ins {l : List Lab} {g : Int} {k q : Nat} {acc : List Int} (h : RefG l g k acc) (hk : k < l.length) {r : Int} (hr : r = grp (kit.bytes (l.getD k (.empty, .empty)).1) g) (hq : q ≤ acc.length) (h1 : 0 < q → acc.getD (q - 1) 0 < r) (h2 : ∀ j, q ≤ j → j < acc.length → r < acc.getD j 0) : RefG l g (k + 1) (acc.take q ++ r :: acc.drop q) := by
  refine ⟨pm.ins_inc h.1 hq (fun j hj => ?_) h2, fun y => ?_, ?_⟩
  · have h3 := h1 (by omega)
    by_cases e : j = q - 1
    · rw [e]; exact h3
    · have := pm.inc_get h.1 (show j < q - 1 by omega) (by omega)
      omega
  · rw [pm.ins_mem, mem_take_gs hk hr, h.2.1 y]
    constructor
    · rintro (e | e | e)
      · exact Or.inr (Or.inr e)
      · exact Or.inl e
      · exact Or.inr (Or.inl e)
    · rintro (e | e | e)
      · exact Or.inr (Or.inl e)
      · exact Or.inr (Or.inr e)
      · exact Or.inl e
  · have := h.2.2
    rw [List.length_append, List.length_cons, List.length_take, List.length_drop]; omega
theorem refg_end {l : List Lab} {g : Int} {k : Nat} {acc : List Int} (h : RefG l g k acc) (hk : l.length ≤ k) : acc = pm.set (0 :: gsOf l g) := by
  refine pm.ext h.1 (pm.set_inc _) fun y => ?_
  rw [h.2.1 y, pm.set_mem, List.mem_cons, List.take_of_length_le (by rw [gs_len]; exact hk)]
/-- the cells behind the copy and the store -/
theorem spliced (acc : List Int) (q : Nat) (hq : q ≤ acc.length) (r : Int) (cur : List Value) (x : Value) (hc : cur.take (acc.length + 1) = i64s acc ++ [x]) :
    ((splice cur (q + 1) ((i64s acc).drop q)).take (acc.length + 1)).set q (.int .i64 r) = i64s (acc.take q ++ r :: acc.drop q) := by
  have hl : (i64s acc).length = acc.length := i64s_len acc
  have hd : ((i64s acc).drop q).length = acc.length - q := by rw [List.length_drop, hl]
  have h5 : acc.length + 1 ≤ cur.length := by
    have := congrArg List.length hc
    rw [List.length_take, List.length_append, hl, List.length_singleton] at this; omega
  unfold splice
  have h1 : q + 1 + ((i64s acc).drop q).length = acc.length + 1 := by rw [hd]; omega
  rw [h1]
  obtain ⟨y, hy⟩ : ∃ y, cur.take (q + 1) = (i64s acc).take q ++ [y] := by
    have h3 : q < (i64s acc ++ [x]).length := by simp [hl]; omega
    have h6 : cur.take (q + 1) = (i64s acc ++ [x]).take (q + 1) := by rw [← hc, List.take_take]; congr 1; omega
    have h4 : (i64s acc ++ [x]).take q = (i64s acc).take q := by rw [List.take_append_of_le_length (by rw [hl]; exact hq)]
    exact ⟨_, by rw [h6, List.take_succ_eq_append_getElem h3, h4]⟩
  rw [hy]
  have h4 : ((i64s acc).take q).length = q := by rw [List.length_take, hl]; omega
  have h7 : ((i64s acc).take q ++ [y] ++ ((i64s acc).drop q ++ cur.drop (acc.length + 1))).take (acc.length + 1) = (i64s acc).take q ++ [y] ++ (i64s acc).drop q := by
    rw [← List.append_assoc, List.take_append_of_le_length (by simp [hl]; omega), List.take_of_length_le (by simp [hl]; omega)]
  rw [h7, List.append_assoc, List.set_append_right _ _ (by omega), h4]
  simp only [Nat.sub_self, List.cons_append, List.nil_append, List.set_cons_zero, i64s, List.map_append, List.map_cons, List.map_take, List.map_drop]
theorem spliced_own {w : World} {B e g2 c2 q : Nat} {acc : List Int} {x : Value} (hq : q ≤ acc.length) (r : Int) (h : w.ownsRow B e 1 (.slice (some ⟨g2, 0, none⟩) (acc.length + 1) c2) (acc.length + 1) (i64s acc ++ [x])) :
    ∃ cur : List Value, w.heap[g2]? = some (.cells cur.toArray e (0, 0)) ∧ B ≤ g2 ∧ acc.length + 1 ≤ c2 ∧ c2 ≤ maxLen ∧ cur.length = c2 ∧ ∀ w' : World, w'.heap[g2]? = some (.cells (splice cur (q + 1) ((i64s acc).drop q)).toArray e (0, 0)) →
      w'.ownsRow B e 1 (.slice (some ⟨g2, 0, none⟩) (acc.length + 1) c2) (acc.length + 1) ((splice cur (q + 1) ((i64s acc).drop q)).take (acc.length + 1)) ∧ ((splice cur (q + 1) ((i64s acc).drop q)).take (acc.length + 1)).set q (.int .i64 r) = i64s (acc.take q ++ r :: acc.drop q) := by
  obtain ⟨h0, h1 | ⟨g, cap, cur, hv, hb, hg, hn, hm, hs, ht⟩⟩ := h
  · exact absurd h1.1 (by simp)
  · simp only [Value.slice.injEq, Option.some.injEq, Addr.mk.injEq, and_true, true_and] at hv
    obtain ⟨rfl, rfl⟩ := hv
    have hcl : cur.toList.length = c2 := by rw [Array.length_toList, hs]; omega
    rw [Nat.mul_one] at ht
    have hd : ((i64s acc).drop q).length = acc.length - q := by rw [List.length_drop, i64s_len]
    have hsl : (splice cur.toList (q + 1) ((i64s acc).drop q)).length = c2 := by
      rw [length_splice _ _ _ (by rw [hd, hcl]; omega), hcl]
    refine ⟨cur.toList, by simpa using hg, hb, hn, hm, hcl, fun w' hw => ⟨⟨?_, Or.inr ⟨g2, c2, _, rfl, hb, hw, hn, hm, ?_, ?_⟩⟩, spliced acc q hq r _ x ht⟩⟩
    · rw [List.length_take, hsl]; omega
    · rw [List.size_toArray, hsl]; omega
    · rw [Nat.mul_one]

set_option maxHeartbeats 6400000 in
set_option maxRecDepth 100000 in
theorem rgroups_any (l : List Lab) (v : Value) (g : Int) (w : World) (h : Labs w w.heap.size v l) (hf : Fit l) :
    Calls Try.prog 14 #[v, .int .i64 g] w (Owned (pm.set (0 :: gsOf l g)) w) := by
  have HF := Lib.hid hf
  obtain ⟨n, hn⟩ : ∃ n, n = l.length := ⟨_, rfl⟩
  have hn60 : n ≤ 60 := by rw [hn]; exact hf.1
  obtain ⟨ao, cap, rfl⟩ : ∃ ao cap, v = .slice ao n cap := by
    obtain ⟨ao, cap, e, _⟩ := h.form
    exact ⟨ao, cap, by rw [hn]; exact e⟩
  have HC := Lib.hid h
  have HN := Lib.hid hn
  clear hf h hn
  go_enter Try.func14, Try.ntmps14
  go_wp2
  go_loopw [5, 7, 8, 9, 13] (fun vo _ _ _ i wr => ∃ (k : Nat) (acc : List Int), i = .int .i64 k ∧ k ≤ n ∧ Hid (RefG l g k acc) ∧ Hid (wr.ownsRow w.heap.size 3 1 vo acc.length (i64s acc)) ∧ Below w.heap.size w wr) (fun _ _ _ _ i _ => n - (intOf i).toNat)
  case atStart => exact ⟨0, [0], rfl, by omega, refg_start l g, World.ownsRow_lit _ _ _ (Nat.le_refl _) (by simp [maxLen]) rfl, (Below.refl _ _).alloc (Nat.le_refl _) _⟩
  case round =>
    obtain ⟨wo, rfl⟩ : ∃ y : World, y = wr := ⟨_, rfl⟩
    obtain ⟨k, acc, rfl, hk, HR, HO, hbl⟩ := hrel
    have hzr := hbl.size
    by_cases hlt : k < n
    · have hkl : k < l.length := by rw [← HN.out]; exact hlt
      obtain ⟨b, off, rfl, hB, x0, x1⟩ := Labs.get HC.out HN.out hlt
      have hsz := fit_get HF.out hkl
      obtain ⟨r, hr⟩ : ∃ r, r = grp (kit.bytes (l.getD k (.empty, .empty)).1) g := ⟨_, rfl⟩
      have HRG := Lib.hid hr
      obtain ⟨⟨xa, xb⟩, hx⟩ : ∃ x, x = l.getD k (.empty, .empty) := ⟨_, rfl⟩
      rw [← hx] at x0 x1 hsz hr
      have c0 := (hbl.cell (p := ⟨b, off + k * 2, none⟩) hB).trans x0
      have c1 := (hbl.cell (p := ⟨b, off + k * 2 + 1, none⟩) hB).trans x1
      simp only at c0 c1 hsz hr
      have HG : Hid (∀ W : World, Calls Try.prog 11 #[.string xa, .int .i64 g] W fun e w' => e = .returned (.int .i64 r) ∧ W = w') := fun W => by rw [hr]; exact rgroup_any xa g W (by omega)
      have hkI : (k : Int) < (n : Int) := by omega
      have hbl2 := hbl.alloc hzr (.cells #[.string xa, .string xb] 41)
      have h0in : (0 : Int) ∈ acc := (HR.out.2.1 0).2 (Or.inl rfl)
      have hal := HR.out.2.2
      obtain ⟨q0, hq0⟩ : ∃ q, q = acc.length := ⟨_, rfl⟩
      have HQ0 := Lib.hid hq0
      have hq0p : 0 < q0 := by rw [hq0]; exact List.length_pos_of_mem h0in
      have hO := HO.out
      rw [← hq0] at hO hal
      obtain ⟨g1, c9, rfl⟩ := ownsRow_form hO hq0p
      have HO2 := Lib.hid (hO.alloc (.cells #[.string xa, .string xb] 41))
      have HAT : Hid (∀ j, j < q0 → (wo.alloc (.cells #[.string xa, .string xb] 41)).cell? ⟨g1, j, none⟩ = some (.int .i64 (acc.getD j 0))) := fun j hj => by
        rw [HO2.out.cellAt j (by omega)]
        have hj2 : j < acc.length := by rw [← hq0]; exact hj
        simp [i64s, List.getD, hj2]
      generalize hW1 : wo.alloc (.cells #[.string xa, .string xb] 41) = W1 at HO2 HAT hbl2
      have HW1 := Lib.hid hW1
      clear hx hr x0 x1 hO h0in hq0 HO hW1
      go_wp2_with (go_at_call 11; (with_reducible refine (HG.out _).mono ?_); rintro e w9 ⟨rfl, rfl⟩)
      rw [HW1.out]
      go_loop [9] (fun kk => ∃ q : Nat, kk = .int .i64 q ∧ q ≤ q0 ∧ Hid (∀ j, q ≤ j → j < q0 → r < acc.getD j 0)) (fun kk => (intOf kk).toNat)
      case atStart => exact ⟨q0, rfl, by omega, fun j h1 h2 => by omega⟩
      case round =>
        obtain ⟨q, rfl, hq, HQ⟩ := hrel
        by_cases h0 : q = 0
        · subst h0
          go_wp2_with (at_builtin; refine kit.app1 (.tmp 47) (.tmp 48) 27 rfl rfl w.heap.size Try.underlying27 infoInt rfl (by decide) (by decide) HO2.out rfl rfl rfl (by intro u hu; simp at hu; subst hu; rfl) (by omega) (by have := hbl2.size; exact this) ?_)
          intro v' w5 hown' hb5
          obtain ⟨g2, c2, rfl⟩ := ownsRow_form hown' (Nat.succ_pos _)
          have hbl5 := hbl2.trans hb5
          obtain ⟨cur, hg5, hBg, hm5, hcm, hcl, hsp⟩ := spliced_own (q := 0) (acc := acc) (by rw [← HQ0.out]; omega) r (by rw [← HQ0.out]; exact hown')
          have HRn : Hid (RefG l g (k + 1) (acc.take (0) ++ r :: acc.drop (0))) := refg_ins HR.out hkl HRG.out (by rw [← HQ0.out]; omega) (fun h => absurd h (by omega)) (by rw [← HQ0.out]; exact fun j a b => HQ.out j a b)
          have HLn : Hid ((acc.take (0) ++ r :: acc.drop (0)).length = q0 + 1) := by
            show _ = _
            rw [List.length_append, List.length_cons, List.length_take, List.length_drop, ← HQ0.out]; omega
          rw [← HQ0.out] at hm5 hsp
          have HSRC : Hid (∀ j v, ((i64s acc).drop (0))[j]? = some v → w5.drew.cell? ((⟨g2, 0, none⟩ : Addr).add j) = some v) := fun j v hj => by
            rw [List.getElem?_drop] at hj
            have hjl : 0 + j < acc.length := by
              have := (List.getElem?_eq_some_iff.1 hj).1
              rw [i64s_len] at this; exact this
            rw [Addr.add_lit]
            show w5.cell? _ = _
            rw [hown'.cellAt (0 + j) (by rw [← HQ0.out] at hjl; omega)]
            rw [List.getElem?_append_left (by rw [i64s_len]; exact hjl)]; exact hj
          have HONE : Hid (∀ v ∈ (i64s acc).drop (0), v.oneCell' = true) := fun v hv => by
            have := List.mem_of_mem_drop hv
            unfold i64s at this
            obtain ⟨z, _, rfl⟩ := List.mem_map.1 this
            rfl
          have HCL : Hid (((i64s acc).drop (0)).length = q0 - (0)) := by
            show _ = _
            rw [List.length_drop, i64s_len, ← HQ0.out]
          obtain ⟨cs, hcs⟩ : ∃ cs, cs = (i64s acc).drop (0) := ⟨_, rfl⟩
          rw [← hcs] at hsp HSRC HONE HCL
          obtain ⟨fin, hfin⟩ : ∃ fin, fin = acc.take (0) ++ r :: acc.drop (0) := ⟨_, rfl⟩
          rw [← hfin] at hsp HRn HLn
          have HSP := Lib.hid hsp
          have hdl : Hid (w5.drew.heap[g2]? = some (.cells cur.toArray 3 (0, 0))) := hg5
          have hbl5d : Below w.heap.size w w5.drew := hbl5.drew
          clear hsp hcs hown' hg5 hfin
          have hc1 : ¬ c2 = 1 := by omega
          have hc0 : ¬ c2 = 0 := by omega
          have hc2 : 1 ≤ c2 := by omega
          have wa : IntKind.i64.wrap 1 = 1 := IntWalk.i64_in _ (by omega)
          have wb : (1 : Int).toNat = 1 := rfl
          have wc : (1 : Int) ≤ (q0 : Int) + 1 := by omega
          have wz : (0 : Int) ≤ (q0 : Int) + 1 := by omega
          go_wp2
          go_region_law (refine step_copy_splice rfl (.tmp 53) (.tmp 56) 27 27 rfl 3 Try.underlying27 rfl (some ⟨g2, 1, none⟩) (some ⟨g2, 0, none⟩) q0 (c2 - 1) (q0 + 1) c2 (by simp [Act.eval, Act.put]) (by simp [Act.eval, Act.put]) g2 (0 + 1) cur 3 hdl.out cs (by rw [HCL.out]; simp) (fun _ => ⟨rfl, _, rfl, HSRC.out⟩) (by rw [HCL.out]; omega) HONE.out w.heap.size w hbl5d hBg ?_; intro w6 HG6 hB6)
          all_goals
            have HOS := HSP.out w6 HG6.out
            obtain ⟨u6, c6⟩ : ∃ u6, w6.cell? ⟨g2, 0, none⟩ = some u6 := by
              rw [HOS.1.cellAt (0) (by omega)]
              exact ⟨_, List.getElem?_eq_getElem (by have := HOS.1.1; omega)⟩
            have f6 := HOS.1.frozenAt (0)
            have HS6 : Hid ((w6.setCell ⟨g2, 0, none⟩ (.int .i64 r)).ownsRow w.heap.size 3 1 (.slice (some ⟨g2, 0, none⟩) (q0 + 1) c2) fin.length (i64s fin)) := by
              have := HOS.1.stored (0) (.int .i64 r)
              rw [HOS.2] at this
              rw [HLn.out]; exact this.1
            have hB7 := hB6.setCell (p := ⟨g2, 0, none⟩) hBg (.int .i64 r)
            clear HOS
            go_wp2
            go_roundw
            case rel => exact ⟨k + 1, fin, by go_num, by omega, HRn, HS6, hB7⟩
            case measure => simp [intOf]; omega
        · obtain ⟨p, rfl⟩ : ∃ p, q = p + 1 := ⟨q - 1, by omega⟩
          have cm := HAT.out p (by omega)
          obtain ⟨y, hy⟩ : ∃ y, y = acc.getD p 0 := ⟨_, rfl⟩
          rw [← hy] at cm
          have HY := Lib.hid hy
          clear hy
          have hpI : (0 : Int) ≤ (p : Int) := by omega
          have hpQ : (p : Int) < (q0 : Int) := by omega
          by_cases hgt : r < y
          · go_wp2
            go_round
            case rel => exact ⟨p, by go_num, by omega, fun j h1 h2 => by
              by_cases e : j = p
              · rw [e, ← HY.out]; exact hgt
              · exact HQ.out j (by omega) h2⟩
            case measure => simp [intOf]
          · by_cases heq : y = r
            · subst heq
              have HRn : Hid (RefG l g (k + 1) acc) := refg_same HR.out hkl HRG.out (by
                rw [HY.out]; have : p < acc.length := by rw [← HQ0.out]; omega
                simp [List.getD, this])
              go_wp2
              go_roundw
              case rel => exact ⟨k + 1, acc, by go_num, by omega, HRn, by rw [← HQ0.out]; exact HO2.out, hbl2⟩
              case measure => simp [intOf]; omega
            · by_cases hpq : p + 1 < q0
              · go_wp2_with (at_builtin; refine kit.app1 (.tmp 47) (.tmp 48) 27 rfl rfl w.heap.size Try.underlying27 infoInt rfl (by decide) (by decide) HO2.out rfl rfl rfl (by intro u hu; simp at hu; subst hu; rfl) (by omega) (by have := hbl2.size; exact this) ?_)
                intro v' w5 hown' hb5
                obtain ⟨g2, c2, rfl⟩ := ownsRow_form hown' (Nat.succ_pos _)
                have hbl5 := hbl2.trans hb5
                obtain ⟨cur, hg5, hBg, hm5, hcm, hcl, hsp⟩ := spliced_own (q := p + 1) (acc := acc) (by rw [← HQ0.out]; omega) r (by rw [← HQ0.out]; exact hown')
                have HRn : Hid (RefG l g (k + 1) (acc.take (p + 1) ++ r :: acc.drop (p + 1))) := refg_ins HR.out hkl HRG.out (by rw [← HQ0.out]; omega) (fun _ => by rw [Nat.add_sub_cancel, ← HY.out]; omega) (by rw [← HQ0.out]; exact fun j a b => HQ.out j a b)
                have HLn : Hid ((acc.take (p + 1) ++ r :: acc.drop (p + 1)).length = q0 + 1) := by
                  show _ = _
                  rw [List.length_append, List.length_cons, List.length_take, List.length_drop, ← HQ0.out]; omega
                rw [← HQ0.out] at hm5 hsp
                have HSRC : Hid (∀ j v, ((i64s acc).drop (p + 1))[j]? = some v → w5.drew.cell? ((⟨g2, p + 1, none⟩ : Addr).add j) = some v) := fun j v hj => by
                  rw [List.getElem?_drop] at hj
                  have hjl : p + 1 + j < acc.length := by
                    have := (List.getElem?_eq_some_iff.1 hj).1
                    rw [i64s_len] at this; exact this
                  rw [Addr.add_lit]
                  show w5.cell? _ = _
                  rw [hown'.cellAt (p + 1 + j) (by rw [← HQ0.out] at hjl; omega)]
                  rw [List.getElem?_append_left (by rw [i64s_len]; exact hjl)]; exact hj
                have HONE : Hid (∀ v ∈ (i64s acc).drop (p + 1), v.oneCell' = true) := fun v hv => by
                  have := List.mem_of_mem_drop hv
                  unfold i64s at this
                  obtain ⟨z, _, rfl⟩ := List.mem_map.1 this
                  rfl
                have HCL : Hid (((i64s acc).drop (p + 1)).length = q0 - (p + 1)) := by
                  show _ = _
                  rw [List.length_drop, i64s_len, ← HQ0.out]
                obtain ⟨cs, hcs⟩ : ∃ cs, cs = (i64s acc).drop (p + 1) := ⟨_, rfl⟩
                rw [← hcs] at hsp HSRC HONE HCL
                obtain ⟨fin, hfin⟩ : ∃ fin, fin = acc.take (p + 1) ++ r :: acc.drop (p + 1) := ⟨_, rfl⟩
                rw [← hfin] at hsp HRn HLn
                have HSP := Lib.hid hsp
                have hdl : Hid (w5.drew.heap[g2]? = some (.cells cur.toArray 3 (0, 0))) := hg5
                have hbl5d : Below w.heap.size w w5.drew := hbl5.drew
                clear hsp hcs hown' hg5 hfin
                have wa : IntKind.i64.wrap ((p : Int) + 1 + 1) = (p : Int) + 1 + 1 := IntWalk.i64_in _ (by omega)
                have wb : ((p : Int) + 1 + 1).toNat = p + 1 + 1 := by omega
                have wa1 : IntKind.i64.wrap ((p : Int) + 1) = (p : Int) + 1 := IntWalk.i64_in _ (by omega)
                have wb1 : ((p : Int) + 1).toNat = p + 1 := by omega
                have wz : (0 : Int) ≤ (p : Int) + 1 + 1 := by omega
                have wz1 : (0 : Int) ≤ (p : Int) + 1 := by omega
                have wc : (p : Int) + 1 + 1 ≤ (q0 : Int) + 1 := by omega
                have wc1 : (p : Int) + 1 ≤ (q0 : Int) + 1 := by omega
                have hc1 : ¬ c2 = p + 1 + 1 := by omega
                have hc0 : ¬ c2 = p + 1 := by omega
                go_wp2
                go_region_law (refine step_copy_splice rfl (.tmp 53) (.tmp 56) 27 27 rfl 3 Try.underlying27 rfl (some ⟨g2, p + 1 + 1, none⟩) (some ⟨g2, p + 1, none⟩) (q0 - (p + 1)) (c2 - (p + 1 + 1)) (q0 + 1 - (p + 1)) (c2 - (p + 1)) (by simp [Act.eval, Act.put]) (by simp [Act.eval, Act.put]) g2 (p + 1 + 1) cur 3 hdl.out cs (by rw [HCL.out]; simp [Nat.min_def]; try omega) (fun _ => ⟨rfl, _, rfl, HSRC.out⟩) (by rw [HCL.out]; omega) HONE.out w.heap.size w hbl5d hBg ?_; intro w6 HG6 hB6)
                all_goals
                  have HOS := HSP.out w6 HG6.out
                  obtain ⟨u6, c6⟩ : ∃ u6, w6.cell? ⟨g2, p + 1, none⟩ = some u6 := by
                    rw [HOS.1.cellAt (p + 1) (by omega)]
                    exact ⟨_, List.getElem?_eq_getElem (by have := HOS.1.1; omega)⟩
                  have f6 := HOS.1.frozenAt (p + 1)
                  have HS6 : Hid ((w6.setCell ⟨g2, p + 1, none⟩ (.int .i64 r)).ownsRow w.heap.size 3 1 (.slice (some ⟨g2, 0, none⟩) (q0 + 1) c2) fin.length (i64s fin)) := by
                    have := HOS.1.stored (p + 1) (.int .i64 r)
                    rw [HOS.2] at this
                    rw [HLn.out]; exact this.1
                  have hB7 := hB6.setCell (p := ⟨g2, p + 1, none⟩) hBg (.int .i64 r)
                  clear HOS
                  go_wp2
                  go_roundw
                  case rel => exact ⟨k + 1, fin, by go_num, by omega, HRn, HS6, hB7⟩
                  case measure => simp [intOf]; omega
              · obtain rfl : q0 = p + 1 := by omega
                go_wp2_with (at_builtin; refine kit.app1 (.tmp 47) (.tmp 48) 27 rfl rfl w.heap.size Try.underlying27 infoInt rfl (by decide) (by decide) HO2.out rfl rfl rfl (by intro u hu; simp at hu; subst hu; rfl) (by omega) (by have := hbl2.size; exact this) ?_)
                intro v' w5 hown' hb5
                obtain ⟨g2, c2, rfl⟩ := ownsRow_form hown' (Nat.succ_pos _)
                have hbl5 := hbl2.trans hb5
                by_cases HC2 : c2 = p + 1 + 1
                · obtain ⟨cur, hg5, hBg, hm5, hcm, hcl, hsp⟩ := spliced_own (q := p + 1) (acc := acc) (by rw [← HQ0.out]; omega) r (by rw [← HQ0.out]; exact hown')
                  have HRn : Hid (RefG l g (k + 1) (acc.take (p + 1) ++ r :: acc.drop (p + 1))) := refg_ins HR.out hkl HRG.out (by rw [← HQ0.out]; omega) (fun _ => by rw [Nat.add_sub_cancel, ← HY.out]; omega) (by rw [← HQ0.out]; exact fun j a b => HQ.out j a b)
                  have HLn : Hid ((acc.take (p + 1) ++ r :: acc.drop (p + 1)).length = (p + 1) + 1) := by
                    show _ = _
                    rw [List.length_append, List.length_cons, List.length_take, List.length_drop, ← HQ0.out]; omega
                  rw [← HQ0.out] at hm5 hsp
                  have HSRC : Hid (∀ j v, ((i64s acc).drop (p + 1))[j]? = some v → w5.drew.cell? ((⟨g2, p + 1, none⟩ : Addr).add j) = some v) := fun j v hj => by
                    rw [List.getElem?_drop] at hj
                    have hjl : p + 1 + j < acc.length := by
                      have := (List.getElem?_eq_some_iff.1 hj).1
                      rw [i64s_len] at this; exact this
                    rw [Addr.add_lit]
                    show w5.cell? _ = _
                    rw [hown'.cellAt (p + 1 + j) (by rw [← HQ0.out] at hjl; omega)]
                    rw [List.getElem?_append_left (by rw [i64s_len]; exact hjl)]; exact hj
                  have HONE : Hid (∀ v ∈ (i64s acc).drop (p + 1), v.oneCell' = true) := fun v hv => by
                    have := List.mem_of_mem_drop hv
                    unfold i64s at this
                    obtain ⟨z, _, rfl⟩ := List.mem_map.1 this
                    rfl
                  have HCL : Hid (((i64s acc).drop (p + 1)).length = (p + 1) - (p + 1)) := by
                    show _ = _
                    rw [List.length_drop, i64s_len, ← HQ0.out]
                  obtain ⟨cs, hcs⟩ : ∃ cs, cs = (i64s acc).drop (p + 1) := ⟨_, rfl⟩
                  rw [← hcs] at hsp HSRC HONE HCL
                  obtain ⟨fin, hfin⟩ : ∃ fin, fin = acc.take (p + 1) ++ r :: acc.drop (p + 1) := ⟨_, rfl⟩
                  rw [← hfin] at hsp HRn HLn
                  have HSP := Lib.hid hsp
                  have hdl : Hid (w5.drew.heap[g2]? = some (.cells cur.toArray 3 (0, 0))) := hg5
                  have hbl5d : Below w.heap.size w w5.drew := hbl5.drew
                  clear hsp hcs hown' hg5 hfin
                  have wa : IntKind.i64.wrap ((p : Int) + 1 + 1) = (p : Int) + 1 + 1 := IntWalk.i64_in _ (by omega)
                  have wb : ((p : Int) + 1 + 1).toNat = p + 1 + 1 := by omega
                  have wa1 : IntKind.i64.wrap ((p : Int) + 1) = (p : Int) + 1 := IntWalk.i64_in _ (by omega)
                  have wb1 : ((p : Int) + 1).toNat = p + 1 := by omega
                  have wz : (0 : Int) ≤ (p : Int) + 1 + 1 := by omega
                  have wz1 : (0 : Int) ≤ (p : Int) + 1 := by omega
                  have wc1 : (p : Int) + 1 ≤ (p : Int) + 1 + 1 := by omega
                  obtain rfl : c2 = p + 1 + 1 := HC2
                  go_wp2
                  go_region_law (refine step_copy_splice rfl (.tmp 53) (.tmp 56) 27 27 rfl 3 Try.underlying27 rfl (some ⟨g2, 0, none⟩) (some ⟨g2, p + 1, none⟩) 0 0 1 1 (by simp [Act.eval, Act.put]) (by simp [Act.eval, Act.put]) g2 (p + 1 + 1) cur 3 hdl.out cs (by rw [HCL.out]; simp) (fun h => absurd h (by rw [HCL.out]; omega)) (by rw [HCL.out]; omega) HONE.out w.heap.size w hbl5d hBg ?_; intro w6 HG6 hB6)
                  all_goals
                    have HOS := HSP.out w6 HG6.out
                    obtain ⟨u6, c6⟩ : ∃ u6, w6.cell? ⟨g2, p + 1, none⟩ = some u6 := by
                      rw [HOS.1.cellAt (p + 1) (by omega)]
                      exact ⟨_, List.getElem?_eq_getElem (by have := HOS.1.1; omega)⟩
                    have f6 := HOS.1.frozenAt (p + 1)
                    have HS6 : Hid ((w6.setCell ⟨g2, p + 1, none⟩ (.int .i64 r)).ownsRow w.heap.size 3 1 (.slice (some ⟨g2, 0, none⟩) ((p + 1) + 1) (p + 1 + 1)) fin.length (i64s fin)) := by
                      have := HOS.1.stored (p + 1) (.int .i64 r)
                      rw [HOS.2] at this
                      rw [HLn.out]; exact this.1
                    have hB7 := hB6.setCell (p := ⟨g2, p + 1, none⟩) hBg (.int .i64 r)
                    clear HOS
                    go_wp2
                    go_roundw
                    case rel => exact ⟨k + 1, fin, by go_num, by omega, HRn, HS6, hB7⟩
                    case measure => simp [intOf]; omega
                · have hc1 := HC2
                  obtain ⟨cur, hg5, hBg, hm5, hcm, hcl, hsp⟩ := spliced_own (q := p + 1) (acc := acc) (by rw [← HQ0.out]; omega) r (by rw [← HQ0.out]; exact hown')
                  have HRn : Hid (RefG l g (k + 1) (acc.take (p + 1) ++ r :: acc.drop (p + 1))) := refg_ins HR.out hkl HRG.out (by rw [← HQ0.out]; omega) (fun _ => by rw [Nat.add_sub_cancel, ← HY.out]; omega) (by rw [← HQ0.out]; exact fun j a b => HQ.out j a b)
                  have HLn : Hid ((acc.take (p + 1) ++ r :: acc.drop (p + 1)).length = (p + 1) + 1) := by
                    show _ = _
                    rw [List.length_append, List.length_cons, List.length_take, List.length_drop, ← HQ0.out]; omega
                  rw [← HQ0.out] at hm5 hsp
                  have HSRC : Hid (∀ j v, ((i64s acc).drop (p + 1))[j]? = some v → w5.drew.cell? ((⟨g2, p + 1, none⟩ : Addr).add j) = some v) := fun j v hj => by
                    rw [List.getElem?_drop] at hj
                    have hjl : p + 1 + j < acc.length := by
                      have := (List.getElem?_eq_some_iff.1 hj).1
                      rw [i64s_len] at this; exact this
                    rw [Addr.add_lit]
                    show w5.cell? _ = _
                    rw [hown'.cellAt (p + 1 + j) (by rw [← HQ0.out] at hjl; omega)]
                    rw [List.getElem?_append_left (by rw [i64s_len]; exact hjl)]; exact hj
                  have HONE : Hid (∀ v ∈ (i64s acc).drop (p + 1), v.oneCell' = true) := fun v hv => by
                    have := List.mem_of_mem_drop hv
                    unfold i64s at this
                    obtain ⟨z, _, rfl⟩ := List.mem_map.1 this
                    rfl
                  have HCL : Hid (((i64s acc).drop (p + 1)).length = (p + 1) - (p + 1)) := by
                    show _ = _
                    rw [List.length_drop, i64s_len, ← HQ0.out]
                  obtain ⟨cs, hcs⟩ : ∃ cs, cs = (i64s acc).drop (p + 1) := ⟨_, rfl⟩
                  rw [← hcs] at hsp HSRC HONE HCL
                  obtain ⟨fin, hfin⟩ : ∃ fin, fin = acc.take (p + 1) ++ r :: acc.drop (p + 1) := ⟨_, rfl⟩
                  rw [← hfin] at hsp HRn HLn
                  have HSP := Lib.hid hsp
                  have hdl : Hid (w5.drew.heap[g2]? = some (.cells cur.toArray 3 (0, 0))) := hg5
                  have hbl5d : Below w.heap.size w w5.drew := hbl5.drew
                  clear hsp hcs hown' hg5 hfin
                  have wa : IntKind.i64.wrap ((p : Int) + 1 + 1) = (p : Int) + 1 + 1 := IntWalk.i64_in _ (by omega)
                  have wb : ((p : Int) + 1 + 1).toNat = p + 1 + 1 := by omega
                  have wa1 : IntKind.i64.wrap ((p : Int) + 1) = (p : Int) + 1 := IntWalk.i64_in _ (by omega)
                  have wb1 : ((p : Int) + 1).toNat = p + 1 := by omega
                  have wz : (0 : Int) ≤ (p : Int) + 1 + 1 := by omega
                  have wz1 : (0 : Int) ≤ (p : Int) + 1 := by omega
                  have wc1 : (p : Int) + 1 ≤ (p : Int) + 1 + 1 := by omega
                  have hc0 : ¬ c2 = p + 1 := by omega
                  go_wp2
                  go_region_law (refine step_copy_splice rfl (.tmp 53) (.tmp 56) 27 27 rfl 3 Try.underlying27 rfl (some ⟨g2, p + 1 + 1, none⟩) (some ⟨g2, p + 1, none⟩) 0 (c2 - (p + 1 + 1)) 1 (c2 - (p + 1)) (by simp [Act.eval, Act.put]) (by simp [Act.eval, Act.put]) g2 (p + 1 + 1) cur 3 hdl.out cs (by rw [HCL.out]; simp) (fun h => absurd h (by rw [HCL.out]; omega)) (by rw [HCL.out]; omega) HONE.out w.heap.size w hbl5d hBg ?_; intro w6 HG6 hB6)
                  all_goals
                    have HOS := HSP.out w6 HG6.out
                    obtain ⟨u6, c6⟩ : ∃ u6, w6.cell? ⟨g2, p + 1, none⟩ = some u6 := by
                      rw [HOS.1.cellAt (p + 1) (by omega)]
                      exact ⟨_, List.getElem?_eq_getElem (by have := HOS.1.1; omega)⟩
                    have f6 := HOS.1.frozenAt (p + 1)
                    have HS6 : Hid ((w6.setCell ⟨g2, p + 1, none⟩ (.int .i64 r)).ownsRow w.heap.size 3 1 (.slice (some ⟨g2, 0, none⟩) ((p + 1) + 1) c2) fin.length (i64s fin)) := by
                      have := HOS.1.stored (p + 1) (.int .i64 r)
                      rw [HOS.2] at this
                      rw [HLn.out]; exact this.1
                    have hB7 := hB6.setCell (p := ⟨g2, p + 1, none⟩) hBg (.int .i64 r)
                    clear HOS
                    go_wp2
                    go_roundw
                    case rel => exact ⟨k + 1, fin, by go_num, by omega, HRn, HS6, hB7⟩
                    case measure => simp [intOf]; omega
    · have HE := Lib.hid (refg_end HR.out (by rw [← HN.out]; omega))
      go_wp2
      go_ret
      rw [← HE.out]; exact ⟨_, rfl, HO.out, hbl⟩
end Go.Proofs.Ythhkocbfeiccdaa
