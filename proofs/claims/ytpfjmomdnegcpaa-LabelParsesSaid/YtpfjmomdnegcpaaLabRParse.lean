/- the document's Parse of labels. -/
import Derived.Test.YtpfjmomdnegcpaaLabParse
import Derived.Test.YtpfjmomdnegcpaaLabRText
import Derived.Test.YtpfjmomdnegcpaaLabRVal
namespace Go.Proofs.Ytpfjmomdnegcpaa.lm
open Go.RowKit
/-- .. where more labels are to come -/
def AtS (s : ByteArray) (L : List Lab) (r : ByteArray) : Prop := ∀ l0, textF l0 = (0, s) → ∃ j, j < l0.length ∧ L = l0.take j ∧ kit.bytes r = (behind (l0.drop j)).drop 1
theorem ats_start {s : ByteArray} {p : Nat} (hp : p + 1 = s.size) : AtS s [] (s.extract 1 p) := fun l0 h => ⟨0, List.length_pos_iff.2 (text_bytes h).2.2, rfl, by rw [text_mid h hp]; rfl⟩
theorem ats_more {s r : ByteArray} {L : List Lab} (h : AtS s L r) {l0 : List Lab} (h0 : textF l0 = (0, s)) : ∃ x0 t, good x0 = true ∧ kit.bytes r = oneT x0 ++ t ∧ ∃ j, j < l0.length ∧ L = l0.take j ∧ x0 = l0.getD j (.empty, .empty) ∧ t = behind (l0.drop (j + 1)) := by
  obtain ⟨j, hjl, hL, hb⟩ := h l0 h0
  rw [List.drop_eq_getElem_cons hjl, behind_cons] at hb
  exact ⟨l0[j], _, (text_bytes h0).2.1 _ (List.getElem_mem _), hb, j, hjl, hL, by simp [List.getD, hjl], rfl⟩
/-- the sign at the name's end -/
theorem name_end {x0 : Lab} {t : List Nat} {r : ByteArray} {a : Nat} (hg : good x0 = true) (hr : kit.bytes r = oneT x0 ++ t) (hno : ∀ i, i < a → (kit.bytes r).getD i 0 ≠ 61) (ha : a ≤ r.size) (hat : a = r.size ∨ (kit.bytes r).getD a 0 = 61) :
    a < r.size ∧ r.extract 0 a = x0.1 ∧ (kit.bytes r).drop (a + 1) = 34 :: (escN (kit.bytes x0.2) ++ 34 :: t) := by
  have hr' : kit.bytes r = kit.bytes x0.1 ++ 61 :: (34 :: (escN (kit.bytes x0.2) ++ 34 :: t)) := by rw [hr]; unfold oneT; simp
  have hlen := congrArg List.length hr'
  rw [kit.bytes_len, List.length_append, kit.bytes_len] at hlen
  simp only [List.length_cons] at hlen
  have hat0 : (kit.bytes r).getD x0.1.size 0 = 61 := by
    rw [hr']
    simp [List.getD, kit.bytes_len]
  have hle : a ≤ x0.1.size := by
    rcases Nat.lt_or_ge x0.1.size a with h | h
    · exact absurd hat0 (hno _ h)
    · exact h
  have hge : x0.1.size ≤ a := by
    rcases Nat.lt_or_ge a x0.1.size with h | h
    · rcases hat with e | e
      · omega
      · rw [hr'] at e
        have h1 : a < (kit.bytes x0.1).length := by rw [kit.bytes_len]; exact h
        have h2 : (kit.bytes x0.1 ++ 61 :: (34 :: (escN (kit.bytes x0.2) ++ 34 :: t))).getD a 0 = (kit.bytes x0.1)[a] := by
          simp [List.getD, List.getElem?_append_left h1, List.getElem?_eq_getElem h1]
        rw [h2] at e
        exact absurd (by rw [← e]; exact List.getElem_mem h1) (good_no61 hg)
    · exact h
  obtain rfl : a = x0.1.size := by omega
  refine ⟨by omega, ?_, ?_⟩
  · apply kit.bytes_inj
    show List.map UInt8.toNat (r.extract 0 _).data.toList = _
    rw [ByteArray.data_extract, Array.toList_extract, List.extract_eq_take_drop, List.map_take, List.map_drop, List.drop_zero, Nat.sub_zero]
    show (kit.bytes r).take _ = _
    rw [hr', List.take_left' (by rw [kit.bytes_len])]
  · rw [hr', List.drop_append, List.drop_eq_nil_of_le (by rw [kit.bytes_len]; omega), kit.bytes_len]
    have : x0.1.size + 1 - x0.1.size = 1 := by omega
    rw [this]; rfl
end Go.Proofs.Ytpfjmomdnegcpaa.lm
namespace Go.Proofs.Ytpfjmomdnegcpaa
open Go.RowKit Go.ChangeShapes cl

set_option maxHeartbeats 3200000 in
set_option maxRecDepth 100000 in
theorem rparse_any (s : ByteArray) (w : World) (hs : s.size ≤ maxLen) :
    Calls Try.prog 23 #[.string s] w (ParseP s w) := by
  unfold maxLen at hs
  by_cases h6 : 600 < s.size
  · have h6I : (600 : Int) < (s.size : Int) := by omega
    have HRET : Hid (ParseP s w (.returned (.tuple #[.slice none 0 0, .int .i64 4])) w) := ⟨(4, []), ret8 rfl (Below.refl _ _), Or.inl ⟨h6, rfl⟩⟩
    go_enter Try.func23, Try.ntmps23
    go_wp2
    exact bodyPost_ret (v := .tuple #[.slice none 0 0, .int .i64 4]) (by simp [results, Try.results23, go_sem]) rfl HRET.out
  have h6I : ¬ (600 : Int) < (s.size : Int) := by omega
  have HRB : Hid (∀ W, (∀ l, lm.textF l = (0, s) → False) → Below w.heap.size w W → ParseP s w (.returned (.tuple #[.slice none 0 0, .int .i64 3])) W) := fun W hn hb => parse_bad h6 hn hb
  have HN6 := Lib.hid h6
  by_cases h2 : s.size < 2
  · have h2I : (s.size : Int) < 2 := by omega
    have HRET := Lib.hid (HRB.out w (fun l h => by have := (lm.text_ends h).1; omega) (Below.refl _ _))
    go_enter Try.func23, Try.ntmps23
    go_wp2
    exact bodyPost_ret (v := .tuple #[.slice none 0 0, .int .i64 3]) (by simp [results, Try.results23, go_sem]) rfl HRET.out
  have h2I : ¬ (s.size : Int) < 2 := by omega
  have h0 : 0 < s.size := by omega
  have h0I : (0 : Int) < (s.size : Int) := by omega
  by_cases hA : (s[0]'h0).toNat = 123
  rotate_left
  · have hAi : ¬ ((s[0]'h0).toNat : Int) = 123 := by omega
    have hAb : (((s[0]'h0).toNat : Int) != 123) = true := by simpa using hAi
    have hAc : (((s[0]'h0).toNat : Int) == 123) = false := by simpa using hAi
    have HRET := Lib.hid (HRB.out w (fun l h => hA ((lm.text_ends h).2.1 h0)) (Below.refl _ _))
    clear hA
    go_enter Try.func23, Try.ntmps23
    go_wp2
    exact bodyPost_ret (v := .tuple #[.slice none 0 0, .int .i64 3]) (by simp [results, Try.results23, go_sem]) rfl HRET.out
  have hAi : ((s[0]'h0).toNat : Int) = 123 := by omega
  have hAb : (((s[0]'h0).toNat : Int) != 123) = false := by rw [hAi]; rfl
  have hAc : (((s[0]'h0).toNat : Int) == 123) = true := by rw [hAi]; rfl
  obtain ⟨p, hp⟩ : ∃ p, p + 1 = s.size := ⟨s.size - 1, by omega⟩
  have HP := Lib.hid hp
  have hpl : p < s.size := by omega
  have hpI : (s.size : Int) - 1 = (p : Int) := by omega
  have hpI2 : (p : Int) < (s.size : Int) := by omega
  have hpI3 : (0 : Int) ≤ (p : Int) := by omega
  have hpI4 : (1 : Int) ≤ (p : Int) := by omega
  have hpI5 : (p : Int) ≤ (s.size : Int) := by omega
  have hpw : IntKind.i64.wrap (p : Int) = (p : Int) := IntWalk.i64_in _ (by omega)
  have hpn : (p : Int).toNat = p := Int.toNat_natCast p
  by_cases hB : (s[p]'hpl).toNat = 125
  rotate_left
  · have hBi : ¬ ((s[p]'hpl).toNat : Int) = 125 := by omega
    have hBb : (((s[p]'hpl).toNat : Int) != 125) = true := by simpa using hBi
    have hBc : (((s[p]'hpl).toNat : Int) == 125) = false := by simpa using hBi
    have HRET := Lib.hid (HRB.out w (fun l h => hB ((lm.text_ends h).2.2 p hpl HP.out)) (Below.refl _ _))
    clear hB hp hA
    go_enter Try.func23, Try.ntmps23
    go_wp2
    exact bodyPost_ret (v := .tuple #[.slice none 0 0, .int .i64 3]) (by simp [results, Try.results23, go_sem]) rfl HRET.out
  have hBi : ((s[p]'hpl).toNat : Int) = 125 := by omega
  have hBb : (((s[p]'hpl).toNat : Int) != 125) = false := by rw [hBi]; rfl
  have hBc : (((s[p]'hpl).toNat : Int) == 125) = true := by rw [hBi]; rfl
  have HVA : Hid (∀ (r : ByteArray) (W : World), r.size ≤ 600 → Calls Try.prog 35 #[.string r] W (ValP r W)) := fun r W h1 => rval_first r W h1
  have HS6 : Hid (s.size ≤ 600) := Nat.le_of_not_lt h6
  clear hB hp h6 hA
  go_enter Try.func23, Try.ntmps23
  go_wp2
  go_loopw [4, 5, 6, 7, 8, 9] (fun u4 o _ _ _ _ wr => ∃ (L : List Lab) (q : Nat) (oa : Option Addr) (oc : Nat) (r : ByteArray), o = .slice oa q oc ∧ u4 = .string r ∧ q + r.size ≤ 600 ∧ Hid (q = L.length) ∧ Hid (wr.ownsRow w.heap.size 38 2 (.slice oa q oc) q (lcells L)) ∧ Hid (∀ x ∈ L, x.1.size ≤ 600 ∧ x.2.size ≤ 600) ∧ Hid (lm.AtS s L r) ∧ Below w.heap.size w wr) (fun u4 _ _ _ _ _ _ => match u4 with | .string r => r.size | _ => 0)
  case atStart =>
    exact ⟨[], 0, none, 0, _, rfl, rfl, by rw [ByteArray.size_extract]; have := HS6.out; omega, rfl, ⟨rfl, Or.inl ⟨rfl, rfl⟩⟩, (fun x hx => by cases hx), lm.ats_start HP.out, Below.refl _ _⟩
  case round =>
    obtain ⟨L, q, oa, oc, r, rfl, rfl, hqr, HQ, HO, HLS, HAT, hbl⟩ := hrel
    have hz := hbl.size
    obtain ⟨wo, hwo⟩ : ∃ x, x = wr := ⟨wr, rfl⟩
    subst hwo
    go_wp2
    go_loop [6] (fun u6 => ∃ a : Nat, u6 = .int .i64 a ∧ a ≤ r.size ∧ Hid (∀ i, i < a → (kit.bytes r).getD i 0 ≠ 61)) (fun u6 => r.size - (intOf u6).toNat)
    case atStart => exact ⟨0, rfl, Nat.zero_le _, fun i hi => absurd hi (Nat.not_lt_zero _)⟩
    case round =>
      obtain ⟨a, rfl, ha, HNO⟩ := hrel
      by_cases hlt : a < r.size
      · have hltI : (a : Int) < (r.size : Int) := by omega
        have HBT := Lib.hid (lb.byte_at r a hlt)
        by_cases h61 : (r[a]'hlt).toNat = 61
        · have c1 : ((r[a]'hlt).toNat : Int) = 61 := by omega
          have c2 : (((r[a]'hlt).toNat : Int) == 61) = true := by rw [c1]; rfl
          have c3 : (((r[a]'hlt).toNat : Int) != 61) = false := by rw [c1]; rfl
          have hne : ¬ (a : Int) = (r.size : Int) := by omega
          have hneb : ((a : Int) == (r.size : Int)) = false := by simp; omega
          have wa : IntKind.i64.wrap ((a : Int) + 1) = (a : Int) + 1 := IntWalk.i64_in _ (by omega)
          have wb : ((a : Int) + 1).toNat = a + 1 := by omega
          have wc : (a : Int) + 1 ≤ (r.size : Int) := by omega
          have wz : (0 : Int) ≤ (a : Int) + 1 := by omega
          have wn : a + 1 ≤ r.size := hlt
          have wd : (a : Int) ≤ (r.size : Int) := by omega
          have HEND : Hid (∀ (x0 : Lab) (t : List Nat), lm.good x0 = true → kit.bytes r = lm.oneT x0 ++ t → r.extract 0 a = x0.1 ∧ kit.bytes (r.extract (a + 1) r.size) = 34 :: (escN (kit.bytes x0.2) ++ 34 :: t)) := fun x0 t hg hr => by
            obtain ⟨_, h2, h3⟩ := lm.name_end hg hr HNO.out ha (Or.inr (by rw [HBT.out]; exact h61))
            exact ⟨h2, by rw [lm.bytes_tail]; exact h3⟩
          have hex : (r.extract (a + 1) r.size).size = r.size - (a + 1) := by rw [ByteArray.size_extract]; omega
          have hex0 : (r.extract 0 a).size = a := by rw [ByteArray.size_extract]; omega
          have HV := Lib.hid (HVA.out (r.extract (a + 1) r.size) wo (by omega))
          clear h61
          go_wp2_with fail
          (with_reducible refine HV.out.mono ?_)
          rintro e w2 ⟨xv, more, ok, rfl, hb2, hsz, htell⟩
          have HTL := Lib.hid htell
          have hbl2 := hbl.trans (hb2.mono hz)
          have hz2 := hbl2.size
          have HO2 := Lib.hid (own_stay HO.out hb2)
          clear htell hb2
          cases ok with
          | false =>
            have HN2 : Hid (∀ l, lm.textF l = (0, s) → False) := fun l0 h0 => by
              obtain ⟨x0, t, hg, hb, _⟩ := lm.ats_more HAT.out h0
              have := (HTL.out _ t (HEND.out x0 t hg hb).2).1
              cases this
            have HRET := Lib.hid (HRB.out _ HN2.out hbl2)
            clear hsz hex hex0
            go_wp2
            exact bodyPost_ret (v := .tuple #[.slice none 0 0, .int .i64 3]) (by simp [results, Try.results23, go_sem]) rfl HRET.out
          | true =>
            obtain ⟨hm1, hm2⟩ := hsz rfl
            have HX : Hid (∀ l0, lm.textF l0 = (0, s) → ∃ j, j < l0.length ∧ L ++ [(r.extract 0 a, xv)] = l0.take (j + 1) ∧ kit.bytes more = lm.behind (l0.drop (j + 1))) := fun l0 h0 => by
              obtain ⟨x0, t, hg, hb, j, hj, hL, hx0, ht⟩ := lm.ats_more HAT.out h0
              obtain ⟨e1, e2⟩ := HEND.out x0 t hg hb
              obtain ⟨_, e3, e4⟩ := HTL.out _ t e2
              refine ⟨j, hj, ?_, by rw [e4, ht]⟩
              rw [lm.take_snoc hj hx0, hL, e1, e3, kit.str_bytes]
            have HLS2 : Hid (∀ x ∈ L ++ [(r.extract 0 a, xv)], x.1.size ≤ 600 ∧ x.2.size ≤ 600) := fun x hx => by
              rcases List.mem_append.1 hx with h | h
              · exact HLS.out x h
              · simp only [List.mem_cons, List.not_mem_nil, or_false] at h
                rw [h]; exact ⟨show (r.extract 0 a).size ≤ 600 by omega, show xv.size ≤ 600 by omega⟩
            have HQ2 : Hid (q + 1 = (L ++ [(r.extract 0 a, xv)]).length) := by show _ = _; rw [List.length_append, ← HQ.out]; rfl
            have HL2 : Hid (lcells (L ++ [(r.extract 0 a, xv)]) = lcells L ++ [.string (r.extract 0 a), .string xv]) := by show _ = _; rw [lcells_app]; rfl
            have hmr : more.size + 1 < r.size := by omega
            clear hsz hex hm1 hm2 hex0
            go_wp2_with (at_builtin; refine app1g (.tmp 63) (.tmp 69) 24 rfl rfl w.heap.size Try.underlying24 infoLab rfl (by decide) (by decide) HO2.out rfl rfl rfl lcells_two (by omega) hz2 ?_)
            intro v4 w4 hown4 hgrow4
            have hbl4 := hbl2.trans (((Below.refl _ _).alloc hz2 _).trans (grown_below (HO2.out.alloc _) (by rw [World.size_alloc]; omega) hgrow4))
            have HO4 := Lib.hid hown4
            clear hown4 hgrow4
            rcases own_form HO4.out with ⟨_, h0⟩ | ⟨g4, cap4, rfl, hg4⟩
            · omega
            by_cases hme : more = .empty
            · subst hme
              obtain ⟨L9, hL9⟩ : ∃ L9, L9 = L ++ [(r.extract 0 a, xv)] := ⟨_, rfl⟩
              have HQ9 : Hid (q + 1 = L9.length) := by show _ = _; rw [hL9]; exact HQ2.out
              have HO9 : Hid (w4.ownsRow w.heap.size 38 2 (.slice (some ⟨g4, 0, none⟩) (q + 1) cap4) (q + 1) (lcells L9)) := by show World.ownsRow _ _ _ _ _ _ _; rw [hL9, HL2.out]; exact HO4.out
              have HLS9 : Hid (∀ x ∈ L9, x.1.size ≤ 600 ∧ x.2.size ≤ 600) := by show ∀ x ∈ L9, _; rw [hL9]; exact HLS2.out
              have HEQ9 : Hid (∀ l0, lm.textF l0 = (0, s) → L9 = l0) := fun l0 h0 => by
                obtain ⟨j, hj, hL, hb⟩ := HX.out l0 h0
                rw [hL9, hL]
                refine List.take_of_length_le ?_
                rcases Nat.lt_or_ge (j + 1) l0.length with h | h
                · rw [List.drop_eq_getElem_cons h, lm.behind_cons] at hb
                  cases hb
                · exact h
              have hlab : Labs w4 w4.heap.size (.slice (some ⟨g4, 0, none⟩) (q + 1) cap4) L9 := by
                have := Cells.own HO9.out
                show Cells _ _ _ _ _ _
                rw [← HQ9.out]; exact this
              clear hL9
              have HTX := Lib.hid (rtext_any L9 _ w4 hlab (fun x hx => by have := HLS9.out x hx; unfold maxLen; omega) (by rw [← HQ9.out]; omega))
              obtain ⟨⟨f, T⟩, hfT⟩ : ∃ r, r = lm.textF L9 := ⟨_, rfl⟩
              rw [← hfT] at HTX
              have HFT9 := Lib.hid hfT
              have HEND9 : Hid (∀ l0, lm.textF l0 = (0, s) → L9 = l0) := HEQ9.out
              clear hlab hfT
              by_cases hf : f = 0
              rotate_left
              · have hfb : (f != 0) = true := by simpa using hf
                have hfc : (f == 0) = false := by simpa using hf
                have HNO : Hid (∀ l, lm.textF l = (0, s) → False) := fun l0 h0 => by
                  have e := HEND9.out l0 h0
                  have e2 := HFT9.out
                  rw [e, h0] at e2
                  exact hf (Prod.mk.inj e2).1
                clear hf
                go_wp2_with fail
                (with_reducible refine HTX.out.mono ?_)
                rintro e w3 ⟨rfl, hb3⟩
                have HRET := Lib.hid (HRB.out w3 HNO.out (hbl4.trans (hb3.mono hbl4.size)))
                go_wp2
                exact bodyPost_ret (v := .tuple #[.slice none 0 0, .int .i64 3]) (by simp [results, Try.results23, go_sem]) rfl HRET.out
              subst hf
              by_cases hT : T = s
              rotate_left
              · have hTn := str_ne hT
                have hTb : (T.toList == s.toList) = false := by simpa using hTn
                have hTc : (T.toList != s.toList) = true := by simpa using hTn
                have HNO : Hid (∀ l, lm.textF l = (0, s) → False) := fun l0 h0 => by
                  have e := HEND9.out l0 h0
                  have e2 := HFT9.out
                  rw [e, h0] at e2
                  exact hT (Prod.mk.inj e2).2
                clear hT
                go_wp2_with fail
                (with_reducible refine HTX.out.mono ?_)
                rintro e w3 ⟨rfl, hb3⟩
                have HRET := Lib.hid (HRB.out w3 HNO.out (hbl4.trans (hb3.mono hbl4.size)))
                go_wp2
                exact bodyPost_ret (v := .tuple #[.slice none 0 0, .int .i64 3]) (by simp [results, Try.results23, go_sem]) rfl HRET.out
              subst hT
              go_wp2_with fail
              (with_reducible refine HTX.out.mono ?_)
              rintro e w3 ⟨rfl, hb3⟩
              have HRET : Hid (ParseP T w (.returned (.tuple #[.slice (some ⟨g4, 0, none⟩) (q + 1) cap4, .int .i64 0])) w3) := by
                refine ⟨(0, L9), ⟨_, rfl, ?_, hbl4.trans (hb3.mono hbl4.size)⟩, Or.inr ⟨HN6.out, Or.inl ⟨L9, rfl, HFT9.out.symm⟩⟩⟩
                show Cells _ _ _ _ _ _
                rw [← HQ9.out]; exact Cells.own (own_stay HO9.out hb3)
              go_wp2
              exact bodyPost_ret (v := .tuple #[.slice (some ⟨g4, 0, none⟩) (q + 1) cap4, .int .i64 0]) (by simp [results, Try.results23, go_sem]) rfl HRET.out
            · have hmp : 0 < more.size := Nat.pos_of_ne_zero fun e => hme (ByteArray.ext (Array.eq_empty_of_size_eq_zero e))
              obtain ⟨hs1, hs2, hs3⟩ : more.toList.isEmpty = false ∧ ¬ more.toList = [] ∧ ¬ more = ByteArray.empty := kit.ne_empty hmp
              have hmpI : (0 : Int) < (more.size : Int) := by omega
              have HD0 := Lib.hid (kit.bytes_drop more 0 hmp)
              by_cases h44 : (more[0]'hmp).toNat = 44
              · have d1 : ((more[0]'hmp).toNat : Int) = 44 := by omega
                have d2 : (((more[0]'hmp).toNat : Int) == 44) = true := by rw [d1]; rfl
                have d3 : (((more[0]'hmp).toNat : Int) != 44) = false := by rw [d1]; rfl
                have HAT2 : Hid (lm.AtS s (L ++ [(r.extract 0 a, xv)]) (more.extract 1 more.size)) := fun l0 h0 => by
                  obtain ⟨j, hj, hL, hb⟩ := HX.out l0 h0
                  refine ⟨j + 1, ?_, hL, by rw [lm.bytes_tail, hb]⟩
                  rcases Nat.lt_or_ge (j + 1) l0.length with h | h
                  · exact h
                  · rw [List.drop_eq_nil_of_le h] at hb
                    have := congrArg List.length hb
                    rw [kit.bytes_len] at this
                    exact absurd this (by show ¬ more.size = 0; omega)
                have hms : (more.extract 1 more.size).size = more.size - 1 := by rw [ByteArray.size_extract]; omega
                have hmI1 : (1 : Int) ≤ (more.size : Int) := by omega
                clear h44 hme
                go_wp2
                go_roundw
                case rel => exact ⟨_, q + 1, some ⟨g4, 0, none⟩, cap4, _, rfl, rfl, by omega, HQ2.out, by show World.ownsRow _ _ _ _ _ _ _; rw [HL2.out]; exact HO4.out, HLS2.out, HAT2.out, hbl4⟩
                case measure =>
                  show (more.extract 1 more.size).size < r.size
                  omega
              · have d1 : ¬ ((more[0]'hmp).toNat : Int) = 44 := by omega
                have d2 : (((more[0]'hmp).toNat : Int) == 44) = false := by simpa using d1
                have d3 : (((more[0]'hmp).toNat : Int) != 44) = true := by simpa using d1
                have HN2 : Hid (∀ l, lm.textF l = (0, s) → False) := fun l0 h0 => by
                  obtain ⟨j, hj, hL, hb⟩ := HX.out l0 h0
                  have hd := HD0.out
                  rw [List.drop_zero, hb] at hd
                  cases hd2 : l0.drop (j + 1) with
                  | nil => rw [hd2] at hd; cases hd
                  | cons x1 r1 =>
                    rw [hd2, lm.behind_cons] at hd
                    exact h44 (List.cons.inj hd).1.symm
                have HRET := Lib.hid (HRB.out _ HN2.out hbl4)
                clear h44 hme
                go_wp2
                exact bodyPost_ret (v := .tuple #[.slice none 0 0, .int .i64 3]) (by simp [results, Try.results23, go_sem]) rfl HRET.out
        · have c1 : ¬ ((r[a]'hlt).toNat : Int) = 61 := by omega
          have c2 : (((r[a]'hlt).toNat : Int) == 61) = false := by simpa using c1
          have c3 : (((r[a]'hlt).toNat : Int) != 61) = true := by simpa using c1
          have HNO2 : Hid (∀ i, i < a + 1 → (kit.bytes r).getD i 0 ≠ 61) := fun i hi => by
            by_cases e : i = a
            · rw [e, HBT.out]; exact h61
            · exact HNO.out i (by omega)
          clear h61
          go_wp2
          go_round
          case rel => exact ⟨a + 1, by go_num, by omega, HNO2.out⟩
          case measure => simp [intOf]; omega
      · obtain rfl : a = r.size := by omega
        have HN2 : Hid (∀ l, lm.textF l = (0, s) → False) := fun l0 h0 => by
          obtain ⟨x0, t, hg, hb, _⟩ := lm.ats_more HAT.out h0
          have := (lm.name_end hg hb HNO.out (Nat.le_refl _) (Or.inl rfl)).1
          omega
        have HRET := Lib.hid (HRB.out _ HN2.out hbl)
        go_wp2
        exact bodyPost_ret (v := .tuple #[.slice none 0 0, .int .i64 3]) (by simp [results, Try.results23, go_sem]) rfl HRET.out
end Go.Proofs.Ytpfjmomdnegcpaa
