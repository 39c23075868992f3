/- label.Parse. -/
import Derived.Test.YtpfjmomdnegcpaaLabFirst
namespace Go.Proofs.Ytpfjmomdnegcpaa.lm
open Go.RowKit
theorem bytes_mid (s : ByteArray) (p : Nat) : kit.bytes (s.extract 1 p) = ((kit.bytes s).drop 1).take (p - 1) := by
  show List.map UInt8.toNat (s.extract 1 p).data.toList = ((List.map UInt8.toNat s.data.toList).drop 1).take (p - 1)
  rw [ByteArray.data_extract, Array.toList_extract, List.extract_eq_take_drop, List.map_take, List.map_drop]
theorem text_mid {l : List Lab} {s : ByteArray} {p : Nat} (h : textF l = (0, s)) (hp : p + 1 = s.size) : kit.bytes (s.extract 1 p) = (behind l).drop 1 := by
  obtain ⟨hb, _, _⟩ := text_bytes h
  have hl := congrArg List.length hb
  rw [kit.bytes_len, List.length_append, List.length_append] at hl
  simp only [List.length_cons, List.length_nil] at hl
  rw [bytes_mid, hb]
  show ((behind l).drop 1 ++ [125]).take (p - 1) = _
  rw [List.take_append_of_le_length (by omega), List.take_of_length_le (by omega)]
theorem text_ends {l : List Lab} {s : ByteArray} (h : textF l = (0, s)) : 2 ≤ s.size ∧ (∀ h0 : 0 < s.size, (s[0]'h0).toNat = 123) ∧ ∀ p (h1 : p < s.size), p + 1 = s.size → (s[p]'h1).toNat = 125 := by
  obtain ⟨hb, _, _⟩ := text_bytes h
  have hl := congrArg List.length hb
  rw [kit.bytes_len, List.length_append, List.length_append] at hl
  simp only [List.length_cons, List.length_nil] at hl
  refine ⟨by omega, fun h0 => ?_, fun p h1 hp => ?_⟩
  · have := kit.bytes_get s 0 h0
    rw [hb] at this
    simpa using this.symm
  · have := kit.bytes_get s p h1
    rw [hb, List.getElem?_append_right (by rw [List.length_append]; simp only [List.length_cons, List.length_nil]; omega)] at this
    have e : p - ([123] ++ (behind l).drop 1).length = 0 := by rw [List.length_append]; simp only [List.length_cons, List.length_nil]; omega
    rw [e] at this
    simpa using this.symm
theorem behind_cons (x : Lab) (r : List Lab) : behind (x :: r) = 44 :: (oneT x ++ behind r) := rfl
theorem noComma_behind (r : List Lab) : noComma (behind r) = (behind r).drop 1 := by
  cases r with
  | nil => rfl
  | cons x r => rw [behind_cons]; exact if_pos rfl
theorem oneT_ne (x : Lab) : oneT x ≠ [] := by unfold oneT; simp
/-- where the reading is: behind j labels of whoever has this text -/
def At (s : ByteArray) (L : List Lab) (r : ByteArray) : Prop := ∀ l0, textF l0 = (0, s) → ∃ j, j ≤ l0.length ∧ L = l0.take j ∧ kit.bytes r = (behind (l0.drop j)).drop 1
theorem at_start {s : ByteArray} {p : Nat} (hp : p + 1 = s.size) : At s [] (s.extract 1 p) := fun l0 h => ⟨0, Nat.zero_le _, rfl, by rw [text_mid h hp]; rfl⟩
theorem at_more {s r : ByteArray} {L : List Lab} (h : At s L r) (hr : r ≠ .empty) {l0 : List Lab} (h0 : textF l0 = (0, s)) : ∃ x0 t, good x0 = true ∧ kit.bytes r = oneT x0 ++ t ∧ ∃ j, j < l0.length ∧ L = l0.take j ∧ x0 = l0.getD j (.empty, .empty) ∧ t = behind (l0.drop (j + 1)) := by
  obtain ⟨j, hj, hL, hb⟩ := h l0 h0
  have hjl : j < l0.length := by
    rcases Nat.lt_or_ge j l0.length with h | h
    · exact h
    · rw [List.drop_eq_nil_of_le h] at hb
      exact absurd (kit.bytes_inj (t := .empty) (by rw [hb]; rfl)) hr
  rw [List.drop_eq_getElem_cons hjl, behind_cons] at hb
  exact ⟨l0[j], _, (text_bytes h0).2.1 _ (List.getElem_mem _), hb, j, hjl, hL, by simp [List.getD, hjl], rfl⟩
theorem at_next {s r left : ByteArray} {L : List Lab} {x : Lab} (h : At s L r) (hr : r ≠ .empty) (hx : ∀ x0 t, good x0 = true → kit.bytes r = oneT x0 ++ t → x = x0 ∧ kit.bytes left = noComma t) : At s (L ++ [x]) left := fun l0 h0 => by
  obtain ⟨x0, t, hg, hb, j, hj, hL, hx0, ht⟩ := at_more h hr h0
  obtain ⟨e1, e2⟩ := hx x0 t hg hb
  exact ⟨j + 1, hj, by rw [take_snoc hj hx0, hL, e1], by rw [e2, ht, noComma_behind]⟩
theorem at_end {s : ByteArray} {L : List Lab} (h : At s L .empty) {l0 : List Lab} (h0 : textF l0 = (0, s)) : L = l0 := by
  obtain ⟨j, hj, hL, hb⟩ := h l0 h0
  rcases Nat.lt_or_ge j l0.length with hjl | hjl
  · rw [List.drop_eq_getElem_cons hjl, behind_cons] at hb
    have h3 : (oneT l0[j] ++ behind (l0.drop (j + 1))) = [] := by
      have : kit.bytes .empty = [] := rfl
      rw [this] at hb
      exact hb.symm
    exact absurd (List.append_eq_nil_iff.1 h3).1 (oneT_ne _)
  · rw [hL, List.take_of_length_le hjl]
end Go.Proofs.Ytpfjmomdnegcpaa.lm
namespace Go.Proofs.Ytpfjmomdnegcpaa
open Go.RowKit Go.ChangeShapes cl
/-- what a text says, if it says anything -/
def ParseP (s : ByteArray) (w : World) (e : Ending) (w' : World) : Prop := ∃ r, CanonP r w e w' ∧ lm.Is s r
theorem parse_bad {s : ByteArray} {w W : World} (h6 : ¬ 600 < s.size) (hn : ∀ l, lm.textF l = (0, s) → False) (hb : Below w.heap.size w W) : ParseP s w (.returned (.tuple #[.slice none 0 0, .int .i64 3])) W :=
  ⟨(3, []), ret8 rfl hb, Or.inr ⟨h6, Or.inr ⟨rfl, fun ⟨l, h⟩ => hn l h⟩⟩⟩

set_option maxHeartbeats 3200000 in
set_option maxRecDepth 100000 in
theorem parse_any (s : ByteArray) (w : World) (hs : s.size ≤ maxLen) (hm : MX w) :
    Calls Try.prog 22 #[.string s] w (ParseP s w) := by
  unfold maxLen at hs
  by_cases h6 : 600 < s.size
  · have h6I : (600 : Int) < (s.size : Int) := by omega
    have HRET : Hid (ParseP s w (.returned (.tuple #[.slice none 0 0, .int .i64 4])) w) := ⟨(4, []), ret8 rfl (Below.refl _ _), Or.inl ⟨h6, rfl⟩⟩
    go_enter Try.func22, Try.ntmps22
    go_wp2
    exact bodyPost_ret (v := .tuple #[.slice none 0 0, .int .i64 4]) (by simp [results, Try.results22, go_sem]) rfl HRET.out
  have h6I : ¬ (600 : Int) < (s.size : Int) := by omega
  have HRB : Hid (∀ W, (∀ l, lm.textF l = (0, s) → False) → Below w.heap.size w W → ParseP s w (.returned (.tuple #[.slice none 0 0, .int .i64 3])) W) := fun W hn hb => parse_bad h6 hn hb
  have HN6 := Lib.hid h6
  by_cases h2 : s.size < 2
  · have h2I : (s.size : Int) < 2 := by omega
    have HRET := Lib.hid (HRB.out w (fun l h => by have := (lm.text_ends h).1; omega) (Below.refl _ _))
    go_enter Try.func22, Try.ntmps22
    go_wp2
    exact bodyPost_ret (v := .tuple #[.slice none 0 0, .int .i64 3]) (by simp [results, Try.results22, go_sem]) rfl HRET.out
  have h2I : ¬ (s.size : Int) < 2 := by omega
  have h0 : 0 < s.size := by omega
  have h0I : (0 : Int) < (s.size : Int) := by omega
  by_cases hA : (s[0]'h0).toNat = 123
  rotate_left
  · have hAi : ¬ ((s[0]'h0).toNat : Int) = 123 := by omega
    have hAb : (((s[0]'h0).toNat : Int) != 123) = true := by simpa using hAi
    have hAc : (((s[0]'h0).toNat : Int) == 123) = false := by simpa using hAi
    have HRET := Lib.hid (HRB.out w (fun l h => hA ((lm.text_ends h).2.1 h0)) (Below.refl _ _))
    clear hA
    go_enter Try.func22, Try.ntmps22
    go_wp2
    exact bodyPost_ret (v := .tuple #[.slice none 0 0, .int .i64 3]) (by simp [results, Try.results22, go_sem]) rfl HRET.out
  have hAi : ((s[0]'h0).toNat : Int) = 123 := by omega
  have hAb : (((s[0]'h0).toNat : Int) != 123) = false := by rw [hAi]; rfl
  have hAc : (((s[0]'h0).toNat : Int) == 123) = true := by rw [hAi]; rfl
  obtain ⟨p, hp⟩ : ∃ p, p + 1 = s.size := ⟨s.size - 1, by omega⟩
  have HP := Lib.hid hp
  have hpl : p < s.size := by omega
  have hpI : (s.size : Int) - 1 = (p : Int) := by omega
  have hpI2 : (p : Int) < (s.size : Int) := by omega
  have hpI3 : (0 : Int) ≤ (p : Int) := by omega
  have hpI4 : (1 : Int) ≤ (p : Int) := by omega
  have hpI5 : (p : Int) ≤ (s.size : Int) := by omega
  have hpw : IntKind.i64.wrap (p : Int) = (p : Int) := IntWalk.i64_in _ (by omega)
  have hpn : (p : Int).toNat = p := Int.toNat_natCast p
  by_cases hB : (s[p]'hpl).toNat = 125
  rotate_left
  · have hBi : ¬ ((s[p]'hpl).toNat : Int) = 125 := by omega
    have hBb : (((s[p]'hpl).toNat : Int) != 125) = true := by simpa using hBi
    have hBc : (((s[p]'hpl).toNat : Int) == 125) = false := by simpa using hBi
    have HRET := Lib.hid (HRB.out w (fun l h => hB ((lm.text_ends h).2.2 p hpl HP.out)) (Below.refl _ _))
    clear hB hp hA
    go_enter Try.func22, Try.ntmps22
    go_wp2
    exact bodyPost_ret (v := .tuple #[.slice none 0 0, .int .i64 3]) (by simp [results, Try.results22, go_sem]) rfl HRET.out
  have hBi : ((s[p]'hpl).toNat : Int) = 125 := by omega
  have hBb : (((s[p]'hpl).toNat : Int) != 125) = false := by rw [hBi]; rfl
  have hBc : (((s[p]'hpl).toNat : Int) == 125) = true := by rw [hBi]; rfl
  have HFI : Hid (∀ (r : ByteArray) (W : World), r.size ≤ 600 → MX W → Calls Try.prog 34 #[.string r] W (FirstP r W)) := fun r W h1 h2 => first_any r W h1 h2
  have HM := Lib.hid hm
  have HS6 : Hid (s.size ≤ 600) := Nat.le_of_not_lt h6
  have hz0 : 0 < w.heap.size := by obtain ⟨m, h⟩ := hm; exact World.block_lt_of_cell? _ _ h
  clear hB hp hm h6 hA
  go_enter Try.func22, Try.ntmps22
  go_wp2
  go_loopw [4, 5, 6, 7, 8] (fun o u5 _ _ _ wr => ∃ (L : List Lab) (q : Nat) (oa : Option Addr) (oc : Nat) (r : ByteArray), o = .slice oa q oc ∧ u5 = .string r ∧ q + r.size ≤ 600 ∧ Hid (q = L.length) ∧ Hid (wr.ownsRow w.heap.size 38 2 (.slice oa q oc) q (lcells L)) ∧ Hid (∀ x ∈ L, x.1.size ≤ 600 ∧ x.2.size ≤ 600) ∧ Hid (lm.At s L r) ∧ Below w.heap.size w wr) (fun _ u5 _ _ _ _ => match u5 with | .string r => r.size | _ => 0)
  case atStart =>
    exact ⟨[], 0, none, 0, _, rfl, rfl, by rw [ByteArray.size_extract]; have := HS6.out; omega, rfl, ⟨rfl, Or.inl ⟨rfl, rfl⟩⟩, (fun x hx => by cases hx), lm.at_start HP.out, Below.refl _ _⟩
  case round =>
    obtain ⟨L, q, oa, oc, r, rfl, rfl, hqr, HQ, HO, HLS, HAT, hbl⟩ := hrel
    have hz := hbl.size
    by_cases hr : r = .empty
    · subst hr
      have hlab : Labs wr wr.heap.size (.slice oa q oc) L := by
        have := Cells.own HO.out
        show Cells _ _ _ _ _ _
        rw [← HQ.out]; exact this
      have HTX := Lib.hid (text_any L _ wr hlab (fun x hx => by have := HLS.out x hx; unfold maxLen; omega) (by rw [← HQ.out]; omega))
      obtain ⟨⟨f, T⟩, hfT⟩ : ∃ r, r = lm.textF L := ⟨_, rfl⟩
      rw [← hfT] at HTX
      have HFT := Lib.hid hfT
      have HEND : Hid (∀ l0, lm.textF l0 = (0, s) → L = l0) := fun l0 h0 => lm.at_end HAT.out h0
      clear hlab hfT
      by_cases hf : f = 0
      rotate_left
      · have hfb : (f != 0) = true := by simpa using hf
        have hfc : (f == 0) = false := by simpa using hf
        have HNO : Hid (∀ l, lm.textF l = (0, s) → False) := fun l0 h0 => by
          have e := HEND.out l0 h0
          have e2 := HFT.out
          rw [e, h0] at e2
          exact hf (Prod.mk.inj e2).1
        clear hf
        go_wp2_with fail
        (with_reducible refine HTX.out.mono ?_)
        rintro e w3 ⟨rfl, hb3⟩
        have HRET := Lib.hid (HRB.out w3 HNO.out (hbl.trans (hb3.mono hz)))
        go_wp2
        exact bodyPost_ret (v := .tuple #[.slice none 0 0, .int .i64 3]) (by simp [results, Try.results22, go_sem]) rfl HRET.out
      subst hf
      by_cases hT : T = s
      rotate_left
      · have hTn := str_ne hT
        have hTb : (T.toList == s.toList) = false := by simpa using hTn
        have hTc : (T.toList != s.toList) = true := by simpa using hTn
        have HNO : Hid (∀ l, lm.textF l = (0, s) → False) := fun l0 h0 => by
          have e := HEND.out l0 h0
          have e2 := HFT.out
          rw [e, h0] at e2
          exact hT (Prod.mk.inj e2).2
        clear hT
        go_wp2_with fail
        (with_reducible refine HTX.out.mono ?_)
        rintro e w3 ⟨rfl, hb3⟩
        have HRET := Lib.hid (HRB.out w3 HNO.out (hbl.trans (hb3.mono hz)))
        go_wp2
        exact bodyPost_ret (v := .tuple #[.slice none 0 0, .int .i64 3]) (by simp [results, Try.results22, go_sem]) rfl HRET.out
      subst hT
      go_wp2_with fail
      (with_reducible refine HTX.out.mono ?_)
      rintro e w3 ⟨rfl, hb3⟩
      have HRET : Hid (ParseP T w (.returned (.tuple #[.slice oa q oc, .int .i64 0])) w3) := by
        refine ⟨(0, L), ⟨_, rfl, ?_, hbl.trans (hb3.mono hz)⟩, Or.inr ⟨HN6.out, Or.inl ⟨L, rfl, HFT.out.symm⟩⟩⟩
        show Cells _ _ _ _ _ _
        rw [← HQ.out]; exact Cells.own (own_stay HO.out hb3)
      go_wp2
      exact bodyPost_ret (v := .tuple #[.slice oa q oc, .int .i64 0]) (by simp [results, Try.results22, go_sem]) rfl HRET.out
    · obtain ⟨hs1, hs2, hs3⟩ : r.toList.isEmpty = false ∧ ¬ r.toList = [] ∧ ¬ r = ByteArray.empty := kit.ne_empty (Nat.pos_of_ne_zero fun e => hr (ByteArray.ext (Array.eq_empty_of_size_eq_zero e)))
      have HF := Lib.hid (HFI.out r wr (by omega) (MX.next HM.out hbl))
      have HRN := Lib.hid hr
      clear hr
      go_wp2_with fail
      (with_reducible refine HF.out.mono ?_)
      rintro e w2 ⟨⟨xa, xb⟩, left, ok, rfl, hb2, hsz, htell⟩
      have HTL := Lib.hid htell
      have hbl2 := hbl.trans (hb2.mono hz)
      have hz2 := hbl2.size
      have HO2 := Lib.hid ((own_stay HO.out hb2).alloc (.cells #[.string xa, .string xb] 38))
      have hbl3 := hbl2.alloc hz2 (.cells #[.string xa, .string xb] 38)
      clear htell hb2
      cases ok with
      | false =>
        have HNO : Hid (∀ l, lm.textF l = (0, s) → False) := fun l0 h0 => by
          obtain ⟨x0, t, hg, hb, _⟩ := lm.at_more HAT.out HRN.out h0
          have := (HTL.out x0 t hg hb).1
          cases this
        have HRET := Lib.hid (HRB.out _ HNO.out hbl3)
        clear hsz
        go_wp2
        exact bodyPost_ret (v := .tuple #[.slice none 0 0, .int .i64 3]) (by simp [results, Try.results22, go_sem]) rfl HRET.out
      | true =>
        obtain ⟨hl1, hl2, hl3⟩ := hsz rfl
        simp only at hl2 hl3
        have HAT2 : Hid (lm.At s (L ++ [(xa, xb)]) left) := lm.at_next HAT.out HRN.out (fun x0 t hg hb => ⟨(HTL.out x0 t hg hb).2.1, (HTL.out x0 t hg hb).2.2⟩)
        have HLS2 : Hid (∀ x ∈ L ++ [(xa, xb)], x.1.size ≤ 600 ∧ x.2.size ≤ 600) := fun x hx => by
          rcases List.mem_append.1 hx with h | h
          · exact HLS.out x h
          · simp only [List.mem_cons, List.not_mem_nil, or_false] at h
            rw [h]; exact ⟨show xa.size ≤ 600 by omega, show xb.size ≤ 600 by omega⟩
        have HQ2 : Hid (q + 1 = (L ++ [(xa, xb)]).length) := by show _ = _; rw [List.length_append, ← HQ.out]; rfl
        have HL2 : Hid (lcells (L ++ [(xa, xb)]) = lcells L ++ [.string xa, .string xb]) := by show _ = _; rw [lcells_app]; rfl
        have HOG := Lib.hid (own_stay HO.out (Below.refl _ _))
        clear hsz
        go_wp2_with (at_builtin; refine kit.appB (.tmp 45) (.tmp 47) 24 rfl rfl w.heap.size Try.underlying24 infoLab rfl (by decide) (by decide) 1 (World.size_alloc _ _) HO2.out rfl rfl rfl lcells_two (by omega) hbl3.size ?_)
        intro v4 w4 hown4 hgrow4
        have hbl4 := hbl3.trans (((Below.refl _ _).alloc hbl3.size _).trans (grown_below (HO2.out.alloc _) (by rw [World.size_alloc]; have := hbl3.size; omega) hgrow4))
        have HO4 := Lib.hid hown4
        clear hown4 hgrow4
        rcases own_form HO4.out with ⟨_, h0⟩ | ⟨g4, cap4, rfl, hg4⟩
        · omega
        go_wp2
        go_roundw
        case rel => exact ⟨L ++ [(xa, xb)], q + 1, some ⟨g4, 0, none⟩, cap4, left, rfl, rfl, by omega, HQ2.out, by show World.ownsRow _ _ _ _ _ _ _; rw [HL2.out]; exact HO4.out, HLS2.out, HAT2.out, hbl4⟩
        case measure => omega
end Go.Proofs.Ytpfjmomdnegcpaa
