/- texts put together: LabParse, MdExp, MdMt, MdOld. -/
import Derived.Test.YtnbdcnbhejfdhaaGreatLv05
import Derived.Test.YtnbdcnbhejfdhaaGreatLv06
open List (setIfInBounds_toArray set_cons_zero set_cons_succ take_succ_cons take_zero drop_succ_cons drop_zero)
namespace Go.Proofs.YtnbdcnbhejfdhaaGreat.lm
open Go.RowKit
theorem bytes_mid (s : ByteArray) (p : Nat) : kit.bytes (s.extract 1 p) = ((kit.bytes s).drop 1).take (p - 1) := by
 show List.map UInt8.toNat (s.extract 1 p).data.toList = ((List.map UInt8.toNat s.data.toList).drop 1).take (p - 1)
 rw [ByteArray.data_extract, Array.toList_extract, List.extract_eq_take_drop, List.map_take, List.map_drop]
theorem text_mid {l : List Lab} {s : ByteArray} {p : Nat} (h : textF l = (0, s)) (hp : p + 1 = s.size) : kit.bytes (s.extract 1 p) = (behind l).drop 1 := by
 obtain ⟨hb, _, _⟩ := text_bytes h
 have hl := congrArg List.length hb
 rw [kit.bytes_len, List.length_append, List.length_append] at hl
 simp only [List.length_cons, List.length_nil] at hl
 rw [bytes_mid, hb]
 show ((behind l).drop 1 ++ [125]).take (p - 1) = _
 rw [List.take_append_of_le_length (by omega), List.take_of_length_le (by omega)]
theorem text_ends {l : List Lab} {s : ByteArray} (h : textF l = (0, s)) : 2 ≤ s.size ∧ (∀ h0 : 0 < s.size, (s[0]'h0).toNat = 123) ∧ ∀ p (h1 : p < s.size), p + 1 = s.size → (s[p]'h1).toNat = 125 := by
 obtain ⟨hb, _, _⟩ := text_bytes h
 have hl := congrArg List.length hb
 rw [kit.bytes_len, List.length_append, List.length_append] at hl
 simp only [List.length_cons, List.length_nil] at hl
 refine ⟨by omega, fun h0 => ?_, fun p h1 hp => ?_⟩
 ·
  have := kit.bytes_get s 0 h0
  rw [hb] at this
  simpa using this.symm
 ·
  have := kit.bytes_get s p h1
  rw [hb, List.getElem?_append_right (by rw [List.length_append]; simp only [List.length_cons, List.length_nil]; omega)] at this
  have e : p - ([123] ++ (behind l).drop 1).length = 0 := by rw [List.length_append]; simp only [List.length_cons, List.length_nil]; omega
  rw [e] at this
  simpa using this.symm
theorem behind_cons (x : Lab) (r : List Lab) : behind (x :: r) = 44 :: (oneT x ++ behind r) := rfl
theorem noComma_behind (r : List Lab) : noComma (behind r) = (behind r).drop 1 := by
 cases r with
 | nil => rfl
 | cons x r => rw [behind_cons]; exact if_pos rfl
theorem oneT_ne (x : Lab) : oneT x ≠ [] := by unfold oneT; simp
def At (s : ByteArray) (L : List Lab) (r : ByteArray) : Prop := ∀ l0, textF l0 = (0, s) → ∃ j, j ≤ l0.length ∧ L = l0.take j ∧ kit.bytes r = (behind (l0.drop j)).drop 1
theorem at_start {s : ByteArray} {p : Nat} (hp : p + 1 = s.size) : At s [] (s.extract 1 p) := fun l0 h => ⟨0, Nat.zero_le _, rfl, by rw [text_mid h hp]; rfl⟩
theorem at_more {s r : ByteArray} {L : List Lab} (h : At s L r) (hr : r ≠ .empty) {l0 : List Lab} (h0 : textF l0 = (0, s)) : ∃ x0 t, good x0 = true ∧ kit.bytes r = oneT x0 ++ t ∧ ∃ j, j < l0.length ∧ L = l0.take j ∧ x0 = l0.getD j (.empty, .empty) ∧ t = behind (l0.drop (j + 1)) := by
 obtain ⟨j, hj, hL, hb⟩ := h l0 h0
 have hjl : j < l0.length := by
  rcases Nat.lt_or_ge j l0.length with h | h
  ·
   exact h
  ·
   rw [List.drop_eq_nil_of_le h] at hb
   exact absurd (kit.bytes_inj (t := .empty) (by rw [hb]; rfl)) hr
 rw [List.drop_eq_getElem_cons hjl, behind_cons] at hb
 exact ⟨l0[j], _, (text_bytes h0).2.1 _ (List.getElem_mem _), hb, j, hjl, hL, by simp [List.getD, hjl], rfl⟩
theorem at_next {s r left : ByteArray} {L : List Lab} {x : Lab} (h : At s L r) (hr : r ≠ .empty) (hx : ∀ x0 t, good x0 = true → kit.bytes r = oneT x0 ++ t → x = x0 ∧ kit.bytes left = noComma t) : At s (L ++ [x]) left := fun l0 h0 => by
 obtain ⟨x0, t, hg, hb, j, hj, hL, hx0, ht⟩ := at_more h hr h0
 obtain ⟨e1, e2⟩ := hx x0 t hg hb
 exact ⟨j + 1, hj, by rw [take_snoc hj hx0, hL, e1], by rw [e2, ht, noComma_behind]⟩
theorem at_end {s : ByteArray} {L : List Lab} (h : At s L .empty) {l0 : List Lab} (h0 : textF l0 = (0, s)) : L = l0 := by
 obtain ⟨j, hj, hL, hb⟩ := h l0 h0
 rcases Nat.lt_or_ge j l0.length with hjl | hjl
 ·
  rw [List.drop_eq_getElem_cons hjl, behind_cons] at hb
  have h3 : (oneT l0[j] ++ behind (l0.drop (j + 1))) = [] := by
   have : kit.bytes .empty = [] := rfl
   rw [this] at hb
   exact hb.symm
  exact absurd (List.append_eq_nil_iff.1 h3).1 (oneT_ne _)
 ·
  rw [hL, List.take_of_length_le hjl]
end Go.Proofs.YtnbdcnbhejfdhaaGreat.lm
namespace Go.Proofs.YtnbdcnbhejfdhaaGreat
open Go.RowKit Go.ChangeShapes cl
def ParseP (s : ByteArray) (w : World) (e : Ending) (w' : World) : Prop := ∃ r, CanonP r w e w' ∧ lm.Is s r
theorem parse_bad {s : ByteArray} {w W : World} (h6 : ¬ 600 < s.size) (hn : ∀ l, lm.textF l = (0, s) → False) (hb : Below w.heap.size w W) : ParseP s w (.returned (.tuple #[.slice none 0 0, .int .i64 3])) W :=
 ⟨(3, []), ret8 rfl hb, Or.inr ⟨h6, Or.inr ⟨rfl, fun ⟨l, h⟩ => hn l h⟩⟩⟩
set_option maxHeartbeats 3200000 in
set_option maxRecDepth 100000 in
theorem parse_any (s : ByteArray) (w : World) (hs : s.size ≤ maxLen) (hm : MX w) :
  Calls Tryz.prog 24 #[.string s] w (ParseP s w) := by
 unfold maxLen at hs
 by_cases h6 : 600 < s.size
 ·
  have h6I : (600 : Int) < (s.size : Int) := by omega
  have HRET : Hid (ParseP s w (.returned (.tuple #[.slice none 0 0, .int .i64 4])) w) := ⟨(4, []), ret8 rfl (Below.refl _ _), Or.inl ⟨h6, rfl⟩⟩
  go_enter Tryz.func24, Tryz.ntmps24
  go_wp2
  exact bodyPost_ret (v := .tuple #[.slice none 0 0, .int .i64 4]) (by simp [results, Tryz.results24, go_sem]) rfl HRET.out
 have h6I : ¬ (600 : Int) < (s.size : Int) := by omega
 have HRB : Hid (∀ W, (∀ l, lm.textF l = (0, s) → False) → Below w.heap.size w W → ParseP s w (.returned (.tuple #[.slice none 0 0, .int .i64 3])) W) := fun W hn hb => parse_bad h6 hn hb
 have HN6 := Lib.hid h6
 by_cases h2 : s.size < 2
 ·
  have h2I : (s.size : Int) < 2 := by omega
  have HRET := Lib.hid (HRB.out w (fun l h => by have := (lm.text_ends h).1; omega) (Below.refl _ _))
  go_enter Tryz.func24, Tryz.ntmps24
  go_wp2
  exact bodyPost_ret (v := .tuple #[.slice none 0 0, .int .i64 3]) (by simp [results, Tryz.results24, go_sem]) rfl HRET.out
 have h2I : ¬ (s.size : Int) < 2 := by omega
 have h0 : 0 < s.size := by omega
 have h0I : (0 : Int) < (s.size : Int) := by omega
 by_cases hA : (s[0]'h0).toNat = 123
 rotate_left
 ·
  have hAi : ¬ ((s[0]'h0).toNat : Int) = 123 := by omega
  have hAb : (((s[0]'h0).toNat : Int) != 123) = true := by simpa using hAi
  have hAc : (((s[0]'h0).toNat : Int) == 123) = false := by simpa using hAi
  have HRET := Lib.hid (HRB.out w (fun l h => hA ((lm.text_ends h).2.1 h0)) (Below.refl _ _))
  clear hA
  go_enter Tryz.func24, Tryz.ntmps24
  go_wp2
  exact bodyPost_ret (v := .tuple #[.slice none 0 0, .int .i64 3]) (by simp [results, Tryz.results24, go_sem]) rfl HRET.out
 have hAi : ((s[0]'h0).toNat : Int) = 123 := by omega
 have hAb : (((s[0]'h0).toNat : Int) != 123) = false := by rw [hAi]; rfl
 have hAc : (((s[0]'h0).toNat : Int) == 123) = true := by rw [hAi]; rfl
 obtain ⟨p, hp⟩ : ∃ p, p + 1 = s.size := ⟨s.size - 1, by omega⟩
 have HP := Lib.hid hp
 have hpl : p < s.size := by omega
 have hpI : (s.size : Int) - 1 = (p : Int) := by omega
 have hpI2 : (p : Int) < (s.size : Int) := by omega
 have hpI3 : (0 : Int) ≤ (p : Int) := by omega
 have hpI4 : (1 : Int) ≤ (p : Int) := by omega
 have hpI5 : (p : Int) ≤ (s.size : Int) := by omega
 have hpw : IntKind.i64.wrap (p : Int) = (p : Int) := IntWalk.i64_in _ (by omega)
 have hpn : (p : Int).toNat = p := Int.toNat_natCast p
 by_cases hB : (s[p]'hpl).toNat = 125
 rotate_left
 ·
  have hBi : ¬ ((s[p]'hpl).toNat : Int) = 125 := by omega
  have hBb : (((s[p]'hpl).toNat : Int) != 125) = true := by simpa using hBi
  have hBc : (((s[p]'hpl).toNat : Int) == 125) = false := by simpa using hBi
  have HRET := Lib.hid (HRB.out w (fun l h => hB ((lm.text_ends h).2.2 p hpl HP.out)) (Below.refl _ _))
  clear hB hp hA
  go_enter Tryz.func24, Tryz.ntmps24
  go_wp2
  exact bodyPost_ret (v := .tuple #[.slice none 0 0, .int .i64 3]) (by simp [results, Tryz.results24, go_sem]) rfl HRET.out
 have hBi : ((s[p]'hpl).toNat : Int) = 125 := by omega
 have hBb : (((s[p]'hpl).toNat : Int) != 125) = false := by rw [hBi]; rfl
 have hBc : (((s[p]'hpl).toNat : Int) == 125) = true := by rw [hBi]; rfl
 have HFI : Hid (∀ (r : ByteArray) (W : World), r.size ≤ 600 → MX W → Calls Tryz.prog 42 #[.string r] W (FirstP r W)) := fun r W h1 h2 => first_any r W h1 h2
 have HM := Lib.hid hm
 have HS6 : Hid (s.size ≤ 600) := Nat.le_of_not_lt h6
 have hz0 : 0 < w.heap.size := by obtain ⟨m, h⟩ := hm; exact World.block_lt_of_cell? _ _ h
 clear hB hp hm h6 hA
 go_enter Tryz.func24, Tryz.ntmps24
 go_wp2
 go_loopw [4, 5, 6, 7, 8] (fun o u5 _ _ _ wr => ∃ (L : List Lab) (q : Nat) (oa : Option Addr) (oc : Nat) (r : ByteArray), o = .slice oa q oc ∧ u5 = .string r ∧ q + r.size ≤ 600 ∧ Hid (q = L.length) ∧ Hid (wr.ownsRow w.heap.size 82 2 (.slice oa q oc) q (lcells L)) ∧ Hid (∀ x ∈ L, x.1.size ≤ 600 ∧ x.2.size ≤ 600) ∧ Hid (lm.At s L r) ∧ Below w.heap.size w wr) (fun _ u5 _ _ _ _ => match u5 with | .string r => r.size | _ => 0)
 case atStart =>
  exact ⟨[], 0, none, 0, _, rfl, rfl, by rw [ByteArray.size_extract]; have := HS6.out; omega, rfl, ⟨rfl, Or.inl ⟨rfl, rfl⟩⟩, (fun x hx => by cases hx), lm.at_start HP.out, Below.refl _ _⟩
 case round =>
  obtain ⟨L, q, oa, oc, r, rfl, rfl, hqr, HQ, HO, HLS, HAT, hbl⟩ := hrel
  have hz := hbl.size
  by_cases hr : r = .empty
  ·
   subst hr
   have hlab : Labs wr wr.heap.size (.slice oa q oc) L := by
    have := Cells.own HO.out
    show Cells _ _ _ _ _ _
    rw [← HQ.out]; exact this
   have HTX := Lib.hid (text_any L _ wr hlab (fun x hx => by have := HLS.out x hx; unfold maxLen; omega) (by rw [← HQ.out]; omega))
   obtain ⟨⟨f, T⟩, hfT⟩ : ∃ r, r = lm.textF L := ⟨_, rfl⟩
   rw [← hfT] at HTX
   have HFT := Lib.hid hfT
   have HEND : Hid (∀ l0, lm.textF l0 = (0, s) → L = l0) := fun l0 h0 => lm.at_end HAT.out h0
   clear hlab hfT
   by_cases hf : f = 0
   rotate_left
   ·
    have hfb : (f != 0) = true := by simpa using hf
    have hfc : (f == 0) = false := by simpa using hf
    have HNO : Hid (∀ l, lm.textF l = (0, s) → False) := fun l0 h0 => by
     have e := HEND.out l0 h0
     have e2 := HFT.out
     rw [e, h0] at e2
     exact hf (Prod.mk.inj e2).1
    clear hf
    go_wp2_with fail
    (with_reducible refine HTX.out.mono ?_)
    rintro e w3 ⟨rfl, hb3⟩
    have HRET := Lib.hid (HRB.out w3 HNO.out (hbl.trans (hb3.mono hz)))
    go_wp2
    exact bodyPost_ret (v := .tuple #[.slice none 0 0, .int .i64 3]) (by simp [results, Tryz.results24, go_sem]) rfl HRET.out
   subst hf
   by_cases hT : T = s
   rotate_left
   ·
    have hTn := str_ne hT
    have hTb : (T.toList == s.toList) = false := by simpa using hTn
    have hTc : (T.toList != s.toList) = true := by simpa using hTn
    have HNO : Hid (∀ l, lm.textF l = (0, s) → False) := fun l0 h0 => by
     have e := HEND.out l0 h0
     have e2 := HFT.out
     rw [e, h0] at e2
     exact hT (Prod.mk.inj e2).2
    clear hT
    go_wp2_with fail
    (with_reducible refine HTX.out.mono ?_)
    rintro e w3 ⟨rfl, hb3⟩
    have HRET := Lib.hid (HRB.out w3 HNO.out (hbl.trans (hb3.mono hz)))
    go_wp2
    exact bodyPost_ret (v := .tuple #[.slice none 0 0, .int .i64 3]) (by simp [results, Tryz.results24, go_sem]) rfl HRET.out
   subst hT
   go_wp2_with fail
   (with_reducible refine HTX.out.mono ?_)
   rintro e w3 ⟨rfl, hb3⟩
   have HRET : Hid (ParseP T w (.returned (.tuple #[.slice oa q oc, .int .i64 0])) w3) := by
    refine ⟨(0, L), ⟨_, rfl, ?_, hbl.trans (hb3.mono hz)⟩, Or.inr ⟨HN6.out, Or.inl ⟨L, rfl, HFT.out.symm⟩⟩⟩
    show Cells _ _ _ _ _ _
    rw [← HQ.out]; exact Cells.own (own_stay HO.out hb3)
   go_wp2
   exact bodyPost_ret (v := .tuple #[.slice oa q oc, .int .i64 0]) (by simp [results, Tryz.results24, go_sem]) rfl HRET.out
  ·
   obtain ⟨hs1, hs2, hs3⟩ : r.toList.isEmpty = false ∧ ¬ r.toList = [] ∧ ¬ r = ByteArray.empty := kit.ne_empty (Nat.pos_of_ne_zero fun e => hr (ByteArray.ext (Array.eq_empty_of_size_eq_zero e)))
   have HF := Lib.hid (HFI.out r wr (by omega) (MX.next HM.out hbl))
   have HRN := Lib.hid hr
   clear hr
   go_wp2_with fail
   (with_reducible refine HF.out.mono ?_)
   rintro e w2 ⟨⟨xa, xb⟩, left, ok, rfl, hb2, hsz, htell⟩
   have HTL := Lib.hid htell
   have hbl2 := hbl.trans (hb2.mono hz)
   have hz2 := hbl2.size
   have HO2 := Lib.hid ((own_stay HO.out hb2).alloc (.cells #[.string xa, .string xb] 82))
   have hbl3 := hbl2.alloc hz2 (.cells #[.string xa, .string xb] 82)
   clear htell hb2
   cases ok with
   | false =>
    have HNO : Hid (∀ l, lm.textF l = (0, s) → False) := fun l0 h0 => by
     obtain ⟨x0, t, hg, hb, _⟩ := lm.at_more HAT.out HRN.out h0
     have := (HTL.out x0 t hg hb).1
     cases this
    have HRET := Lib.hid (HRB.out _ HNO.out hbl3)
    clear hsz
    go_wp2
    exact bodyPost_ret (v := .tuple #[.slice none 0 0, .int .i64 3]) (by simp [results, Tryz.results24, go_sem]) rfl HRET.out
   | true =>
    obtain ⟨hl1, hl2, hl3⟩ := hsz rfl
    simp only at hl2 hl3
    have HAT2 : Hid (lm.At s (L ++ [(xa, xb)]) left) := lm.at_next HAT.out HRN.out (fun x0 t hg hb => ⟨(HTL.out x0 t hg hb).2.1, (HTL.out x0 t hg hb).2.2⟩)
    have HLS2 : Hid (∀ x ∈ L ++ [(xa, xb)], x.1.size ≤ 600 ∧ x.2.size ≤ 600) := fun x hx => by
     rcases List.mem_append.1 hx with h | h
     ·
      exact HLS.out x h
     ·
      simp only [List.mem_cons, List.not_mem_nil, or_false] at h
      rw [h]; exact ⟨show xa.size ≤ 600 by omega, show xb.size ≤ 600 by omega⟩
    have HQ2 : Hid (q + 1 = (L ++ [(xa, xb)]).length) := by show _ = _; rw [List.length_append, ← HQ.out]; rfl
    have HL2 : Hid (lcells (L ++ [(xa, xb)]) = lcells L ++ [.string xa, .string xb]) := by show _ = _; rw [lcells_app]; rfl
    have HOG := Lib.hid (own_stay HO.out (Below.refl _ _))
    clear hsz
    go_wp2_with (at_builtin; refine kit.appB (.tmp 45) (.tmp 47) 48 rfl rfl w.heap.size Tryz.underlying48 infoLab rfl (by decide) (by decide) 1 (World.size_alloc _ _) HO2.out rfl rfl rfl lcells_two (by omega) hbl3.size ?_)
    intro v4 w4 hown4 hgrow4
    have hbl4 := hbl3.trans (((Below.refl _ _).alloc hbl3.size _).trans (grown_below (HO2.out.alloc _) (by rw [World.size_alloc]; have := hbl3.size; omega) hgrow4))
    have HO4 := Lib.hid hown4
    clear hown4 hgrow4
    rcases own_form HO4.out with ⟨_, h0⟩ | ⟨g4, cap4, rfl, hg4⟩
    ·
     omega
    go_wp2
    go_roundw
    case rel => exact ⟨L ++ [(xa, xb)], q + 1, some ⟨g4, 0, none⟩, cap4, left, rfl, rfl, by omega, HQ2.out, by show World.ownsRow _ _ _ _ _ _ _; rw [HL2.out]; exact HO4.out, HLS2.out, HAT2.out, hbl4⟩
    case measure => omega
end Go.Proofs.YtnbdcnbhejfdhaaGreat
namespace Go.Proofs.YtnbdcnbhejfdhaaGreat
open Go Go.RowKit Go.ChangeShapes cl Go.Sort
def sA : ByteArray := ⟨#[123, 97, 61, 34, 49, 34, 125]⟩
set_option maxRecDepth 100000 in
theorem sA_text : lm.textF [(⟨#[97]⟩, ⟨#[49]⟩)] = (0, sA) := by kernel_rfl
end Go.Proofs.YtnbdcnbhejfdhaaGreat
namespace Go.Proofs.YtnbdcnbhejfdhaaGreat
open Go Go.RowKit Go.ChangeShapes cl Go.Sort
structure MtR (q : Nat) (nm vl : ByteArray) (w1 ww : World) : Prop where
 r0 : ww.cell? ⟨q, 0, none⟩ = some (.int .i64 1)
 r1 : ww.cell? ⟨q, 1, none⟩ = some (.string nm)
 r2 : ww.cell? ⟨q, 2, none⟩ = some (.string vl)
 below : Below (q + 1) w1 ww
 size : q + 1 ≤ ww.heap.size
theorem MtR.step {q B : Nat} {nm vl : ByteArray} {w1 w w' : World} (h : MtR q nm vl w1 w) (hB : q + 1 ≤ B) (hT : Below B w w') : MtR q nm vl w1 w' := by
 have k : ∀ i, w'.cell? ⟨q, i, none⟩ = w.cell? ⟨q, i, none⟩ := fun i => hT.cell (p := ⟨q, i, none⟩) (by show q < _; omega)
 exact ⟨(k 0).trans h.r0, (k 1).trans h.r1, (k 2).trans h.r2, h.below.trans (hT.mono hB), Nat.le_trans h.size hT.size⟩
theorem MtR.start {q : Nat} {nm vl : ByteArray} {w1 w : World} (h : MtR q nm vl w1 w) : MtR q nm vl w1 w.drew := h.step h.size (below_drewN (Below.refl _ _) 1)
set_option maxHeartbeats 3200000 in
set_option maxRecDepth 100000 in
theorem match_not (g : Nat) (nm vl s : ByteArray) (lv : Value) (w : World) (c0 : w.cell? ⟨g, 0, none⟩ = some (.int .i64 1)) (c1 : w.cell? ⟨g, 1, none⟩ = some (.string nm)) (c2 : w.cell? ⟨g, 2, none⟩ = some (.string vl))
  (hv : ∀ W, Below w.heap.size w W → Calls Tryz.prog 45 #[lv, .string nm] W (SaysT s W))
  (ha : ∀ W, Calls Tryz.prog 44 #[.agg #[.int .i64 1, .string nm, .string vl], .string s] W (Said false W)) :
  Calls Tryz.prog 25 #[.slice (some ⟨g, 0, none⟩) 1 1, lv] w (Said false w) := by
 obtain ⟨q, hq⟩ : ∃ q, q = w.heap.size := ⟨_, rfl⟩
 obtain ⟨w1, hw1⟩ : ∃ W, W = w.alloc (.cells #[.int .i64 1, .string nm, .string vl] 54) := ⟨_, rfl⟩
 have HB : Hid (Below w.heap.size w w1) := by show Below _ _ _; rw [hw1]; exact below1
 have hz1 : w1.heap.size = q + 1 := by rw [hw1, hq]; simp
 have x1 : w1.heap[q]? = some (.cells #[.int .i64 1, .string nm, .string vl] 54) := by rw [hw1, hq]; exact heap_alloc_new w _
 have HR0 : Hid (MtR q nm vl w1 w1) := ⟨boxc x1 0 _ rfl, boxc x1 1 _ rfl, boxc x1 2 _ rfl, Below.refl _ _, by omega⟩
 have HV : Hid (∀ W, Below (q + 1) w1 W → Calls Tryz.prog 45 #[lv, .string nm] W (SaysT s W)) := fun W hW => hv W (HB.out.trans (hW.mono (by omega)))
 have HA := Lib.hid ha
 have HW := Lib.hid hw1
 have HQ := Lib.hid hq
 clear hv ha hw1 hz1 x1 hq
 go_enter Tryz.func25, Tryz.ntmps25
 go_wp2
 refine wp_loop_rounds 1 ?_
 rw [rounds_succ]
 go_wp2_with fail
 rw [← HW.out, ← HQ.out]
 refine wp_flow 7 (fun _ => 1000) (fun ww => MtR q nm vl w1 ww) (fun _ w w' => (fun (w w' : World) => RowKit.Below w.heap.size w w') w w') (fun kF vF wF => match kF with | 0 => (vF = .agg #[.int .i64 1, .string nm, .string vl]) | 1 => (vF = lv) | 2 => (vF = .pointer (some ⟨q, 1, none⟩)) | 3 => (vF = .string nm) | 4 => (vF = .string s) | 5 => (vF = .bool false) | 6 => (vF = .bool true) | _ => True) (fun _ _ _ _ => True) (by kernel_rfl) (by kernel_rfl) ?_ ?_ ?_ ?_ ?_
 ·
  exact MtR.start HR0.out
 ·
  intro iF wF1 wF2 hR hT; exact hR.step hR.size hT
 ·
  intro kF hkF iF hiF hne hdd hanc hdan vF wF1 wF2 h hT
  rcases (by omega : kF = 0 ∨ kF = 1 ∨ kF = 2 ∨ kF = 3 ∨ kF = 4 ∨ kF = 5 ∨ kF = 6) with rfl | rfl | rfl | rfl | rfl | rfl | rfl
  iterate 7 exact h
 ·
  generalize hAF : fillOf _ _ _ = AF
  replace hAF := fun x => congrFun hAF x
  simp only [take_succ_cons, take_zero, fillOf, Act.put, setIfInBounds_toArray, set_cons_zero, set_cons_succ, Nat.reduceAdd, Nat.zero_add] at hAF
  refine .cons ?_ (.cons ?_ (.cons ?_ (.cons ?_ (.cons ?_ (.cons ?_ (.cons ?_ (.nil)))))))
  all_goals
   intro xF ww hR hd K hK
   first | simp only [← hAF, Act.put, setIfInBounds_toArray, set_cons_zero, set_cons_succ] at hK ⊢ | simp only [← hAF, Act.put] at hK ⊢
   clear hAF
   try simp only [Nat.zero_add, Nat.reduceAdd] at hK ⊢
  ·
   clear hd
   obtain ⟨r0, r1, r2, hbl, hsz⟩ := id hR
   rw [if_pos (by rfl)]
   go_simp
   exact hK.out _ _ (Below.refl _ _) (rfl) (fun _ _ _ => ⟨trivial, trivial⟩)
  ·
   clear hd
   obtain ⟨r0, r1, r2, hbl, hsz⟩ := id hR
   rw [if_pos (by rfl)]
   go_simp
   exact hK.out _ _ (Below.refl _ _) (rfl) (fun _ _ _ => ⟨trivial, trivial⟩)
  ·
   clear hd
   obtain ⟨r0, r1, r2, hbl, hsz⟩ := id hR
   rw [if_pos (by rfl)]
   go_simp
   exact hK.out _ _ (Below.refl _ _) (rfl) (fun _ _ _ => ⟨trivial, trivial⟩)
  ·
   have dd2 := hd 2 (by kernel_rfl)
   clear hd
   try generalize xF 2 = yy2 at *
   obtain rfl := dd2
   obtain ⟨r0, r1, r2, hbl, hsz⟩ := id hR
   rw [if_pos (by rfl)]
   go_simp
   exact hK.out _ _ (Below.refl _ _) (rfl) (fun _ _ _ => ⟨trivial, trivial⟩)
  ·
   have dd1 := hd 1 (by kernel_rfl)
   have dd3 := hd 3 (by kernel_rfl)
   clear hd
   try generalize xF 1 = yy1 at *
   try generalize xF 3 = yy3 at *
   obtain rfl := dd1
   obtain rfl := dd3
   obtain ⟨r0, r1, r2, hbl, hsz⟩ := id hR
   rw [if_pos (by rfl)]
   go_simp
   (go_at_call 45; (with_reducible refine (HV.out _ hR.below).mono ?_); rintro e wK ⟨rfl, hbK⟩)
   try go_wp2_with fail
   exact hK.out _ _ (hbK) (rfl) (fun _ _ _ => ⟨trivial, trivial⟩)
  ·
   have dd0 := hd 0 (by kernel_rfl)
   have dd4 := hd 4 (by kernel_rfl)
   clear hd
   try generalize xF 0 = yy0 at *
   try generalize xF 4 = yy4 at *
   obtain rfl := dd0
   obtain rfl := dd4
   obtain ⟨r0, r1, r2, hbl, hsz⟩ := id hR
   rw [if_pos (by rfl)]
   go_simp
   (go_at_call 44; (with_reducible refine (HA.out _).mono ?_); rintro e wK ⟨rfl, hbK⟩)
   try go_wp2_with fail
   exact hK.out _ _ (hbK) (rfl) (fun _ _ _ => ⟨trivial, trivial⟩)
  ·
   have dd5 := hd 5 (by kernel_rfl)
   clear hd
   try generalize xF 5 = yy5 at *
   obtain rfl := dd5
   obtain ⟨r0, r1, r2, hbl, hsz⟩ := id hR
   rw [if_pos (by rfl)]
   go_simp
   exact hK.out _ _ (Below.refl _ _) (rfl) (fun _ _ _ => ⟨trivial, trivial⟩)
 intro xF ww hR hF hP
 clear hP
 have dd0 := hF 0 (by omega) (by decide)
 have dd1 := hF 1 (by omega) (by decide)
 have dd2 := hF 2 (by omega) (by decide)
 have dd3 := hF 3 (by omega) (by decide)
 have dd4 := hF 4 (by omega) (by decide)
 have dd5 := hF 5 (by omega) (by decide)
 have dd6 := hF 6 (by omega) (by decide)
 clear hF
 simp only [take_succ_cons, take_zero, drop_succ_cons, drop_zero, fillOf, Act.put, setIfInBounds_toArray, set_cons_zero, set_cons_succ, Nat.reduceAdd, Nat.zero_add]
 try generalize xF 0 = yy0 at *
 try generalize xF 1 = yy1 at *
 try generalize xF 2 = yy2 at *
 try generalize xF 3 = yy3 at *
 try generalize xF 4 = yy4 at *
 try generalize xF 5 = yy5 at *
 try generalize xF 6 = yy6 at *
 clear xF
 obtain rfl := dd0
 obtain rfl := dd1
 obtain rfl := dd2
 obtain rfl := dd3
 obtain rfl := dd4
 obtain rfl := dd5
 obtain rfl := dd6
 have hRE := Lib.hid hR
 clear hR
 have HB9 : Hid (Below w.heap.size w ww) := HB.out.trans (hRE.out.below.mono (by have := HQ.out; omega))
 go_wp2
 go_ret
 exact ⟨rfl, HB9.out⟩
set_option maxHeartbeats 1600000 in
set_option maxRecDepth 100000 in
theorem choose_not (s t : ByteArray) (b cap g : Nat) (nm vl : ByteArray) (w : World) (hc : w.cell? ⟨b, 0, none⟩ = some (.string s)) (hg : g < w.heap.size)
  (c0 : w.cell? ⟨g, 0, none⟩ = some (.int .i64 1)) (c1 : w.cell? ⟨g, 1, none⟩ = some (.string nm)) (c2 : w.cell? ⟨g, 2, none⟩ = some (.string vl))
  (hp : ∀ W, Below w.heap.size w W → Calls Tryz.prog 24 #[.string s] W fun e w' => ∃ lv, e = .returned (.tuple #[lv, .int .i64 0]) ∧ Below W.heap.size W w' ∧
   ∀ W2, Below w'.heap.size w' W2 → Calls Tryz.prog 45 #[lv, .string nm] W2 (SaysT t W2))
  (ha : ∀ W, Calls Tryz.prog 44 #[.agg #[.int .i64 1, .string nm, .string vl], .string t] W (Said false W)) :
  Calls Tryz.prog 37 #[.slice (some ⟨b, 0, none⟩) 1 cap, .slice (some ⟨g, 0, none⟩) 1 1] w fun e w' => e = .returned (.slice none 0 0) ∧ Below w.heap.size w w' := by
 have HCL := Lib.hid (Tryz.slices_Clone_string b 0 1 cap [s] w (by simp) (by omega) (fun j hj => by
  have hj0 : j = 0 := by simpa using hj
  subst hj0
  simpa using hc))
 have HP := Lib.hid hp
 have HA := Lib.hid ha
 have HCS : Hid (∀ W, Below w.heap.size w W → W.cell? ⟨g, 0, none⟩ = some (.int .i64 1) ∧ W.cell? ⟨g, 1, none⟩ = some (.string nm) ∧ W.cell? ⟨g, 2, none⟩ = some (.string vl)) := fun W hW =>
  ⟨(hW.cell (p := ⟨g, 0, none⟩) hg).trans c0, (hW.cell (p := ⟨g, 1, none⟩) hg).trans c1, (hW.cell (p := ⟨g, 2, none⟩) hg).trans c2⟩
 clear hp hc ha c0 c1 c2 hg
 go_enter Tryz.func37, Tryz.ntmps37
 go_wp2_with fail
 (with_reducible refine HCL.out.mono ?_)
 rintro e w1 ⟨v1, rfl, ho1, _, hb1⟩
 have ho1 : w1.ownsRow w.heap.size 9 1 v1 1 [.string s] := ho1
 obtain ⟨g1, c1, rfl⟩ : ∃ g c, v1 = .slice (some ⟨g, 0, none⟩) 1 c := by
  rcases own_form ho1 with ⟨_, h0⟩ | ⟨g, c, e, _⟩
  ·
   cases h0
  ·
   exact ⟨g, c, e⟩
 have HRS := Lib.hid (rising_one s w.heap.size g1 c1 w1 ho1)
 have HO1 := Lib.hid ho1
 have HB1 := Lib.hid hb1
 clear ho1 hb1
 go_wp2_with fail
 (with_reducible refine HRS.out.mono ?_)
 rintro e w2 ⟨rfl, hb2⟩
 have HO2 := Lib.hid (own_stay HO1.out hb2)
 have HB2 := Lib.hid (HB1.out.trans (hb2.mono HB1.out.size))
 have k0 : w2.cell? ⟨g1, 0, none⟩ = some (.string s) := by
  have := HO2.out.cells (g := g1) rfl 0 (.string s) rfl
  rw [Addr.add_lit] at this
  simpa using this
 clear hb2
 go_wp2
 refine wp_loop_rounds 2 ?_
 rw [rounds_succ]
 go_wp2_with fail
 (with_reducible refine (HP.out _ HB2.out).mono ?_)
 rintro e w3 ⟨lv, rfl, hb3, hv3⟩
 have HB3 := Lib.hid (HB2.out.trans (hb3.mono HB2.out.size))
 have HM := Lib.hid (match_not g nm vl t lv w3 (HCS.out _ HB3.out).1 (HCS.out _ HB3.out).2.1 (HCS.out _ HB3.out).2.2 hv3 HA.out)
 clear hb3 hv3 k0
 go_wp2_with fail
 (with_reducible refine HM.out.mono ?_)
 rintro e w4 ⟨rfl, hb4⟩
 have HB4 := Lib.hid (HB3.out.trans (hb4.mono HB3.out.size))
 clear hb4
 go_wp2
 rw [rounds_succ]
 go_wp2
 go_ret
 exact ⟨rfl, HB4.out⟩
set_option maxHeartbeats 800000 in
set_option maxRecDepth 100000 in
theorem expect_not (t : ByteArray) (x : Lv) (v : Value) (g : Nat) (nm vl : ByteArray) (w : World) (h : Cells w w.heap.size v 1 4 (lcell x)) (hg : g < w.heap.size)
  (c0 : w.cell? ⟨g, 0, none⟩ = some (.int .i64 1)) (c1 : w.cell? ⟨g, 1, none⟩ = some (.string nm)) (c2 : w.cell? ⟨g, 2, none⟩ = some (.string vl))
  (hp : ∀ W, Below w.heap.size w W → Calls Tryz.prog 24 #[.string x.s] W fun e w' => ∃ lv, e = .returned (.tuple #[lv, .int .i64 0]) ∧ Below W.heap.size W w' ∧
   ∀ W2, Below w'.heap.size w' W2 → Calls Tryz.prog 45 #[lv, .string nm] W2 (SaysT t W2))
  (ha : ∀ W, Calls Tryz.prog 44 #[.agg #[.int .i64 1, .string nm, .string vl], .string t] W (Said false W)) :
  Calls Tryz.prog 16 #[v, .slice (some ⟨g, 0, none⟩) 1 1] w fun e w' => e = .returned (.slice none 0 0) ∧ Below w.heap.size w w' := by
 have HS := Lib.hid (series_one x v w h)
 have HP := Lib.hid hp
 have HA := Lib.hid ha
 have HCS : Hid (∀ W, Below w.heap.size w W → W.cell? ⟨g, 0, none⟩ = some (.int .i64 1) ∧ W.cell? ⟨g, 1, none⟩ = some (.string nm) ∧ W.cell? ⟨g, 2, none⟩ = some (.string vl)) := fun W hW =>
  ⟨(hW.cell (p := ⟨g, 0, none⟩) hg).trans c0, (hW.cell (p := ⟨g, 1, none⟩) hg).trans c1, (hW.cell (p := ⟨g, 2, none⟩) hg).trans c2⟩
 have HGS := Lib.hid hg
 clear h hp ha c0 c1 c2 hg
 go_enter Tryz.func16, Tryz.ntmps16
 go_wp2_with fail
 (with_reducible refine HS.out.mono ?_)
 rintro e w1 ⟨g1, cap, rfl, ho, hb⟩
 have k0 : w1.cell? ⟨g1, 0, none⟩ = some (.string x.s) := by
  have := ho.cells (g := g1) rfl 0 (.string x.s) rfl
  rw [Addr.add_lit] at this
  simpa using this
 have HC := Lib.hid (choose_not x.s t g1 cap g nm vl w1 k0 (by have := HGS.out; have := hb.size; omega) (HCS.out _ hb).1 (HCS.out _ hb).2.1 (HCS.out _ hb).2.2 (fun W hW => HP.out W (hb.trans (hW.mono hb.size))) HA.out)
 have HB := Lib.hid hb
 clear ho hb k0
 go_wp2_with fail
 (with_reducible refine HC.out.mono ?_)
 rintro e w2 ⟨rfl, hb2⟩
 have HR : Hid (Below w.heap.size w w2) := HB.out.trans (hb2.mono HB.out.size)
 clear hb2
 go_wp2
 go_ret
 exact ⟨rfl, HR.out⟩
theorem parse_sA2 (w : World) (hm : MX w) : Calls Tryz.prog 24 #[.string sA] w fun e w' => ∃ lv, e = .returned (.tuple #[lv, .int .i64 0]) ∧ Below w.heap.size w w' ∧
  ∀ W2, Below w'.heap.size w' W2 → Calls Tryz.prog 45 #[lv, .string ⟨#[97]⟩] W2 (SaysT ⟨#[49]⟩ W2) := by
 refine (parse_any sA w (by unfold maxLen; decide) hm).mono ?_
 rintro e w' ⟨r, ⟨v, rfl, hc, hb⟩, hi⟩
 rcases hi with ⟨h, _⟩ | ⟨_, h⟩
 ·
  exact absurd h (by decide)
 ·
  rcases h with h | ⟨_, h⟩
  ·
   obtain ⟨l, rfl, ht⟩ := h
   have hl : l = [(⟨#[97]⟩, ⟨#[49]⟩)] := lm.text_inj ht sA_text
   subst hl
   refine ⟨v, rfl, hb, fun W2 hW2 => ?_⟩
   exact value_any [(⟨#[97]⟩, ⟨#[49]⟩)] v ⟨#[97]⟩ W2 (hc.next hW2)
  ·
   exact absurd ⟨_, sA_text⟩ h
end Go.Proofs.YtnbdcnbhejfdhaaGreat
namespace Go.Proofs.YtnbdcnbhejfdhaaGreat
open Go Go.RowKit Go.ChangeShapes cl Go.Sort Go.WideMaps Go.Maps
set_option maxHeartbeats 800000 in
set_option maxRecDepth 100000 in
theorem young_one (m p h : Nat) (s : ByteArray) (D : DataW Unit) (c b : Int) (kl : Lit) (n : Nat) (w : World) (hm : w.cell? ⟨m, 0, none⟩ = some (.map (some h))) (hp : w.cell? ⟨p, 0, none⟩ = some (.int .i64 b))
  (ho : w.ownsMap Tryz.prog 9 (plainElem Tryz.prog 3) h n D) (hk : keyOf Tryz.prog 9 (.string s) = some kl) (hc : D.atKey kl (.lit (.int .i64 0)) = .lit (.int .i64 c)) (hlt : c < b) :
  Calls Tryz.prog 40 #[.string s, .pointer (some ⟨m, 0, none⟩), .pointer (some ⟨p, 0, none⟩)] w fun e w' => e = .returned (.bool false) ∧ w' = w := by
 have HO := Lib.hid ho
 have HK := Lib.hid hk
 have HC := Lib.hid hc
 have hlt2 : ¬ b ≤ c := by omega
 clear ho hk hc
 go_enter Tryz.func40, Tryz.ntmps40
 go_wp2_with (at_lookup; refine wpList_lookup_own_int _ rfl _ _ 77 rfl 9 3 .i64 mlaw Tryz.underlying77 Tryz.underlying3 (zeroI _) h n D rfl HO.out _ _ rfl HK.out ?_)
 intro c' hat _
 have hcc : c' = c := by
  rw [HC.out] at hat
  simp only [DataW.lit.injEq, Lit.int.injEq, true_and] at hat
  exact hat.symm
 subst hcc
 clear hat
 go_wp2
 go_ret
 refine ⟨?_, rfl⟩
 simp; omega
set_option maxHeartbeats 800000 in
set_option maxRecDepth 100000 in
theorem indexf_one (b cap m p : Nat) (s : ByteArray) (w : World) (hc : w.cell? ⟨b, 0, none⟩ = some (.string s))
  (hf : Calls Tryz.prog 40 #[.string s, .pointer (some ⟨m, 0, none⟩), .pointer (some ⟨p, 0, none⟩)] w fun e w' => e = .returned (.bool false) ∧ w' = w) :
  Calls Tryz.prog 60 #[.slice (some ⟨b, 0, none⟩) 1 cap, .func (.func 40) #[] #[.pointer (some ⟨m, 0, none⟩), .pointer (some ⟨p, 0, none⟩)]] w fun e w' => e = .returned (.int .i64 (-1)) ∧ w' = w := by
 have HF := Lib.hid hf
 clear hf
 go_enter Tryz.func60, Tryz.ntmps60
 go_wp2
 refine wp_loop_rounds 2 ?_
 rw [rounds_succ]
 go_wp2_with fail
 (with_reducible refine HF.out.mono ?_)
 rintro e w1 ⟨rfl, rfl⟩
 go_wp2
 rw [rounds_succ]
 go_wp2
 go_ret
 exact ⟨rfl, rfl⟩
set_option maxHeartbeats 800000 in
set_option maxRecDepth 100000 in
theorem deletef_one (b cap m p : Nat) (s : ByteArray) (w : World) (hc : w.cell? ⟨b, 0, none⟩ = some (.string s))
  (hf : Calls Tryz.prog 40 #[.string s, .pointer (some ⟨m, 0, none⟩), .pointer (some ⟨p, 0, none⟩)] w fun e w' => e = .returned (.bool false) ∧ w' = w) :
  Calls Tryz.prog 39 #[.slice (some ⟨b, 0, none⟩) 1 cap, .func (.func 40) #[] #[.pointer (some ⟨m, 0, none⟩), .pointer (some ⟨p, 0, none⟩)]] w fun e w' => e = .returned (.slice (some ⟨b, 0, none⟩) 1 cap) ∧ w' = w := by
 have HI := Lib.hid (indexf_one b cap m p s w hc hf)
 clear hf hc
 go_enter Tryz.func39, Tryz.ntmps39
 go_wp2_with fail
 (with_reducible refine HI.out.mono ?_)
 rintro e w1 ⟨rfl, rfl⟩
 go_wp2
 go_ret
 exact ⟨rfl, rfl⟩
set_option maxHeartbeats 1600000 in
set_option maxRecDepth 100000 in
theorem old_one (x : Lv) (v : Value) (b : Int) (w : World) (h : Cells w w.heap.size v 1 4 (lcell x)) (hs : x.s = sA) (ht : x.t = 3) (hb : b = 4) :
  Calls Tryz.prog 18 #[v, .int .i64 b] w fun e w' => ∃ g cap, e = .returned (.slice (some ⟨g, 0, none⟩) 1 cap) ∧ Below w.heap.size w w' := by
 have hmm := fun (w : World) => run_makeMap_no (P := Tryz.prog) (t := 77) w
 obtain ⟨ao, cap, e0, _, _⟩ := h.form
 subst e0
 have HC := Lib.hid h
 obtain ⟨bb, off, rfl, hbB, p0, p1, p2, p3⟩ := lcell_get h
 obtain ⟨kl, hkl⟩ : ∃ kl, kl = Lit.string x.s.data.toList := ⟨_, rfl⟩
 have HKEY : Hid (keyOf Tryz.prog 9 (.string x.s) = some kl) := by
  show _ = _
  rw [hkl]
  exact keyOf_string_mk (s := x.s) Tryz.underlying9 (by rw [hs]; decide)
 obtain ⟨w3, hw3⟩ : ∃ W, W = ((w.alloc (.cells #[.int .i64 b] 3)).alloc (.map #[] 0)).alloc (.cells #[.map (some (w.heap.size + 1))] 77) := ⟨_, rfl⟩
 have HB3 : Hid (Below w.heap.size w w3) := by show Below _ _ _; rw [hw3]; exact (below1.alloc (by simp) _).alloc (by simp; omega) _
 have hz3 : w3.heap.size = w.heap.size + 3 := by rw [hw3]; simp
 have HP3 : Hid (w3.cell? ⟨w.heap.size, 0, none⟩ = some (.int .i64 b)) := by
  show _ = _
  rw [hw3, World.cell?_alloc_lt _ _ _ (by simp; omega), World.cell?_alloc_lt _ _ _ (by simp)]
  exact boxc (heap_alloc_new _ _) 0 _ rfl
 have HM3 : Hid (w3.cell? ⟨w.heap.size + 1 + 1, 0, none⟩ = some (.map (some (w.heap.size + 1)))) := by
  show _ = _
  rw [hw3]
  have := heap_alloc_new ((w.alloc (.cells #[.int .i64 b] 3)).alloc (.map #[] 0)) (.cells #[.map (some (w.heap.size + 1))] 77)
  simp only [World.size_alloc] at this
  exact boxc this 0 _ rfl
 have HO3 : Hid (w3.ownsMap Tryz.prog 9 (plainElem Tryz.prog 3) (w.heap.size + 1) 0 (.map [] : DataW Unit)) := by
  show World.ownsMap _ _ _ _ _ _ _
  have := World.ownsMap_made (H := Unit) (w.alloc (.cells #[.int .i64 b] 3)) Tryz.prog 9 (plainElem Tryz.prog 3)
  rw [World.size_alloc] at this
  rw [hw3]; exact this.alloc _
 have c0 := (HB3.out.cell (p := ⟨bb, off, none⟩) hbB).trans p0
 have c1 := (HB3.out.cell (p := ⟨bb, off + 1, none⟩) hbB).trans p1
 have c2 := (HB3.out.cell (p := ⟨bb, off + 2, none⟩) hbB).trans p2
 have c3 := (HB3.out.cell (p := ⟨bb, off + 3, none⟩) hbB).trans p3
 have HW3 := Lib.hid hw3
 have HZ3 := Lib.hid hz3
 have HS := Lib.hid hs
 have HT := Lib.hid ht
 have HBB := Lib.hid hb
 clear h p0 p1 p2 p3 hkl hw3 hs ht hb hz3
 go_enter Tryz.func18, Tryz.ntmps18
 go_wp2_with fail
 rw [← HW3.out]
 refine wp_loop_rounds 2 ?_
 rw [rounds_succ]
 have hz3 := HZ3.out
 obtain ⟨W4, hW4⟩ : ∃ W, W = w3.alloc (.cells #[.string x.s, .int .i64 x.d.1, .int .i64 x.d.2, .int .i64 x.t] 43) := ⟨_, rfl⟩
 have HB4 : Hid (Below w.heap.size w W4) := by show Below _ _ _; rw [hW4]; exact HB3.out.alloc (by omega) _
 have hz4 : W4.heap.size = w.heap.size + 4 := by rw [hW4]; simp; omega
 have b4 : Below w3.heap.size w3 W4 := by rw [hW4]; exact below1
 have x4 : W4.heap[w3.heap.size]? = some (.cells #[.string x.s, .int .i64 x.d.1, .int .i64 x.d.2, .int .i64 x.t] 43) := by rw [hW4]; exact heap_alloc_new _ _
 have HM4 : Hid (W4.cell? ⟨w.heap.size + 1 + 1, 0, none⟩ = some (.map (some (w.heap.size + 1)))) := (b4.cell (p := ⟨w.heap.size + 1 + 1, 0, none⟩) (by show w.heap.size + 1 + 1 < _; omega)).trans HM3.out
 have HP4 : Hid (W4.cell? ⟨w.heap.size, 0, none⟩ = some (.int .i64 b)) := (b4.cell (p := ⟨w.heap.size, 0, none⟩) (by show w.heap.size < _; omega)).trans HP3.out
 have HW4 := Lib.hid hW4
 have HZ4 := Lib.hid hz4
 have HX4 := Lib.hid x4
 have HNO : Hid (Maps.has (.map [] : DataW Unit) kl = false) := by show _ = _; simp [Maps.has]
 have m3 := HM4.out
 rw [hW4] at m3
 clear hW4 b4 x4 hz3 hz4
 go_wp2_with (first | (at_lookup; refine look_ok rfl _ _ 77 rfl 9 3 .i64 mlaw Tryz.underlying77 Tryz.underlying3 (zeroI _) (w.heap.size + 1) 0 (.map [] : DataW Unit) rfl (HO3.out.alloc _) _ _ rfl HKEY.out false HNO.out ?_; intro cv) | (at_mapUpdate; refine wpList_mapUpdate_own _ rfl _ _ _ 77 rfl 9 3 mlaw Tryz.underlying77 _ (w.heap.size + 1) 0 _ rfl (HO3.out.alloc _) (by unfold maxLen; omega) _ _ _ rfl rfl HKEY.out _ [] (plainElem_int Tryz.underlying3 (by rw [HT.out]; decide)) ?_))
 rw [← HW4.out]
 intro w5 hown5 hgrow5
 have HO5 := Lib.hid hown5
 have HB5 := Lib.hid (HB4.out.grown hgrow5 (by have := HZ4.out; omega) (fun i hi => by cases hi; omega))
 have HM5 : Hid (w5.cell? ⟨w.heap.size + 1 + 1, 0, none⟩ = some (.map (some (w.heap.size + 1)))) := (grown_cell hgrow5 (p := ⟨w.heap.size + 1 + 1, 0, none⟩) (by show w.heap.size + 1 + 1 < _; have := HZ4.out; omega) (fun e => by have := Option.some.inj e; simp at this)).trans HM4.out
 have HP5 : Hid (w5.cell? ⟨w.heap.size, 0, none⟩ = some (.int .i64 b)) := (grown_cell hgrow5 (p := ⟨w.heap.size, 0, none⟩) (by show w.heap.size < _; have := HZ4.out; omega) (fun e => by have := Option.some.inj e; simp at this)).trans HP4.out
 have HZ5 : Hid (w.heap.size + 4 ≤ w5.heap.size) := by have := hgrow5.size; have := HZ4.out; show _ ≤ _; omega
 have HS5 := Lib.hid (series_one x _ w5 (HC.out.next HB5.out))
 clear hown5 hgrow5 m3 c0 c1 c2 c3
 go_wp2
 rw [rounds_succ]
 go_wp2_with fail
 (with_reducible refine HS5.out.mono ?_)
 rintro e w6 ⟨g6, cap6, rfl, ho6, hb6⟩
 have k6 : w6.cell? ⟨g6, 0, none⟩ = some (.string x.s) := by
  have := ho6.cells (g := g6) rfl 0 (.string x.s) rfl
  rw [Addr.add_lit] at this
  simpa using this
 have m6 := (hb6.cell (p := ⟨w.heap.size + 1 + 1, 0, none⟩) (by show w.heap.size + 1 + 1 < _; have := HZ5.out; omega)).trans HM5.out
 have p6 := (hb6.cell (p := ⟨w.heap.size, 0, none⟩) (by show w.heap.size < _; have := HZ5.out; omega)).trans HP5.out
 have o6 := HO5.out.kept (row := none) (grown_below' hb6) (by simp)
 have HB6 := Lib.hid (HB5.out.trans (hb6.mono HB5.out.size))
 have HD6 := Lib.hid (deletef_one g6 cap6 (w.heap.size + 1 + 1) w.heap.size x.s w6 k6 (young_one (w.heap.size + 1 + 1) w.heap.size (w.heap.size + 1) x.s _ x.t b kl _ w6 m6 p6 o6 HKEY.out (atKey_put_same HO3.out.isMap (mlaw.key HKEY.out) _ _) (by rw [HT.out, HBB.out]; decide)))
 clear k6 m6 p6 o6 ho6 hb6
 go_wp2_with fail
 (with_reducible refine HD6.out.mono ?_)
 rintro e w7 ⟨rfl, rfl⟩
 go_wp2
 go_ret
 exact ⟨_, _, rfl, HB6.out⟩
end Go.Proofs.YtnbdcnbhejfdhaaGreat
