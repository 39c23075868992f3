/- texts put together: LabParse, Flow. -/
import Derived.Test.YtegjpiggjcfoaaaPd06
import Derived.Deep.RegionHeld3
import Derived.StillTail
namespace Go.Proofs.Ytegjpiggjcfoaaa.lm
open Go.RowKit
theorem bytes_mid (s : ByteArray) (p : Nat) : kit.bytes (s.extract 1 p) = ((kit.bytes s).drop 1).take (p - 1) := by
 show List.map UInt8.toNat (s.extract 1 p).data.toList = ((List.map UInt8.toNat s.data.toList).drop 1).take (p - 1)
 rw [ByteArray.data_extract, Array.toList_extract, List.extract_eq_take_drop, List.map_take, List.map_drop]
theorem text_mid {l : List Lab} {s : ByteArray} {p : Nat} (h : textF l = (0, s)) (hp : p + 1 = s.size) : kit.bytes (s.extract 1 p) = (behind l).drop 1 := by
 obtain ⟨hb, _, _⟩ := text_bytes h
 have hl := congrArg List.length hb
 rw [kit.bytes_len, List.length_append, List.length_append] at hl
 simp only [List.length_cons, List.length_nil] at hl
 rw [bytes_mid, hb]
 show ((behind l).drop 1 ++ [125]).take (p - 1) = _
 rw [List.take_append_of_le_length (by omega), List.take_of_length_le (by omega)]
theorem text_ends {l : List Lab} {s : ByteArray} (h : textF l = (0, s)) : 2 ≤ s.size ∧ (∀ h0 : 0 < s.size, (s[0]'h0).toNat = 123) ∧ ∀ p (h1 : p < s.size), p + 1 = s.size → (s[p]'h1).toNat = 125 := by
 obtain ⟨hb, _, _⟩ := text_bytes h
 have hl := congrArg List.length hb
 rw [kit.bytes_len, List.length_append, List.length_append] at hl
 simp only [List.length_cons, List.length_nil] at hl
 refine ⟨by omega, fun h0 => ?_, fun p h1 hp => ?_⟩
 ·
  have := kit.bytes_get s 0 h0
  rw [hb] at this
  simpa using this.symm
 ·
  have := kit.bytes_get s p h1
  rw [hb, List.getElem?_append_right (by rw [List.length_append]; simp only [List.length_cons, List.length_nil]; omega)] at this
  have e : p - ([123] ++ (behind l).drop 1).length = 0 := by rw [List.length_append]; simp only [List.length_cons, List.length_nil]; omega
  rw [e] at this
  simpa using this.symm
theorem behind_cons (x : Lab) (r : List Lab) : behind (x :: r) = 44 :: (oneT x ++ behind r) := rfl
theorem noComma_behind (r : List Lab) : noComma (behind r) = (behind r).drop 1 := by
 cases r with
 | nil => rfl
 | cons x r => rw [behind_cons]; exact if_pos rfl
theorem oneT_ne (x : Lab) : oneT x ≠ [] := by unfold oneT; simp
def At (s : ByteArray) (L : List Lab) (r : ByteArray) : Prop := ∀ l0, textF l0 = (0, s) → ∃ j, j ≤ l0.length ∧ L = l0.take j ∧ kit.bytes r = (behind (l0.drop j)).drop 1
theorem at_start {s : ByteArray} {p : Nat} (hp : p + 1 = s.size) : At s [] (s.extract 1 p) := fun l0 h => ⟨0, Nat.zero_le _, rfl, by rw [text_mid h hp]; rfl⟩
theorem at_more {s r : ByteArray} {L : List Lab} (h : At s L r) (hr : r ≠ .empty) {l0 : List Lab} (h0 : textF l0 = (0, s)) : ∃ x0 t, good x0 = true ∧ kit.bytes r = oneT x0 ++ t ∧ ∃ j, j < l0.length ∧ L = l0.take j ∧ x0 = l0.getD j (.empty, .empty) ∧ t = behind (l0.drop (j + 1)) := by
 obtain ⟨j, hj, hL, hb⟩ := h l0 h0
 have hjl : j < l0.length := by
  rcases Nat.lt_or_ge j l0.length with h | h
  ·
   exact h
  ·
   rw [List.drop_eq_nil_of_le h] at hb
   exact absurd (kit.bytes_inj (t := .empty) (by rw [hb]; rfl)) hr
 rw [List.drop_eq_getElem_cons hjl, behind_cons] at hb
 exact ⟨l0[j], _, (text_bytes h0).2.1 _ (List.getElem_mem _), hb, j, hjl, hL, by simp [List.getD, hjl], rfl⟩
theorem at_next {s r left : ByteArray} {L : List Lab} {x : Lab} (h : At s L r) (hr : r ≠ .empty) (hx : ∀ x0 t, good x0 = true → kit.bytes r = oneT x0 ++ t → x = x0 ∧ kit.bytes left = noComma t) : At s (L ++ [x]) left := fun l0 h0 => by
 obtain ⟨x0, t, hg, hb, j, hj, hL, hx0, ht⟩ := at_more h hr h0
 obtain ⟨e1, e2⟩ := hx x0 t hg hb
 exact ⟨j + 1, hj, by rw [take_snoc hj hx0, hL, e1], by rw [e2, ht, noComma_behind]⟩
theorem at_end {s : ByteArray} {L : List Lab} (h : At s L .empty) {l0 : List Lab} (h0 : textF l0 = (0, s)) : L = l0 := by
 obtain ⟨j, hj, hL, hb⟩ := h l0 h0
 rcases Nat.lt_or_ge j l0.length with hjl | hjl
 ·
  rw [List.drop_eq_getElem_cons hjl, behind_cons] at hb
  have h3 : (oneT l0[j] ++ behind (l0.drop (j + 1))) = [] := by
   have : kit.bytes .empty = [] := rfl
   rw [this] at hb
   exact hb.symm
  exact absurd (List.append_eq_nil_iff.1 h3).1 (oneT_ne _)
 ·
  rw [hL, List.take_of_length_le hjl]
end Go.Proofs.Ytegjpiggjcfoaaa.lm
namespace Go.Proofs.Ytegjpiggjcfoaaa
open Go.RowKit Go.ChangeShapes cl
def ParseP (s : ByteArray) (w : World) (e : Ending) (w' : World) : Prop := ∃ r, CanonP r w e w' ∧ lm.Is s r
theorem parse_bad {s : ByteArray} {w W : World} (h6 : ¬ 600 < s.size) (hn : ∀ l, lm.textF l = (0, s) → False) (hb : Below w.heap.size w W) : ParseP s w (.returned (.tuple #[.slice none 0 0, .int .i64 3])) W :=
 ⟨(3, []), ret8 rfl hb, Or.inr ⟨h6, Or.inr ⟨rfl, fun ⟨l, h⟩ => hn l h⟩⟩⟩
set_option maxHeartbeats 3200000 in
set_option maxRecDepth 100000 in
theorem parse_any (s : ByteArray) (w : World) (hs : s.size ≤ maxLen) (hm : MX w) :
  Calls Try.prog 11 #[.string s] w (ParseP s w) := by
 unfold maxLen at hs
 by_cases h6 : 600 < s.size
 ·
  have h6I : (600 : Int) < (s.size : Int) := by omega
  have HRET : Hid (ParseP s w (.returned (.tuple #[.slice none 0 0, .int .i64 4])) w) := ⟨(4, []), ret8 rfl (Below.refl _ _), Or.inl ⟨h6, rfl⟩⟩
  go_enter Try.func11, Try.ntmps11
  go_wp2
  exact bodyPost_ret (v := .tuple #[.slice none 0 0, .int .i64 4]) (by simp [results, Try.results11, go_sem]) rfl HRET.out
 have h6I : ¬ (600 : Int) < (s.size : Int) := by omega
 have HRB : Hid (∀ W, (∀ l, lm.textF l = (0, s) → False) → Below w.heap.size w W → ParseP s w (.returned (.tuple #[.slice none 0 0, .int .i64 3])) W) := fun W hn hb => parse_bad h6 hn hb
 have HN6 := Lib.hid h6
 by_cases h2 : s.size < 2
 ·
  have h2I : (s.size : Int) < 2 := by omega
  have HRET := Lib.hid (HRB.out w (fun l h => by have := (lm.text_ends h).1; omega) (Below.refl _ _))
  go_enter Try.func11, Try.ntmps11
  go_wp2
  exact bodyPost_ret (v := .tuple #[.slice none 0 0, .int .i64 3]) (by simp [results, Try.results11, go_sem]) rfl HRET.out
 have h2I : ¬ (s.size : Int) < 2 := by omega
 have h0 : 0 < s.size := by omega
 have h0I : (0 : Int) < (s.size : Int) := by omega
 by_cases hA : (s[0]'h0).toNat = 123
 rotate_left
 ·
  have hAi : ¬ ((s[0]'h0).toNat : Int) = 123 := by omega
  have hAb : (((s[0]'h0).toNat : Int) != 123) = true := by simpa using hAi
  have hAc : (((s[0]'h0).toNat : Int) == 123) = false := by simpa using hAi
  have HRET := Lib.hid (HRB.out w (fun l h => hA ((lm.text_ends h).2.1 h0)) (Below.refl _ _))
  clear hA
  go_enter Try.func11, Try.ntmps11
  go_wp2
  exact bodyPost_ret (v := .tuple #[.slice none 0 0, .int .i64 3]) (by simp [results, Try.results11, go_sem]) rfl HRET.out
 have hAi : ((s[0]'h0).toNat : Int) = 123 := by omega
 have hAb : (((s[0]'h0).toNat : Int) != 123) = false := by rw [hAi]; rfl
 have hAc : (((s[0]'h0).toNat : Int) == 123) = true := by rw [hAi]; rfl
 obtain ⟨p, hp⟩ : ∃ p, p + 1 = s.size := ⟨s.size - 1, by omega⟩
 have HP := Lib.hid hp
 have hpl : p < s.size := by omega
 have hpI : (s.size : Int) - 1 = (p : Int) := by omega
 have hpI2 : (p : Int) < (s.size : Int) := by omega
 have hpI3 : (0 : Int) ≤ (p : Int) := by omega
 have hpI4 : (1 : Int) ≤ (p : Int) := by omega
 have hpI5 : (p : Int) ≤ (s.size : Int) := by omega
 have hpw : IntKind.i64.wrap (p : Int) = (p : Int) := IntWalk.i64_in _ (by omega)
 have hpn : (p : Int).toNat = p := Int.toNat_natCast p
 by_cases hB : (s[p]'hpl).toNat = 125
 rotate_left
 ·
  have hBi : ¬ ((s[p]'hpl).toNat : Int) = 125 := by omega
  have hBb : (((s[p]'hpl).toNat : Int) != 125) = true := by simpa using hBi
  have hBc : (((s[p]'hpl).toNat : Int) == 125) = false := by simpa using hBi
  have HRET := Lib.hid (HRB.out w (fun l h => hB ((lm.text_ends h).2.2 p hpl HP.out)) (Below.refl _ _))
  clear hB hp hA
  go_enter Try.func11, Try.ntmps11
  go_wp2
  exact bodyPost_ret (v := .tuple #[.slice none 0 0, .int .i64 3]) (by simp [results, Try.results11, go_sem]) rfl HRET.out
 have hBi : ((s[p]'hpl).toNat : Int) = 125 := by omega
 have hBb : (((s[p]'hpl).toNat : Int) != 125) = false := by rw [hBi]; rfl
 have hBc : (((s[p]'hpl).toNat : Int) == 125) = true := by rw [hBi]; rfl
 have HFI : Hid (∀ (r : ByteArray) (W : World), r.size ≤ 600 → MX W → Calls Try.prog 20 #[.string r] W (FirstP r W)) := fun r W h1 h2 => first_any r W h1 h2
 have HM := Lib.hid hm
 have HS6 : Hid (s.size ≤ 600) := Nat.le_of_not_lt h6
 have hz0 : 0 < w.heap.size := by obtain ⟨m, h⟩ := hm; exact World.block_lt_of_cell? _ _ h
 clear hB hp hm h6 hA
 go_enter Try.func11, Try.ntmps11
 go_wp2
 go_loopw [4, 5, 6, 7, 8] (fun o u5 _ _ _ wr => ∃ (L : List Lab) (q : Nat) (oa : Option Addr) (oc : Nat) (r : ByteArray), o = .slice oa q oc ∧ u5 = .string r ∧ q + r.size ≤ 600 ∧ Hid (q = L.length) ∧ Hid (wr.ownsRow w.heap.size 47 2 (.slice oa q oc) q (lcells L)) ∧ Hid (∀ x ∈ L, x.1.size ≤ 600 ∧ x.2.size ≤ 600) ∧ Hid (lm.At s L r) ∧ Below w.heap.size w wr) (fun _ u5 _ _ _ _ => match u5 with | .string r => r.size | _ => 0)
 case atStart =>
  exact ⟨[], 0, none, 0, _, rfl, rfl, by rw [ByteArray.size_extract]; have := HS6.out; omega, rfl, ⟨rfl, Or.inl ⟨rfl, rfl⟩⟩, (fun x hx => by cases hx), lm.at_start HP.out, Below.refl _ _⟩
 case round =>
  obtain ⟨L, q, oa, oc, r, rfl, rfl, hqr, HQ, HO, HLS, HAT, hbl⟩ := hrel
  have hz := hbl.size
  by_cases hr : r = .empty
  ·
   subst hr
   have hlab : Labs wr wr.heap.size (.slice oa q oc) L := by
    have := Cells.own HO.out
    show Cells _ _ _ _ _ _
    rw [← HQ.out]; exact this
   have HTX := Lib.hid (text_any L _ wr hlab (fun x hx => by have := HLS.out x hx; unfold maxLen; omega) (by rw [← HQ.out]; omega))
   obtain ⟨⟨f, T⟩, hfT⟩ : ∃ r, r = lm.textF L := ⟨_, rfl⟩
   rw [← hfT] at HTX
   have HFT := Lib.hid hfT
   have HEND : Hid (∀ l0, lm.textF l0 = (0, s) → L = l0) := fun l0 h0 => lm.at_end HAT.out h0
   clear hlab hfT
   by_cases hf : f = 0
   rotate_left
   ·
    have hfb : (f != 0) = true := by simpa using hf
    have hfc : (f == 0) = false := by simpa using hf
    have HNO : Hid (∀ l, lm.textF l = (0, s) → False) := fun l0 h0 => by
     have e := HEND.out l0 h0
     have e2 := HFT.out
     rw [e, h0] at e2
     exact hf (Prod.mk.inj e2).1
    clear hf
    go_wp2_with fail
    (with_reducible refine HTX.out.mono ?_)
    rintro e w3 ⟨rfl, hb3⟩
    have HRET := Lib.hid (HRB.out w3 HNO.out (hbl.trans (hb3.mono hz)))
    go_wp2
    exact bodyPost_ret (v := .tuple #[.slice none 0 0, .int .i64 3]) (by simp [results, Try.results11, go_sem]) rfl HRET.out
   subst hf
   by_cases hT : T = s
   rotate_left
   ·
    have hTn := str_ne hT
    have hTb : (T.toList == s.toList) = false := by simpa using hTn
    have hTc : (T.toList != s.toList) = true := by simpa using hTn
    have HNO : Hid (∀ l, lm.textF l = (0, s) → False) := fun l0 h0 => by
     have e := HEND.out l0 h0
     have e2 := HFT.out
     rw [e, h0] at e2
     exact hT (Prod.mk.inj e2).2
    clear hT
    go_wp2_with fail
    (with_reducible refine HTX.out.mono ?_)
    rintro e w3 ⟨rfl, hb3⟩
    have HRET := Lib.hid (HRB.out w3 HNO.out (hbl.trans (hb3.mono hz)))
    go_wp2
    exact bodyPost_ret (v := .tuple #[.slice none 0 0, .int .i64 3]) (by simp [results, Try.results11, go_sem]) rfl HRET.out
   subst hT
   go_wp2_with fail
   (with_reducible refine HTX.out.mono ?_)
   rintro e w3 ⟨rfl, hb3⟩
   have HRET : Hid (ParseP T w (.returned (.tuple #[.slice oa q oc, .int .i64 0])) w3) := by
    refine ⟨(0, L), ⟨_, rfl, ?_, hbl.trans (hb3.mono hz)⟩, Or.inr ⟨HN6.out, Or.inl ⟨L, rfl, HFT.out.symm⟩⟩⟩
    show Cells _ _ _ _ _ _
    rw [← HQ.out]; exact Cells.own (own_stay HO.out hb3)
   go_wp2
   exact bodyPost_ret (v := .tuple #[.slice oa q oc, .int .i64 0]) (by simp [results, Try.results11, go_sem]) rfl HRET.out
  ·
   obtain ⟨hs1, hs2, hs3⟩ : r.toList.isEmpty = false ∧ ¬ r.toList = [] ∧ ¬ r = ByteArray.empty := kit.ne_empty (Nat.pos_of_ne_zero fun e => hr (ByteArray.ext (Array.eq_empty_of_size_eq_zero e)))
   have HF := Lib.hid (HFI.out r wr (by omega) (MX.next HM.out hbl))
   have HRN := Lib.hid hr
   clear hr
   go_wp2_with fail
   (with_reducible refine HF.out.mono ?_)
   rintro e w2 ⟨⟨xa, xb⟩, left, ok, rfl, hb2, hsz, htell⟩
   have HTL := Lib.hid htell
   have hbl2 := hbl.trans (hb2.mono hz)
   have hz2 := hbl2.size
   have HO2 := Lib.hid ((own_stay HO.out hb2).alloc (.cells #[.string xa, .string xb] 47))
   have hbl3 := hbl2.alloc hz2 (.cells #[.string xa, .string xb] 47)
   clear htell hb2
   cases ok with
   | false =>
    have HNO : Hid (∀ l, lm.textF l = (0, s) → False) := fun l0 h0 => by
     obtain ⟨x0, t, hg, hb, _⟩ := lm.at_more HAT.out HRN.out h0
     have := (HTL.out x0 t hg hb).1
     cases this
    have HRET := Lib.hid (HRB.out _ HNO.out hbl3)
    clear hsz
    go_wp2
    exact bodyPost_ret (v := .tuple #[.slice none 0 0, .int .i64 3]) (by simp [results, Try.results11, go_sem]) rfl HRET.out
   | true =>
    obtain ⟨hl1, hl2, hl3⟩ := hsz rfl
    simp only at hl2 hl3
    have HAT2 : Hid (lm.At s (L ++ [(xa, xb)]) left) := lm.at_next HAT.out HRN.out (fun x0 t hg hb => ⟨(HTL.out x0 t hg hb).2.1, (HTL.out x0 t hg hb).2.2⟩)
    have HLS2 : Hid (∀ x ∈ L ++ [(xa, xb)], x.1.size ≤ 600 ∧ x.2.size ≤ 600) := fun x hx => by
     rcases List.mem_append.1 hx with h | h
     ·
      exact HLS.out x h
     ·
      simp only [List.mem_cons, List.not_mem_nil, or_false] at h
      rw [h]; exact ⟨show xa.size ≤ 600 by omega, show xb.size ≤ 600 by omega⟩
    have HQ2 : Hid (q + 1 = (L ++ [(xa, xb)]).length) := by show _ = _; rw [List.length_append, ← HQ.out]; rfl
    have HL2 : Hid (lcells (L ++ [(xa, xb)]) = lcells L ++ [.string xa, .string xb]) := by show _ = _; rw [lcells_app]; rfl
    have HOG := Lib.hid (own_stay HO.out (Below.refl _ _))
    clear hsz
    go_wp2_with (at_builtin; refine kit.appB (.tmp 45) (.tmp 47) 38 rfl rfl w.heap.size Try.underlying38 infoLab rfl (by decide) (by decide) 1 (World.size_alloc _ _) HO2.out rfl rfl rfl lcells_two (by omega) hbl3.size ?_)
    intro v4 w4 hown4 hgrow4
    have hbl4 := hbl3.trans (((Below.refl _ _).alloc hbl3.size _).trans (grown_below (HO2.out.alloc _) (by rw [World.size_alloc]; have := hbl3.size; omega) hgrow4))
    have HO4 := Lib.hid hown4
    clear hown4 hgrow4
    rcases own_form HO4.out with ⟨_, h0⟩ | ⟨g4, cap4, rfl, hg4⟩
    ·
     omega
    go_wp2
    go_roundw
    case rel => exact ⟨L ++ [(xa, xb)], q + 1, some ⟨g4, 0, none⟩, cap4, left, rfl, rfl, by omega, HQ2.out, by show World.ownsRow _ _ _ _ _ _ _; rw [HL2.out]; exact HO4.out, HLS2.out, HAT2.out, hbl4⟩
    case measure => omega
end Go.Proofs.Ytegjpiggjcfoaaa
namespace Go
section
variable {P : Program} {ops : Array Oper} {Q : Exit → Act → World → Prop}
def flowBack (ops : Array Oper) : Bool := (List.range ops.size).all fun i => ((ops[i]?).map fun o => o.after.all fun e => !Region.binds .any e || decide (e.on < i)).getD true
def flowPred (ops : Array Oper) (i : Nat) : List Nat := ((ops[i]?).map fun o => (o.after.toList.filter (Region.binds .any)).map (·.on)).getD []
def flowAnc (ops : Array Oper) (k : Nat) : List Nat := ((List.range k).reverse).foldl (fun m j => if m.contains j then m ++ flowPred ops j else m) (flowPred ops k)
theorem anc_no {k i : Nat} (h : (flowAnc ops k).contains i = false) (h2 : (flowAnc ops k).contains i = true) : False := by rw [h] at h2; cases h2
theorem anc_fold {D : Nat → Prop} (hD : ∀ j, D j → ∀ i ∈ flowPred ops j, D i) : ∀ (L m : List Nat), (∀ i ∈ m, D i) → ∀ i ∈ L.foldl (fun m j => if m.contains j then m ++ flowPred ops j else m) m, D i := by
 intro L
 induction L with
 | nil => intro m h; exact h
 | cons j r ih =>
  intro m h
  rw [List.foldl_cons]
  refine ih _ fun i hi => ?_
  split at hi
  ·
   rename_i hc
   rcases List.mem_append.1 hi with h1 | h1
   ·
    exact h i h1
   ·
    exact hD j (h j (by simpa using hc)) i h1
  ·
   exact h i hi
def flowHead (m n : Nat) : Array Bool := ((List.range m).map fun j => decide (j < n)).toArray
def flowB (ops : Array Oper) (n : Nat) : Bool :=
 (decide (n = ops.size) || decide (n < ops.size) && Region.sinkB .any ops n && Region.chainB .any ops n) && flowBack ops && Region.seqB .any ops (ops.size - n) n (flowHead ops.size n)
theorem flowB_spec {n : Nat} (h : flowB ops n = true) : n ≤ ops.size ∧ flowBack ops = true ∧ Region.seqB .any ops (ops.size - n) n (flowHead ops.size n) = true ∧
  ∀ listed, HeadInv .any ops n listed → ∀ i0, i0 < n → listed.getD i0 true = false → ∀ t, n ≤ t → t ∉ Region.ready .any ops listed := by
 simp only [flowB, Bool.and_eq_true, Bool.or_eq_true, decide_eq_true_eq] at h
 obtain ⟨⟨h1, h2⟩, h3⟩ := h
 rcases h1 with h1 | ⟨⟨hn, hs⟩, hc⟩
 ·
  refine ⟨by omega, h2, h3, fun listed inv i0 hi0 _ t ht hr => ?_⟩
  obtain ⟨_, ot, hot, _⟩ := mem_ready.1 hr
  have := (Array.getElem?_eq_some_iff.1 hot).1
  omega
 ·
  exact ⟨by omega, h2, h3, fun listed inv i0 hi0 hl => tail_waits hs hc hn inv _ i0 rfl hi0 hl⟩
def upd (x : Nat → Value) (k : Nat) (v : Value) : Nat → Value := fun j => if j = k then v else x j
def FlowStep (P : Program) (ops : Array Oper) (Q : Exit → Act → World → Prop) (fill : (Nat → Value) → Act) (n : Nat) (die : Nat → Nat) (R : World → Prop) (T : Nat → World → World → Prop) (F : Nat → Value → World → Prop) (P2 : Nat → Nat → Value → Value → Prop) (i : Nat) (o : Oper) : Prop :=
 ∀ x w, R w → (∀ j, ((flowPred ops i).contains j && (die j == i || decide (n ≤ die j))) = true → F j (x j) w) → ∀ K : Act → World → Prop, Shut (∀ v w', T i w w' → F i v w' → (∀ j u, F j u w → P2 i j v u ∧ P2 j i u v) → K ((fill x).put o.dst v) w') →
  if Region.wanted o (yielded ops (fill x).tmps) then o.wp P (fill x) w K Q else K ((fill x).put o.dst undef) w
theorem flow_eq {listed : Array Bool} {n : Nat} (hs : listed.size = ops.size) (h1 : ∀ j, j < n → listed.getD j false = true) (h2 : ∀ t, n ≤ t → t < ops.size → listed.getD t true = false) : listed = flowHead ops.size n := by
 apply Array.ext
 ·
  simp [flowHead, hs]
 ·
  intro i hi hi2
  have e : (flowHead ops.size n)[i] = decide (i < n) := by simp [flowHead]
  rw [e]
  by_cases h : i < n
  ·
   have := h1 i h
   simp [hi] at this
   simp [this, h]
  ·
   have := h2 i (by omega) (by omega)
   simp [hi] at this
   simp [this, h]
theorem flow_ready {listed : Array Bool} {n : Nat} (hb : flowBack ops = true) (inv : HeadInv .any ops n listed) (hn : n ≤ ops.size) : ∀ i, i < n → listed.getD i false = false → ∃ j, j ≤ i ∧ j ∈ Region.ready .any ops listed := by
 intro i
 induction i using Nat.strongRecOn with
 | _ i ih =>
  intro hi hl
  have hlt : i < ops.size := by omega
  by_cases h : ∃ j, j < i ∧ listed.getD j false = false
  ·
   obtain ⟨j, hj, hlj⟩ := h
   obtain ⟨k, hk, hr⟩ := ih j hj (by omega) hlj
   exact ⟨k, by omega, hr⟩
  ·
   refine ⟨i, Nat.le_refl _, mem_ready.2 ⟨getD_in (by rw [inv.size]; exact hlt) hl, ops[i], by simp [hlt], fun e he hbi => ?_⟩⟩
   have h1 := List.all_eq_true.1 hb i (List.mem_range.2 hlt)
   simp only [Array.getElem?_eq_getElem hlt, Option.map_some, Option.getD_some] at h1
   have h2 := Array.all_eq_true_iff_forall_mem.1 h1 e he
   simp only [hbi, Bool.not_true, Bool.false_or, decide_eq_true_eq] at h2
   cases h3 : listed.getD e.on false with
   | true => rfl
   | false => exact absurd ⟨e.on, h2, h3⟩ h
theorem flow_go {fill : (Nat → Value) → Act} {die : Nat → Nat} {R : World → Prop} {T : Nat → World → World → Prop} {F : Nat → Value → World → Prop} {P2 : Nat → Nat → Value → Value → Prop} {n : Nat} (hB : flowB ops n = true)
  (hst : ∀ k i v w w', k < n → i < n → k ≠ i → die k ≠ i → (flowAnc ops k).contains i = false → (flowAnc ops i).contains (die k) = false → F k v w → T i w w' → F k v w') (hR : ∀ i w w', R w → T i w w' → R w')
  (hput : ∀ i o, i < n → ops[i]? = some o → ∀ x v, (fill x).put o.dst v = fill (upd x i v))
  (hstep : ∀ i o, i < n → ops[i]? = some o → FlowStep P ops Q fill n die R T F P2 i o)
  (hend : ∀ x w, R w → (∀ k, k < n → n ≤ die k → F k (x k) w) → (∀ j k, j < n → k < n → n ≤ die j → n ≤ die k → j ≠ k → P2 j k (x j) (x k)) → wpList P ops Q (ops.toList.drop n) (fill x) w) :
  ∀ (f : Nat) (L : List Nat) (listed : Array Bool) (x : Nat → Value) (w : World), L.Nodup → L.length = f → (∀ j, j ∈ L ↔ j < n ∧ listed.getD j false = false) → HeadInv .any ops n listed →
   R w → (∀ k, k < n → listed.getD k false = true → listed.getD (die k) false = false → F k (x k) w) → (∀ j k, j < n → k < n → j ≠ k → listed.getD j false = true → listed.getD k false = true → listed.getD (die j) false = false → listed.getD (die k) false = false → P2 j k (x j) (x k)) → wpAny P .any ops Q (f + (ops.size - n)) listed (fill x) w := by
 obtain ⟨hn, hback, hseq, htail⟩ := flowB_spec hB
 intro f
 induction f with
 | zero =>
  intro L listed x w _ hlen hL inv hw hF hP
  obtain rfl : L = [] := List.eq_nil_of_length_eq_zero hlen
  have hall : ∀ j, j < n → listed.getD j false = true := fun j hj => by
   cases h : listed.getD j false with
   | true => rfl
   | false => exact absurd ((hL j).2 ⟨hj, h⟩) (by simp)
  have he := flow_eq inv.size hall inv.tail
  have far : ∀ {j : Nat}, n ≤ j → listed.getD j false = false := fun {j} hj => by
   rcases Nat.lt_or_ge j ops.size with h | h
   ·
    exact getD_both (inv.tail j hj h)
   ·
    have : listed.size ≤ j := by rw [inv.size]; exact h
    simp [this]
  have hlen2 : (ops.toList.drop n).length = ops.size - n := by simp
  have := wpAny_of_seq (md := .any) (P := P) (ops := ops) (Q' := Q) (ops.toList.drop n) n listed (fill x) w (fun j => by simp [List.getElem?_drop]) (by rw [he, hlen2]; exact hseq) (hend x w hw (fun k hk hd => hF k hk (hall k hk) (far hd)) (fun j k hj hk hdj hdk hne => hP j k hj hk hne (hall j hj) (hall k hk) (far hdj) (far hdk)))
  rw [hlen2] at this
  rw [Nat.zero_add]; exact this
 | succ f ih =>
  intro L listed x w hnd hlen hL inv hw hF hP
  obtain ⟨i0, hi0⟩ : ∃ i0, i0 ∈ L := by
   cases L with
   | nil => simp at hlen
   | cons a r => exact ⟨a, List.mem_cons_self⟩
  obtain ⟨hi0n, hi0l⟩ := (hL i0).1 hi0
  rw [show f + 1 + (ops.size - n) = (f + (ops.size - n)) + 1 by omega]
  refine ⟨fun h0 => ?_, fun i hi => ?_⟩
  ·
   obtain ⟨j, _, hj⟩ := flow_ready hback inv hn i0 hi0n hi0l
   rw [h0] at hj; cases hj
  ·
   have hin : i < n := by
    rcases Nat.lt_or_ge i n with h | h
    ·
     exact h
    ·
     exact absurd hi (htail listed inv i0 hi0n (getD_in (by rw [inv.size]; omega) hi0l) i h)
   obtain ⟨hiun, oi, hoi, hall⟩ := mem_ready.1 hi
   have hif := getD_both hiun
   have hsz : i < listed.size := by rw [inv.size]; omega
   have hmem : i ∈ L := (hL i).2 ⟨hin, hif⟩
   have alive : ∀ {d : Nat}, (listed.setIfInBounds i true).getD d false = false → d ≠ i ∧ listed.getD d false = false := fun {d} h => by
    have hne : d ≠ i := fun e => by
     rw [e, show (listed.setIfInBounds i true).getD i false = true by simp [hsz]] at h
     cases h
    exact ⟨hne, by rwa [getD_set_ne false (fun e => hne e.symm)] at h⟩
   have hanc : ∀ k, listed.getD k false = true → (flowAnc ops k).contains i = false := fun k hk => by
    cases hc : (flowAnc ops k).contains i with
    | false => rfl
    | true =>
     have hD : ∀ j, listed.getD j false = true → ∀ e ∈ flowPred ops j, listed.getD e false = true := fun j hj e he => by
      unfold flowPred at he
      cases hoj : ops[j]? with
      | none => rw [hoj] at he; simp at he
      | some oj =>
       rw [hoj] at he
       simp only [Option.map_some, Option.getD_some, List.mem_map, List.mem_filter] at he
       obtain ⟨ed, ⟨h1, h2⟩, rfl⟩ := he
       exact inv.closed j oj hoj hj ed (by simpa using h1) h2
     have := anc_fold hD ((List.range k).reverse) (flowPred ops k) (hD k hk) i (by simpa [flowAnc] using hc)
     rw [hif] at this
     cases this
   have hdanc : ∀ d, listed.getD d false = false → (flowAnc ops i).contains d = false := fun d hd => by
    cases hc : (flowAnc ops i).contains d with
    | false => rfl
    | true =>
     have hD : ∀ j, listed.getD j false = true → ∀ e ∈ flowPred ops j, listed.getD e false = true := fun j hj e he => by
      unfold flowPred at he
      cases hoj : ops[j]? with
      | none => rw [hoj] at he; simp at he
      | some oj =>
       rw [hoj] at he
       simp only [Option.map_some, Option.getD_some, List.mem_map, List.mem_filter] at he
       obtain ⟨ed, ⟨h1, h2⟩, rfl⟩ := he
       exact inv.closed j oj hoj hj ed (by simpa using h1) h2
     have h0 : ∀ e ∈ flowPred ops i, listed.getD e false = true := fun e he => by
      unfold flowPred at he
      rw [hoi] at he
      simp only [Option.map_some, Option.getD_some, List.mem_map, List.mem_filter] at he
      obtain ⟨ed, ⟨h1, h2⟩, rfl⟩ := he
      exact hall ed (by simpa using h1) h2
     have := anc_fold hD ((List.range i).reverse) (flowPred ops i) h0 d (by simpa [flowAnc] using hc)
     rw [hd] at this
     cases this
   have key : ∀ v w', T i w w' → F i v w' → (∀ j u, F j u w → P2 i j v u ∧ P2 j i u v) → wpAny P .any ops Q (f + (ops.size - n)) (listed.setIfInBounds i true) ((fill x).put oi.dst v) w' := by
    intro v w' hT hv hp
    rw [hput i oi hin hoi x v]
    refine ih (L.erase i) _ _ w' (hnd.erase i) (by rw [List.length_erase_of_mem hmem]; omega) (fun j => ?_) (inv.set hi hin) (hR i w w' hw hT) (fun k hk hl hl' => ?_) (fun j k hj hk hne hl1 hl2 hl1' hl2' => ?_)
    ·
     rw [hnd.mem_erase_iff, hL j]
     by_cases hij : j = i
     ·
      subst hij
      constructor
      ·
       rintro ⟨h, _⟩; exact absurd rfl h
      ·
       rintro ⟨_, h⟩
       rw [show (listed.setIfInBounds j true).getD j false = true by simp [hsz]] at h
       cases h
     ·
      rw [getD_set_ne false (fun e => hij e.symm)]
      exact ⟨fun h => h.2, fun h => ⟨hij, h⟩⟩
    ·
     unfold upd
     by_cases hki : k = i
     ·
      rw [if_pos hki, hki]; exact hv
     ·
      rw [if_neg hki]
      rw [getD_set_ne false (fun e => hki e.symm)] at hl
      exact hst k i _ w w' hk hin hki (alive hl').1 (hanc k hl) (hdanc _ (alive hl').2) (hF k hk hl (alive hl').2) hT
    ·
     unfold upd
     by_cases hji : j = i
     ·
      have hki : k ≠ i := fun e => hne (hji.trans e.symm)
      rw [if_pos hji, if_neg hki, hji]
      rw [getD_set_ne false (fun e => hki e.symm)] at hl2
      exact (hp k _ (hF k hk hl2 (alive hl2').2)).1
     ·
      rw [if_neg hji]
      rw [getD_set_ne false (fun e => hji e.symm)] at hl1
      by_cases hki : k = i
      ·
       rw [if_pos hki, hki]
       exact (hp j _ (hF j hj hl1 (alive hl1').2)).2
      ·
       rw [if_neg hki]
       rw [getD_set_ne false (fun e => hki e.symm)] at hl2
       exact hP j k hj hk hne hl1 hl2 (alive hl1').2 (alive hl2').2
   have hs1 := hstep i oi hin hoi x w hw (fun j hj => by
    simp only [flowPred, hoi, Option.map_some, Option.getD_some, List.contains_eq_mem, List.mem_map, List.mem_filter, decide_eq_true_eq, Bool.and_eq_true, Bool.or_eq_true, beq_iff_eq] at hj
    obtain ⟨⟨e, ⟨he, hb⟩, rfl⟩, hdj⟩ := hj
    have hal : listed.getD (die e.on) false = false := by
     rcases hdj with h | h
     ·
      rw [h]; exact hif
     ·
      rcases Nat.lt_or_ge (die e.on) ops.size with h' | h'
      ·
       exact getD_both (inv.tail _ h h')
      ·
       have : listed.size ≤ die e.on := by rw [inv.size]; exact h'
       simp [this]
    have h1 : e.on < i := by
     have h1 := List.all_eq_true.1 hback i (List.mem_range.2 (by omega))
     simp only [hoi, Option.map_some, Option.getD_some] at h1
     have h2 := Array.all_eq_true_iff_forall_mem.1 h1 e (by simpa using he)
     simpa only [hb, Bool.not_true, Bool.false_or, decide_eq_true_eq] using h2
    exact hF e.on (by omega) (hall e (by simpa using he) hb) hal) (fun a' w' => wpAny P .any ops Q (f + (ops.size - n)) (listed.setIfInBounds i true) a' w') key
   unfold wpOp
   simp only [hoi]
   split
   ·
    rename_i hwt
    rw [if_pos hwt] at hs1
    exact Or.inl hs1
   ·
    rename_i hwt
    rw [if_neg hwt] at hs1
    exact hs1
theorem wp_region_flow {id : Nat} {a : Act} {w : World} {l : List Oper} (n : Nat) (die : Nat → Nat) (fill : (Nat → Value) → Act) (x0 : Nat → Value) (R : World → Prop) (T : Nat → World → World → Prop) (F : Nat → Value → World → Prop) (P2 : Nat → Nat → Value → Value → Prop)
  (hm : P.follows .mixedOrders = true) (hB : flowB l.toArray n = true) (ha : a = fill x0) (h0 : R w.drew)
  (hR : ∀ i w w', R w → T i w w' → R w') (hst : ∀ k, k < n → ∀ i, i < n → k ≠ i → die k ≠ i → (flowAnc l.toArray k).contains i = false → (flowAnc l.toArray i).contains (die k) = false → ∀ v w w', F k v w → T i w w' → F k v w')
  (hput : ∀ i, i < n → ∀ o, l[i]? = some o → ∀ x v, (fill x).put o.dst v = fill (upd x i v))
  (hstep : ∀ i, i < n → ∀ o, l[i]? = some o → FlowStep P l.toArray Q fill n die R T F P2 i o)
  (hend : ∀ x w, R w → (∀ k, k < n → n ≤ die k → F k (x k) w) → (∀ j k, j < n → k < n → n ≤ die j → n ≤ die k → j ≠ k → P2 j k (x j) (x k)) → wpList P l.toArray Q (l.drop n) (fill x) w) : (Code.region id l.toArray true).wp P Q a w := by
 have hn : n ≤ l.toArray.size := (flowB_spec hB).1
 refine wp_region_any hm ?_
 rw [ha]
 have := flow_go (P := P) (Q := Q) (ops := l.toArray) hB (fun k i v w w' hk hi hne hd ha hb => hst k hk i hi hne hd ha hb v w w') hR (fun i o hi ho => hput i hi o (by simpa using ho)) (fun i o hi ho => hstep i hi o (by simpa using ho)) (fun x w hw hF hP => by simpa using hend x w hw hF hP)
  n (List.range n) (Array.replicate l.toArray.size false) x0 w.drew List.nodup_range (by simp) (fun j => by rw [List.mem_range, getD_replicate_false]; simp)
  ⟨by simp, fun j oj _ hl => (by rw [getD_replicate_false] at hl; cases hl), fun t _ ht => getD_in (by simpa using ht) (getD_replicate_false _ _)⟩ h0 (fun k _ hl _ => by rw [getD_replicate_false] at hl; cases hl) (fun _ _ _ _ _ hl _ _ _ => by rw [getD_replicate_false] at hl; cases hl)
 rw [show n + (l.toArray.size - n) = l.toArray.size by omega] at this
 exact this
def fillOf (a : Act) : List Oper → Nat → (Nat → Value) → Act
 | [], _, _ => a
 | o :: r, i, x => fillOf (a.put o.dst (x i)) r (i + 1) x
theorem put_put (a : Act) (d : Option Tmp) (v v' : Value) : (a.put d v).put d v' = a.put d v' := by
 cases d with
 | none => rfl
 | some d => simp [Act.put]
theorem put_comm {d d' : Option Tmp} (a : Act) (v v' : Value) (h : ∀ x, d = some x → d' = some x → False) : (a.put d v).put d' v' = (a.put d' v').put d v := by
 cases d with
 | none => rfl
 | some x =>
  cases d' with
  | none => rfl
  | some y =>
   have : x ≠ y := fun e => h x rfl (by rw [e])
   simp only [Act.put]
   rw [Array.setIfInBounds_comm _ _ this]
theorem fillOf_put : ∀ (r : List Oper) (a : Act) (i : Nat) (x : Nat → Value) (d : Option Tmp) (v : Value), (∀ o ∈ r, ∀ t, o.dst = some t → d = some t → False) → (fillOf a r i x).put d v = fillOf (a.put d v) r i x := by
 intro r
 induction r with
 | nil => intro a i x d v _; rfl
 | cons o r ih =>
  intro a i x d v h
  unfold fillOf
  rw [ih _ _ _ _ _ (fun o ho => h o (List.mem_cons_of_mem _ ho)), put_comm _ _ _ (h o List.mem_cons_self)]
theorem fillOf_congr : ∀ (r : List Oper) (a : Act) (i : Nat) (x y : Nat → Value), (∀ j, i ≤ j → x j = y j) → fillOf a r i x = fillOf a r i y := by
 intro r
 induction r with
 | nil => intro a i x y _; rfl
 | cons o r ih =>
  intro a i x y h
  unfold fillOf
  rw [h i (Nat.le_refl _)]
  exact ih _ _ _ _ (fun j hj => h j (by omega))
def apartB : List Oper → Bool
 | [] => true
 | o :: r => (match o.dst with | none => true | some t => r.all fun p => decide (p.dst ≠ some t)) && apartB r
theorem fill_put : ∀ (l : List Oper) (i : Nat) (a : Act) (x : Nat → Value) (k : Nat) (o : Oper) (v : Value), l[k]? = some o → apartB l = true → (fillOf a l i x).put o.dst v = fillOf a l i (upd x (i + k) v) := by
 intro l
 induction l with
 | nil => intro i a x k o v h _; simp at h
 | cons p r ih =>
  intro i a x k o v h hd
  simp only [apartB, Bool.and_eq_true] at hd
  cases k with
  | zero =>
   simp only [List.getElem?_cons_zero, Option.some.injEq] at h
   subst h
   unfold fillOf
   rw [fillOf_put r _ _ _ _ _ (fun q hq t ht hp => by
    rw [hp] at hd
    have := List.all_eq_true.1 hd.1 q hq
    simp [ht] at this), put_put]
   have e : upd x (i + 0) v i = v := by simp [upd]
   rw [e]
   exact fillOf_congr r _ _ _ _ (fun j hj => by unfold upd; rw [if_neg (by omega)])
  | succ k =>
   simp only [List.getElem?_cons_succ] at h
   unfold fillOf
   rw [ih (i + 1) _ x k o v h hd.2]
   have e : upd x (i + (k + 1)) v i = x i := by unfold upd; rw [if_neg (by omega)]
   rw [e, show i + 1 + k = i + (k + 1) by omega]
theorem fill_start : ∀ (l : List Oper) (i : Nat) (a : Act), apartB l = true → ∃ x, fillOf a l i x = a := by
 intro l
 induction l with
 | nil => intro i a _; exact ⟨fun _ => undef, rfl⟩
 | cons o r ih =>
  intro i a hd
  simp only [apartB, Bool.and_eq_true] at hd
  obtain ⟨x, hx⟩ := ih (i + 1) a hd.2
  have hv : ∃ v, a.put o.dst v = a := by
   cases o.dst with
   | none => exact ⟨undef, rfl⟩
   | some t =>
    rcases Nat.lt_or_ge t a.tmps.size with h | h
    ·
     refine ⟨a.tmps[t], ?_⟩
     have e : a.tmps.setIfInBounds t a.tmps[t] = a.tmps := by
      apply Array.ext
      ·
       simp
      ·
       intro j _ _
       rw [Array.getElem_setIfInBounds]
       split
       ·
        rename_i e; subst e; rfl
       ·
        rfl
     simp only [Act.put, e]
    ·
     refine ⟨undef, ?_⟩
     simp [Act.put, Array.setIfInBounds_eq_of_size_le h]
  obtain ⟨v, hv⟩ := hv
  refine ⟨upd x i v, ?_⟩
  unfold fillOf
  have e : upd x i v i = v := by simp [upd]
  rw [e, hv, fillOf_congr r a (i + 1) _ x (fun j hj => by unfold upd; rw [if_neg (by omega)]), hx]
def FlowAll (P : Program) (ops : Array Oper) (Q : Exit → Act → World → Prop) (fill : (Nat → Value) → Act) (n : Nat) (die : Nat → Nat) (R : World → Prop) (T : Nat → World → World → Prop) (F : Nat → Value → World → Prop) (P2 : Nat → Nat → Value → Value → Prop) : Nat → List Oper → Prop
 | _, [] => True
 | i, o :: r => FlowStep P ops Q fill n die R T F P2 i o ∧ FlowAll P ops Q fill n die R T F P2 (i + 1) r
theorem FlowAll.nil {fill : (Nat → Value) → Act} {n : Nat} {die : Nat → Nat} {R : World → Prop} {T : Nat → World → World → Prop} {F : Nat → Value → World → Prop} {P2 : Nat → Nat → Value → Value → Prop} {i : Nat} : FlowAll P ops Q fill n die R T F P2 i [] := trivial
theorem FlowAll.cons {fill : (Nat → Value) → Act} {n : Nat} {die : Nat → Nat} {R : World → Prop} {T : Nat → World → World → Prop} {F : Nat → Value → World → Prop} {P2 : Nat → Nat → Value → Value → Prop} {i : Nat} {o : Oper} {r : List Oper} (h : FlowStep P ops Q fill n die R T F P2 i o) (h2 : FlowAll P ops Q fill n die R T F P2 (i + 1) r) : FlowAll P ops Q fill n die R T F P2 i (o :: r) := ⟨h, h2⟩
theorem FlowAll.get {fill : (Nat → Value) → Act} {n : Nat} {die : Nat → Nat} {R : World → Prop} {T : Nat → World → World → Prop} {F : Nat → Value → World → Prop} {P2 : Nat → Nat → Value → Value → Prop} : ∀ {l : List Oper} {i k : Nat} {o : Oper}, FlowAll P ops Q fill n die R T F P2 i l → l[k]? = some o → FlowStep P ops Q fill n die R T F P2 (i + k) o := by
 intro l
 induction l with
 | nil => intro i k o _ h; simp at h
 | cons p r ih =>
  intro i k o h ho
  cases k with
  | zero => simp only [List.getElem?_cons_zero, Option.some.injEq] at ho; subst ho; exact h.1
  | succ k => simp only [List.getElem?_cons_succ] at ho; have := ih h.2 ho; rwa [show i + (k + 1) = i + 1 + k by omega]
theorem wp_flow {id : Nat} {a : Act} {w : World} {l : List Oper} (n : Nat) (die : Nat → Nat) (R : World → Prop) (T : Nat → World → World → Prop) (F : Nat → Value → World → Prop) (P2 : Nat → Nat → Value → Value → Prop)
  (hm : P.follows .mixedOrders = true) (hB : (flowB l.toArray n && apartB (l.take n)) = true) (h0 : R w.drew)
  (hR : ∀ i w w', R w → T i w w' → R w') (hst : ∀ k, k < n → ∀ i, i < n → k ≠ i → die k ≠ i → (flowAnc l.toArray k).contains i = false → (flowAnc l.toArray i).contains (die k) = false → ∀ v w w', F k v w → T i w w' → F k v w')
  (hstep : FlowAll P l.toArray Q (fillOf a (l.take n) 0) n die R T F P2 0 (l.take n))
  (hend : ∀ x w, R w → (∀ k, k < n → n ≤ die k → F k (x k) w) → (∀ j k, j < n → k < n → n ≤ die j → n ≤ die k → j ≠ k → P2 j k (x j) (x k)) → wpList P l.toArray Q (l.drop n) (fillOf a (l.take n) 0 x) w) : (Code.region id l.toArray true).wp P Q a w := by
 simp only [Bool.and_eq_true] at hB
 obtain ⟨x0, hx0⟩ := fill_start (l.take n) 0 a hB.2
 have hget : ∀ i o, i < n → l[i]? = some o → (l.take n)[i]? = some o := fun i o hi ho => by rw [List.getElem?_take]; simp [hi, ho]
 exact wp_region_flow n die (fillOf a (l.take n) 0) x0 R T F P2 hm hB.1 hx0.symm h0 hR hst
  (fun i hi o ho x v => by have := fill_put (l.take n) 0 a x i o v (hget i o hi ho) hB.2; rwa [Nat.zero_add] at this)
  (fun i hi o ho => by have := hstep.get (hget i o hi ho); rwa [Nat.zero_add] at this) hend
end
end Go
