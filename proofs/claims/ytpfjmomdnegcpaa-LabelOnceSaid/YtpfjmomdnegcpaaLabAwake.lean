/- label: the law's two and awake. -/
import Derived.Test.YtpfjmomdnegcpaaLabParse
import Derived.Test.YtpfjmomdnegcpaaLabVal
import Derived.Test.YtpfjmomdnegcpaaLabSame
namespace Go.Proofs.Ytpfjmomdnegcpaa.lm
def two : List Lab := [(⟨#[97]⟩, ⟨#[49]⟩), (⟨#[98]⟩, ⟨#[120, 34, 121]⟩)]
def three : List Lab := [(⟨#[98]⟩, ⟨#[120, 34, 121]⟩), (⟨#[99]⟩, ⟨#[]⟩), (⟨#[97]⟩, ⟨#[49]⟩)]
def twoT : ByteArray := ⟨#[123, 97, 61, 34, 49, 34, 44, 98, 61, 34, 120, 92, 34, 121, 34, 125]⟩
theorem three_canon : canonF three = (0, two) := by decide +kernel
theorem two_text : textF two = (0, twoT) := text_iff.2 ⟨canon_fix three_canon, by decide +kernel⟩
theorem two_parse {r : Int × List Lab} (h : Is twoT r) : r = (0, two) := is_one h (Or.inr ⟨by decide, Or.inl ⟨two, rfl, two_text⟩⟩)
theorem two_c : lval two ⟨#[99]⟩ = ⟨#[]⟩ := by decide +kernel
theorem two_a : lval two ⟨#[97]⟩ = ⟨#[49]⟩ := by decide +kernel
end Go.Proofs.Ytpfjmomdnegcpaa.lm
namespace Go.Proofs.Ytpfjmomdnegcpaa
open Go.RowKit Go.ChangeShapes cl
def TwoP (w : World) (e : Ending) (w' : World) : Prop := ∃ v, e = .returned v ∧ Labs w' w'.heap.size v lm.two ∧ Below w.heap.size w w'
set_option maxRecDepth 100000 in
theorem two_any (w : World) : Calls Try.prog 26 #[] w (TwoP w) := by
  go_enter Try.func26, Try.ntmps26
  go_wp2
  go_ret
  exact ⟨_, rfl, cells_lit w 2 2 (lcells lm.two) _ _ rfl rfl (by unfold maxLen; omega), (Below.refl _ _).alloc (Nat.le_refl _) _⟩

set_option maxHeartbeats 1600000 in
set_option maxRecDepth 100000 in
theorem awake_any (w : World) (hm : MX w) : Calls Try.prog 9 #[] w (Said true w) := by
  have HM := Lib.hid hm
  have htt : (lm.twoT.toList == [123, 97, 61, 34, 49, 34, 44, 98, 61, 34, 120, 92, 34, 121, 34, 125]) = true := by decide +kernel
  have htu : lm.twoT.toList = [123, 97, 61, 34, 49, 34, 44, 98, 61, 34, 120, 92, 34, 121, 34, 125] := by decide +kernel
  have hlit := cells_lit w 3 2 (lcells lm.three) #[.string ⟨#[98]⟩, .string ⟨#[120, 34, 121]⟩, .string ⟨#[99]⟩, .string ⟨#[]⟩, .string ⟨#[97]⟩, .string ⟨#[49]⟩] 38 rfl rfl (by unfold maxLen; omega)
  have hb0 : Below w.heap.size w (w.alloc (.cells #[.string ⟨#[98]⟩, .string ⟨#[120, 34, 121]⟩, .string ⟨#[99]⟩, .string ⟨#[]⟩, .string ⟨#[97]⟩, .string ⟨#[49]⟩] 38)) := (Below.refl _ _).alloc (Nat.le_refl _) _
  have HCA := Lib.hid (canon_any lm.three _ _ hlit (by decide) (by decide))
  rw [lm.three_canon] at HCA
  go_enter Try.func9, Try.ntmps9
  go_wp2_with fail
  (with_reducible refine HCA.out.mono ?_)
  rintro e w1 ⟨v1, rfl, h1, b1⟩
  have B1 := hb0.trans (b1.mono hb0.size)
  have H1 := Lib.hid h1
  have HTX := Lib.hid (text_any lm.two v1 w1 h1 (by decide) (by decide))
  rw [lm.two_text] at HTX
  clear h1 b1
  go_wp2_with fail
  (with_reducible refine HTX.out.mono ?_)
  rintro e w2 ⟨rfl, b2⟩
  have B2 := B1.trans (b2.mono B1.size)
  have H2 := Lib.hid (Cells.next H1.out b2)
  have HPA := Lib.hid (parse_any lm.twoT w2 (by decide) (MX.next HM.out B2))
  clear b2
  go_wp2_with fail
  (with_reducible refine HPA.out.mono ?_)
  rintro e w3 ⟨r, ⟨v3, rfl, h3, b3⟩, his⟩
  obtain rfl := lm.two_parse his
  have B3 := B2.trans (b3.mono B2.size)
  have H3 := Lib.hid (Cells.next H2.out b3)
  have L3 := Lib.hid h3
  have HT1 := Lib.hid (two_any w3)
  clear h3 b3 his
  go_wp2_with fail
  (with_reducible refine HT1.out.mono ?_)
  rintro e w4 ⟨v4, rfl, h4, b4⟩
  have B4 := B3.trans (b4.mono B3.size)
  have hS := same_any lm.two lm.two v1 v4 w4 (Cells.next H3.out b4) h4
  rw [decide_eq_true (rfl : lm.two = lm.two)] at hS
  have HS := Lib.hid hS
  have L4 := Lib.hid (Cells.next L3.out b4)
  clear hS h4 b4
  go_wp2_with fail
  (with_reducible refine HS.out.mono ?_)
  rintro e w5 ⟨rfl, b5⟩
  have B5 := B4.trans (b5.mono B4.size)
  have L5 := Lib.hid (Cells.next L4.out b5)
  have HT2 := Lib.hid (two_any w5)
  clear b5
  go_wp2_with fail
  (with_reducible refine HT2.out.mono ?_)
  rintro e w6 ⟨v6, rfl, h6, b6⟩
  have B6 := B5.trans (b6.mono B5.size)
  have hS := same_any lm.two lm.two v3 v6 w6 (Cells.next L5.out b6) h6
  rw [decide_eq_true (rfl : lm.two = lm.two)] at hS
  have HS2 := Lib.hid hS
  have L6 := Lib.hid (Cells.next L5.out b6)
  clear hS h6 b6
  go_wp2_with fail
  (with_reducible refine HS2.out.mono ?_)
  rintro e w7 ⟨rfl, b7⟩
  have B7 := B6.trans (b7.mono B6.size)
  have L7 := Lib.hid (Cells.next L6.out b7)
  have HV1 := Lib.hid (value_any lm.two v3 ⟨#[99]⟩ w7 L7.out)
  rw [lm.two_c] at HV1
  clear b7
  go_wp2_with fail
  (with_reducible refine HV1.out.mono ?_)
  rintro e w8 ⟨rfl, b8⟩
  have B8 := B7.trans (b8.mono B7.size)
  have L8 := Lib.hid (Cells.next L7.out b8)
  have HV2 := Lib.hid (value_any lm.two v3 ⟨#[97]⟩ w8 L8.out)
  rw [lm.two_a] at HV2
  clear b8
  go_wp2_with fail
  (with_reducible refine HV2.out.mono ?_)
  rintro e w9 ⟨rfl, b9⟩
  have B9 := B8.trans (b9.mono B8.size)
  clear b9
  go_wp2
  go_ret
  exact ⟨rfl, B9⟩
end Go.Proofs.Ytpfjmomdnegcpaa
