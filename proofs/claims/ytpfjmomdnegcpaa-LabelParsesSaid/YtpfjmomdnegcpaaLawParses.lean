/- law LabelParses. -/
import Derived.Test.YtpfjmomdnegcpaaLabAwake
import Derived.Test.YtpfjmomdnegcpaaLabRParse
namespace Go.Proofs.Ytpfjmomdnegcpaa
open Go.RowKit Go.ChangeShapes cl

set_option maxHeartbeats 1600000 in
set_option maxRecDepth 100000 in
theorem parses_any (s : ByteArray) (w : World) (hs : s.size ≤ maxLen) (hm : MX w) : Calls Try.prog 5 #[.string s] w (Said true w) := by
  have PS : Hid (∀ W, Below w.heap.size w W → Calls Try.prog 22 #[.string s] W (ParseP s W)) := fun W hW => parse_any s W hs (MX.next hm hW)
  have PR : Hid (∀ W, Below w.heap.size w W → Calls Try.prog 23 #[.string s] W (ParseP s W)) := fun W hW => rparse_any s W hs
  unfold maxLen at hs
  have AW : Hid (∀ W, Below w.heap.size w W → Calls Try.prog 9 #[] W (Said true W)) := fun W hW => awake_any W (MX.next hm hW)
  have B : Below w.heap.size w w := Below.refl _ _
  clear hm
  by_cases h3 : 3000 < s.size
  · have h3I : (3000 : Int) < (s.size : Int) := by omega
    go_enter Try.func5, Try.ntmps5
    go_wp2_with fail
    (with_reducible refine (AW.out _ B).mono ?_)
    rintro e wX ⟨rfl, b⟩
    replace B := B.trans (b.mono B.size)
    clear b
    go_wp2
    go_ret
    exact ⟨rfl, B⟩
  · have h3I : ¬ (3000 : Int) < (s.size : Int) := by omega
    go_enter Try.func5, Try.ntmps5
    go_wp2_with fail
    (with_reducible refine (PS.out _ B).mono ?_)
    rintro e w1 ⟨⟨g, c⟩, ⟨v1, rfl, h1, b⟩, his1⟩
    replace B := B.trans (b.mono B.size)
    have L1 := Lib.hid h1
    have I1 := Lib.hid his1
    clear b h1 his1
    go_wp2_with fail
    (with_reducible refine (PR.out _ B).mono ?_)
    rintro e w2 ⟨r2, ⟨v2, rfl, h2, b⟩, his2⟩
    obtain rfl : r2 = (g, c) := lm.is_one his2 I1.out
    have hS := same_any c c v1 v2 w2 (Cells.next L1.out b) h2
    rw [decide_eq_true (rfl : c = c)] at hS
    have HS := Lib.hid hS
    replace B := B.trans (b.mono B.size)
    clear b h2 his2 hS
    go_wp2_with fail
    (with_reducible refine HS.out.mono ?_)
    rintro e w3 ⟨rfl, b⟩
    replace B := B.trans (b.mono B.size)
    clear b
    go_wp2_with fail
    (with_reducible refine (AW.out _ B).mono ?_)
    rintro e wX ⟨rfl, b⟩
    replace B := B.trans (b.mono B.size)
    clear b
    go_wp2
    go_ret
    exact ⟨rfl, B⟩
end Go.Proofs.Ytpfjmomdnegcpaa
