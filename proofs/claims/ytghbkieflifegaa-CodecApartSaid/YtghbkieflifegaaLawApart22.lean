/- law CodecApart. -/
import Derived.Test.YtghbkieflifegaaLawAp0
import Derived.Test.YtghbkieflifegaaLawAp1
import Derived.Test.YtghbkieflifegaaLawAp2
import Derived.Test.YtghbkieflifegaaLawAp3
namespace Go.Proofs.Ytghbkieflifegaa
open Go Go.RowKit Go.ChangeShapes cl
theorem apart_any (m m2 : cd.Msg) (c c2 : List Value) (w : World) (h : msgRel w w.heap.size c m) (h2 : msgRel w w.heap.size c2 m2) : Calls Try.prog 7 #[.agg c.toArray, .agg c2.toArray] w (Said true w) := by
  cases ha : cd.msg m with
  | none => exact apart_none_any m m2 c c2 w h h2 ha
  | some b =>
    cases hb : cd.msg m2 with
    | none => exact apart_some_none m m2 c c2 w h h2 b ha hb
    | some b2 =>
      by_cases hm : m = m2
      · exact apart_some_same m m2 c c2 w h h2 b ha hm
      · exact apart_some_some m m2 c c2 w h h2 b ha b2 hb hm
end Go.Proofs.Ytghbkieflifegaa
