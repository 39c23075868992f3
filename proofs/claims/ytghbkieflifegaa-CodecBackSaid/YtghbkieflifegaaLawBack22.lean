/- law CodecBack. -/
import Derived.Test.YtghbkieflifegaaLawBk0
import Derived.Test.YtghbkieflifegaaLawBk1
import Derived.Test.YtghbkieflifegaaLawBk2
import Derived.Test.YtghbkieflifegaaLawBk3
import Derived.Test.YtghbkieflifegaaLawBk4
namespace Go.Proofs.Ytghbkieflifegaa
open Go Go.RowKit Go.ChangeShapes cl
theorem back_any (m : cd.Msg) (c : List Value) (s : ByteArray) (w : World) (h : msgRel w w.heap.size c m) (hs : s.size ≤ maxLen) : Calls Try.prog 5 #[.agg c.toArray, .string s] w (Said true w) := by
  by_cases h9 : (9000 : Int) < (s.size : Int)
  · exact back_long_x m c s w h hs h9
  · cases ha : cd.msg m with
    | none =>
      cases hb : cd.read (kit.bytes s) with
      | ok x => exact back_none_ok m c s w h hs ha x hb h9
      | error k => exact back_none_err m c s w h hs ha k hb h9
    | some b =>
      cases hb : cd.read (kit.bytes s) with
      | ok x => exact back_some_ok m c s w h hs b ha x hb h9
      | error k => exact back_some_err m c s w h hs b ha k hb h9
end Go.Proofs.Ytghbkieflifegaa
