/- texts put together: Kit, Cells, RowsAt, App, Fre, FrX, RxMath, RxBase. -/
import Derived.BigQuiet
import Derived.ChangeArms
import Derived.Deep.DeepFit
import Derived.Deep.LoopGhost
import Derived.Deep.QuietTactic
import Derived.Deep.SlicePairs
import Derived.IntWalk
import Derived.Laws.AppendOwnNone
import Derived.Laws.CopyOwn
import Derived.Laws.Rows
import Derived.Laws.Tables
import Derived.Lib.AppendStr
import Derived.Lib.Hide
import Derived.Lib.SmallJoins
import Derived.Outline
import Derived.Test.YtmfgplbfojnkdaaRows
import Derived.WalkKit
import Derived.WalkLawsBesides
import Derived.WalkSmall
import Derived.WalkSpells
import Derived.WideShapes
import Derived.Test.YtmfgplbfojnkdaaNf00
import Derived.Test.YtmfgplbfojnkdaaNf01
import Derived.Test.YtmfgplbfojnkdaaNf02
import Derived.Test.YtmfgplbfojnkdaaNf03
import Derived.Test.YtmfgplbfojnkdaaNf04
import Derived.Test.YtmfgplbfojnkdaaNf05
import Derived.Test.YtmfgplbfojnkdaaNf06
import Derived.Test.YtmfgplbfojnkdaaNf07
import Derived.Test.YtmfgplbfojnkdaaNf08
import Derived.Test.YtmfgplbfojnkdaaNf09
import Derived.Test.YtmfgplbfojnkdaaNf10
import Derived.Test.YtmfgplbfojnkdaaNf11
import Derived.Test.YtmfgplbfojnkdaaNf12
import Derived.Test.YtmfgplbfojnkdaaNf13
import Derived.Test.YtmfgplbfojnkdaaNf14
import Derived.Test.YtmfgplbfojnkdaaNf15
import Derived.Test.YtmfgplbfojnkdaaNf16
import Derived.Test.YtmfgplbfojnkdaaNf17
import Derived.Test.YtmfgplbfojnkdaaNf18
import Derived.Test.YtmfgplbfojnkdaaNf19
import Derived.Test.YtmfgplbfojnkdaaNf20
import Derived.Test.YtmfgplbfojnkdaaNf21
import Derived.Test.YtmfgplbfojnkdaaNf22
import Derived.Test.YtmfgplbfojnkdaaNf23
import Derived.Test.YtmfgplbfojnkdaaNf24
namespace Go.Proofs.Ytmfgplbfojnkdaa.kit
open Go.RowKit
theorem bytes_get (s : ByteArray) (k : Nat) (h : k < s.size) : (bytes s)[k]? = some s[k].toNat := by
 have h2 : k < s.data.size := h
 simp only [bytes, List.getElem?_map, Array.getElem?_toList, Option.map_eq_some_iff]
 exact ⟨s[k], Array.getElem?_eq_getElem h2, rfl⟩
theorem bytes_drop (s : ByteArray) (k : Nat) (h : k < s.size) : (bytes s).drop k = s[k].toNat :: (bytes s).drop (k + 1) := by
 have h2 : k < (bytes s).length := by rw [bytes_len]; exact h
 rw [List.drop_eq_getElem_cons h2]
 congr 1
 have := bytes_get s k h
 rw [List.getElem?_eq_getElem h2] at this
 exact Option.some.inj this
end Go.Proofs.Ytmfgplbfojnkdaa.kit
namespace Go.Proofs.Ytmfgplbfojnkdaa.cl
open Go.RowKit Go.WideShapes Go.ChangeShapes
section
variable {α : Type} {k : Nat} {R : Rel α} {w w' : World} {B B' : Nat} {v : Value} {l : List α}
end
end Go.Proofs.Ytmfgplbfojnkdaa.cl
namespace Go.Proofs.Ytmfgplbfojnkdaa
open Go Go.RowKit Go.ChangeShapes cl
section
variable {B B' : Nat} {av av' : Option Nat} {W W' : World} {P P' : World → Prop}
end
end Go.Proofs.Ytmfgplbfojnkdaa
namespace Go.Proofs.Ytmfgplbfojnkdaa
open Go Go.RowKit Go.ChangeShapes cl
section
variable {q : Nat} {av av' : Option Nat} {W W' W2 : World} {P P' : World → Prop}
end
end Go.Proofs.Ytmfgplbfojnkdaa
namespace Go.Proofs.Ytmfgplbfojnkdaa.rx
section
variable (s : List Nat)
variable (O : St → Pat × St)
end
end Go.Proofs.Ytmfgplbfojnkdaa.rx
