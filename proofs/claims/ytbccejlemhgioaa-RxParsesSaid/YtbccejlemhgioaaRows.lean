/-
  NARROWER THAN 'FOR EVERY INPUT', by the rows' own cells (each row's printed sentence says how): RxRights: loops.
  DERIVED. THE GIVEN ROWS OF THIS SEAT. 4 by the template 'for every input the law returns true; each argument reads behind the call as it read before'; 0 by the template 'total and deterministic' (their statements: YtbccejlemhgioaaTotals.lean).
  GIVEN WITH THE SEED: the statements are not yours to turn. If you find one false, say at which input.
  Laid BY PROGRAM, IN A SANDBOX (cutbox-rows.mjs): the forced cells as the released guide's own fill.sh prints them over the translation 0e51736915ac03d3… (all of the seat's roots in one cut). By AI agents, Wed Nov 11 2026. No macro, syntax, notation, axiom, sorry.
-/
import Derived.Test.YtbccejlemhgioaaChecked
import GoSem.Claim
import GoSem.ClaimJoined
import GoSem.ClaimMapViews
import Derived.JoinedTies
import Derived.KernelRfl
namespace Go.Proofs.Ytbccejlemhgioaa
/- THE CELL 'sum', in the pinned program and in every row, IS THE sha256 OF THE DUMP (.gsa) THAT YtbccejlemhgioaaProg.lean LOADS. Nothing in Lean hashes anything: it is a label: what it is worth is what the hold of that sum in a sandbox is worth. -/
noncomputable def Try.pinned : Pinned := { name := "ytbccejlemhgioaa", sum := "0e51736915ac03d3c3cf6c1751c2c14dc1b3ab2dfdd0bd5f772bac1c916875b7", checked := Try.checked }
namespace Rows
def none {H : Type} : Left H := { results := [], args := [] }

/-- 'gleanerlaw08.RxParses': WHATEVER THE INPUT: true; the input reads as it did. -/
def rxParsesSpec : ChangeSpec := { name := "rxParses", fn := fun _ => fun
  | [d] => { results := [.lit (.bool true)], args := [d] }
  | _ => none }
def rxParsesRow : OpenClaim := { program := "ytbccejlemhgioaa", sum := "0e51736915ac03d3c3cf6c1751c2c14dc1b3ab2dfdd0bd5f772bac1c916875b7", func := "gleaner/gleanerlaw08.RxParses", spec := "rxParses", inPlace := ["internal/bytealg.IndexByteString"], recurses := true, apart := false }
def RxParsesSaid : Prop := rxParsesRow.holds Try.pinned (OpenSpec.ofChange rxParsesSpec)

/-- ITS FALSE NEIGHBOUR: 'it returns false'. Refute it at one input. -/
def rxParsesWrong : ChangeSpec := { name := "rxParses", fn := fun _ => fun
  | [d] => { results := [.lit (.bool false)], args := [d] }
  | _ => none }
def RxParsesWrongFalsely : Prop := rxParsesRow.holds Try.pinned (OpenSpec.ofChange rxParsesWrong)

/-- 'gleanerlaw08.RxClasses': WHATEVER THE INPUT: true; the input reads as it did. -/
def rxClassesSpec : ChangeSpec := { name := "rxClasses", fn := fun _ => fun
  | [d1, d2, d3] => { results := [.lit (.bool true)], args := [d1, d2, d3] }
  | _ => none }
def rxClassesRow : OpenClaim := { program := "ytbccejlemhgioaa", sum := "0e51736915ac03d3c3cf6c1751c2c14dc1b3ab2dfdd0bd5f772bac1c916875b7", func := "gleaner/gleanerlaw08.RxClasses", spec := "rxClasses", inPlace := ["internal/bytealg.IndexByteString"], recurses := true, apart := false }
def RxClassesSaid : Prop := rxClassesRow.holds Try.pinned (OpenSpec.ofChange rxClassesSpec)

/-- ITS FALSE NEIGHBOUR: 'it returns false'. Refute it at one input. -/
def rxClassesWrong : ChangeSpec := { name := "rxClasses", fn := fun _ => fun
  | [d1, d2, d3] => { results := [.lit (.bool false)], args := [d1, d2, d3] }
  | _ => none }
def RxClassesWrongFalsely : Prop := rxClassesRow.holds Try.pinned (OpenSpec.ofChange rxClassesWrong)

/-- 'gleanerlaw08.RxRights': WHATEVER THE INPUT: true; the input reads as it did. -/
def rxRightsSpec : ChangeSpec := { name := "rxRights", fn := fun _ => fun
  | [d] => { results := [.lit (.bool true)], args := [d] }
  | _ => none }
def rxRightsRow : OpenClaim := { program := "ytbccejlemhgioaa", sum := "0e51736915ac03d3c3cf6c1751c2c14dc1b3ab2dfdd0bd5f772bac1c916875b7", func := "gleaner/gleanerlaw08.RxRights", spec := "rxRights", inPlace := ["internal/bytealg.IndexByteString"], recurses := true, loops := true, apart := false }
def RxRightsSaid : Prop := rxRightsRow.holds Try.pinned (OpenSpec.ofChange rxRightsSpec)

/-- ITS FALSE NEIGHBOUR: 'it returns false'. Refute it at one input. -/
def rxRightsWrong : ChangeSpec := { name := "rxRights", fn := fun _ => fun
  | [d] => { results := [.lit (.bool false)], args := [d] }
  | _ => none }
def RxRightsWrongFalsely : Prop := rxRightsRow.holds Try.pinned (OpenSpec.ofChange rxRightsWrong)

/-- 'gleanerlaw08.RxJoins': WHATEVER THE INPUT: true; the input reads as it did. -/
def rxJoinsSpec : ChangeSpec := { name := "rxJoins", fn := fun _ => fun
  | [d1, d2] => { results := [.lit (.bool true)], args := [d1, d2] }
  | _ => none }
def rxJoinsRow : OpenClaim := { program := "ytbccejlemhgioaa", sum := "0e51736915ac03d3c3cf6c1751c2c14dc1b3ab2dfdd0bd5f772bac1c916875b7", func := "gleaner/gleanerlaw08.RxJoins", spec := "rxJoins", inPlace := ["internal/bytealg.IndexByteString"], recurses := true, apart := false }
def RxJoinsSaid : Prop := rxJoinsRow.holds Try.pinned (OpenSpec.ofChange rxJoinsSpec)

/-- ITS FALSE NEIGHBOUR: 'it returns false'. Refute it at one input. -/
def rxJoinsWrong : ChangeSpec := { name := "rxJoins", fn := fun _ => fun
  | [d1, d2] => { results := [.lit (.bool false)], args := [d1, d2] }
  | _ => none }
def RxJoinsWrongFalsely : Prop := rxJoinsRow.holds Try.pinned (OpenSpec.ofChange rxJoinsWrong)

/- THE SECOND FORM. 'bulk': how many values and letters a reading holds, each counted each time it is reached (what is shared counts as often as it is met; a slice's spare places count too). A statement '..UptoSaid' is the law's where the arguments, and the package variables that the reading takes, are together of bulk at most 1048576: NARROWER than '..Said'. Prove '..Said' where nothing that the law and all that it calls make is longer than what came in: it says more and counts as full. Else prove '..UptoSaid'. A law counts once. -/
mutual
def uptoBulk {H : Type} : DataW H → Nat
  | .lit (.string bytes) => bytes.length + 1
  | .lit _ => 1
  | .nil => 1
  | .ptr d => uptoBulk d + 1
  | .slice elems spare => uptoBulkAll elems + uptoBulkAll spare + 1
  | .agg parts => uptoBulkAll parts + 1
  | .iface _ d => uptoBulk d + 1
  | .map entries => uptoBulkEntries entries + 1
  | .held _ => 1
def uptoBulkAll {H : Type} : List (DataW H) → Nat
  | [] => 0
  | d :: r => uptoBulk d + uptoBulkAll r
def uptoBulkEntries {H : Type} : List (Lit × DataW H) → Nat
  | [] => 0
  | x :: r => uptoBulkEntry x + uptoBulkEntries r
def uptoBulkEntry {H : Type} : Lit × DataW H → Nat
  | (.string bytes, d) => bytes.length + uptoBulk d + 1
  | (_, d) => uptoBulk d + 1
 end
def uptoSmall : (H : Type) → List (DataW H) → Bool := fun _ ds => decide (uptoBulkAll ds ≤ 1048576)
def OpenSpec.upto (s : _root_.Go.ChangeSpec) : _root_.Go.OpenSpec := { _root_.Go.OpenSpec.ofChange s with cond := some uptoSmall }

/-- 'gleanerlaw08.RxParses', WHERE WHAT IT READS IS OF BULK AT MOST 1048576: true; the input reads as it did. -/
def rxParsesUptoRow : OpenClaim := { program := "ytbccejlemhgioaa", sum := "0e51736915ac03d3c3cf6c1751c2c14dc1b3ab2dfdd0bd5f772bac1c916875b7", func := "gleaner/gleanerlaw08.RxParses", spec := "rxParses", inPlace := ["internal/bytealg.IndexByteString"], recurses := true, apart := false, narrowed := true }
def RxParsesUptoSaid : Prop := rxParsesUptoRow.holds Try.pinned (OpenSpec.upto rxParsesSpec)

/-- 'gleanerlaw08.RxClasses', WHERE WHAT IT READS IS OF BULK AT MOST 1048576: true; the input reads as it did. -/
def rxClassesUptoRow : OpenClaim := { program := "ytbccejlemhgioaa", sum := "0e51736915ac03d3c3cf6c1751c2c14dc1b3ab2dfdd0bd5f772bac1c916875b7", func := "gleaner/gleanerlaw08.RxClasses", spec := "rxClasses", inPlace := ["internal/bytealg.IndexByteString"], recurses := true, apart := false, narrowed := true }
def RxClassesUptoSaid : Prop := rxClassesUptoRow.holds Try.pinned (OpenSpec.upto rxClassesSpec)

/-- 'gleanerlaw08.RxRights', WHERE WHAT IT READS IS OF BULK AT MOST 1048576: true; the input reads as it did. -/
def rxRightsUptoRow : OpenClaim := { program := "ytbccejlemhgioaa", sum := "0e51736915ac03d3c3cf6c1751c2c14dc1b3ab2dfdd0bd5f772bac1c916875b7", func := "gleaner/gleanerlaw08.RxRights", spec := "rxRights", inPlace := ["internal/bytealg.IndexByteString"], recurses := true, loops := true, apart := false, narrowed := true }
def RxRightsUptoSaid : Prop := rxRightsUptoRow.holds Try.pinned (OpenSpec.upto rxRightsSpec)

/-- 'gleanerlaw08.RxJoins', WHERE WHAT IT READS IS OF BULK AT MOST 1048576: true; the input reads as it did. -/
def rxJoinsUptoRow : OpenClaim := { program := "ytbccejlemhgioaa", sum := "0e51736915ac03d3c3cf6c1751c2c14dc1b3ab2dfdd0bd5f772bac1c916875b7", func := "gleaner/gleanerlaw08.RxJoins", spec := "rxJoins", inPlace := ["internal/bytealg.IndexByteString"], recurses := true, apart := false, narrowed := true }
def RxJoinsUptoSaid : Prop := rxJoinsUptoRow.holds Try.pinned (OpenSpec.upto rxJoinsSpec)

end Rows
end Go.Proofs.Ytbccejlemhgioaa
