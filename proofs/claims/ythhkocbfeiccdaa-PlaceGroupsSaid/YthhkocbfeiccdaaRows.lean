/-
  No cell of these rows narrows 'for every input' (looked for: loops, veiled, ifaces, maps, wideKeys, modest, calm, conditions, laid).
  DERIVED. THE GIVEN ROWS OF THIS SEAT. 5 by the template 'for every input the law returns true; each argument reads behind the call as it read before'; 0 by the template 'total and deterministic' (their statements: YthhkocbfeiccdaaTotals.lean).
  GIVEN WITH THE SEED: the statements are not yours to turn. If you find one false, say at which input.
  Laid BY PROGRAM, IN A SANDBOX (cutbox-rows.mjs): the forced cells as the released guide's own fill.sh prints them over the translation c1000a9711ca5990… (all of the seat's roots in one cut). By AI agents, Wed Nov 11 2026. No macro, syntax, notation, axiom, sorry.
-/
import Derived.Test.YthhkocbfeiccdaaChecked
import GoSem.Claim
import GoSem.ClaimJoined
import GoSem.ClaimMapViews
import Derived.JoinedTies
import Derived.KernelRfl
namespace Go.Proofs.Ythhkocbfeiccdaa
/- THE CELL 'sum', in the pinned program and in every row, IS THE sha256 OF THE DUMP (.gsa) THAT YthhkocbfeiccdaaProg.lean LOADS. Nothing in Lean hashes anything: it is a label: what it is worth is what the hold of that sum in a sandbox is worth. -/
noncomputable def Try.pinned : Pinned := { name := "ythhkocbfeiccdaa", sum := "c1000a9711ca59906693e3df105e24254a749dfb06e3928d18ab27d593f26187", checked := Try.checked }
namespace Rows
def none {H : Type} : Left H := { results := [], args := [] }

/-- 'gleanerlaw21.PlaceGroups': WHATEVER THE INPUT: true; the input reads as it did. -/
def placeGroupsSpec : ChangeSpec := { name := "placeGroups", fn := fun _ => fun
  | [d1, d2, d3] => { results := [.lit (.bool true)], args := [d1, d2, d3] }
  | _ => none }
def placeGroupsRow : OpenClaim := { program := "ythhkocbfeiccdaa", sum := "c1000a9711ca59906693e3df105e24254a749dfb06e3928d18ab27d593f26187", func := "gleaner/gleanerlaw21.PlaceGroups", spec := "placeGroups", unfollowed := true, recurses := true, apart := false }
def PlaceGroupsSaid : Prop := placeGroupsRow.holds Try.pinned (OpenSpec.ofChange placeGroupsSpec)

/-- ITS FALSE NEIGHBOUR: 'it returns false'. Refute it at one input. -/
def placeGroupsWrong : ChangeSpec := { name := "placeGroups", fn := fun _ => fun
  | [d1, d2, d3] => { results := [.lit (.bool false)], args := [d1, d2, d3] }
  | _ => none }
def PlaceGroupsWrongFalsely : Prop := placeGroupsRow.holds Try.pinned (OpenSpec.ofChange placeGroupsWrong)

/-- 'gleanerlaw21.PlaceNodes': WHATEVER THE INPUT: true; the input reads as it did. -/
def placeNodesSpec : ChangeSpec := { name := "placeNodes", fn := fun _ => fun
  | [d1, d2, d3] => { results := [.lit (.bool true)], args := [d1, d2, d3] }
  | _ => none }
def placeNodesRow : OpenClaim := { program := "ythhkocbfeiccdaa", sum := "c1000a9711ca59906693e3df105e24254a749dfb06e3928d18ab27d593f26187", func := "gleaner/gleanerlaw21.PlaceNodes", spec := "placeNodes", unfollowed := true, recurses := true, apart := false }
def PlaceNodesSaid : Prop := placeNodesRow.holds Try.pinned (OpenSpec.ofChange placeNodesSpec)

/-- ITS FALSE NEIGHBOUR: 'it returns false'. Refute it at one input. -/
def placeNodesWrong : ChangeSpec := { name := "placeNodes", fn := fun _ => fun
  | [d1, d2, d3] => { results := [.lit (.bool false)], args := [d1, d2, d3] }
  | _ => none }
def PlaceNodesWrongFalsely : Prop := placeNodesRow.holds Try.pinned (OpenSpec.ofChange placeNodesWrong)

/-- 'gleanerlaw21.PlaceUnlike': WHATEVER THE INPUT: true; the input reads as it did. -/
def placeUnlikeSpec : ChangeSpec := { name := "placeUnlike", fn := fun _ => fun
  | [d1, d2] => { results := [.lit (.bool true)], args := [d1, d2] }
  | _ => none }
def placeUnlikeRow : OpenClaim := { program := "ythhkocbfeiccdaa", sum := "c1000a9711ca59906693e3df105e24254a749dfb06e3928d18ab27d593f26187", func := "gleaner/gleanerlaw21.PlaceUnlike", spec := "placeUnlike", unfollowed := true, recurses := true, apart := false }
def PlaceUnlikeSaid : Prop := placeUnlikeRow.holds Try.pinned (OpenSpec.ofChange placeUnlikeSpec)

/-- ITS FALSE NEIGHBOUR: 'it returns false'. Refute it at one input. -/
def placeUnlikeWrong : ChangeSpec := { name := "placeUnlike", fn := fun _ => fun
  | [d1, d2] => { results := [.lit (.bool false)], args := [d1, d2] }
  | _ => none }
def PlaceUnlikeWrongFalsely : Prop := placeUnlikeRow.holds Try.pinned (OpenSpec.ofChange placeUnlikeWrong)

/-- 'gleanerlaw21.PlaceRing': WHATEVER THE INPUT: true; the input reads as it did. -/
def placeRingSpec : ChangeSpec := { name := "placeRing", fn := fun _ => fun
  | [d1, d2, d3] => { results := [.lit (.bool true)], args := [d1, d2, d3] }
  | _ => none }
def placeRingRow : OpenClaim := { program := "ythhkocbfeiccdaa", sum := "c1000a9711ca59906693e3df105e24254a749dfb06e3928d18ab27d593f26187", func := "gleaner/gleanerlaw21.PlaceRing", spec := "placeRing", unfollowed := true, recurses := true, apart := false }
def PlaceRingSaid : Prop := placeRingRow.holds Try.pinned (OpenSpec.ofChange placeRingSpec)

/-- ITS FALSE NEIGHBOUR: 'it returns false'. Refute it at one input. -/
def placeRingWrong : ChangeSpec := { name := "placeRing", fn := fun _ => fun
  | [d1, d2, d3] => { results := [.lit (.bool false)], args := [d1, d2, d3] }
  | _ => none }
def PlaceRingWrongFalsely : Prop := placeRingRow.holds Try.pinned (OpenSpec.ofChange placeRingWrong)

/-- 'gleanerlaw21.PlaceHome': WHATEVER THE INPUT: true; the input reads as it did. -/
def placeHomeSpec : ChangeSpec := { name := "placeHome", fn := fun _ => fun
  | [d1, d2] => { results := [.lit (.bool true)], args := [d1, d2] }
  | _ => none }
def placeHomeRow : OpenClaim := { program := "ythhkocbfeiccdaa", sum := "c1000a9711ca59906693e3df105e24254a749dfb06e3928d18ab27d593f26187", func := "gleaner/gleanerlaw21.PlaceHome", spec := "placeHome", unfollowed := true, recurses := true, apart := false }
def PlaceHomeSaid : Prop := placeHomeRow.holds Try.pinned (OpenSpec.ofChange placeHomeSpec)

/-- ITS FALSE NEIGHBOUR: 'it returns false'. Refute it at one input. -/
def placeHomeWrong : ChangeSpec := { name := "placeHome", fn := fun _ => fun
  | [d1, d2] => { results := [.lit (.bool false)], args := [d1, d2] }
  | _ => none }
def PlaceHomeWrongFalsely : Prop := placeHomeRow.holds Try.pinned (OpenSpec.ofChange placeHomeWrong)

/- THE SECOND FORM. 'bulk': how many values and letters a reading holds, each counted each time it is reached (what is shared counts as often as it is met; a slice's spare places count too). A statement '..UptoSaid' is the law's where the arguments, and the package variables that the reading takes, are together of bulk at most 1048576: NARROWER than '..Said'. Prove '..Said' where nothing that the law and all that it calls make is longer than what came in: it says more and counts as full. Else prove '..UptoSaid'. A law counts once. -/
mutual
def uptoBulk {H : Type} : DataW H → Nat
  | .lit (.string bytes) => bytes.length + 1
  | .lit _ => 1
  | .nil => 1
  | .ptr d => uptoBulk d + 1
  | .slice elems spare => uptoBulkAll elems + uptoBulkAll spare + 1
  | .agg parts => uptoBulkAll parts + 1
  | .iface _ d => uptoBulk d + 1
  | .map entries => uptoBulkEntries entries + 1
  | .held _ => 1
def uptoBulkAll {H : Type} : List (DataW H) → Nat
  | [] => 0
  | d :: r => uptoBulk d + uptoBulkAll r
def uptoBulkEntries {H : Type} : List (Lit × DataW H) → Nat
  | [] => 0
  | x :: r => uptoBulkEntry x + uptoBulkEntries r
def uptoBulkEntry {H : Type} : Lit × DataW H → Nat
  | (.string bytes, d) => bytes.length + uptoBulk d + 1
  | (_, d) => uptoBulk d + 1
 end
def uptoSmall : (H : Type) → List (DataW H) → Bool := fun _ ds => decide (uptoBulkAll ds ≤ 1048576)
def OpenSpec.upto (s : _root_.Go.ChangeSpec) : _root_.Go.OpenSpec := { _root_.Go.OpenSpec.ofChange s with cond := some uptoSmall }

/-- 'gleanerlaw21.PlaceGroups', WHERE WHAT IT READS IS OF BULK AT MOST 1048576: true; the input reads as it did. -/
def placeGroupsUptoRow : OpenClaim := { program := "ythhkocbfeiccdaa", sum := "c1000a9711ca59906693e3df105e24254a749dfb06e3928d18ab27d593f26187", func := "gleaner/gleanerlaw21.PlaceGroups", spec := "placeGroups", unfollowed := true, recurses := true, apart := false, narrowed := true }
def PlaceGroupsUptoSaid : Prop := placeGroupsUptoRow.holds Try.pinned (OpenSpec.upto placeGroupsSpec)

/-- 'gleanerlaw21.PlaceNodes', WHERE WHAT IT READS IS OF BULK AT MOST 1048576: true; the input reads as it did. -/
def placeNodesUptoRow : OpenClaim := { program := "ythhkocbfeiccdaa", sum := "c1000a9711ca59906693e3df105e24254a749dfb06e3928d18ab27d593f26187", func := "gleaner/gleanerlaw21.PlaceNodes", spec := "placeNodes", unfollowed := true, recurses := true, apart := false, narrowed := true }
def PlaceNodesUptoSaid : Prop := placeNodesUptoRow.holds Try.pinned (OpenSpec.upto placeNodesSpec)

/-- 'gleanerlaw21.PlaceUnlike', WHERE WHAT IT READS IS OF BULK AT MOST 1048576: true; the input reads as it did. -/
def placeUnlikeUptoRow : OpenClaim := { program := "ythhkocbfeiccdaa", sum := "c1000a9711ca59906693e3df105e24254a749dfb06e3928d18ab27d593f26187", func := "gleaner/gleanerlaw21.PlaceUnlike", spec := "placeUnlike", unfollowed := true, recurses := true, apart := false, narrowed := true }
def PlaceUnlikeUptoSaid : Prop := placeUnlikeUptoRow.holds Try.pinned (OpenSpec.upto placeUnlikeSpec)

/-- 'gleanerlaw21.PlaceRing', WHERE WHAT IT READS IS OF BULK AT MOST 1048576: true; the input reads as it did. -/
def placeRingUptoRow : OpenClaim := { program := "ythhkocbfeiccdaa", sum := "c1000a9711ca59906693e3df105e24254a749dfb06e3928d18ab27d593f26187", func := "gleaner/gleanerlaw21.PlaceRing", spec := "placeRing", unfollowed := true, recurses := true, apart := false, narrowed := true }
def PlaceRingUptoSaid : Prop := placeRingUptoRow.holds Try.pinned (OpenSpec.upto placeRingSpec)

/-- 'gleanerlaw21.PlaceHome', WHERE WHAT IT READS IS OF BULK AT MOST 1048576: true; the input reads as it did. -/
def placeHomeUptoRow : OpenClaim := { program := "ythhkocbfeiccdaa", sum := "c1000a9711ca59906693e3df105e24254a749dfb06e3928d18ab27d593f26187", func := "gleaner/gleanerlaw21.PlaceHome", spec := "placeHome", unfollowed := true, recurses := true, apart := false, narrowed := true }
def PlaceHomeUptoSaid : Prop := placeHomeUptoRow.holds Try.pinned (OpenSpec.upto placeHomeSpec)

end Rows
end Go.Proofs.Ythhkocbfeiccdaa
