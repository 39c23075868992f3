/-
  No cell of these rows narrows 'for every input' (looked for: loops, veiled, ifaces, maps, wideKeys, modest, calm, conditions, laid).
  DERIVED. THE GIVEN ROWS OF THIS SEAT. 6 by the template 'for every input the law returns true; each argument reads behind the call as it read before'; 0 by the template 'total and deterministic' (their statements: YtbcofpppjjpclaaTotals.lean).
  GIVEN WITH THE SEED: the statements are not yours to turn. If you find one false, say at which input.
  Laid BY PROGRAM, IN A SANDBOX (cutbox-rows.mjs): the forced cells as the released guide's own fill.sh prints them over the translation b0ff8b683452746f… (all of the seat's roots in one cut). By AI agents, Wed Nov 11 2026. No macro, syntax, notation, axiom, sorry.
-/
import Derived.Test.YtbcofpppjjpclaaChecked
import GoSem.Claim
import GoSem.ClaimJoined
import GoSem.ClaimMapViews
import Derived.JoinedTies
import Derived.KernelRfl
namespace Go.Proofs.Ytbcofpppjjpclaa
/- THE CELL 'sum', in the pinned program and in every row, IS THE sha256 OF THE DUMP (.gsa) THAT YtbcofpppjjpclaaProg.lean LOADS. Nothing in Lean hashes anything: it is a label: what it is worth is what the hold of that sum in a sandbox is worth. -/
noncomputable def Try.pinned : Pinned := { name := "ytbcofpppjjpclaa", sum := "b0ff8b683452746f1c246f36cd33a3735f5dd73df8aa7fd3da6fee1490f230ef", checked := Try.checked }
namespace Rows
def none {H : Type} : Left H := { results := [], args := [] }

/-- 'gleanerlaw06.PostingPairs': WHATEVER THE INPUT: true; the input reads as it did. -/
def postingPairsSpec : ChangeSpec := { name := "postingPairs", fn := fun _ => fun
  | [d1, d2, d3] => { results := [.lit (.bool true)], args := [d1, d2, d3] }
  | _ => none }
def postingPairsRow : OpenClaim := { program := "ytbcofpppjjpclaa", sum := "b0ff8b683452746f1c246f36cd33a3735f5dd73df8aa7fd3da6fee1490f230ef", func := "gleaner/gleanerlaw06.PostingPairs", spec := "postingPairs", apart := false }
def PostingPairsSaid : Prop := postingPairsRow.holds Try.pinned (OpenSpec.ofChange postingPairsSpec)

/-- ITS FALSE NEIGHBOUR: 'it returns false'. Refute it at one input. -/
def postingPairsWrong : ChangeSpec := { name := "postingPairs", fn := fun _ => fun
  | [d1, d2, d3] => { results := [.lit (.bool false)], args := [d1, d2, d3] }
  | _ => none }
def PostingPairsWrongFalsely : Prop := postingPairsRow.holds Try.pinned (OpenSpec.ofChange postingPairsWrong)

/-- 'gleanerlaw06.PostingMany': WHATEVER THE INPUT: true; the input reads as it did. -/
def postingManySpec : ChangeSpec := { name := "postingMany", fn := fun _ => fun
  | [d] => { results := [.lit (.bool true)], args := [d] }
  | _ => none }
def postingManyRow : OpenClaim := { program := "ytbcofpppjjpclaa", sum := "b0ff8b683452746f1c246f36cd33a3735f5dd73df8aa7fd3da6fee1490f230ef", func := "gleaner/gleanerlaw06.PostingMany", spec := "postingMany", recurses := true, apart := false }
def PostingManySaid : Prop := postingManyRow.holds Try.pinned (OpenSpec.ofChange postingManySpec)

/-- ITS FALSE NEIGHBOUR: 'it returns false'. Refute it at one input. -/
def postingManyWrong : ChangeSpec := { name := "postingMany", fn := fun _ => fun
  | [d] => { results := [.lit (.bool false)], args := [d] }
  | _ => none }
def PostingManyWrongFalsely : Prop := postingManyRow.holds Try.pinned (OpenSpec.ofChange postingManyWrong)

/-- 'gleanerlaw06.PostingMembers': WHATEVER THE INPUT: true; the input reads as it did. -/
def postingMembersSpec : ChangeSpec := { name := "postingMembers", fn := fun _ => fun
  | [d1, d2, d3] => { results := [.lit (.bool true)], args := [d1, d2, d3] }
  | _ => none }
def postingMembersRow : OpenClaim := { program := "ytbcofpppjjpclaa", sum := "b0ff8b683452746f1c246f36cd33a3735f5dd73df8aa7fd3da6fee1490f230ef", func := "gleaner/gleanerlaw06.PostingMembers", spec := "postingMembers", apart := false }
def PostingMembersSaid : Prop := postingMembersRow.holds Try.pinned (OpenSpec.ofChange postingMembersSpec)

/-- ITS FALSE NEIGHBOUR: 'it returns false'. Refute it at one input. -/
def postingMembersWrong : ChangeSpec := { name := "postingMembers", fn := fun _ => fun
  | [d1, d2, d3] => { results := [.lit (.bool false)], args := [d1, d2, d3] }
  | _ => none }
def PostingMembersWrongFalsely : Prop := postingMembersRow.holds Try.pinned (OpenSpec.ofChange postingMembersWrong)

/-- 'gleanerlaw06.PostingLaws': WHATEVER THE INPUT: true; the input reads as it did. -/
def postingLawsSpec : ChangeSpec := { name := "postingLaws", fn := fun _ => fun
  | [d1, d2, d3] => { results := [.lit (.bool true)], args := [d1, d2, d3] }
  | _ => none }
def postingLawsRow : OpenClaim := { program := "ytbcofpppjjpclaa", sum := "b0ff8b683452746f1c246f36cd33a3735f5dd73df8aa7fd3da6fee1490f230ef", func := "gleaner/gleanerlaw06.PostingLaws", spec := "postingLaws", apart := false }
def PostingLawsSaid : Prop := postingLawsRow.holds Try.pinned (OpenSpec.ofChange postingLawsSpec)

/-- ITS FALSE NEIGHBOUR: 'it returns false'. Refute it at one input. -/
def postingLawsWrong : ChangeSpec := { name := "postingLaws", fn := fun _ => fun
  | [d1, d2, d3] => { results := [.lit (.bool false)], args := [d1, d2, d3] }
  | _ => none }
def PostingLawsWrongFalsely : Prop := postingLawsRow.holds Try.pinned (OpenSpec.ofChange postingLawsWrong)

/-- 'gleanerlaw06.PostingCounts': WHATEVER THE INPUT: true; the input reads as it did. -/
def postingCountsSpec : ChangeSpec := { name := "postingCounts", fn := fun _ => fun
  | [d1, d2] => { results := [.lit (.bool true)], args := [d1, d2] }
  | _ => none }
def postingCountsRow : OpenClaim := { program := "ytbcofpppjjpclaa", sum := "b0ff8b683452746f1c246f36cd33a3735f5dd73df8aa7fd3da6fee1490f230ef", func := "gleaner/gleanerlaw06.PostingCounts", spec := "postingCounts", apart := false }
def PostingCountsSaid : Prop := postingCountsRow.holds Try.pinned (OpenSpec.ofChange postingCountsSpec)

/-- ITS FALSE NEIGHBOUR: 'it returns false'. Refute it at one input. -/
def postingCountsWrong : ChangeSpec := { name := "postingCounts", fn := fun _ => fun
  | [d1, d2] => { results := [.lit (.bool false)], args := [d1, d2] }
  | _ => none }
def PostingCountsWrongFalsely : Prop := postingCountsRow.holds Try.pinned (OpenSpec.ofChange postingCountsWrong)

/-- 'gleanerlaw06.PostingFolds': WHATEVER THE INPUT: true; the input reads as it did. -/
def postingFoldsSpec : ChangeSpec := { name := "postingFolds", fn := fun _ => fun
  | [d1, d2] => { results := [.lit (.bool true)], args := [d1, d2] }
  | _ => none }
def postingFoldsRow : OpenClaim := { program := "ytbcofpppjjpclaa", sum := "b0ff8b683452746f1c246f36cd33a3735f5dd73df8aa7fd3da6fee1490f230ef", func := "gleaner/gleanerlaw06.PostingFolds", spec := "postingFolds", recurses := true, apart := false }
def PostingFoldsSaid : Prop := postingFoldsRow.holds Try.pinned (OpenSpec.ofChange postingFoldsSpec)

/-- ITS FALSE NEIGHBOUR: 'it returns false'. Refute it at one input. -/
def postingFoldsWrong : ChangeSpec := { name := "postingFolds", fn := fun _ => fun
  | [d1, d2] => { results := [.lit (.bool false)], args := [d1, d2] }
  | _ => none }
def PostingFoldsWrongFalsely : Prop := postingFoldsRow.holds Try.pinned (OpenSpec.ofChange postingFoldsWrong)

/- THE SECOND FORM. 'bulk': how many values and letters a reading holds, each counted each time it is reached (what is shared counts as often as it is met; a slice's spare places count too). A statement '..UptoSaid' is the law's where the arguments, and the package variables that the reading takes, are together of bulk at most 1048576: NARROWER than '..Said'. Prove '..Said' where nothing that the law and all that it calls make is longer than what came in: it says more and counts as full. Else prove '..UptoSaid'. A law counts once. -/
mutual
def uptoBulk {H : Type} : DataW H → Nat
  | .lit (.string bytes) => bytes.length + 1
  | .lit _ => 1
  | .nil => 1
  | .ptr d => uptoBulk d + 1
  | .slice elems spare => uptoBulkAll elems + uptoBulkAll spare + 1
  | .agg parts => uptoBulkAll parts + 1
  | .iface _ d => uptoBulk d + 1
  | .map entries => uptoBulkEntries entries + 1
  | .held _ => 1
def uptoBulkAll {H : Type} : List (DataW H) → Nat
  | [] => 0
  | d :: r => uptoBulk d + uptoBulkAll r
def uptoBulkEntries {H : Type} : List (Lit × DataW H) → Nat
  | [] => 0
  | x :: r => uptoBulkEntry x + uptoBulkEntries r
def uptoBulkEntry {H : Type} : Lit × DataW H → Nat
  | (.string bytes, d) => bytes.length + uptoBulk d + 1
  | (_, d) => uptoBulk d + 1
 end
def uptoSmall : (H : Type) → List (DataW H) → Bool := fun _ ds => decide (uptoBulkAll ds ≤ 1048576)
def OpenSpec.upto (s : _root_.Go.ChangeSpec) : _root_.Go.OpenSpec := { _root_.Go.OpenSpec.ofChange s with cond := some uptoSmall }

/-- 'gleanerlaw06.PostingPairs', WHERE WHAT IT READS IS OF BULK AT MOST 1048576: true; the input reads as it did. -/
def postingPairsUptoRow : OpenClaim := { program := "ytbcofpppjjpclaa", sum := "b0ff8b683452746f1c246f36cd33a3735f5dd73df8aa7fd3da6fee1490f230ef", func := "gleaner/gleanerlaw06.PostingPairs", spec := "postingPairs", apart := false, narrowed := true }
def PostingPairsUptoSaid : Prop := postingPairsUptoRow.holds Try.pinned (OpenSpec.upto postingPairsSpec)

/-- 'gleanerlaw06.PostingMany', WHERE WHAT IT READS IS OF BULK AT MOST 1048576: true; the input reads as it did. -/
def postingManyUptoRow : OpenClaim := { program := "ytbcofpppjjpclaa", sum := "b0ff8b683452746f1c246f36cd33a3735f5dd73df8aa7fd3da6fee1490f230ef", func := "gleaner/gleanerlaw06.PostingMany", spec := "postingMany", recurses := true, apart := false, narrowed := true }
def PostingManyUptoSaid : Prop := postingManyUptoRow.holds Try.pinned (OpenSpec.upto postingManySpec)

/-- 'gleanerlaw06.PostingMembers', WHERE WHAT IT READS IS OF BULK AT MOST 1048576: true; the input reads as it did. -/
def postingMembersUptoRow : OpenClaim := { program := "ytbcofpppjjpclaa", sum := "b0ff8b683452746f1c246f36cd33a3735f5dd73df8aa7fd3da6fee1490f230ef", func := "gleaner/gleanerlaw06.PostingMembers", spec := "postingMembers", apart := false, narrowed := true }
def PostingMembersUptoSaid : Prop := postingMembersUptoRow.holds Try.pinned (OpenSpec.upto postingMembersSpec)

/-- 'gleanerlaw06.PostingLaws', WHERE WHAT IT READS IS OF BULK AT MOST 1048576: true; the input reads as it did. -/
def postingLawsUptoRow : OpenClaim := { program := "ytbcofpppjjpclaa", sum := "b0ff8b683452746f1c246f36cd33a3735f5dd73df8aa7fd3da6fee1490f230ef", func := "gleaner/gleanerlaw06.PostingLaws", spec := "postingLaws", apart := false, narrowed := true }
def PostingLawsUptoSaid : Prop := postingLawsUptoRow.holds Try.pinned (OpenSpec.upto postingLawsSpec)

/-- 'gleanerlaw06.PostingCounts', WHERE WHAT IT READS IS OF BULK AT MOST 1048576: true; the input reads as it did. -/
def postingCountsUptoRow : OpenClaim := { program := "ytbcofpppjjpclaa", sum := "b0ff8b683452746f1c246f36cd33a3735f5dd73df8aa7fd3da6fee1490f230ef", func := "gleaner/gleanerlaw06.PostingCounts", spec := "postingCounts", apart := false, narrowed := true }
def PostingCountsUptoSaid : Prop := postingCountsUptoRow.holds Try.pinned (OpenSpec.upto postingCountsSpec)

/-- 'gleanerlaw06.PostingFolds', WHERE WHAT IT READS IS OF BULK AT MOST 1048576: true; the input reads as it did. -/
def postingFoldsUptoRow : OpenClaim := { program := "ytbcofpppjjpclaa", sum := "b0ff8b683452746f1c246f36cd33a3735f5dd73df8aa7fd3da6fee1490f230ef", func := "gleaner/gleanerlaw06.PostingFolds", spec := "postingFolds", recurses := true, apart := false, narrowed := true }
def PostingFoldsUptoSaid : Prop := postingFoldsUptoRow.holds Try.pinned (OpenSpec.upto postingFoldsSpec)

end Rows
end Go.Proofs.Ytbcofpppjjpclaa
