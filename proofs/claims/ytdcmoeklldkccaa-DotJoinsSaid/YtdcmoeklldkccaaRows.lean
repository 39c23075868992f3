/-
  No cell of these rows narrows 'for every input' (looked for: loops, veiled, ifaces, maps, wideKeys, modest, calm, conditions, laid).
  DERIVED. THE GIVEN ROWS OF THIS SEAT. 7 by the template 'for every input the law returns true; each argument reads behind the call as it read before'; 0 by the template 'total and deterministic' (their statements: YtdcmoeklldkccaaTotals.lean).
  GIVEN WITH THE SEED: the statements are not yours to turn. If you find one false, say at which input.
  Laid BY PROGRAM, IN A SANDBOX (cutbox-rows.mjs): the forced cells as the released guide's own fill.sh prints them over the translation 9a0445d64c256c03… (all of the seat's roots in one cut). By AI agents, Wed Nov 11 2026. No macro, syntax, notation, axiom, sorry.
-/
import Derived.Test.YtdcmoeklldkccaaChecked
import GoSem.Claim
import GoSem.ClaimJoined
import GoSem.ClaimMapViews
import Derived.JoinedTies
import Derived.KernelRfl
namespace Go.Proofs.Ytdcmoeklldkccaa
/- THE CELL 'sum', in the pinned program and in every row, IS THE sha256 OF THE DUMP (.gsa) THAT YtdcmoeklldkccaaProg.lean LOADS. Nothing in Lean hashes anything: it is a label: what it is worth is what the hold of that sum in a sandbox is worth. -/
noncomputable def Try.pinned : Pinned := { name := "ytdcmoeklldkccaa", sum := "9a0445d64c256c03705550070906e14c91e32e1d2c869f3077139e775fd221a1", checked := Try.checked }
namespace Rows
def none {H : Type} : Left H := { results := [], args := [] }

/-- 'gleanerlaw03.DotAsks': WHATEVER THE INPUT: true; the input reads as it did. -/
def dotAsksSpec : ChangeSpec := { name := "dotAsks", fn := fun _ => fun
  | [d1, d2, d3] => { results := [.lit (.bool true)], args := [d1, d2, d3] }
  | _ => none }
def dotAsksRow : OpenClaim := { program := "ytdcmoeklldkccaa", sum := "9a0445d64c256c03705550070906e14c91e32e1d2c869f3077139e775fd221a1", func := "gleaner/gleanerlaw03.DotAsks", spec := "dotAsks", unfollowed := true, recurses := true, apart := false }
def DotAsksSaid : Prop := dotAsksRow.holds Try.pinned (OpenSpec.ofChange dotAsksSpec)

/-- ITS FALSE NEIGHBOUR: 'it returns false'. Refute it at one input. -/
def dotAsksWrong : ChangeSpec := { name := "dotAsks", fn := fun _ => fun
  | [d1, d2, d3] => { results := [.lit (.bool false)], args := [d1, d2, d3] }
  | _ => none }
def DotAsksWrongFalsely : Prop := dotAsksRow.holds Try.pinned (OpenSpec.ofChange dotAsksWrong)

/-- 'gleanerlaw03.DotJoins': WHATEVER THE INPUT: true; the input reads as it did. -/
def dotJoinsSpec : ChangeSpec := { name := "dotJoins", fn := fun _ => fun
  | [d1, d2, d3] => { results := [.lit (.bool true)], args := [d1, d2, d3] }
  | _ => none }
def dotJoinsRow : OpenClaim := { program := "ytdcmoeklldkccaa", sum := "9a0445d64c256c03705550070906e14c91e32e1d2c869f3077139e775fd221a1", func := "gleaner/gleanerlaw03.DotJoins", spec := "dotJoins", unfollowed := true, recurses := true, apart := false }
def DotJoinsSaid : Prop := dotJoinsRow.holds Try.pinned (OpenSpec.ofChange dotJoinsSpec)

/-- ITS FALSE NEIGHBOUR: 'it returns false'. Refute it at one input. -/
def dotJoinsWrong : ChangeSpec := { name := "dotJoins", fn := fun _ => fun
  | [d1, d2, d3] => { results := [.lit (.bool false)], args := [d1, d2, d3] }
  | _ => none }
def DotJoinsWrongFalsely : Prop := dotJoinsRow.holds Try.pinned (OpenSpec.ofChange dotJoinsWrong)

/-- 'gleanerlaw03.DotGathers': WHATEVER THE INPUT: true; the input reads as it did. -/
def dotGathersSpec : ChangeSpec := { name := "dotGathers", fn := fun _ => fun
  | [d] => { results := [.lit (.bool true)], args := [d] }
  | _ => none }
def dotGathersRow : OpenClaim := { program := "ytdcmoeklldkccaa", sum := "9a0445d64c256c03705550070906e14c91e32e1d2c869f3077139e775fd221a1", func := "gleaner/gleanerlaw03.DotGathers", spec := "dotGathers", unfollowed := true, recurses := true, apart := false }
def DotGathersSaid : Prop := dotGathersRow.holds Try.pinned (OpenSpec.ofChange dotGathersSpec)

/-- ITS FALSE NEIGHBOUR: 'it returns false'. Refute it at one input. -/
def dotGathersWrong : ChangeSpec := { name := "dotGathers", fn := fun _ => fun
  | [d] => { results := [.lit (.bool false)], args := [d] }
  | _ => none }
def DotGathersWrongFalsely : Prop := dotGathersRow.holds Try.pinned (OpenSpec.ofChange dotGathersWrong)

/-- 'gleanerlaw03.DotKnows': WHATEVER THE INPUT: true; the input reads as it did. -/
def dotKnowsSpec : ChangeSpec := { name := "dotKnows", fn := fun _ => fun
  | [d1, d2] => { results := [.lit (.bool true)], args := [d1, d2] }
  | _ => none }
def dotKnowsRow : OpenClaim := { program := "ytdcmoeklldkccaa", sum := "9a0445d64c256c03705550070906e14c91e32e1d2c869f3077139e775fd221a1", func := "gleaner/gleanerlaw03.DotKnows", spec := "dotKnows", unfollowed := true, recurses := true, apart := false }
def DotKnowsSaid : Prop := dotKnowsRow.holds Try.pinned (OpenSpec.ofChange dotKnowsSpec)

/-- ITS FALSE NEIGHBOUR: 'it returns false'. Refute it at one input. -/
def dotKnowsWrong : ChangeSpec := { name := "dotKnows", fn := fun _ => fun
  | [d1, d2] => { results := [.lit (.bool false)], args := [d1, d2] }
  | _ => none }
def DotKnowsWrongFalsely : Prop := dotKnowsRow.holds Try.pinned (OpenSpec.ofChange dotKnowsWrong)

/-- 'gleanerlaw03.DotLaws': WHATEVER THE INPUT: true; the input reads as it did. -/
def dotLawsSpec : ChangeSpec := { name := "dotLaws", fn := fun _ => fun
  | [d1, d2, d3] => { results := [.lit (.bool true)], args := [d1, d2, d3] }
  | _ => none }
def dotLawsRow : OpenClaim := { program := "ytdcmoeklldkccaa", sum := "9a0445d64c256c03705550070906e14c91e32e1d2c869f3077139e775fd221a1", func := "gleaner/gleanerlaw03.DotLaws", spec := "dotLaws", unfollowed := true, recurses := true, apart := false }
def DotLawsSaid : Prop := dotLawsRow.holds Try.pinned (OpenSpec.ofChange dotLawsSpec)

/-- ITS FALSE NEIGHBOUR: 'it returns false'. Refute it at one input. -/
def dotLawsWrong : ChangeSpec := { name := "dotLaws", fn := fun _ => fun
  | [d1, d2, d3] => { results := [.lit (.bool false)], args := [d1, d2, d3] }
  | _ => none }
def DotLawsWrongFalsely : Prop := dotLawsRow.holds Try.pinned (OpenSpec.ofChange dotLawsWrong)

/-- 'gleanerlaw03.DotOne': WHATEVER THE INPUT: true; the input reads as it did. -/
def dotOneSpec : ChangeSpec := { name := "dotOne", fn := fun _ => fun
  | [d1, d2] => { results := [.lit (.bool true)], args := [d1, d2] }
  | _ => none }
def dotOneRow : OpenClaim := { program := "ytdcmoeklldkccaa", sum := "9a0445d64c256c03705550070906e14c91e32e1d2c869f3077139e775fd221a1", func := "gleaner/gleanerlaw03.DotOne", spec := "dotOne", unfollowed := true, recurses := true, apart := false }
def DotOneSaid : Prop := dotOneRow.holds Try.pinned (OpenSpec.ofChange dotOneSpec)

/-- ITS FALSE NEIGHBOUR: 'it returns false'. Refute it at one input. -/
def dotOneWrong : ChangeSpec := { name := "dotOne", fn := fun _ => fun
  | [d1, d2] => { results := [.lit (.bool false)], args := [d1, d2] }
  | _ => none }
def DotOneWrongFalsely : Prop := dotOneRow.holds Try.pinned (OpenSpec.ofChange dotOneWrong)

/-- 'gleanerlaw03.DotUnder': WHATEVER THE INPUT: true; the input reads as it did. -/
def dotUnderSpec : ChangeSpec := { name := "dotUnder", fn := fun _ => fun
  | [d1, d2, d3] => { results := [.lit (.bool true)], args := [d1, d2, d3] }
  | _ => none }
def dotUnderRow : OpenClaim := { program := "ytdcmoeklldkccaa", sum := "9a0445d64c256c03705550070906e14c91e32e1d2c869f3077139e775fd221a1", func := "gleaner/gleanerlaw03.DotUnder", spec := "dotUnder", unfollowed := true, recurses := true, apart := false }
def DotUnderSaid : Prop := dotUnderRow.holds Try.pinned (OpenSpec.ofChange dotUnderSpec)

/-- ITS FALSE NEIGHBOUR: 'it returns false'. Refute it at one input. -/
def dotUnderWrong : ChangeSpec := { name := "dotUnder", fn := fun _ => fun
  | [d1, d2, d3] => { results := [.lit (.bool false)], args := [d1, d2, d3] }
  | _ => none }
def DotUnderWrongFalsely : Prop := dotUnderRow.holds Try.pinned (OpenSpec.ofChange dotUnderWrong)

/- THE SECOND FORM. 'bulk': how many values and letters a reading holds, each counted each time it is reached (what is shared counts as often as it is met; a slice's spare places count too). A statement '..UptoSaid' is the law's where the arguments, and the package variables that the reading takes, are together of bulk at most 1048576: NARROWER than '..Said'. Prove '..Said' where nothing that the law and all that it calls make is longer than what came in: it says more and counts as full. Else prove '..UptoSaid'. A law counts once. -/
mutual
def uptoBulk {H : Type} : DataW H → Nat
  | .lit (.string bytes) => bytes.length + 1
  | .lit _ => 1
  | .nil => 1
  | .ptr d => uptoBulk d + 1
  | .slice elems spare => uptoBulkAll elems + uptoBulkAll spare + 1
  | .agg parts => uptoBulkAll parts + 1
  | .iface _ d => uptoBulk d + 1
  | .map entries => uptoBulkEntries entries + 1
  | .held _ => 1
def uptoBulkAll {H : Type} : List (DataW H) → Nat
  | [] => 0
  | d :: r => uptoBulk d + uptoBulkAll r
def uptoBulkEntries {H : Type} : List (Lit × DataW H) → Nat
  | [] => 0
  | x :: r => uptoBulkEntry x + uptoBulkEntries r
def uptoBulkEntry {H : Type} : Lit × DataW H → Nat
  | (.string bytes, d) => bytes.length + uptoBulk d + 1
  | (_, d) => uptoBulk d + 1
 end
def uptoSmall : (H : Type) → List (DataW H) → Bool := fun _ ds => decide (uptoBulkAll ds ≤ 1048576)
def OpenSpec.upto (s : _root_.Go.ChangeSpec) : _root_.Go.OpenSpec := { _root_.Go.OpenSpec.ofChange s with cond := some uptoSmall }

/-- 'gleanerlaw03.DotAsks', WHERE WHAT IT READS IS OF BULK AT MOST 1048576: true; the input reads as it did. -/
def dotAsksUptoRow : OpenClaim := { program := "ytdcmoeklldkccaa", sum := "9a0445d64c256c03705550070906e14c91e32e1d2c869f3077139e775fd221a1", func := "gleaner/gleanerlaw03.DotAsks", spec := "dotAsks", unfollowed := true, recurses := true, apart := false, narrowed := true }
def DotAsksUptoSaid : Prop := dotAsksUptoRow.holds Try.pinned (OpenSpec.upto dotAsksSpec)

/-- 'gleanerlaw03.DotJoins', WHERE WHAT IT READS IS OF BULK AT MOST 1048576: true; the input reads as it did. -/
def dotJoinsUptoRow : OpenClaim := { program := "ytdcmoeklldkccaa", sum := "9a0445d64c256c03705550070906e14c91e32e1d2c869f3077139e775fd221a1", func := "gleaner/gleanerlaw03.DotJoins", spec := "dotJoins", unfollowed := true, recurses := true, apart := false, narrowed := true }
def DotJoinsUptoSaid : Prop := dotJoinsUptoRow.holds Try.pinned (OpenSpec.upto dotJoinsSpec)

/-- 'gleanerlaw03.DotGathers', WHERE WHAT IT READS IS OF BULK AT MOST 1048576: true; the input reads as it did. -/
def dotGathersUptoRow : OpenClaim := { program := "ytdcmoeklldkccaa", sum := "9a0445d64c256c03705550070906e14c91e32e1d2c869f3077139e775fd221a1", func := "gleaner/gleanerlaw03.DotGathers", spec := "dotGathers", unfollowed := true, recurses := true, apart := false, narrowed := true }
def DotGathersUptoSaid : Prop := dotGathersUptoRow.holds Try.pinned (OpenSpec.upto dotGathersSpec)

/-- 'gleanerlaw03.DotKnows', WHERE WHAT IT READS IS OF BULK AT MOST 1048576: true; the input reads as it did. -/
def dotKnowsUptoRow : OpenClaim := { program := "ytdcmoeklldkccaa", sum := "9a0445d64c256c03705550070906e14c91e32e1d2c869f3077139e775fd221a1", func := "gleaner/gleanerlaw03.DotKnows", spec := "dotKnows", unfollowed := true, recurses := true, apart := false, narrowed := true }
def DotKnowsUptoSaid : Prop := dotKnowsUptoRow.holds Try.pinned (OpenSpec.upto dotKnowsSpec)

/-- 'gleanerlaw03.DotLaws', WHERE WHAT IT READS IS OF BULK AT MOST 1048576: true; the input reads as it did. -/
def dotLawsUptoRow : OpenClaim := { program := "ytdcmoeklldkccaa", sum := "9a0445d64c256c03705550070906e14c91e32e1d2c869f3077139e775fd221a1", func := "gleaner/gleanerlaw03.DotLaws", spec := "dotLaws", unfollowed := true, recurses := true, apart := false, narrowed := true }
def DotLawsUptoSaid : Prop := dotLawsUptoRow.holds Try.pinned (OpenSpec.upto dotLawsSpec)

/-- 'gleanerlaw03.DotOne', WHERE WHAT IT READS IS OF BULK AT MOST 1048576: true; the input reads as it did. -/
def dotOneUptoRow : OpenClaim := { program := "ytdcmoeklldkccaa", sum := "9a0445d64c256c03705550070906e14c91e32e1d2c869f3077139e775fd221a1", func := "gleaner/gleanerlaw03.DotOne", spec := "dotOne", unfollowed := true, recurses := true, apart := false, narrowed := true }
def DotOneUptoSaid : Prop := dotOneUptoRow.holds Try.pinned (OpenSpec.upto dotOneSpec)

/-- 'gleanerlaw03.DotUnder', WHERE WHAT IT READS IS OF BULK AT MOST 1048576: true; the input reads as it did. -/
def dotUnderUptoRow : OpenClaim := { program := "ytdcmoeklldkccaa", sum := "9a0445d64c256c03705550070906e14c91e32e1d2c869f3077139e775fd221a1", func := "gleaner/gleanerlaw03.DotUnder", spec := "dotUnder", unfollowed := true, recurses := true, apart := false, narrowed := true }
def DotUnderUptoSaid : Prop := dotUnderUptoRow.holds Try.pinned (OpenSpec.upto dotUnderSpec)

end Rows
end Go.Proofs.Ytdcmoeklldkccaa
