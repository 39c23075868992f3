/-
  NARROWER THAN 'FOR EVERY INPUT', by the rows' own cells (each row's printed sentence says how): CursorCalls: loops · CursorSteps: loops · CursorSeeks: loops.
  DERIVED. THE GIVEN ROWS OF THIS SEAT. 5 by the template 'for every input the law returns true; each argument reads behind the call as it read before'; 0 by the template 'total and deterministic' (their statements: YtojngbobecdpeaaTotals.lean).
  GIVEN WITH THE SEED: the statements are not yours to turn. If you find one false, say at which input.
  Laid BY PROGRAM, IN A SANDBOX (cutbox-rows.mjs): the forced cells as the released guide's own fill.sh prints them over the translation 9e2fbd7b4f91bb40… (all of the seat's roots in one cut). By AI agents, Wed Nov 11 2026. No macro, syntax, notation, axiom, sorry.
-/
import Derived.Test.YtojngbobecdpeaaChecked
import GoSem.Claim
import GoSem.ClaimJoined
import GoSem.ClaimMapViews
import Derived.JoinedTies
import Derived.KernelRfl
namespace Go.Proofs.Ytojngbobecdpeaa
/- THE CELL 'sum', in the pinned program and in every row, IS THE sha256 OF THE DUMP (.gsa) THAT YtojngbobecdpeaaProg.lean LOADS. Nothing in Lean hashes anything: it is a label: what it is worth is what the hold of that sum in a sandbox is worth. -/
noncomputable def Try.pinned : Pinned := { name := "ytojngbobecdpeaa", sum := "9e2fbd7b4f91bb4006294607fdc65c66a6414393a17b7d7f2590cfa5686778ed", checked := Try.checked }
namespace Rows
def none {H : Type} : Left H := { results := [], args := [] }

/-- 'gleanerlaw07.CursorCalls': WHATEVER THE INPUT: true; the input reads as it did. -/
def cursorCallsSpec : ChangeSpec := { name := "cursorCalls", fn := fun _ => fun
  | [d1, d2] => { results := [.lit (.bool true)], args := [d1, d2] }
  | _ => none }
def cursorCallsRow : OpenClaim := { program := "ytojngbobecdpeaa", sum := "9e2fbd7b4f91bb4006294607fdc65c66a6414393a17b7d7f2590cfa5686778ed", func := "gleaner/gleanerlaw07.CursorCalls", spec := "cursorCalls", unfollowed := true, recurses := true, loops := true, apart := false }
def CursorCallsSaid : Prop := cursorCallsRow.holds Try.pinned (OpenSpec.ofChange cursorCallsSpec)

/-- ITS FALSE NEIGHBOUR: 'it returns false'. Refute it at one input. -/
def cursorCallsWrong : ChangeSpec := { name := "cursorCalls", fn := fun _ => fun
  | [d1, d2] => { results := [.lit (.bool false)], args := [d1, d2] }
  | _ => none }
def CursorCallsWrongFalsely : Prop := cursorCallsRow.holds Try.pinned (OpenSpec.ofChange cursorCallsWrong)

/-- 'gleanerlaw07.CursorSteps': WHATEVER THE INPUT: true; the input reads as it did. -/
def cursorStepsSpec : ChangeSpec := { name := "cursorSteps", fn := fun _ => fun
  | [d] => { results := [.lit (.bool true)], args := [d] }
  | _ => none }
def cursorStepsRow : OpenClaim := { program := "ytojngbobecdpeaa", sum := "9e2fbd7b4f91bb4006294607fdc65c66a6414393a17b7d7f2590cfa5686778ed", func := "gleaner/gleanerlaw07.CursorSteps", spec := "cursorSteps", unfollowed := true, recurses := true, loops := true, apart := false }
def CursorStepsSaid : Prop := cursorStepsRow.holds Try.pinned (OpenSpec.ofChange cursorStepsSpec)

/-- ITS FALSE NEIGHBOUR: 'it returns false'. Refute it at one input. -/
def cursorStepsWrong : ChangeSpec := { name := "cursorSteps", fn := fun _ => fun
  | [d] => { results := [.lit (.bool false)], args := [d] }
  | _ => none }
def CursorStepsWrongFalsely : Prop := cursorStepsRow.holds Try.pinned (OpenSpec.ofChange cursorStepsWrong)

/-- 'gleanerlaw07.CursorLists': WHATEVER THE INPUT: true; the input reads as it did. -/
def cursorListsSpec : ChangeSpec := { name := "cursorLists", fn := fun _ => fun
  | [d1, d2, d3] => { results := [.lit (.bool true)], args := [d1, d2, d3] }
  | _ => none }
def cursorListsRow : OpenClaim := { program := "ytojngbobecdpeaa", sum := "9e2fbd7b4f91bb4006294607fdc65c66a6414393a17b7d7f2590cfa5686778ed", func := "gleaner/gleanerlaw07.CursorLists", spec := "cursorLists", unfollowed := true, recurses := true, apart := false }
def CursorListsSaid : Prop := cursorListsRow.holds Try.pinned (OpenSpec.ofChange cursorListsSpec)

/-- ITS FALSE NEIGHBOUR: 'it returns false'. Refute it at one input. -/
def cursorListsWrong : ChangeSpec := { name := "cursorLists", fn := fun _ => fun
  | [d1, d2, d3] => { results := [.lit (.bool false)], args := [d1, d2, d3] }
  | _ => none }
def CursorListsWrongFalsely : Prop := cursorListsRow.holds Try.pinned (OpenSpec.ofChange cursorListsWrong)

/-- 'gleanerlaw07.CursorSeeks': WHATEVER THE INPUT: true; the input reads as it did. -/
def cursorSeeksSpec : ChangeSpec := { name := "cursorSeeks", fn := fun _ => fun
  | [d1, d2] => { results := [.lit (.bool true)], args := [d1, d2] }
  | _ => none }
def cursorSeeksRow : OpenClaim := { program := "ytojngbobecdpeaa", sum := "9e2fbd7b4f91bb4006294607fdc65c66a6414393a17b7d7f2590cfa5686778ed", func := "gleaner/gleanerlaw07.CursorSeeks", spec := "cursorSeeks", unfollowed := true, recurses := true, loops := true, apart := false }
def CursorSeeksSaid : Prop := cursorSeeksRow.holds Try.pinned (OpenSpec.ofChange cursorSeeksSpec)

/-- ITS FALSE NEIGHBOUR: 'it returns false'. Refute it at one input. -/
def cursorSeeksWrong : ChangeSpec := { name := "cursorSeeks", fn := fun _ => fun
  | [d1, d2] => { results := [.lit (.bool false)], args := [d1, d2] }
  | _ => none }
def CursorSeeksWrongFalsely : Prop := cursorSeeksRow.holds Try.pinned (OpenSpec.ofChange cursorSeeksWrong)

/-- 'gleanerlaw07.CursorTurns': WHATEVER THE INPUT: true; the input reads as it did. -/
def cursorTurnsSpec : ChangeSpec := { name := "cursorTurns", fn := fun _ => fun
  | [d1, d2, d3] => { results := [.lit (.bool true)], args := [d1, d2, d3] }
  | _ => none }
def cursorTurnsRow : OpenClaim := { program := "ytojngbobecdpeaa", sum := "9e2fbd7b4f91bb4006294607fdc65c66a6414393a17b7d7f2590cfa5686778ed", func := "gleaner/gleanerlaw07.CursorTurns", spec := "cursorTurns", unfollowed := true, recurses := true, apart := false }
def CursorTurnsSaid : Prop := cursorTurnsRow.holds Try.pinned (OpenSpec.ofChange cursorTurnsSpec)

/-- ITS FALSE NEIGHBOUR: 'it returns false'. Refute it at one input. -/
def cursorTurnsWrong : ChangeSpec := { name := "cursorTurns", fn := fun _ => fun
  | [d1, d2, d3] => { results := [.lit (.bool false)], args := [d1, d2, d3] }
  | _ => none }
def CursorTurnsWrongFalsely : Prop := cursorTurnsRow.holds Try.pinned (OpenSpec.ofChange cursorTurnsWrong)

/- THE SECOND FORM. 'bulk': how many values and letters a reading holds, each counted each time it is reached (what is shared counts as often as it is met; a slice's spare places count too). A statement '..UptoSaid' is the law's where the arguments, and the package variables that the reading takes, are together of bulk at most 1048576: NARROWER than '..Said'. Prove '..Said' where nothing that the law and all that it calls make is longer than what came in: it says more and counts as full. Else prove '..UptoSaid'. A law counts once. -/
mutual
def uptoBulk {H : Type} : DataW H → Nat
  | .lit (.string bytes) => bytes.length + 1
  | .lit _ => 1
  | .nil => 1
  | .ptr d => uptoBulk d + 1
  | .slice elems spare => uptoBulkAll elems + uptoBulkAll spare + 1
  | .agg parts => uptoBulkAll parts + 1
  | .iface _ d => uptoBulk d + 1
  | .map entries => uptoBulkEntries entries + 1
  | .held _ => 1
def uptoBulkAll {H : Type} : List (DataW H) → Nat
  | [] => 0
  | d :: r => uptoBulk d + uptoBulkAll r
def uptoBulkEntries {H : Type} : List (Lit × DataW H) → Nat
  | [] => 0
  | x :: r => uptoBulkEntry x + uptoBulkEntries r
def uptoBulkEntry {H : Type} : Lit × DataW H → Nat
  | (.string bytes, d) => bytes.length + uptoBulk d + 1
  | (_, d) => uptoBulk d + 1
 end
def uptoSmall : (H : Type) → List (DataW H) → Bool := fun _ ds => decide (uptoBulkAll ds ≤ 1048576)
def OpenSpec.upto (s : _root_.Go.ChangeSpec) : _root_.Go.OpenSpec := { _root_.Go.OpenSpec.ofChange s with cond := some uptoSmall }

/-- 'gleanerlaw07.CursorCalls', WHERE WHAT IT READS IS OF BULK AT MOST 1048576: true; the input reads as it did. -/
def cursorCallsUptoRow : OpenClaim := { program := "ytojngbobecdpeaa", sum := "9e2fbd7b4f91bb4006294607fdc65c66a6414393a17b7d7f2590cfa5686778ed", func := "gleaner/gleanerlaw07.CursorCalls", spec := "cursorCalls", unfollowed := true, recurses := true, loops := true, apart := false, narrowed := true }
def CursorCallsUptoSaid : Prop := cursorCallsUptoRow.holds Try.pinned (OpenSpec.upto cursorCallsSpec)

/-- 'gleanerlaw07.CursorSteps', WHERE WHAT IT READS IS OF BULK AT MOST 1048576: true; the input reads as it did. -/
def cursorStepsUptoRow : OpenClaim := { program := "ytojngbobecdpeaa", sum := "9e2fbd7b4f91bb4006294607fdc65c66a6414393a17b7d7f2590cfa5686778ed", func := "gleaner/gleanerlaw07.CursorSteps", spec := "cursorSteps", unfollowed := true, recurses := true, loops := true, apart := false, narrowed := true }
def CursorStepsUptoSaid : Prop := cursorStepsUptoRow.holds Try.pinned (OpenSpec.upto cursorStepsSpec)

/-- 'gleanerlaw07.CursorLists', WHERE WHAT IT READS IS OF BULK AT MOST 1048576: true; the input reads as it did. -/
def cursorListsUptoRow : OpenClaim := { program := "ytojngbobecdpeaa", sum := "9e2fbd7b4f91bb4006294607fdc65c66a6414393a17b7d7f2590cfa5686778ed", func := "gleaner/gleanerlaw07.CursorLists", spec := "cursorLists", unfollowed := true, recurses := true, apart := false, narrowed := true }
def CursorListsUptoSaid : Prop := cursorListsUptoRow.holds Try.pinned (OpenSpec.upto cursorListsSpec)

/-- 'gleanerlaw07.CursorSeeks', WHERE WHAT IT READS IS OF BULK AT MOST 1048576: true; the input reads as it did. -/
def cursorSeeksUptoRow : OpenClaim := { program := "ytojngbobecdpeaa", sum := "9e2fbd7b4f91bb4006294607fdc65c66a6414393a17b7d7f2590cfa5686778ed", func := "gleaner/gleanerlaw07.CursorSeeks", spec := "cursorSeeks", unfollowed := true, recurses := true, loops := true, apart := false, narrowed := true }
def CursorSeeksUptoSaid : Prop := cursorSeeksUptoRow.holds Try.pinned (OpenSpec.upto cursorSeeksSpec)

/-- 'gleanerlaw07.CursorTurns', WHERE WHAT IT READS IS OF BULK AT MOST 1048576: true; the input reads as it did. -/
def cursorTurnsUptoRow : OpenClaim := { program := "ytojngbobecdpeaa", sum := "9e2fbd7b4f91bb4006294607fdc65c66a6414393a17b7d7f2590cfa5686778ed", func := "gleaner/gleanerlaw07.CursorTurns", spec := "cursorTurns", unfollowed := true, recurses := true, apart := false, narrowed := true }
def CursorTurnsUptoSaid : Prop := cursorTurnsUptoRow.holds Try.pinned (OpenSpec.upto cursorTurnsSpec)

end Rows
end Go.Proofs.Ytojngbobecdpeaa
