/-
  No cell of these rows narrows 'for every input' (looked for: loops, veiled, ifaces, maps, wideKeys, modest, calm, conditions, laid).
  DERIVED. THE GIVEN ROWS OF THIS SEAT. 3 by the template 'for every input the law returns true; each argument reads behind the call as it read before'; 0 by the template 'total and deterministic' (their statements: YtegjpiggjcfoaaaTotals.lean).
  GIVEN WITH THE SEED: the statements are not yours to turn. If you find one false, say at which input.
  Laid BY PROGRAM, IN A SANDBOX (cutbox-rows.mjs): the forced cells as the released guide's own fill.sh prints them over the translation fa3b241112160ab6… (all of the seat's roots in one cut). By AI agents, Wed Nov 11 2026. No macro, syntax, notation, axiom, sorry.
-/
import Derived.Test.YtegjpiggjcfoaaaChecked
import GoSem.Claim
import GoSem.ClaimJoined
import GoSem.ClaimMapViews
import Derived.JoinedTies
import Derived.KernelRfl
namespace Go.Proofs.Ytegjpiggjcfoaaa
/- THE CELL 'sum', in the pinned program and in every row, IS THE sha256 OF THE DUMP (.gsa) THAT YtegjpiggjcfoaaaProg.lean LOADS. Nothing in Lean hashes anything: it is a label: what it is worth is what the hold of that sum in a sandbox is worth. -/
noncomputable def Try.pinned : Pinned := { name := "ytegjpiggjcfoaaa", sum := "fa3b241112160ab6444270cbe464527d6db5a145b3ba05ae799cb5ed4097b7a1", checked := Try.checked }
namespace Rows
def none {H : Type} : Left H := { results := [], args := [] }

/-- 'gleanerlaw17.SeriesUses': WHATEVER THE INPUT: true; the input reads as it did. -/
def seriesUsesSpec : ChangeSpec := { name := "seriesUses", fn := fun _ => fun
  | [d] => { results := [.lit (.bool true)], args := [d] }
  | _ => none }
def seriesUsesRow : OpenClaim := { program := "ytegjpiggjcfoaaa", sum := "fa3b241112160ab6444270cbe464527d6db5a145b3ba05ae799cb5ed4097b7a1", func := "gleaner/gleanerlaw17.SeriesUses", spec := "seriesUses", inPlace := ["internal/bytealg.abigen_runtime_cmpstring", "internal/bytealg.IndexByteString", "internal/bytealg.IndexString"], unfollowed := true, recurses := true, named := ["internal/bytealg.MaxLen"], apart := false }
def SeriesUsesSaid : Prop := seriesUsesRow.holds Try.pinned (OpenSpec.ofChange seriesUsesSpec)

/-- ITS FALSE NEIGHBOUR: 'it returns false'. Refute it at one input. -/
def seriesUsesWrong : ChangeSpec := { name := "seriesUses", fn := fun _ => fun
  | [d] => { results := [.lit (.bool false)], args := [d] }
  | _ => none }
def SeriesUsesWrongFalsely : Prop := seriesUsesRow.holds Try.pinned (OpenSpec.ofChange seriesUsesWrong)

/-- 'gleanerlaw17.SeriesEmpties': WHATEVER THE INPUT: true; the input reads as it did. -/
def seriesEmptiesSpec : ChangeSpec := { name := "seriesEmpties", fn := fun _ => fun
  | [d] => { results := [.lit (.bool true)], args := [d] }
  | _ => none }
def seriesEmptiesRow : OpenClaim := { program := "ytegjpiggjcfoaaa", sum := "fa3b241112160ab6444270cbe464527d6db5a145b3ba05ae799cb5ed4097b7a1", func := "gleaner/gleanerlaw17.SeriesEmpties", spec := "seriesEmpties", inPlace := ["internal/bytealg.abigen_runtime_cmpstring", "internal/bytealg.IndexByteString", "internal/bytealg.IndexString"], unfollowed := true, recurses := true, named := ["internal/bytealg.MaxLen"], apart := false }
def SeriesEmptiesSaid : Prop := seriesEmptiesRow.holds Try.pinned (OpenSpec.ofChange seriesEmptiesSpec)

/-- ITS FALSE NEIGHBOUR: 'it returns false'. Refute it at one input. -/
def seriesEmptiesWrong : ChangeSpec := { name := "seriesEmpties", fn := fun _ => fun
  | [d] => { results := [.lit (.bool false)], args := [d] }
  | _ => none }
def SeriesEmptiesWrongFalsely : Prop := seriesEmptiesRow.holds Try.pinned (OpenSpec.ofChange seriesEmptiesWrong)

/-- 'gleanerlaw17.SeriesStays': WHATEVER THE INPUT: true; the input reads as it did. -/
def seriesStaysSpec : ChangeSpec := { name := "seriesStays", fn := fun _ => fun
  | [d1, d2] => { results := [.lit (.bool true)], args := [d1, d2] }
  | _ => none }
def seriesStaysRow : OpenClaim := { program := "ytegjpiggjcfoaaa", sum := "fa3b241112160ab6444270cbe464527d6db5a145b3ba05ae799cb5ed4097b7a1", func := "gleaner/gleanerlaw17.SeriesStays", spec := "seriesStays", inPlace := ["internal/bytealg.IndexByteString", "internal/bytealg.IndexString", "internal/bytealg.abigen_runtime_cmpstring"], unfollowed := true, recurses := true, named := ["internal/bytealg.MaxLen"], apart := false }
def SeriesStaysSaid : Prop := seriesStaysRow.holds Try.pinned (OpenSpec.ofChange seriesStaysSpec)

/-- ITS FALSE NEIGHBOUR: 'it returns false'. Refute it at one input. -/
def seriesStaysWrong : ChangeSpec := { name := "seriesStays", fn := fun _ => fun
  | [d1, d2] => { results := [.lit (.bool false)], args := [d1, d2] }
  | _ => none }
def SeriesStaysWrongFalsely : Prop := seriesStaysRow.holds Try.pinned (OpenSpec.ofChange seriesStaysWrong)

/- THE SECOND FORM. 'bulk': how many values and letters a reading holds, each counted each time it is reached (what is shared counts as often as it is met; a slice's spare places count too). A statement '..UptoSaid' is the law's where the arguments, and the package variables that the reading takes, are together of bulk at most 1048576: NARROWER than '..Said'. Prove '..Said' where nothing that the law and all that it calls make is longer than what came in: it says more and counts as full. Else prove '..UptoSaid'. A law counts once. -/
mutual
def uptoBulk {H : Type} : DataW H → Nat
  | .lit (.string bytes) => bytes.length + 1
  | .lit _ => 1
  | .nil => 1
  | .ptr d => uptoBulk d + 1
  | .slice elems spare => uptoBulkAll elems + uptoBulkAll spare + 1
  | .agg parts => uptoBulkAll parts + 1
  | .iface _ d => uptoBulk d + 1
  | .map entries => uptoBulkEntries entries + 1
  | .held _ => 1
def uptoBulkAll {H : Type} : List (DataW H) → Nat
  | [] => 0
  | d :: r => uptoBulk d + uptoBulkAll r
def uptoBulkEntries {H : Type} : List (Lit × DataW H) → Nat
  | [] => 0
  | x :: r => uptoBulkEntry x + uptoBulkEntries r
def uptoBulkEntry {H : Type} : Lit × DataW H → Nat
  | (.string bytes, d) => bytes.length + uptoBulk d + 1
  | (_, d) => uptoBulk d + 1
 end
def uptoSmall : (H : Type) → List (DataW H) → Bool := fun _ ds => decide (uptoBulkAll ds ≤ 1048576)
def OpenSpec.upto (s : _root_.Go.ChangeSpec) : _root_.Go.OpenSpec := { _root_.Go.OpenSpec.ofChange s with cond := some uptoSmall }

/-- 'gleanerlaw17.SeriesUses', WHERE WHAT IT READS IS OF BULK AT MOST 1048576: true; the input reads as it did. -/
def seriesUsesUptoRow : OpenClaim := { program := "ytegjpiggjcfoaaa", sum := "fa3b241112160ab6444270cbe464527d6db5a145b3ba05ae799cb5ed4097b7a1", func := "gleaner/gleanerlaw17.SeriesUses", spec := "seriesUses", inPlace := ["internal/bytealg.abigen_runtime_cmpstring", "internal/bytealg.IndexByteString", "internal/bytealg.IndexString"], unfollowed := true, recurses := true, named := ["internal/bytealg.MaxLen"], apart := false, narrowed := true }
def SeriesUsesUptoSaid : Prop := seriesUsesUptoRow.holds Try.pinned (OpenSpec.upto seriesUsesSpec)

/-- 'gleanerlaw17.SeriesEmpties', WHERE WHAT IT READS IS OF BULK AT MOST 1048576: true; the input reads as it did. -/
def seriesEmptiesUptoRow : OpenClaim := { program := "ytegjpiggjcfoaaa", sum := "fa3b241112160ab6444270cbe464527d6db5a145b3ba05ae799cb5ed4097b7a1", func := "gleaner/gleanerlaw17.SeriesEmpties", spec := "seriesEmpties", inPlace := ["internal/bytealg.abigen_runtime_cmpstring", "internal/bytealg.IndexByteString", "internal/bytealg.IndexString"], unfollowed := true, recurses := true, named := ["internal/bytealg.MaxLen"], apart := false, narrowed := true }
def SeriesEmptiesUptoSaid : Prop := seriesEmptiesUptoRow.holds Try.pinned (OpenSpec.upto seriesEmptiesSpec)

/-- 'gleanerlaw17.SeriesStays', WHERE WHAT IT READS IS OF BULK AT MOST 1048576: true; the input reads as it did. -/
def seriesStaysUptoRow : OpenClaim := { program := "ytegjpiggjcfoaaa", sum := "fa3b241112160ab6444270cbe464527d6db5a145b3ba05ae799cb5ed4097b7a1", func := "gleaner/gleanerlaw17.SeriesStays", spec := "seriesStays", inPlace := ["internal/bytealg.IndexByteString", "internal/bytealg.IndexString", "internal/bytealg.abigen_runtime_cmpstring"], unfollowed := true, recurses := true, named := ["internal/bytealg.MaxLen"], apart := false, narrowed := true }
def SeriesStaysUptoSaid : Prop := seriesStaysUptoRow.holds Try.pinned (OpenSpec.upto seriesStaysSpec)

end Rows
end Go.Proofs.Ytegjpiggjcfoaaa
