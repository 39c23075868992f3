/-
  No cell of these rows narrows 'for every input' (looked for: loops, veiled, ifaces, maps, wideKeys, modest, calm, conditions, laid).
  DERIVED. THE GIVEN ROWS OF THIS SEAT. 5 by the template 'for every input the law returns true; each argument reads behind the call as it read before'; 0 by the template 'total and deterministic' (their statements: YtagmlpenhogoeaaTotals.lean).
  GIVEN WITH THE SEED: the statements are not yours to turn. If you find one false, say at which input.
  Laid BY PROGRAM, IN A SANDBOX (cutbox-rows.mjs): the forced cells as the released guide's own fill.sh prints them over the translation 683c70b867acec6e… (all of the seat's roots in one cut). By AI agents, Wed Nov 11 2026. No macro, syntax, notation, axiom, sorry.
-/
import Derived.Test.YtagmlpenhogoeaaChecked
import GoSem.Claim
import GoSem.ClaimJoined
import GoSem.ClaimMapViews
import Derived.JoinedTies
import Derived.KernelRfl
namespace Go.Proofs.Ytagmlpenhogoeaa
/- THE CELL 'sum', in the pinned program and in every row, IS THE sha256 OF THE DUMP (.gsa) THAT YtagmlpenhogoeaaProg.lean LOADS. Nothing in Lean hashes anything: it is a label: what it is worth is what the hold of that sum in a sandbox is worth. -/
noncomputable def Try.pinned : Pinned := { name := "ytagmlpenhogoeaa", sum := "683c70b867acec6eee10527d021a2b464c51bffcdc84b57356306199b3df3e8d", checked := Try.checked }
namespace Rows
def none {H : Type} : Left H := { results := [], args := [] }

/-- 'gleanerlaw04.SymtabCalls': WHATEVER THE INPUT: true; the input reads as it did. -/
def symtabCallsSpec : ChangeSpec := { name := "symtabCalls", fn := fun _ => fun
  | [d1, d2, d3] => { results := [.lit (.bool true)], args := [d1, d2, d3] }
  | _ => none }
def symtabCallsRow : OpenClaim := { program := "ytagmlpenhogoeaa", sum := "683c70b867acec6eee10527d021a2b464c51bffcdc84b57356306199b3df3e8d", func := "gleaner/gleanerlaw04.SymtabCalls", spec := "symtabCalls", inPlace := ["internal/bytealg.abigen_runtime_cmpstring"], unfollowed := true, recurses := true, apart := false }
def SymtabCallsSaid : Prop := symtabCallsRow.holds Try.pinned (OpenSpec.ofChange symtabCallsSpec)

/-- ITS FALSE NEIGHBOUR: 'it returns false'. Refute it at one input. -/
def symtabCallsWrong : ChangeSpec := { name := "symtabCalls", fn := fun _ => fun
  | [d1, d2, d3] => { results := [.lit (.bool false)], args := [d1, d2, d3] }
  | _ => none }
def SymtabCallsWrongFalsely : Prop := symtabCallsRow.holds Try.pinned (OpenSpec.ofChange symtabCallsWrong)

/-- 'gleanerlaw04.SymtabUses': WHATEVER THE INPUT: true; the input reads as it did. -/
def symtabUsesSpec : ChangeSpec := { name := "symtabUses", fn := fun _ => fun
  | [d1, d2] => { results := [.lit (.bool true)], args := [d1, d2] }
  | _ => none }
def symtabUsesRow : OpenClaim := { program := "ytagmlpenhogoeaa", sum := "683c70b867acec6eee10527d021a2b464c51bffcdc84b57356306199b3df3e8d", func := "gleaner/gleanerlaw04.SymtabUses", spec := "symtabUses", apart := false }
def SymtabUsesSaid : Prop := symtabUsesRow.holds Try.pinned (OpenSpec.ofChange symtabUsesSpec)

/-- ITS FALSE NEIGHBOUR: 'it returns false'. Refute it at one input. -/
def symtabUsesWrong : ChangeSpec := { name := "symtabUses", fn := fun _ => fun
  | [d1, d2] => { results := [.lit (.bool false)], args := [d1, d2] }
  | _ => none }
def SymtabUsesWrongFalsely : Prop := symtabUsesRow.holds Try.pinned (OpenSpec.ofChange symtabUsesWrong)

/-- 'gleanerlaw04.SymtabStays': WHATEVER THE INPUT: true; the input reads as it did. -/
def symtabStaysSpec : ChangeSpec := { name := "symtabStays", fn := fun _ => fun
  | [d1, d2] => { results := [.lit (.bool true)], args := [d1, d2] }
  | _ => none }
def symtabStaysRow : OpenClaim := { program := "ytagmlpenhogoeaa", sum := "683c70b867acec6eee10527d021a2b464c51bffcdc84b57356306199b3df3e8d", func := "gleaner/gleanerlaw04.SymtabStays", spec := "symtabStays", apart := false }
def SymtabStaysSaid : Prop := symtabStaysRow.holds Try.pinned (OpenSpec.ofChange symtabStaysSpec)

/-- ITS FALSE NEIGHBOUR: 'it returns false'. Refute it at one input. -/
def symtabStaysWrong : ChangeSpec := { name := "symtabStays", fn := fun _ => fun
  | [d1, d2] => { results := [.lit (.bool false)], args := [d1, d2] }
  | _ => none }
def SymtabStaysWrongFalsely : Prop := symtabStaysRow.holds Try.pinned (OpenSpec.ofChange symtabStaysWrong)

/-- 'gleanerlaw04.SymtabSorts': WHATEVER THE INPUT: true; the input reads as it did. -/
def symtabSortsSpec : ChangeSpec := { name := "symtabSorts", fn := fun _ => fun
  | [d1, d2] => { results := [.lit (.bool true)], args := [d1, d2] }
  | _ => none }
def symtabSortsRow : OpenClaim := { program := "ytagmlpenhogoeaa", sum := "683c70b867acec6eee10527d021a2b464c51bffcdc84b57356306199b3df3e8d", func := "gleaner/gleanerlaw04.SymtabSorts", spec := "symtabSorts", inPlace := ["internal/bytealg.abigen_runtime_cmpstring"], unfollowed := true, recurses := true, apart := false }
def SymtabSortsSaid : Prop := symtabSortsRow.holds Try.pinned (OpenSpec.ofChange symtabSortsSpec)

/-- ITS FALSE NEIGHBOUR: 'it returns false'. Refute it at one input. -/
def symtabSortsWrong : ChangeSpec := { name := "symtabSorts", fn := fun _ => fun
  | [d1, d2] => { results := [.lit (.bool false)], args := [d1, d2] }
  | _ => none }
def SymtabSortsWrongFalsely : Prop := symtabSortsRow.holds Try.pinned (OpenSpec.ofChange symtabSortsWrong)

/-- 'gleanerlaw04.SymtabCompacts': WHATEVER THE INPUT: true; the input reads as it did. -/
def symtabCompactsSpec : ChangeSpec := { name := "symtabCompacts", fn := fun _ => fun
  | [d1, d2] => { results := [.lit (.bool true)], args := [d1, d2] }
  | _ => none }
def symtabCompactsRow : OpenClaim := { program := "ytagmlpenhogoeaa", sum := "683c70b867acec6eee10527d021a2b464c51bffcdc84b57356306199b3df3e8d", func := "gleaner/gleanerlaw04.SymtabCompacts", spec := "symtabCompacts", apart := false }
def SymtabCompactsSaid : Prop := symtabCompactsRow.holds Try.pinned (OpenSpec.ofChange symtabCompactsSpec)

/-- ITS FALSE NEIGHBOUR: 'it returns false'. Refute it at one input. -/
def symtabCompactsWrong : ChangeSpec := { name := "symtabCompacts", fn := fun _ => fun
  | [d1, d2] => { results := [.lit (.bool false)], args := [d1, d2] }
  | _ => none }
def SymtabCompactsWrongFalsely : Prop := symtabCompactsRow.holds Try.pinned (OpenSpec.ofChange symtabCompactsWrong)

/- THE SECOND FORM. 'bulk': how many values and letters a reading holds, each counted each time it is reached (what is shared counts as often as it is met; a slice's spare places count too). A statement '..UptoSaid' is the law's where the arguments, and the package variables that the reading takes, are together of bulk at most 1048576: NARROWER than '..Said'. Prove '..Said' where nothing that the law and all that it calls make is longer than what came in: it says more and counts as full. Else prove '..UptoSaid'. A law counts once. -/
mutual
def uptoBulk {H : Type} : DataW H → Nat
  | .lit (.string bytes) => bytes.length + 1
  | .lit _ => 1
  | .nil => 1
  | .ptr d => uptoBulk d + 1
  | .slice elems spare => uptoBulkAll elems + uptoBulkAll spare + 1
  | .agg parts => uptoBulkAll parts + 1
  | .iface _ d => uptoBulk d + 1
  | .map entries => uptoBulkEntries entries + 1
  | .held _ => 1
def uptoBulkAll {H : Type} : List (DataW H) → Nat
  | [] => 0
  | d :: r => uptoBulk d + uptoBulkAll r
def uptoBulkEntries {H : Type} : List (Lit × DataW H) → Nat
  | [] => 0
  | x :: r => uptoBulkEntry x + uptoBulkEntries r
def uptoBulkEntry {H : Type} : Lit × DataW H → Nat
  | (.string bytes, d) => bytes.length + uptoBulk d + 1
  | (_, d) => uptoBulk d + 1
 end
def uptoSmall : (H : Type) → List (DataW H) → Bool := fun _ ds => decide (uptoBulkAll ds ≤ 1048576)
def OpenSpec.upto (s : _root_.Go.ChangeSpec) : _root_.Go.OpenSpec := { _root_.Go.OpenSpec.ofChange s with cond := some uptoSmall }

/-- 'gleanerlaw04.SymtabCalls', WHERE WHAT IT READS IS OF BULK AT MOST 1048576: true; the input reads as it did. -/
def symtabCallsUptoRow : OpenClaim := { program := "ytagmlpenhogoeaa", sum := "683c70b867acec6eee10527d021a2b464c51bffcdc84b57356306199b3df3e8d", func := "gleaner/gleanerlaw04.SymtabCalls", spec := "symtabCalls", inPlace := ["internal/bytealg.abigen_runtime_cmpstring"], unfollowed := true, recurses := true, apart := false, narrowed := true }
def SymtabCallsUptoSaid : Prop := symtabCallsUptoRow.holds Try.pinned (OpenSpec.upto symtabCallsSpec)

/-- 'gleanerlaw04.SymtabUses', WHERE WHAT IT READS IS OF BULK AT MOST 1048576: true; the input reads as it did. -/
def symtabUsesUptoRow : OpenClaim := { program := "ytagmlpenhogoeaa", sum := "683c70b867acec6eee10527d021a2b464c51bffcdc84b57356306199b3df3e8d", func := "gleaner/gleanerlaw04.SymtabUses", spec := "symtabUses", apart := false, narrowed := true }
def SymtabUsesUptoSaid : Prop := symtabUsesUptoRow.holds Try.pinned (OpenSpec.upto symtabUsesSpec)

/-- 'gleanerlaw04.SymtabStays', WHERE WHAT IT READS IS OF BULK AT MOST 1048576: true; the input reads as it did. -/
def symtabStaysUptoRow : OpenClaim := { program := "ytagmlpenhogoeaa", sum := "683c70b867acec6eee10527d021a2b464c51bffcdc84b57356306199b3df3e8d", func := "gleaner/gleanerlaw04.SymtabStays", spec := "symtabStays", apart := false, narrowed := true }
def SymtabStaysUptoSaid : Prop := symtabStaysUptoRow.holds Try.pinned (OpenSpec.upto symtabStaysSpec)

/-- 'gleanerlaw04.SymtabSorts', WHERE WHAT IT READS IS OF BULK AT MOST 1048576: true; the input reads as it did. -/
def symtabSortsUptoRow : OpenClaim := { program := "ytagmlpenhogoeaa", sum := "683c70b867acec6eee10527d021a2b464c51bffcdc84b57356306199b3df3e8d", func := "gleaner/gleanerlaw04.SymtabSorts", spec := "symtabSorts", inPlace := ["internal/bytealg.abigen_runtime_cmpstring"], unfollowed := true, recurses := true, apart := false, narrowed := true }
def SymtabSortsUptoSaid : Prop := symtabSortsUptoRow.holds Try.pinned (OpenSpec.upto symtabSortsSpec)

/-- 'gleanerlaw04.SymtabCompacts', WHERE WHAT IT READS IS OF BULK AT MOST 1048576: true; the input reads as it did. -/
def symtabCompactsUptoRow : OpenClaim := { program := "ytagmlpenhogoeaa", sum := "683c70b867acec6eee10527d021a2b464c51bffcdc84b57356306199b3df3e8d", func := "gleaner/gleanerlaw04.SymtabCompacts", spec := "symtabCompacts", apart := false, narrowed := true }
def SymtabCompactsUptoSaid : Prop := symtabCompactsUptoRow.holds Try.pinned (OpenSpec.upto symtabCompactsSpec)

end Rows
end Go.Proofs.Ytagmlpenhogoeaa
