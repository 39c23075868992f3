/-
  No cell of these rows narrows 'for every input' (looked for: loops, veiled, ifaces, maps, wideKeys, modest, calm, conditions, laid).
  DERIVED. THE GIVEN ROWS OF THIS SEAT. 5 by the template 'for every input the law returns true; each argument reads behind the call as it read before'; 0 by the template 'total and deterministic' (their statements: YtilnmfbimfmacaaTotals.lean).
  GIVEN WITH THE SEED: the statements are not yours to turn. If you find one false, say at which input.
  Laid BY PROGRAM, IN A SANDBOX (cutbox-rows.mjs): the forced cells as the released guide's own fill.sh prints them over the translation bec9e55520a2159c… (all of the seat's roots in one cut). By AI agents, Wed Nov 11 2026. No macro, syntax, notation, axiom, sorry.
-/
import Derived.Test.YtilnmfbimfmacaaChecked
import GoSem.Claim
import GoSem.ClaimJoined
import GoSem.ClaimMapViews
import Derived.JoinedTies
import Derived.KernelRfl
namespace Go.Proofs.Ytilnmfbimfmacaa
/- THE CELL 'sum', in the pinned program and in every row, IS THE sha256 OF THE DUMP (.gsa) THAT YtilnmfbimfmacaaProg.lean LOADS. Nothing in Lean hashes anything: it is a label: what it is worth is what the hold of that sum in a sandbox is worth. -/
noncomputable def Try.pinned : Pinned := { name := "ytilnmfbimfmacaa", sum := "bec9e55520a2159c4d73e33ba663a95018874211d2fd15fbd5de86818873046f", checked := Try.checked }
namespace Rows
def none {H : Type} : Left H := { results := [], args := [] }

/-- 'gleanerlaw34.PagesCut': WHATEVER THE INPUT: true; the input reads as it did. -/
def pagesCutSpec : ChangeSpec := { name := "pagesCut", fn := fun _ => fun
  | [d1, d2, d3] => { results := [.lit (.bool true)], args := [d1, d2, d3] }
  | _ => none }
def pagesCutRow : OpenClaim := { program := "ytilnmfbimfmacaa", sum := "bec9e55520a2159c4d73e33ba663a95018874211d2fd15fbd5de86818873046f", func := "gleaner/gleanerlaw34.PagesCut", spec := "pagesCut", inPlace := ["internal/bytealg.IndexByteString"], apart := false }
def PagesCutSaid : Prop := pagesCutRow.holds Try.pinned (OpenSpec.ofChange pagesCutSpec)

/-- ITS FALSE NEIGHBOUR: 'it returns false'. Refute it at one input. -/
def pagesCutWrong : ChangeSpec := { name := "pagesCut", fn := fun _ => fun
  | [d1, d2, d3] => { results := [.lit (.bool false)], args := [d1, d2, d3] }
  | _ => none }
def PagesCutWrongFalsely : Prop := pagesCutRow.holds Try.pinned (OpenSpec.ofChange pagesCutWrong)

/-- 'gleanerlaw34.PagesTokens': WHATEVER THE INPUT: true; the input reads as it did. -/
def pagesTokensSpec : ChangeSpec := { name := "pagesTokens", fn := fun _ => fun
  | [d1, d2] => { results := [.lit (.bool true)], args := [d1, d2] }
  | _ => none }
def pagesTokensRow : OpenClaim := { program := "ytilnmfbimfmacaa", sum := "bec9e55520a2159c4d73e33ba663a95018874211d2fd15fbd5de86818873046f", func := "gleaner/gleanerlaw34.PagesTokens", spec := "pagesTokens", inPlace := ["internal/bytealg.IndexByteString"], apart := false }
def PagesTokensSaid : Prop := pagesTokensRow.holds Try.pinned (OpenSpec.ofChange pagesTokensSpec)

/-- ITS FALSE NEIGHBOUR: 'it returns false'. Refute it at one input. -/
def pagesTokensWrong : ChangeSpec := { name := "pagesTokens", fn := fun _ => fun
  | [d1, d2] => { results := [.lit (.bool false)], args := [d1, d2] }
  | _ => none }
def PagesTokensWrongFalsely : Prop := pagesTokensRow.holds Try.pinned (OpenSpec.ofChange pagesTokensWrong)

/-- 'gleanerlaw34.PagesAll': WHATEVER THE INPUT: true; the input reads as it did. -/
def pagesAllSpec : ChangeSpec := { name := "pagesAll", fn := fun _ => fun
  | [d1, d2] => { results := [.lit (.bool true)], args := [d1, d2] }
  | _ => none }
def pagesAllRow : OpenClaim := { program := "ytilnmfbimfmacaa", sum := "bec9e55520a2159c4d73e33ba663a95018874211d2fd15fbd5de86818873046f", func := "gleaner/gleanerlaw34.PagesAll", spec := "pagesAll", inPlace := ["internal/bytealg.IndexByteString"], apart := false }
def PagesAllSaid : Prop := pagesAllRow.holds Try.pinned (OpenSpec.ofChange pagesAllSpec)

/-- ITS FALSE NEIGHBOUR: 'it returns false'. Refute it at one input. -/
def pagesAllWrong : ChangeSpec := { name := "pagesAll", fn := fun _ => fun
  | [d1, d2] => { results := [.lit (.bool false)], args := [d1, d2] }
  | _ => none }
def PagesAllWrongFalsely : Prop := pagesAllRow.holds Try.pinned (OpenSpec.ofChange pagesAllWrong)

/-- 'gleanerlaw34.PagesMoves': WHATEVER THE INPUT: true; the input reads as it did. -/
def pagesMovesSpec : ChangeSpec := { name := "pagesMoves", fn := fun _ => fun
  | [d1, d2, d3] => { results := [.lit (.bool true)], args := [d1, d2, d3] }
  | _ => none }
def pagesMovesRow : OpenClaim := { program := "ytilnmfbimfmacaa", sum := "bec9e55520a2159c4d73e33ba663a95018874211d2fd15fbd5de86818873046f", func := "gleaner/gleanerlaw34.PagesMoves", spec := "pagesMoves", inPlace := ["internal/bytealg.IndexByteString"], apart := false }
def PagesMovesSaid : Prop := pagesMovesRow.holds Try.pinned (OpenSpec.ofChange pagesMovesSpec)

/-- ITS FALSE NEIGHBOUR: 'it returns false'. Refute it at one input. -/
def pagesMovesWrong : ChangeSpec := { name := "pagesMoves", fn := fun _ => fun
  | [d1, d2, d3] => { results := [.lit (.bool false)], args := [d1, d2, d3] }
  | _ => none }
def PagesMovesWrongFalsely : Prop := pagesMovesRow.holds Try.pinned (OpenSpec.ofChange pagesMovesWrong)

/-- 'gleanerlaw34.PagesBack': WHATEVER THE INPUT: true; the input reads as it did. -/
def pagesBackSpec : ChangeSpec := { name := "pagesBack", fn := fun _ => fun
  | [d1, d2, d3] => { results := [.lit (.bool true)], args := [d1, d2, d3] }
  | _ => none }
def pagesBackRow : OpenClaim := { program := "ytilnmfbimfmacaa", sum := "bec9e55520a2159c4d73e33ba663a95018874211d2fd15fbd5de86818873046f", func := "gleaner/gleanerlaw34.PagesBack", spec := "pagesBack", inPlace := ["internal/bytealg.IndexByteString"], apart := false }
def PagesBackSaid : Prop := pagesBackRow.holds Try.pinned (OpenSpec.ofChange pagesBackSpec)

/-- ITS FALSE NEIGHBOUR: 'it returns false'. Refute it at one input. -/
def pagesBackWrong : ChangeSpec := { name := "pagesBack", fn := fun _ => fun
  | [d1, d2, d3] => { results := [.lit (.bool false)], args := [d1, d2, d3] }
  | _ => none }
def PagesBackWrongFalsely : Prop := pagesBackRow.holds Try.pinned (OpenSpec.ofChange pagesBackWrong)

/- THE SECOND FORM. 'bulk': how many values and letters a reading holds, each counted each time it is reached (what is shared counts as often as it is met; a slice's spare places count too). A statement '..UptoSaid' is the law's where the arguments, and the package variables that the reading takes, are together of bulk at most 1048576: NARROWER than '..Said'. Prove '..Said' where nothing that the law and all that it calls make is longer than what came in: it says more and counts as full. Else prove '..UptoSaid'. A law counts once. -/
mutual
def uptoBulk {H : Type} : DataW H → Nat
  | .lit (.string bytes) => bytes.length + 1
  | .lit _ => 1
  | .nil => 1
  | .ptr d => uptoBulk d + 1
  | .slice elems spare => uptoBulkAll elems + uptoBulkAll spare + 1
  | .agg parts => uptoBulkAll parts + 1
  | .iface _ d => uptoBulk d + 1
  | .map entries => uptoBulkEntries entries + 1
  | .held _ => 1
def uptoBulkAll {H : Type} : List (DataW H) → Nat
  | [] => 0
  | d :: r => uptoBulk d + uptoBulkAll r
def uptoBulkEntries {H : Type} : List (Lit × DataW H) → Nat
  | [] => 0
  | x :: r => uptoBulkEntry x + uptoBulkEntries r
def uptoBulkEntry {H : Type} : Lit × DataW H → Nat
  | (.string bytes, d) => bytes.length + uptoBulk d + 1
  | (_, d) => uptoBulk d + 1
 end
def uptoSmall : (H : Type) → List (DataW H) → Bool := fun _ ds => decide (uptoBulkAll ds ≤ 1048576)
def OpenSpec.upto (s : _root_.Go.ChangeSpec) : _root_.Go.OpenSpec := { _root_.Go.OpenSpec.ofChange s with cond := some uptoSmall }

/-- 'gleanerlaw34.PagesCut', WHERE WHAT IT READS IS OF BULK AT MOST 1048576: true; the input reads as it did. -/
def pagesCutUptoRow : OpenClaim := { program := "ytilnmfbimfmacaa", sum := "bec9e55520a2159c4d73e33ba663a95018874211d2fd15fbd5de86818873046f", func := "gleaner/gleanerlaw34.PagesCut", spec := "pagesCut", inPlace := ["internal/bytealg.IndexByteString"], apart := false, narrowed := true }
def PagesCutUptoSaid : Prop := pagesCutUptoRow.holds Try.pinned (OpenSpec.upto pagesCutSpec)

/-- 'gleanerlaw34.PagesTokens', WHERE WHAT IT READS IS OF BULK AT MOST 1048576: true; the input reads as it did. -/
def pagesTokensUptoRow : OpenClaim := { program := "ytilnmfbimfmacaa", sum := "bec9e55520a2159c4d73e33ba663a95018874211d2fd15fbd5de86818873046f", func := "gleaner/gleanerlaw34.PagesTokens", spec := "pagesTokens", inPlace := ["internal/bytealg.IndexByteString"], apart := false, narrowed := true }
def PagesTokensUptoSaid : Prop := pagesTokensUptoRow.holds Try.pinned (OpenSpec.upto pagesTokensSpec)

/-- 'gleanerlaw34.PagesAll', WHERE WHAT IT READS IS OF BULK AT MOST 1048576: true; the input reads as it did. -/
def pagesAllUptoRow : OpenClaim := { program := "ytilnmfbimfmacaa", sum := "bec9e55520a2159c4d73e33ba663a95018874211d2fd15fbd5de86818873046f", func := "gleaner/gleanerlaw34.PagesAll", spec := "pagesAll", inPlace := ["internal/bytealg.IndexByteString"], apart := false, narrowed := true }
def PagesAllUptoSaid : Prop := pagesAllUptoRow.holds Try.pinned (OpenSpec.upto pagesAllSpec)

/-- 'gleanerlaw34.PagesMoves', WHERE WHAT IT READS IS OF BULK AT MOST 1048576: true; the input reads as it did. -/
def pagesMovesUptoRow : OpenClaim := { program := "ytilnmfbimfmacaa", sum := "bec9e55520a2159c4d73e33ba663a95018874211d2fd15fbd5de86818873046f", func := "gleaner/gleanerlaw34.PagesMoves", spec := "pagesMoves", inPlace := ["internal/bytealg.IndexByteString"], apart := false, narrowed := true }
def PagesMovesUptoSaid : Prop := pagesMovesUptoRow.holds Try.pinned (OpenSpec.upto pagesMovesSpec)

/-- 'gleanerlaw34.PagesBack', WHERE WHAT IT READS IS OF BULK AT MOST 1048576: true; the input reads as it did. -/
def pagesBackUptoRow : OpenClaim := { program := "ytilnmfbimfmacaa", sum := "bec9e55520a2159c4d73e33ba663a95018874211d2fd15fbd5de86818873046f", func := "gleaner/gleanerlaw34.PagesBack", spec := "pagesBack", inPlace := ["internal/bytealg.IndexByteString"], apart := false, narrowed := true }
def PagesBackUptoSaid : Prop := pagesBackUptoRow.holds Try.pinned (OpenSpec.upto pagesBackSpec)

end Rows
end Go.Proofs.Ytilnmfbimfmacaa
