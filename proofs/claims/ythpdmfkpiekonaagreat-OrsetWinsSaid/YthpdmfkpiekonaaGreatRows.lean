/-
  No cell of these rows narrows 'for every input' (looked for: loops, veiled, ifaces, maps, wideKeys, modest, calm, conditions, laid).
  DERIVED. THE GIVEN ROWS OF THIS SEAT. 4 by the template 'for every input the law returns true; each argument reads behind the call as it read before'; 0 by the template 'total and deterministic' (their statements: YthpdmfkpiekonaaGreatTotals.lean).
  GIVEN WITH THE SEED: the statements are not yours to turn. If you find one false, say at which input.
  Laid BY PROGRAM, IN A SANDBOX (cutbox-rows.mjs): the forced cells as the released guide's own fill.sh prints them over the translation 416dbac839338151… (all of the seat's roots in one cut). By AI agents, Wed Nov 11 2026. No macro, syntax, notation, axiom, sorry.
-/
import Derived.Test.YthpdmfkpiekonaaGreatChecked
import GoSem.Claim
import GoSem.ClaimJoined
import GoSem.ClaimMapViews
import Derived.JoinedTies
import Derived.KernelRfl
namespace Go.Proofs.YthpdmfkpiekonaaGreat
/- THE CELL 'sum', in the pinned program and in every row, IS THE sha256 OF THE DUMP (.gsa) THAT YthpdmfkpiekonaaGreatProg.lean LOADS. Nothing in Lean hashes anything: it is a label: what it is worth is what the hold of that sum in a sandbox is worth. -/
noncomputable def Tryz.pinned : Pinned := { name := "ythpdmfkpiekonaagreat", sum := "416dbac839338151411251a610b9ba9474afc9228332eef9207c0deedc1709df", checked := Tryz.checked }
namespace Rows
def none {H : Type} : Left H := { results := [], args := [] }

/-- 'gleanerlaw15.OrsetApplies': WHATEVER THE INPUT: true; the input reads as it did. -/
def orsetAppliesSpec : ChangeSpec := { name := "orsetApplies", fn := fun _ => fun
  | [d1, d2] => { results := [.lit (.bool true)], args := [d1, d2] }
  | _ => none }
def orsetAppliesRow : OpenClaim := { program := "ythpdmfkpiekonaagreat", sum := "416dbac839338151411251a610b9ba9474afc9228332eef9207c0deedc1709df", func := "gleaner/gleanerlaw15.OrsetApplies", spec := "orsetApplies", inPlace := ["internal/bytealg.IndexByteString", "internal/bytealg.IndexString", "internal/bytealg.abigen_runtime_cmpstring"], unfollowed := true, recurses := true, named := ["internal/bytealg.MaxLen"], plainKeys := false, apart := false }
def OrsetAppliesSaid : Prop := orsetAppliesRow.holds Tryz.pinned (OpenSpec.ofChange orsetAppliesSpec)

/-- ITS FALSE NEIGHBOUR: 'it returns false'. Refute it at one input. -/
def orsetAppliesWrong : ChangeSpec := { name := "orsetApplies", fn := fun _ => fun
  | [d1, d2] => { results := [.lit (.bool false)], args := [d1, d2] }
  | _ => none }
def OrsetAppliesWrongFalsely : Prop := orsetAppliesRow.holds Tryz.pinned (OpenSpec.ofChange orsetAppliesWrong)

/-- 'gleanerlaw15.OrsetHome': WHATEVER THE INPUT: true; the input reads as it did. -/
def orsetHomeSpec : ChangeSpec := { name := "orsetHome", fn := fun _ => fun
  | [d] => { results := [.lit (.bool true)], args := [d] }
  | _ => none }
def orsetHomeRow : OpenClaim := { program := "ythpdmfkpiekonaagreat", sum := "416dbac839338151411251a610b9ba9474afc9228332eef9207c0deedc1709df", func := "gleaner/gleanerlaw15.OrsetHome", spec := "orsetHome", inPlace := ["internal/bytealg.IndexByteString", "internal/bytealg.IndexString", "internal/bytealg.abigen_runtime_cmpstring"], unfollowed := true, recurses := true, named := ["internal/bytealg.MaxLen"], plainKeys := false, apart := false }
def OrsetHomeSaid : Prop := orsetHomeRow.holds Tryz.pinned (OpenSpec.ofChange orsetHomeSpec)

/-- ITS FALSE NEIGHBOUR: 'it returns false'. Refute it at one input. -/
def orsetHomeWrong : ChangeSpec := { name := "orsetHome", fn := fun _ => fun
  | [d] => { results := [.lit (.bool false)], args := [d] }
  | _ => none }
def OrsetHomeWrongFalsely : Prop := orsetHomeRow.holds Tryz.pinned (OpenSpec.ofChange orsetHomeWrong)

/-- 'gleanerlaw15.OrsetMeans': WHATEVER THE INPUT: true; the input reads as it did. -/
def orsetMeansSpec : ChangeSpec := { name := "orsetMeans", fn := fun _ => fun
  | [d] => { results := [.lit (.bool true)], args := [d] }
  | _ => none }
def orsetMeansRow : OpenClaim := { program := "ythpdmfkpiekonaagreat", sum := "416dbac839338151411251a610b9ba9474afc9228332eef9207c0deedc1709df", func := "gleaner/gleanerlaw15.OrsetMeans", spec := "orsetMeans", inPlace := ["internal/bytealg.IndexByteString", "internal/bytealg.IndexString", "internal/bytealg.abigen_runtime_cmpstring"], unfollowed := true, recurses := true, named := ["internal/bytealg.MaxLen"], plainKeys := false, apart := false }
def OrsetMeansSaid : Prop := orsetMeansRow.holds Tryz.pinned (OpenSpec.ofChange orsetMeansSpec)

/-- ITS FALSE NEIGHBOUR: 'it returns false'. Refute it at one input. -/
def orsetMeansWrong : ChangeSpec := { name := "orsetMeans", fn := fun _ => fun
  | [d] => { results := [.lit (.bool false)], args := [d] }
  | _ => none }
def OrsetMeansWrongFalsely : Prop := orsetMeansRow.holds Tryz.pinned (OpenSpec.ofChange orsetMeansWrong)

/-- 'gleanerlaw15.OrsetWins': WHATEVER THE INPUT: true; the input reads as it did. -/
def orsetWinsSpec : ChangeSpec := { name := "orsetWins", fn := fun _ => fun
  | [d1, d2] => { results := [.lit (.bool true)], args := [d1, d2] }
  | _ => none }
def orsetWinsRow : OpenClaim := { program := "ythpdmfkpiekonaagreat", sum := "416dbac839338151411251a610b9ba9474afc9228332eef9207c0deedc1709df", func := "gleaner/gleanerlaw15.OrsetWins", spec := "orsetWins", inPlace := ["internal/bytealg.IndexByteString", "internal/bytealg.IndexString", "internal/bytealg.abigen_runtime_cmpstring"], unfollowed := true, recurses := true, named := ["internal/bytealg.MaxLen"], plainKeys := false, apart := false }
def OrsetWinsSaid : Prop := orsetWinsRow.holds Tryz.pinned (OpenSpec.ofChange orsetWinsSpec)

/-- ITS FALSE NEIGHBOUR: 'it returns false'. Refute it at one input. -/
def orsetWinsWrong : ChangeSpec := { name := "orsetWins", fn := fun _ => fun
  | [d1, d2] => { results := [.lit (.bool false)], args := [d1, d2] }
  | _ => none }
def OrsetWinsWrongFalsely : Prop := orsetWinsRow.holds Tryz.pinned (OpenSpec.ofChange orsetWinsWrong)

/- THE SECOND FORM. 'bulk': how many values and letters a reading holds, each counted each time it is reached (what is shared counts as often as it is met; a slice's spare places count too). A statement '..UptoSaid' is the law's where the arguments, and the package variables that the reading takes, are together of bulk at most 1048576: NARROWER than '..Said'. Prove '..Said' where nothing that the law and all that it calls make is longer than what came in: it says more and counts as full. Else prove '..UptoSaid'. A law counts once. -/
mutual
def uptoBulk {H : Type} : DataW H → Nat
  | .lit (.string bytes) => bytes.length + 1
  | .lit _ => 1
  | .nil => 1
  | .ptr d => uptoBulk d + 1
  | .slice elems spare => uptoBulkAll elems + uptoBulkAll spare + 1
  | .agg parts => uptoBulkAll parts + 1
  | .iface _ d => uptoBulk d + 1
  | .map entries => uptoBulkEntries entries + 1
  | .held _ => 1
def uptoBulkAll {H : Type} : List (DataW H) → Nat
  | [] => 0
  | d :: r => uptoBulk d + uptoBulkAll r
def uptoBulkEntries {H : Type} : List (Lit × DataW H) → Nat
  | [] => 0
  | x :: r => uptoBulkEntry x + uptoBulkEntries r
def uptoBulkEntry {H : Type} : Lit × DataW H → Nat
  | (.string bytes, d) => bytes.length + uptoBulk d + 1
  | (_, d) => uptoBulk d + 1
 end
def uptoSmall : (H : Type) → List (DataW H) → Bool := fun _ ds => decide (uptoBulkAll ds ≤ 1048576)
def OpenSpec.upto (s : _root_.Go.ChangeSpec) : _root_.Go.OpenSpec := { _root_.Go.OpenSpec.ofChange s with cond := some uptoSmall }

/-- 'gleanerlaw15.OrsetApplies', WHERE WHAT IT READS IS OF BULK AT MOST 1048576: true; the input reads as it did. -/
def orsetAppliesUptoRow : OpenClaim := { program := "ythpdmfkpiekonaagreat", sum := "416dbac839338151411251a610b9ba9474afc9228332eef9207c0deedc1709df", func := "gleaner/gleanerlaw15.OrsetApplies", spec := "orsetApplies", inPlace := ["internal/bytealg.IndexByteString", "internal/bytealg.IndexString", "internal/bytealg.abigen_runtime_cmpstring"], unfollowed := true, recurses := true, named := ["internal/bytealg.MaxLen"], plainKeys := false, apart := false, narrowed := true }
def OrsetAppliesUptoSaid : Prop := orsetAppliesUptoRow.holds Tryz.pinned (OpenSpec.upto orsetAppliesSpec)

/-- 'gleanerlaw15.OrsetHome', WHERE WHAT IT READS IS OF BULK AT MOST 1048576: true; the input reads as it did. -/
def orsetHomeUptoRow : OpenClaim := { program := "ythpdmfkpiekonaagreat", sum := "416dbac839338151411251a610b9ba9474afc9228332eef9207c0deedc1709df", func := "gleaner/gleanerlaw15.OrsetHome", spec := "orsetHome", inPlace := ["internal/bytealg.IndexByteString", "internal/bytealg.IndexString", "internal/bytealg.abigen_runtime_cmpstring"], unfollowed := true, recurses := true, named := ["internal/bytealg.MaxLen"], plainKeys := false, apart := false, narrowed := true }
def OrsetHomeUptoSaid : Prop := orsetHomeUptoRow.holds Tryz.pinned (OpenSpec.upto orsetHomeSpec)

/-- 'gleanerlaw15.OrsetMeans', WHERE WHAT IT READS IS OF BULK AT MOST 1048576: true; the input reads as it did. -/
def orsetMeansUptoRow : OpenClaim := { program := "ythpdmfkpiekonaagreat", sum := "416dbac839338151411251a610b9ba9474afc9228332eef9207c0deedc1709df", func := "gleaner/gleanerlaw15.OrsetMeans", spec := "orsetMeans", inPlace := ["internal/bytealg.IndexByteString", "internal/bytealg.IndexString", "internal/bytealg.abigen_runtime_cmpstring"], unfollowed := true, recurses := true, named := ["internal/bytealg.MaxLen"], plainKeys := false, apart := false, narrowed := true }
def OrsetMeansUptoSaid : Prop := orsetMeansUptoRow.holds Tryz.pinned (OpenSpec.upto orsetMeansSpec)

/-- 'gleanerlaw15.OrsetWins', WHERE WHAT IT READS IS OF BULK AT MOST 1048576: true; the input reads as it did. -/
def orsetWinsUptoRow : OpenClaim := { program := "ythpdmfkpiekonaagreat", sum := "416dbac839338151411251a610b9ba9474afc9228332eef9207c0deedc1709df", func := "gleaner/gleanerlaw15.OrsetWins", spec := "orsetWins", inPlace := ["internal/bytealg.IndexByteString", "internal/bytealg.IndexString", "internal/bytealg.abigen_runtime_cmpstring"], unfollowed := true, recurses := true, named := ["internal/bytealg.MaxLen"], plainKeys := false, apart := false, narrowed := true }
def OrsetWinsUptoSaid : Prop := orsetWinsUptoRow.holds Tryz.pinned (OpenSpec.upto orsetWinsSpec)

end Rows
end Go.Proofs.YthpdmfkpiekonaaGreat
