/-
  NARROWER THAN 'FOR EVERY INPUT', by the rows' own cells (each row's printed sentence says how): NfaBuilds: loops · NfaMeans: loops · NfaRight: loops · NfaBranches: loops.
  DERIVED. THE GIVEN ROWS OF THIS SEAT. 5 by the template 'for every input the law returns true; each argument reads behind the call as it read before'; 0 by the template 'total and deterministic' (their statements: YtmfgplbfojnkdaaTotals.lean).
  GIVEN WITH THE SEED: the statements are not yours to turn. If you find one false, say at which input.
  Laid BY PROGRAM, IN A SANDBOX (cutbox-rows.mjs): the forced cells as the released guide's own fill.sh prints them over the translation 8c52d4f34b520798… (all of the seat's roots in one cut). By AI agents, Wed Nov 11 2026. No macro, syntax, notation, axiom, sorry.
-/
import Derived.Test.YtmfgplbfojnkdaaChecked
import GoSem.Claim
import GoSem.ClaimJoined
import GoSem.ClaimMapViews
import Derived.JoinedTies
import Derived.KernelRfl
namespace Go.Proofs.Ytmfgplbfojnkdaa
/- THE CELL 'sum', in the pinned program and in every row, IS THE sha256 OF THE DUMP (.gsa) THAT YtmfgplbfojnkdaaProg.lean LOADS. Nothing in Lean hashes anything: it is a label: what it is worth is what the hold of that sum in a sandbox is worth. -/
noncomputable def Try.pinned : Pinned := { name := "ytmfgplbfojnkdaa", sum := "8c52d4f34b520798fc134ef08a3f979176acb966bdd42693fee75adc248b8b4f", checked := Try.checked }
namespace Rows
def none {H : Type} : Left H := { results := [], args := [] }

/-- 'gleanerlaw10.NfaBuilds': WHATEVER THE INPUT: true; the input reads as it did. -/
def nfaBuildsSpec : ChangeSpec := { name := "nfaBuilds", fn := fun _ => fun
  | [d] => { results := [.lit (.bool true)], args := [d] }
  | _ => none }
def nfaBuildsRow : OpenClaim := { program := "ytmfgplbfojnkdaa", sum := "8c52d4f34b520798fc134ef08a3f979176acb966bdd42693fee75adc248b8b4f", func := "gleaner/gleanerlaw10.NfaBuilds", spec := "nfaBuilds", inPlace := ["internal/bytealg.IndexByteString"], unfollowed := true, recurses := true, loops := true, apart := false }
def NfaBuildsSaid : Prop := nfaBuildsRow.holds Try.pinned (OpenSpec.ofChange nfaBuildsSpec)

/-- ITS FALSE NEIGHBOUR: 'it returns false'. Refute it at one input. -/
def nfaBuildsWrong : ChangeSpec := { name := "nfaBuilds", fn := fun _ => fun
  | [d] => { results := [.lit (.bool false)], args := [d] }
  | _ => none }
def NfaBuildsWrongFalsely : Prop := nfaBuildsRow.holds Try.pinned (OpenSpec.ofChange nfaBuildsWrong)

/-- 'gleanerlaw10.NfaRuns': WHATEVER THE INPUT: true; the input reads as it did. -/
def nfaRunsSpec : ChangeSpec := { name := "nfaRuns", fn := fun _ => fun
  | [d1, d2] => { results := [.lit (.bool true)], args := [d1, d2] }
  | _ => none }
def nfaRunsRow : OpenClaim := { program := "ytmfgplbfojnkdaa", sum := "8c52d4f34b520798fc134ef08a3f979176acb966bdd42693fee75adc248b8b4f", func := "gleaner/gleanerlaw10.NfaRuns", spec := "nfaRuns", inPlace := ["internal/bytealg.IndexByteString"], unfollowed := true, recurses := true, apart := false }
def NfaRunsSaid : Prop := nfaRunsRow.holds Try.pinned (OpenSpec.ofChange nfaRunsSpec)

/-- ITS FALSE NEIGHBOUR: 'it returns false'. Refute it at one input. -/
def nfaRunsWrong : ChangeSpec := { name := "nfaRuns", fn := fun _ => fun
  | [d1, d2] => { results := [.lit (.bool false)], args := [d1, d2] }
  | _ => none }
def NfaRunsWrongFalsely : Prop := nfaRunsRow.holds Try.pinned (OpenSpec.ofChange nfaRunsWrong)

/-- 'gleanerlaw10.NfaMeans': WHATEVER THE INPUT: true; the input reads as it did. -/
def nfaMeansSpec : ChangeSpec := { name := "nfaMeans", fn := fun _ => fun
  | [d1, d2] => { results := [.lit (.bool true)], args := [d1, d2] }
  | _ => none }
def nfaMeansRow : OpenClaim := { program := "ytmfgplbfojnkdaa", sum := "8c52d4f34b520798fc134ef08a3f979176acb966bdd42693fee75adc248b8b4f", func := "gleaner/gleanerlaw10.NfaMeans", spec := "nfaMeans", inPlace := ["internal/bytealg.IndexByteString"], unfollowed := true, recurses := true, loops := true, apart := false }
def NfaMeansSaid : Prop := nfaMeansRow.holds Try.pinned (OpenSpec.ofChange nfaMeansSpec)

/-- ITS FALSE NEIGHBOUR: 'it returns false'. Refute it at one input. -/
def nfaMeansWrong : ChangeSpec := { name := "nfaMeans", fn := fun _ => fun
  | [d1, d2] => { results := [.lit (.bool false)], args := [d1, d2] }
  | _ => none }
def NfaMeansWrongFalsely : Prop := nfaMeansRow.holds Try.pinned (OpenSpec.ofChange nfaMeansWrong)

/-- 'gleanerlaw10.NfaRight': WHATEVER THE INPUT: true; the input reads as it did. -/
def nfaRightSpec : ChangeSpec := { name := "nfaRight", fn := fun _ => fun
  | [d] => { results := [.lit (.bool true)], args := [d] }
  | _ => none }
def nfaRightRow : OpenClaim := { program := "ytmfgplbfojnkdaa", sum := "8c52d4f34b520798fc134ef08a3f979176acb966bdd42693fee75adc248b8b4f", func := "gleaner/gleanerlaw10.NfaRight", spec := "nfaRight", inPlace := ["internal/bytealg.IndexByteString"], unfollowed := true, recurses := true, loops := true, apart := false }
def NfaRightSaid : Prop := nfaRightRow.holds Try.pinned (OpenSpec.ofChange nfaRightSpec)

/-- ITS FALSE NEIGHBOUR: 'it returns false'. Refute it at one input. -/
def nfaRightWrong : ChangeSpec := { name := "nfaRight", fn := fun _ => fun
  | [d] => { results := [.lit (.bool false)], args := [d] }
  | _ => none }
def NfaRightWrongFalsely : Prop := nfaRightRow.holds Try.pinned (OpenSpec.ofChange nfaRightWrong)

/-- 'gleanerlaw10.NfaBranches': WHATEVER THE INPUT: true; the input reads as it did. -/
def nfaBranchesSpec : ChangeSpec := { name := "nfaBranches", fn := fun _ => fun
  | [d1, d2, d3] => { results := [.lit (.bool true)], args := [d1, d2, d3] }
  | _ => none }
def nfaBranchesRow : OpenClaim := { program := "ytmfgplbfojnkdaa", sum := "8c52d4f34b520798fc134ef08a3f979176acb966bdd42693fee75adc248b8b4f", func := "gleaner/gleanerlaw10.NfaBranches", spec := "nfaBranches", inPlace := ["internal/bytealg.IndexByteString"], unfollowed := true, recurses := true, loops := true, apart := false }
def NfaBranchesSaid : Prop := nfaBranchesRow.holds Try.pinned (OpenSpec.ofChange nfaBranchesSpec)

/-- ITS FALSE NEIGHBOUR: 'it returns false'. Refute it at one input. -/
def nfaBranchesWrong : ChangeSpec := { name := "nfaBranches", fn := fun _ => fun
  | [d1, d2, d3] => { results := [.lit (.bool false)], args := [d1, d2, d3] }
  | _ => none }
def NfaBranchesWrongFalsely : Prop := nfaBranchesRow.holds Try.pinned (OpenSpec.ofChange nfaBranchesWrong)

/- THE SECOND FORM. 'bulk': how many values and letters a reading holds, each counted each time it is reached (what is shared counts as often as it is met; a slice's spare places count too). A statement '..UptoSaid' is the law's where the arguments, and the package variables that the reading takes, are together of bulk at most 1048576: NARROWER than '..Said'. Prove '..Said' where nothing that the law and all that it calls make is longer than what came in: it says more and counts as full. Else prove '..UptoSaid'. A law counts once. -/
mutual
def uptoBulk {H : Type} : DataW H → Nat
  | .lit (.string bytes) => bytes.length + 1
  | .lit _ => 1
  | .nil => 1
  | .ptr d => uptoBulk d + 1
  | .slice elems spare => uptoBulkAll elems + uptoBulkAll spare + 1
  | .agg parts => uptoBulkAll parts + 1
  | .iface _ d => uptoBulk d + 1
  | .map entries => uptoBulkEntries entries + 1
  | .held _ => 1
def uptoBulkAll {H : Type} : List (DataW H) → Nat
  | [] => 0
  | d :: r => uptoBulk d + uptoBulkAll r
def uptoBulkEntries {H : Type} : List (Lit × DataW H) → Nat
  | [] => 0
  | x :: r => uptoBulkEntry x + uptoBulkEntries r
def uptoBulkEntry {H : Type} : Lit × DataW H → Nat
  | (.string bytes, d) => bytes.length + uptoBulk d + 1
  | (_, d) => uptoBulk d + 1
 end
def uptoSmall : (H : Type) → List (DataW H) → Bool := fun _ ds => decide (uptoBulkAll ds ≤ 1048576)
def OpenSpec.upto (s : _root_.Go.ChangeSpec) : _root_.Go.OpenSpec := { _root_.Go.OpenSpec.ofChange s with cond := some uptoSmall }

/-- 'gleanerlaw10.NfaBuilds', WHERE WHAT IT READS IS OF BULK AT MOST 1048576: true; the input reads as it did. -/
def nfaBuildsUptoRow : OpenClaim := { program := "ytmfgplbfojnkdaa", sum := "8c52d4f34b520798fc134ef08a3f979176acb966bdd42693fee75adc248b8b4f", func := "gleaner/gleanerlaw10.NfaBuilds", spec := "nfaBuilds", inPlace := ["internal/bytealg.IndexByteString"], unfollowed := true, recurses := true, loops := true, apart := false, narrowed := true }
def NfaBuildsUptoSaid : Prop := nfaBuildsUptoRow.holds Try.pinned (OpenSpec.upto nfaBuildsSpec)

/-- 'gleanerlaw10.NfaRuns', WHERE WHAT IT READS IS OF BULK AT MOST 1048576: true; the input reads as it did. -/
def nfaRunsUptoRow : OpenClaim := { program := "ytmfgplbfojnkdaa", sum := "8c52d4f34b520798fc134ef08a3f979176acb966bdd42693fee75adc248b8b4f", func := "gleaner/gleanerlaw10.NfaRuns", spec := "nfaRuns", inPlace := ["internal/bytealg.IndexByteString"], unfollowed := true, recurses := true, apart := false, narrowed := true }
def NfaRunsUptoSaid : Prop := nfaRunsUptoRow.holds Try.pinned (OpenSpec.upto nfaRunsSpec)

/-- 'gleanerlaw10.NfaMeans', WHERE WHAT IT READS IS OF BULK AT MOST 1048576: true; the input reads as it did. -/
def nfaMeansUptoRow : OpenClaim := { program := "ytmfgplbfojnkdaa", sum := "8c52d4f34b520798fc134ef08a3f979176acb966bdd42693fee75adc248b8b4f", func := "gleaner/gleanerlaw10.NfaMeans", spec := "nfaMeans", inPlace := ["internal/bytealg.IndexByteString"], unfollowed := true, recurses := true, loops := true, apart := false, narrowed := true }
def NfaMeansUptoSaid : Prop := nfaMeansUptoRow.holds Try.pinned (OpenSpec.upto nfaMeansSpec)

/-- 'gleanerlaw10.NfaRight', WHERE WHAT IT READS IS OF BULK AT MOST 1048576: true; the input reads as it did. -/
def nfaRightUptoRow : OpenClaim := { program := "ytmfgplbfojnkdaa", sum := "8c52d4f34b520798fc134ef08a3f979176acb966bdd42693fee75adc248b8b4f", func := "gleaner/gleanerlaw10.NfaRight", spec := "nfaRight", inPlace := ["internal/bytealg.IndexByteString"], unfollowed := true, recurses := true, loops := true, apart := false, narrowed := true }
def NfaRightUptoSaid : Prop := nfaRightUptoRow.holds Try.pinned (OpenSpec.upto nfaRightSpec)

/-- 'gleanerlaw10.NfaBranches', WHERE WHAT IT READS IS OF BULK AT MOST 1048576: true; the input reads as it did. -/
def nfaBranchesUptoRow : OpenClaim := { program := "ytmfgplbfojnkdaa", sum := "8c52d4f34b520798fc134ef08a3f979176acb966bdd42693fee75adc248b8b4f", func := "gleaner/gleanerlaw10.NfaBranches", spec := "nfaBranches", inPlace := ["internal/bytealg.IndexByteString"], unfollowed := true, recurses := true, loops := true, apart := false, narrowed := true }
def NfaBranchesUptoSaid : Prop := nfaBranchesUptoRow.holds Try.pinned (OpenSpec.upto nfaBranchesSpec)

end Rows
end Go.Proofs.Ytmfgplbfojnkdaa
