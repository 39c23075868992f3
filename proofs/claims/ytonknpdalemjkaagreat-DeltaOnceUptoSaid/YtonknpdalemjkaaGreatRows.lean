/-
  No cell of these rows narrows 'for every input' (looked for: loops, veiled, ifaces, maps, wideKeys, modest, calm, conditions, laid).
  DERIVED. THE GIVEN ROWS OF THIS SEAT. 6 by the template 'for every input the law returns true; each argument reads behind the call as it read before'; 0 by the template 'total and deterministic' (their statements: YtonknpdalemjkaaGreatTotals.lean).
  GIVEN WITH THE SEED: the statements are not yours to turn. If you find one false, say at which input.
  Laid BY PROGRAM, IN A SANDBOX (cutbox-rows.mjs): the forced cells as the released guide's own fill.sh prints them over the translation d21e9f8010e3ca6a… (all of the seat's roots in one cut). By AI agents, Wed Nov 11 2026. No macro, syntax, notation, axiom, sorry.
-/
import Derived.Test.YtonknpdalemjkaaGreatChecked
import GoSem.Claim
import GoSem.ClaimJoined
import GoSem.ClaimMapViews
import Derived.JoinedTies
import Derived.KernelRfl
namespace Go.Proofs.YtonknpdalemjkaaGreat
/- THE CELL 'sum', in the pinned program and in every row, IS THE sha256 OF THE DUMP (.gsa) THAT YtonknpdalemjkaaGreatProg.lean LOADS. Nothing in Lean hashes anything: it is a label: what it is worth is what the hold of that sum in a sandbox is worth. -/
noncomputable def Tryz.pinned : Pinned := { name := "ytonknpdalemjkaagreat", sum := "d21e9f8010e3ca6aa94b5db3df648b6b219d06a470bb8ca8e888695be00147d8", checked := Tryz.checked }
namespace Rows
def none {H : Type} : Left H := { results := [], args := [] }

/-- 'gleanerlaw16.DeltaSays': WHATEVER THE INPUT: true; the input reads as it did. -/
def deltaSaysSpec : ChangeSpec := { name := "deltaSays", fn := fun _ => fun
  | [d1, d2, d3] => { results := [.lit (.bool true)], args := [d1, d2, d3] }
  | _ => none }
def deltaSaysRow : OpenClaim := { program := "ytonknpdalemjkaagreat", sum := "d21e9f8010e3ca6aa94b5db3df648b6b219d06a470bb8ca8e888695be00147d8", func := "gleaner/gleanerlaw16.DeltaSays", spec := "deltaSays", inPlace := ["internal/bytealg.IndexByteString", "internal/bytealg.IndexString", "internal/bytealg.abigen_runtime_cmpstring"], unfollowed := true, recurses := true, named := ["internal/bytealg.MaxLen"], plainKeys := false, apart := false }
def DeltaSaysSaid : Prop := deltaSaysRow.holds Tryz.pinned (OpenSpec.ofChange deltaSaysSpec)

/-- ITS FALSE NEIGHBOUR: 'it returns false'. Refute it at one input. -/
def deltaSaysWrong : ChangeSpec := { name := "deltaSays", fn := fun _ => fun
  | [d1, d2, d3] => { results := [.lit (.bool false)], args := [d1, d2, d3] }
  | _ => none }
def DeltaSaysWrongFalsely : Prop := deltaSaysRow.holds Tryz.pinned (OpenSpec.ofChange deltaSaysWrong)

/-- 'gleanerlaw16.DeltaJoins': WHATEVER THE INPUT: true; the input reads as it did. -/
def deltaJoinsSpec : ChangeSpec := { name := "deltaJoins", fn := fun _ => fun
  | [d1, d2] => { results := [.lit (.bool true)], args := [d1, d2] }
  | _ => none }
def deltaJoinsRow : OpenClaim := { program := "ytonknpdalemjkaagreat", sum := "d21e9f8010e3ca6aa94b5db3df648b6b219d06a470bb8ca8e888695be00147d8", func := "gleaner/gleanerlaw16.DeltaJoins", spec := "deltaJoins", inPlace := ["internal/bytealg.IndexByteString", "internal/bytealg.IndexString", "internal/bytealg.abigen_runtime_cmpstring"], unfollowed := true, recurses := true, named := ["internal/bytealg.MaxLen"], plainKeys := false, apart := false }
def DeltaJoinsSaid : Prop := deltaJoinsRow.holds Tryz.pinned (OpenSpec.ofChange deltaJoinsSpec)

/-- ITS FALSE NEIGHBOUR: 'it returns false'. Refute it at one input. -/
def deltaJoinsWrong : ChangeSpec := { name := "deltaJoins", fn := fun _ => fun
  | [d1, d2] => { results := [.lit (.bool false)], args := [d1, d2] }
  | _ => none }
def DeltaJoinsWrongFalsely : Prop := deltaJoinsRow.holds Tryz.pinned (OpenSpec.ofChange deltaJoinsWrong)

/-- 'gleanerlaw16.DeltaBrings': WHATEVER THE INPUT: true; the input reads as it did. -/
def deltaBringsSpec : ChangeSpec := { name := "deltaBrings", fn := fun _ => fun
  | [d] => { results := [.lit (.bool true)], args := [d] }
  | _ => none }
def deltaBringsRow : OpenClaim := { program := "ytonknpdalemjkaagreat", sum := "d21e9f8010e3ca6aa94b5db3df648b6b219d06a470bb8ca8e888695be00147d8", func := "gleaner/gleanerlaw16.DeltaBrings", spec := "deltaBrings", inPlace := ["internal/bytealg.IndexByteString", "internal/bytealg.IndexString", "internal/bytealg.abigen_runtime_cmpstring"], unfollowed := true, recurses := true, named := ["internal/bytealg.MaxLen"], plainKeys := false, apart := false }
def DeltaBringsSaid : Prop := deltaBringsRow.holds Tryz.pinned (OpenSpec.ofChange deltaBringsSpec)

/-- ITS FALSE NEIGHBOUR: 'it returns false'. Refute it at one input. -/
def deltaBringsWrong : ChangeSpec := { name := "deltaBrings", fn := fun _ => fun
  | [d] => { results := [.lit (.bool false)], args := [d] }
  | _ => none }
def DeltaBringsWrongFalsely : Prop := deltaBringsRow.holds Tryz.pinned (OpenSpec.ofChange deltaBringsWrong)

/-- 'gleanerlaw16.DeltaEnds': WHATEVER THE INPUT: true; the input reads as it did. -/
def deltaEndsSpec : ChangeSpec := { name := "deltaEnds", fn := fun _ => fun
  | [d1, d2] => { results := [.lit (.bool true)], args := [d1, d2] }
  | _ => none }
def deltaEndsRow : OpenClaim := { program := "ytonknpdalemjkaagreat", sum := "d21e9f8010e3ca6aa94b5db3df648b6b219d06a470bb8ca8e888695be00147d8", func := "gleaner/gleanerlaw16.DeltaEnds", spec := "deltaEnds", inPlace := ["internal/bytealg.IndexByteString", "internal/bytealg.IndexString", "internal/bytealg.abigen_runtime_cmpstring"], unfollowed := true, recurses := true, named := ["internal/bytealg.MaxLen"], plainKeys := false, apart := false }
def DeltaEndsSaid : Prop := deltaEndsRow.holds Tryz.pinned (OpenSpec.ofChange deltaEndsSpec)

/-- ITS FALSE NEIGHBOUR: 'it returns false'. Refute it at one input. -/
def deltaEndsWrong : ChangeSpec := { name := "deltaEnds", fn := fun _ => fun
  | [d1, d2] => { results := [.lit (.bool false)], args := [d1, d2] }
  | _ => none }
def DeltaEndsWrongFalsely : Prop := deltaEndsRow.holds Tryz.pinned (OpenSpec.ofChange deltaEndsWrong)

/-- 'gleanerlaw16.DeltaFew': WHATEVER THE INPUT: true; the input reads as it did. -/
def deltaFewSpec : ChangeSpec := { name := "deltaFew", fn := fun _ => fun
  | [d] => { results := [.lit (.bool true)], args := [d] }
  | _ => none }
def deltaFewRow : OpenClaim := { program := "ytonknpdalemjkaagreat", sum := "d21e9f8010e3ca6aa94b5db3df648b6b219d06a470bb8ca8e888695be00147d8", func := "gleaner/gleanerlaw16.DeltaFew", spec := "deltaFew", inPlace := ["internal/bytealg.IndexByteString", "internal/bytealg.IndexString", "internal/bytealg.abigen_runtime_cmpstring"], unfollowed := true, recurses := true, named := ["internal/bytealg.MaxLen"], plainKeys := false, apart := false }
def DeltaFewSaid : Prop := deltaFewRow.holds Tryz.pinned (OpenSpec.ofChange deltaFewSpec)

/-- ITS FALSE NEIGHBOUR: 'it returns false'. Refute it at one input. -/
def deltaFewWrong : ChangeSpec := { name := "deltaFew", fn := fun _ => fun
  | [d] => { results := [.lit (.bool false)], args := [d] }
  | _ => none }
def DeltaFewWrongFalsely : Prop := deltaFewRow.holds Tryz.pinned (OpenSpec.ofChange deltaFewWrong)

/-- 'gleanerlaw16.DeltaOnce': WHATEVER THE INPUT: true; the input reads as it did. -/
def deltaOnceSpec : ChangeSpec := { name := "deltaOnce", fn := fun _ => fun
  | [d1, d2] => { results := [.lit (.bool true)], args := [d1, d2] }
  | _ => none }
def deltaOnceRow : OpenClaim := { program := "ytonknpdalemjkaagreat", sum := "d21e9f8010e3ca6aa94b5db3df648b6b219d06a470bb8ca8e888695be00147d8", func := "gleaner/gleanerlaw16.DeltaOnce", spec := "deltaOnce", inPlace := ["internal/bytealg.IndexByteString", "internal/bytealg.IndexString", "internal/bytealg.abigen_runtime_cmpstring"], unfollowed := true, recurses := true, named := ["internal/bytealg.MaxLen"], plainKeys := false, apart := false }
def DeltaOnceSaid : Prop := deltaOnceRow.holds Tryz.pinned (OpenSpec.ofChange deltaOnceSpec)

/-- ITS FALSE NEIGHBOUR: 'it returns false'. Refute it at one input. -/
def deltaOnceWrong : ChangeSpec := { name := "deltaOnce", fn := fun _ => fun
  | [d1, d2] => { results := [.lit (.bool false)], args := [d1, d2] }
  | _ => none }
def DeltaOnceWrongFalsely : Prop := deltaOnceRow.holds Tryz.pinned (OpenSpec.ofChange deltaOnceWrong)

/- THE SECOND FORM. 'bulk': how many values and letters a reading holds, each counted each time it is reached (what is shared counts as often as it is met; a slice's spare places count too). A statement '..UptoSaid' is the law's where the arguments, and the package variables that the reading takes, are together of bulk at most 1048576: NARROWER than '..Said'. Prove '..Said' where nothing that the law and all that it calls make is longer than what came in: it says more and counts as full. Else prove '..UptoSaid'. A law counts once. -/
mutual
def uptoBulk {H : Type} : DataW H → Nat
  | .lit (.string bytes) => bytes.length + 1
  | .lit _ => 1
  | .nil => 1
  | .ptr d => uptoBulk d + 1
  | .slice elems spare => uptoBulkAll elems + uptoBulkAll spare + 1
  | .agg parts => uptoBulkAll parts + 1
  | .iface _ d => uptoBulk d + 1
  | .map entries => uptoBulkEntries entries + 1
  | .held _ => 1
def uptoBulkAll {H : Type} : List (DataW H) → Nat
  | [] => 0
  | d :: r => uptoBulk d + uptoBulkAll r
def uptoBulkEntries {H : Type} : List (Lit × DataW H) → Nat
  | [] => 0
  | x :: r => uptoBulkEntry x + uptoBulkEntries r
def uptoBulkEntry {H : Type} : Lit × DataW H → Nat
  | (.string bytes, d) => bytes.length + uptoBulk d + 1
  | (_, d) => uptoBulk d + 1
 end
def uptoSmall : (H : Type) → List (DataW H) → Bool := fun _ ds => decide (uptoBulkAll ds ≤ 1048576)
def OpenSpec.upto (s : _root_.Go.ChangeSpec) : _root_.Go.OpenSpec := { _root_.Go.OpenSpec.ofChange s with cond := some uptoSmall }

/-- 'gleanerlaw16.DeltaSays', WHERE WHAT IT READS IS OF BULK AT MOST 1048576: true; the input reads as it did. -/
def deltaSaysUptoRow : OpenClaim := { program := "ytonknpdalemjkaagreat", sum := "d21e9f8010e3ca6aa94b5db3df648b6b219d06a470bb8ca8e888695be00147d8", func := "gleaner/gleanerlaw16.DeltaSays", spec := "deltaSays", inPlace := ["internal/bytealg.IndexByteString", "internal/bytealg.IndexString", "internal/bytealg.abigen_runtime_cmpstring"], unfollowed := true, recurses := true, named := ["internal/bytealg.MaxLen"], plainKeys := false, apart := false, narrowed := true }
def DeltaSaysUptoSaid : Prop := deltaSaysUptoRow.holds Tryz.pinned (OpenSpec.upto deltaSaysSpec)

/-- 'gleanerlaw16.DeltaJoins', WHERE WHAT IT READS IS OF BULK AT MOST 1048576: true; the input reads as it did. -/
def deltaJoinsUptoRow : OpenClaim := { program := "ytonknpdalemjkaagreat", sum := "d21e9f8010e3ca6aa94b5db3df648b6b219d06a470bb8ca8e888695be00147d8", func := "gleaner/gleanerlaw16.DeltaJoins", spec := "deltaJoins", inPlace := ["internal/bytealg.IndexByteString", "internal/bytealg.IndexString", "internal/bytealg.abigen_runtime_cmpstring"], unfollowed := true, recurses := true, named := ["internal/bytealg.MaxLen"], plainKeys := false, apart := false, narrowed := true }
def DeltaJoinsUptoSaid : Prop := deltaJoinsUptoRow.holds Tryz.pinned (OpenSpec.upto deltaJoinsSpec)

/-- 'gleanerlaw16.DeltaBrings', WHERE WHAT IT READS IS OF BULK AT MOST 1048576: true; the input reads as it did. -/
def deltaBringsUptoRow : OpenClaim := { program := "ytonknpdalemjkaagreat", sum := "d21e9f8010e3ca6aa94b5db3df648b6b219d06a470bb8ca8e888695be00147d8", func := "gleaner/gleanerlaw16.DeltaBrings", spec := "deltaBrings", inPlace := ["internal/bytealg.IndexByteString", "internal/bytealg.IndexString", "internal/bytealg.abigen_runtime_cmpstring"], unfollowed := true, recurses := true, named := ["internal/bytealg.MaxLen"], plainKeys := false, apart := false, narrowed := true }
def DeltaBringsUptoSaid : Prop := deltaBringsUptoRow.holds Tryz.pinned (OpenSpec.upto deltaBringsSpec)

/-- 'gleanerlaw16.DeltaEnds', WHERE WHAT IT READS IS OF BULK AT MOST 1048576: true; the input reads as it did. -/
def deltaEndsUptoRow : OpenClaim := { program := "ytonknpdalemjkaagreat", sum := "d21e9f8010e3ca6aa94b5db3df648b6b219d06a470bb8ca8e888695be00147d8", func := "gleaner/gleanerlaw16.DeltaEnds", spec := "deltaEnds", inPlace := ["internal/bytealg.IndexByteString", "internal/bytealg.IndexString", "internal/bytealg.abigen_runtime_cmpstring"], unfollowed := true, recurses := true, named := ["internal/bytealg.MaxLen"], plainKeys := false, apart := false, narrowed := true }
def DeltaEndsUptoSaid : Prop := deltaEndsUptoRow.holds Tryz.pinned (OpenSpec.upto deltaEndsSpec)

/-- 'gleanerlaw16.DeltaFew', WHERE WHAT IT READS IS OF BULK AT MOST 1048576: true; the input reads as it did. -/
def deltaFewUptoRow : OpenClaim := { program := "ytonknpdalemjkaagreat", sum := "d21e9f8010e3ca6aa94b5db3df648b6b219d06a470bb8ca8e888695be00147d8", func := "gleaner/gleanerlaw16.DeltaFew", spec := "deltaFew", inPlace := ["internal/bytealg.IndexByteString", "internal/bytealg.IndexString", "internal/bytealg.abigen_runtime_cmpstring"], unfollowed := true, recurses := true, named := ["internal/bytealg.MaxLen"], plainKeys := false, apart := false, narrowed := true }
def DeltaFewUptoSaid : Prop := deltaFewUptoRow.holds Tryz.pinned (OpenSpec.upto deltaFewSpec)

/-- 'gleanerlaw16.DeltaOnce', WHERE WHAT IT READS IS OF BULK AT MOST 1048576: true; the input reads as it did. -/
def deltaOnceUptoRow : OpenClaim := { program := "ytonknpdalemjkaagreat", sum := "d21e9f8010e3ca6aa94b5db3df648b6b219d06a470bb8ca8e888695be00147d8", func := "gleaner/gleanerlaw16.DeltaOnce", spec := "deltaOnce", inPlace := ["internal/bytealg.IndexByteString", "internal/bytealg.IndexString", "internal/bytealg.abigen_runtime_cmpstring"], unfollowed := true, recurses := true, named := ["internal/bytealg.MaxLen"], plainKeys := false, apart := false, narrowed := true }
def DeltaOnceUptoSaid : Prop := deltaOnceUptoRow.holds Tryz.pinned (OpenSpec.upto deltaOnceSpec)

end Rows
end Go.Proofs.YtonknpdalemjkaaGreat
