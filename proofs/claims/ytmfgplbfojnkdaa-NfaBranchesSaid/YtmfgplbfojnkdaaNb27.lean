/- For every input NfaBranches returns true and leaves its arguments as they were: the statement closed from the walk. -/
import Derived.Test.YtmfgplbfojnkdaaNf00
import Derived.Test.YtmfgplbfojnkdaaNf01
import Derived.Test.YtmfgplbfojnkdaaNf02
import Derived.Test.YtmfgplbfojnkdaaNf03
import Derived.Test.YtmfgplbfojnkdaaNf04
import Derived.Test.YtmfgplbfojnkdaaNf05
import Derived.Test.YtmfgplbfojnkdaaNf06
import Derived.Test.YtmfgplbfojnkdaaNf07
import Derived.Test.YtmfgplbfojnkdaaNf08
import Derived.Test.YtmfgplbfojnkdaaNf09
import Derived.Test.YtmfgplbfojnkdaaNf10
import Derived.Test.YtmfgplbfojnkdaaNf11
import Derived.Test.YtmfgplbfojnkdaaNf12
import Derived.Test.YtmfgplbfojnkdaaNf13
import Derived.Test.YtmfgplbfojnkdaaNf14
import Derived.Test.YtmfgplbfojnkdaaNf15
import Derived.Test.YtmfgplbfojnkdaaNf16
import Derived.Test.YtmfgplbfojnkdaaNf17
import Derived.Test.YtmfgplbfojnkdaaNf18
import Derived.Test.YtmfgplbfojnkdaaNf19
import Derived.Test.YtmfgplbfojnkdaaNf20
import Derived.Test.YtmfgplbfojnkdaaNf21
import Derived.Test.YtmfgplbfojnkdaaNf22
import Derived.Test.YtmfgplbfojnkdaaNf23
import Derived.Test.YtmfgplbfojnkdaaNf24
import Derived.Test.YtmfgplbfojnkdaaNb00
import Derived.Test.YtmfgplbfojnkdaaNb09
import Derived.Test.YtmfgplbfojnkdaaNb10
import Derived.Test.YtmfgplbfojnkdaaNb25
import Derived.Test.YtmfgplbfojnkdaaNb26
namespace Go.Proofs.Ytmfgplbfojnkdaa.lawNfaBranches
open Go.ChangeShapes Go.WideShapes Go.ChangeAt Go.RowKit
theorem own : ownKnob Try.prog.godebug = none := by kernel_rfl
theorem laidOut : laidOutB Try.prog = true := by kernel_rfl
theorem params : ∀ t ∈ Try.f7.params.toList, Try.prog.readableRec t = true ∧ t < Try.prog.types.size := by
 rw [Try.params7]
 intro t ht
 simp only [List.mem_cons, List.not_mem_nil, or_false] at ht
 rcases ht with rfl | rfl | rfl
 all_goals exact ⟨by kernel_rfl, of_decide_eq_true (by kernel_rfl)⟩
set_option maxRecDepth 100000 in
theorem contract (H : Type) (enc : TypeId × Value → H) (W : World) (base : Nat) (args : Array Value) (ds gs : List (DataW H)) (before : List MemPlace)
  (hval : ∀ (j : Nat) t v, Try.f7.params[j]? = some t → args[j]? = some v → Value.okWide Try.prog W .any base t v)
  (hW : DataW.Whole enc Try.prog Try.f7.params.toList Rows.nfaBranchesSpec.vars false W args.toList ds gs before) :
  Calls Try.prog 7 args W fun e W' => ∃ v, e = .returned v ∧ Rows.nfaBranchesSpec.post enc Try.prog Try.f7 false true false false W args v W' := by
 have hW' := hW
 obtain ⟨p, q, hA0, hV, rfl, _, _⟩ := hW
 have hA : DataW.TrodAll enc Try.prog W 0 (fun _ => true) true Try.f7.params.toList args.toList ds p := hA0
 rw [Try.params7] at hA hval
 obtain ⟨v0, vs0, d0, ds0, p0, q0, hargs, rfl, rfl, h0, r0⟩ := trodAll_cons hA
 obtain ⟨v1, vs1, d1, ds1, p1, q1, rfl, rfl, rfl, h1, r1⟩ := trodAll_cons r0
 obtain ⟨v2, vs2, d2, ds2, p2, q2, rfl, rfl, rfl, h2, r2⟩ := trodAll_cons r1
 obtain ⟨rfl, rfl, rfl⟩ := trodAll_nil r2
 obtain rfl : args = #[v0, v1, v2] := by cases args; simp_all
 obtain ⟨rfl, rfl⟩ := trodVars_none hV
 obtain ⟨e0, c0, x0, rfl, hrx0, ox0⟩ := open_rxo (hval 0 27 v0 rfl rfl) h0
 obtain ⟨e1, c1, x1, rfl, hrx1, ox1⟩ := open_rxo (hval 1 27 v1 rfl rfl) h1
 obtain ⟨a2, rfl, rfl, rfl, wf2⟩ := Go.ChangeMaps.open_string Try.underlying9 (hval 2 9 v2 rfl rfl) h2
 clear hA0
 refine (law_branches (max e0 e1) x0 x1 c0 c1 a2 W (rxR_le (Nat.le_max_left e0 e1) hrx0) (rxR_le (Nat.le_max_right e0 e1) hrx1) ox0 ox1).mono fun e W' ⟨he, hb⟩ => ⟨_, he, ?_⟩
 exact close.law_post laidOut params rfl rfl Try.underlying4 hW' rfl hb
set_option maxRecDepth 100000 in
theorem lifted (os : Os) (started : os.Started) (H : Type) (enc : TypeId × Value → H) :
  ReturnsInHanded {} Try.checked os 7 .any (Rows.nfaBranchesSpec.pre6 enc Try.prog Try.f7 Rows.nfaBranchesRow.domain false) (Rows.nfaBranchesSpec.post enc Try.prog Try.f7 false true false false) := by
 refine returnsInHanded_of_change (C := Try.checked) own started (by kernel_rfl) Try.func7
  (ChangeSpec.witness6 (enc := enc) (C := Try.checked) false ⟨#[], #[.agg #[.int .i64 0, .int .u64 0, .int .u64 0, .int .u64 0, .int .u64 0, .slice none 0 0, .int .i64 0, .int .i64 0], .agg #[.int .i64 0, .int .u64 0, .int .u64 0, .int .u64 0, .int .u64 0, .slice none 0 0, .int .i64 0, .int .i64 0], .string .empty], []⟩ 8 (by kernel_rfl) (by kernel_rfl) (by kernel_rfl) (by kernel_rfl)) ?_
 intro W base args ds gs before hval hW _ _
 exact contract H enc W base args ds gs before hval hW
theorem said : Rows.NfaBranchesSaid :=
 OpenClaim.holds_of_wide 7 Try.f7 rfl rfl rfl rfl rfl rfl rfl ⟨rfl, rfl, rfl, rfl, rfl⟩ rfl rfl rfl rfl rfl (by kernel_rfl) Try.func7 (by kernel_rfl)
  (of_decide_eq_true (by kernel_rfl)) (by unfold Func.isWrapper; first | (rw [if_pos (by decide +kernel)]; kernel_rfl) | (rw [if_neg (by decide +kernel)]; exact ⟨rfl, rfl⟩))
  (fun os started H enc _ => lifted os started H enc)
end Go.Proofs.Ytmfgplbfojnkdaa.lawNfaBranches

