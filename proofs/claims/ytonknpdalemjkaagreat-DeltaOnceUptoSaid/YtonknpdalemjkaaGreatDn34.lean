/- For every input DeltaOnce returns true and leaves its arguments as they were; inputs of bounded bulk: the statement closed from the walk. -/
import Derived.HandedShaped
import Derived.Shelf.Vars
import Derived.Test.YtonknpdalemjkaaGreatDe00
import Derived.Test.YtonknpdalemjkaaGreatDe01
import Derived.Test.YtonknpdalemjkaaGreatDe02
import Derived.Test.YtonknpdalemjkaaGreatDe03
import Derived.Test.YtonknpdalemjkaaGreatDe04
import Derived.Test.YtonknpdalemjkaaGreatDe05
import Derived.Test.YtonknpdalemjkaaGreatDe06
import Derived.Test.YtonknpdalemjkaaGreatDe07
import Derived.Test.YtonknpdalemjkaaGreatDe08
import Derived.Test.YtonknpdalemjkaaGreatDe09
import Derived.Test.YtonknpdalemjkaaGreatDe10
import Derived.Test.YtonknpdalemjkaaGreatDe11
import Derived.Test.YtonknpdalemjkaaGreatDe12
import Derived.Test.YtonknpdalemjkaaGreatDe13
import Derived.Test.YtonknpdalemjkaaGreatDe14
import Derived.Test.YtonknpdalemjkaaGreatDe15
import Derived.Test.YtonknpdalemjkaaGreatDe16
import Derived.Test.YtonknpdalemjkaaGreatDe17
import Derived.Test.YtonknpdalemjkaaGreatDe18
import Derived.Test.YtonknpdalemjkaaGreatDe19
import Derived.Test.YtonknpdalemjkaaGreatDe20
import Derived.Test.YtonknpdalemjkaaGreatDe21
import Derived.Test.YtonknpdalemjkaaGreatDe22
import Derived.Test.YtonknpdalemjkaaGreatDe23
import Derived.Test.YtonknpdalemjkaaGreatDe24
import Derived.Test.YtonknpdalemjkaaGreatDn00
import Derived.Test.YtonknpdalemjkaaGreatDn01
import Derived.Test.YtonknpdalemjkaaGreatDn11
import Derived.Test.YtonknpdalemjkaaGreatDn23
import Derived.Test.YtonknpdalemjkaaGreatDn25
import Derived.Test.YtonknpdalemjkaaGreatDn26
import Derived.Test.YtonknpdalemjkaaGreatDn27
import Derived.Test.YtonknpdalemjkaaGreatDn28
import Derived.Test.YtonknpdalemjkaaGreatDn29
import Derived.Test.YtonknpdalemjkaaGreatDn30
import Derived.Test.YtonknpdalemjkaaGreatDn31
import Derived.Test.YtonknpdalemjkaaGreatDn32
import Derived.Test.YtonknpdalemjkaaGreatDn33
namespace Go.Proofs.YtonknpdalemjkaaGreat.lawDeltaOnce
open Go.ChangeShapes Go.WideShapes Go.ChangeAt Go.RowKit
theorem own : ownKnob Tryz.prog.godebug = none := by kernel_rfl
theorem laidOut : laidOutB Tryz.prog = true := by kernel_rfl
theorem params : ∀ t ∈ Tryz.f8.params.toList, Tryz.prog.readableRec t = true ∧ t < Tryz.prog.types.size := by
 rw [Tryz.params8]
 intro t ht
 simp only [List.mem_cons, List.not_mem_nil, or_false] at ht
 rcases ht with rfl | rfl
 all_goals exact ⟨by kernel_rfl, of_decide_eq_true (by kernel_rfl)⟩
set_option maxRecDepth 100000 in
theorem contract (H : Type) (enc : TypeId × Value → H) (W : World) (base : Nat) (args : Array Value) (ds gs : List (DataW H)) (before : List MemPlace)
  (hval : ∀ (j : Nat) t v, Tryz.f8.params[j]? = some t → args[j]? = some v → Value.okWide Tryz.prog W .any base t v)
  (hW : DataW.Whole enc Tryz.prog Tryz.f8.params.toList Rows.deltaOnceSpec.vars false W args.toList ds gs before) (hk : Rows.uptoSmall H (ds ++ gs) = true) (hsh : W.ShapedOpen Tryz.prog) :
  Calls Tryz.prog 8 args W fun e W' => ∃ v, e = .returned v ∧ Rows.deltaOnceSpec.post enc Tryz.prog Tryz.f8 false true false false W args v W' := by
 have hW' := hW
 obtain ⟨p, q, hA0, hV, rfl, _, _⟩ := hW
 have hA : DataW.TrodAll enc Tryz.prog W 0 (fun _ => true) true Tryz.f8.params.toList args.toList ds p := hA0
 rw [Tryz.params8] at hA hval
 obtain ⟨v0, vs0, d0, ds0, p0, q0, hargs, rfl, rfl, h0, r0⟩ := trodAll_cons hA
 obtain ⟨v1, vs1, d1, ds1, p1, q1, rfl, rfl, rfl, h1, r1⟩ := trodAll_cons r0
 obtain ⟨rfl, rfl, rfl⟩ := trodAll_nil r1
 obtain rfl : args = #[v0, v1] := by cases args; simp_all
 obtain ⟨rfl, rfl⟩ := trodVars_none hV
 obtain ⟨l0, hl0⟩ := open_kints (k := 4) (it := 3) Tryz.underlying40 Tryz.underlying59 rfl (by kernel_rfl) (fun i f hf => match i, hf with | 0, hf => (by obtain rfl := Option.some.inj (show some _ = some f from hf); exact ⟨rfl, rfl⟩) | 1, hf => (by obtain rfl := Option.some.inj (show some _ = some f from hf); exact ⟨rfl, rfl⟩) | 2, hf => (by obtain rfl := Option.some.inj (show some _ = some f from hf); exact ⟨rfl, rfl⟩) | 3, hf => (by obtain rfl := Option.some.inj (show some _ = some f from hf); exact ⟨rfl, rfl⟩) | n + 4, hf => absurd (Array.getElem?_eq_some_iff.1 hf).1 (by show ¬ (n + 4 < 4); omega)) (by kernel_rfl) Tryz.underlying3 (by decide) (hval 0 40 v0 rfl rfl) h0
 obtain ⟨l1, hl1⟩ := open_kints (k := 4) (it := 3) Tryz.underlying40 Tryz.underlying59 rfl (by kernel_rfl) (fun i f hf => match i, hf with | 0, hf => (by obtain rfl := Option.some.inj (show some _ = some f from hf); exact ⟨rfl, rfl⟩) | 1, hf => (by obtain rfl := Option.some.inj (show some _ = some f from hf); exact ⟨rfl, rfl⟩) | 2, hf => (by obtain rfl := Option.some.inj (show some _ = some f from hf); exact ⟨rfl, rfl⟩) | 3, hf => (by obtain rfl := Option.some.inj (show some _ = some f from hf); exact ⟨rfl, rfl⟩) | n + 4, hf => absurd (Array.getElem?_eq_some_iff.1 hf).1 (by show ¬ (n + 4 < 4); omega)) (by kernel_rfl) Tryz.underlying3 (by decide) (hval 1 40 v1 rfl rfl) h1
 obtain ⟨ao0, cap0, rfl, _⟩ := hl0.form
 obtain ⟨ao1, cap1, rfl, _⟩ := hl1.form
 clear hA0
 have hmx : MX W := cell_of_shapedOpen_int hsh (g := 0) (t := 3) (zero := #[.int .i64 0]) (of_decide_eq_true (by kernel_rfl)) (by kernel_rfl) rfl (by kernel_rfl) (by kernel_rfl) Tryz.underlying3
 refine (once_any l0 l1 _ _ W hmx hl0 hl1 (cl.slice_bulk Tryz.underlying40 h0 (cl.small_mem hk _ (by simp))) (cl.slice_bulk Tryz.underlying40 h1 (cl.small_mem hk _ (by simp)))).mono fun e W' ⟨he, hb⟩ => ⟨_, he, ?_⟩
 exact close.law_post laidOut params rfl rfl Tryz.underlying4 hW' rfl hb
set_option maxRecDepth 100000 in
theorem lifted (os : Os) (started : os.Started) (H : Type) (enc : TypeId × Value → H) (F : Stop.Interp) :
  ReturnsInHanded {} Tryz.checked os 8 .any ((Rows.OpenSpec.upto Rows.deltaOnceSpec).pre6 enc Tryz.prog Tryz.f8 Rows.deltaOnceUptoRow.domain false) (((Rows.OpenSpec.upto Rows.deltaOnceSpec).at F).post enc Tryz.prog Tryz.f8 false true false false) := by
 refine cl.wrap_small (C := Tryz.checked) (s := Rows.OpenSpec.upto Rows.deltaOnceSpec) (k := Rows.uptoSmall) rfl own started (by kernel_rfl) Tryz.func8
  (OpenSpec.witness (enc := enc) (C := Tryz.checked) (s := Rows.OpenSpec.upto Rows.deltaOnceSpec) (k := Rows.uptoSmall) rfl false ⟨#[], #[.slice none 0 0, .slice none 0 0], []⟩ 8 (by kernel_rfl) (by kernel_rfl) (by kernel_rfl)
   (x := ([.nil, .nil], [], [])) (by kernel_rfl) rfl (by kernel_rfl)) ?_
 intro W base args ds gs before hval hW hk hsh
 exact contract H enc W base args ds gs before hval hW hk hsh
theorem said : Rows.DeltaOnceUptoSaid :=
 OpenClaim.holds_of_cond 8 Tryz.f8 rfl rfl rfl rfl rfl rfl rfl ⟨rfl, rfl, rfl, rfl, rfl⟩ rfl rfl rfl rfl rfl (by kernel_rfl) Tryz.func8 (by kernel_rfl)
  (of_decide_eq_true (by kernel_rfl)) (by unfold Func.isWrapper; first | (rw [if_pos (by decide +kernel)]; kernel_rfl) | (rw [if_neg (by decide +kernel)]; exact ⟨rfl, rfl⟩))
  (fun os started H enc _ F => lifted os started H enc F)
end Go.Proofs.YtonknpdalemjkaaGreat.lawDeltaOnce

