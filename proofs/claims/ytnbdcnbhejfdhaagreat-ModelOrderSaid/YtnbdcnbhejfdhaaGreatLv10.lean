/- texts put together: ArgsF, Close. -/
import Derived.Test.YtnbdcnbhejfdhaaGreatLv02
import Derived.Carry
import Derived.ChangeArms
import Derived.Deep.DeepHandedRow
import Derived.Deep.SlicePairs
import Derived.JoinedCond
import Derived.Lib.LaidTab
import Derived.Lib.SmallJoins
import Derived.OpenShut
import Derived.ProofKit
import Derived.Test.YtnbdcnbhejfdhaaGreatRows
import Derived.WalkKit
import Derived.WideShapes
namespace Go.Proofs.YtnbdcnbhejfdhaaGreat
open Go Go.RowKit Go.WideShapes Go.ChangeShapes cl
section
variable {H : Type} {enc : TypeId × Value → H} {W : World}
theorem part {P : Program} {T : TypeId} {fs : Array Field} {fuel : Nat} {cs : List Value} {x : DataW H × List MemPlace} (ht : P.underlying T = some (.struct fs)) (h : DataW.trod enc P W 0 (fun _ => true) true fuel T cs = some x) (i : Nat) (f : Field) (hf : fs[i]? = some f) :
  ∃ n y, DataW.trod enc P W 0 (fun _ => true) true n f.type ((cs.drop f.offset).take (P.cellsOf f.type)) = some y := by
 obtain ⟨xs, n, _, _, _, hl, hp⟩ := DataW.trod_struct ht h
 have hi := (Array.getElem?_eq_some_iff.1 hf).1
 have := hp i f hf
 rw [List.getElem?_eq_getElem (by omega)] at this
 exact ⟨n, _, this⟩
theorem fa_ci : Tryz.prog.cellsOf 3 = 1 := by kernel_rfl
theorem fa_cst : Tryz.prog.cellsOf 9 = 1 := by kernel_rfl
theorem fa_cdt : Tryz.prog.cellsOf 37 = 2 := by kernel_rfl
theorem fa_cer : Tryz.prog.cellsOf 38 = 1 := by kernel_rfl
theorem fa_csm : Tryz.prog.cellsOf 23 = 1 := by kernel_rfl
theorem fa_css : Tryz.prog.cellsOf 31 = 1 := by kernel_rfl
theorem fa_cb : Tryz.prog.cellsOf 4 = 1 := by kernel_rfl
theorem fa_cf : Tryz.prog.cellsOf 40 = 9 := by kernel_rfl
theorem int_cell {T : TypeId} {fuel : Nat} {v : Value} {x : DataW H × List MemPlace} (hT : Tryz.prog.underlying T = some (.int .i64)) (h : DataW.trod enc Tryz.prog W 0 (fun _ => true) true fuel T [v] = some x) : ∃ n, v = .int .i64 n ∧ (Lit.int .i64 n).wf = true := by
 obtain ⟨n, e, _, hw⟩ := DataW.trod_int hT h
 simp only [List.cons.injEq, and_true] at e
 exact ⟨n, e, hw⟩
theorem str_cell {fuel : Nat} {v : Value} {x : DataW H × List MemPlace} (h : DataW.trod enc Tryz.prog W 0 (fun _ => true) true fuel 9 [v] = some x) : ∃ s, v = .string s := by
 obtain ⟨n, e, _, _⟩ := DataW.trod_string Tryz.underlying9 h
 simp only [List.cons.injEq, and_true] at e
 exact ⟨n, e⟩
theorem bool_cell {fuel : Nat} {v : Value} {x : DataW H × List MemPlace} (h : DataW.trod enc Tryz.prog W 0 (fun _ => true) true fuel 4 [v] = some x) : ∃ s, v = .bool s := by
 obtain ⟨n, e, _⟩ := DataW.trod_bool Tryz.underlying4 h
 simp only [List.cons.injEq, and_true] at e
 exact ⟨n, e⟩
theorem sl_cell {T e : TypeId} {fuel : Nat} {v : Value} {x : DataW H × List MemPlace} (hT : Tryz.prog.underlying T = some (.slice e)) (h : DataW.trod enc Tryz.prog W 0 (fun _ => true) true fuel T [v] = some x) : ∃ a n c, v = .slice a n c := by
 rcases Deep.open_slice hT h with ⟨hcs, _⟩ | ⟨a, len, cap, m, n, D0, P0, hcs, _⟩
 ·
  exact ⟨_, _, _, (List.cons.inj hcs).1⟩
 ·
  exact ⟨_, _, _, (List.cons.inj hcs).1⟩
theorem dot_cells {fuel : Nat} {c0 c1 : Value} {x : DataW H × List MemPlace} (h : DataW.trod enc Tryz.prog W 0 (fun _ => true) true fuel 37 [c0, c1] = some x) : ∃ d : Dot, c0 = .int .i64 d.1 ∧ c1 = .int .i64 d.2 ∧ DWf d := by
 obtain ⟨_, _, g0⟩ := part Tryz.underlying37 h 0 _ rfl
 obtain ⟨_, _, g1⟩ := part Tryz.underlying37 h 1 _ rfl
 simp [fa_ci] at g0 g1
 obtain ⟨a, rfl, ha⟩ := int_cell Tryz.underlying3 g0
 obtain ⟨b, rfl, hb⟩ := int_cell Tryz.underlying3 g1
 exact ⟨(a, b), rfl, rfl, ha, hb⟩
set_option maxRecDepth 100000 in
theorem fact_cells {fuel : Nat} {cs : List Value} {x : DataW H × List MemPlace} (hl : cs.length = 9) (h : DataW.trod enc Tryz.prog W 0 (fun _ => true) true fuel 40 cs = some x) : ∃ f : Fct, fctR W W.heap.size cs f ∧ FWf f := by
 match cs, hl with
 | [c0, c1, c2, c3, c4, c5, c6, c7, c8], _ =>
  obtain ⟨_, _, g0⟩ := part Tryz.underlying40 h 0 _ rfl
  obtain ⟨_, _, g1⟩ := part Tryz.underlying40 h 1 _ rfl
  obtain ⟨_, _, g2⟩ := part Tryz.underlying40 h 2 _ rfl
  obtain ⟨_, _, g3⟩ := part Tryz.underlying40 h 3 _ rfl
  obtain ⟨_, _, g4⟩ := part Tryz.underlying40 h 4 _ rfl
  obtain ⟨_, _, g5⟩ := part Tryz.underlying40 h 5 _ rfl
  obtain ⟨_, _, g6⟩ := part Tryz.underlying40 h 6 _ rfl
  obtain ⟨_, _, g7⟩ := part Tryz.underlying40 h 7 _ rfl
  simp [fa_ci, fa_cst, fa_cdt, fa_csm, fa_css, fa_cer, fa_cb] at g0 g1 g2 g3 g4 g5 g6 g7
  obtain ⟨k, rfl, _⟩ := int_cell Tryz.underlying3 g0
  obtain ⟨s, rfl⟩ := str_cell g1
  obtain ⟨d, rfl, rfl, hd⟩ := dot_cells g2
  obtain ⟨t, rfl, _⟩ := int_cell Tryz.underlying3 g3
  obtain ⟨ma, mn, mc, rfl⟩ := sl_cell Tryz.underlying23 g4
  obtain ⟨la, ln, lc, rfl⟩ := sl_cell Tryz.underlying31 g5
  obtain ⟨er, rfl, _⟩ := int_cell Tryz.underlying38 g6
  obtain ⟨st, rfl⟩ := bool_cell g7
  exact ⟨⟨k, s, d, t⟩, ⟨_, _, _, _, _, _, _, _, rfl⟩, hd⟩
set_option maxRecDepth 100000 in
theorem open_facts {r : Reach} {b0 : Nat} {v : Value} {d : DataW H} {ps : List MemPlace} (hval : Value.okWide Tryz.prog W r b0 22 v) (hd : DataW.Trod enc Tryz.prog W 0 (fun _ => true) true 22 v d ps) : ∃ l : List Fct, Fcts W W.heap.size v l ∧ ∀ f ∈ l, FWf f := by
 obtain ⟨a0, len, cap, rfl⟩ := okWide_slice Tryz.underlying22 hval
 obtain ⟨fuel, hf⟩ := hd
 exact open_rows (R := fctR) (wf := FWf) Tryz.underlying22 fa_cf (by decide) (fun f cs y hl h => fact_cells hl h) hf
end
end Go.Proofs.YtnbdcnbhejfdhaaGreat
namespace Go.Proofs.YtnbdcnbhejfdhaaGreat.close
open Go.RowKit Go.WideShapes Go.ChangeShapes
section
variable {H : Type} {enc : TypeId × Value → H} {P : Program}
theorem trodAll_stays (hl : laidOutB P = true) {W W' : World} (hb : Below W.heap.size W W') :
  ∀ (ts : List TypeId) (vs : List Value) (ds : List (DataW H)) (ps : List MemPlace), (∀ t ∈ ts, P.readableRec t = true ∧ t < P.types.size) → (∀ x ∈ ps, x.block < W.heap.size) →
   DataW.TrodAll enc P W 0 (fun _ => true) true ts vs ds ps → DataW.TrodAll enc P W' 0 (fun b => decide (b < W.heap.size)) true ts vs ds ps := by
 intro ts
 induction ts with
 | nil =>
  intro vs ds ps _ _ h
  obtain ⟨rfl, rfl, rfl⟩ := trodAll_nil h
  exact rfl
 | cons t ts ih =>
  intro vs ds ps ht hlt h
  obtain ⟨v, vs', d, ds', p, q, rfl, rfl, rfl, h0, r0⟩ := trodAll_cons h
  have h1 := ht t (List.mem_cons_self ..)
  exact ⟨p, q, Below.trod hl h1.1 h1.2 h0 hb (fun x hx => hlt x (List.mem_append_left _ hx)),
   ih _ _ _ (fun u hu => ht u (List.mem_cons_of_mem _ hu)) (fun x hx => hlt x (List.mem_append_right _ hx)) r0, rfl⟩
theorem law_post (hl : laidOutB P = true) {f : Func} {s : ChangeSpec} {apart fresh handsOn : Bool} {W W' : World} {args : Array Value} {ds gs : List (DataW H)} {before : List MemPlace} {tb : TypeId}
  (hts : ∀ t ∈ f.params.toList, P.readableRec t = true ∧ t < P.types.size) (hvars : s.vars = []) (hrt : f.resultTypes = #[tb]) (hb4 : P.underlying tb = some .bool)
  (hW : DataW.Whole enc P f.params.toList s.vars apart W args.toList ds gs before) (hs : s.fn H (ds ++ gs) = { results := [.lit (.bool true)], args := ds, vars := [] })
  (hb : Below W.heap.size W W') : s.post enc P f apart fresh handsOn false W args (.bool true) W' := by
 have hlt : ∀ p ∈ before, p.block < W.heap.size := fun p hp => hW.lt p hp
 have hW' := hW
 obtain ⟨p, q, hA, hV, rfl, _, _⟩ := hW'
 rw [hvars] at hV
 obtain ⟨rfl, rfl⟩ := trodVars_none hV
 refine ⟨ds, [], p ++ [], [], p, [], hW, ?_, ?_, ?_, World.keptBut_mono (fun x hx => ⟨hx, Or.inr (Or.inl (by simpa using hx))⟩) (hb.frame (· ∈ p ++ [])), fun h => by cases h⟩
 ·
  rw [hs, hrt]
  exact trodAll_cons_mk (shut_bool hb4 true) trodAll_mk0
 ·
  rw [hs]
  exact trodAll_stays hl hb _ _ _ _ hts (fun x hx => hlt x (List.mem_append_left _ hx)) hA
 ·
  rw [hs, hvars]
  exact rfl
end
end Go.Proofs.YtnbdcnbhejfdhaaGreat.close
