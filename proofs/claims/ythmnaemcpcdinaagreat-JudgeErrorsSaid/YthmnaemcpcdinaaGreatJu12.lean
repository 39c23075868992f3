/- texts put together: MdTwo, MdPair, MdAwk, MdLaw, Close. -/
import Derived.Test.YthmnaemcpcdinaaGreatJu11
import Derived.Carry
import Derived.Deep.DeepHandedRow
import Derived.JoinedCond
import Derived.Lib.LaidTab
import Derived.OpenShut
import Derived.ProofKit
import Derived.Test.YthmnaemcpcdinaaGreatRows
import Derived.WalkKit
open List (setIfInBounds_toArray set_cons_zero set_cons_succ take_succ_cons take_zero drop_succ_cons drop_zero)
namespace Go.Proofs.YthmnaemcpcdinaaGreat
open Go Go.RowKit Go.ChangeShapes cl Go.Sort
set_option maxHeartbeats 4000000 in
set_option maxRecDepth 100000 in
theorem ftwo_run {ρ : Operand → Value} {d : Option Nat} {ty : TypeId} {ps : String} {af : Array Edge} {g : Option (Nat × Bool)} {i j : Nat} {a0 a1 a2 a3 a4 a5 a6 a7 a8 b0 b1 b2 b3 b4 b5 b6 b7 b8 : Value} {w : World} (hi : ρ (.tmp i) = .agg #[a0, a1, a2, a3, a4, a5, a6, a7, a8]) (hj : ρ (.tmp j) = .agg #[b0, b1, b2, b3, b4, b5, b6, b7, b8]) :
  (execOp ρ { dst := d, op := .buildSlice 22 2 #[(0, .tmp i), (1, .tmp j)], type := ty, pos := ps, after := af, guard := g }).run Tryz.prog w = .ok (.value (.slice (some ⟨w.heap.size, 0, none⟩) 2 2)) (w.alloc (.cells #[a0, a1, a2, a3, a4, a5, a6, a7, a8, b0, b1, b2, b3, b4, b5, b6, b7, b8] 29)) := by
 have hi2 := hi
 have hj2 := hj
 go_simp
theorem ftwo_wp {a : Act} {K : Act → World → Prop} {Q : Exit → Act → World → Prop} {d : Option Nat} {ty : TypeId} {ps : String} {af : Array Edge} {g : Option (Nat × Bool)} {i j : Nat} {a0 a1 a2 a3 a4 a5 a6 a7 a8 b0 b1 b2 b3 b4 b5 b6 b7 b8 : Value} {w : World} (hi : a.eval (.tmp i) = .agg #[a0, a1, a2, a3, a4, a5, a6, a7, a8]) (hj : a.eval (.tmp j) = .agg #[b0, b1, b2, b3, b4, b5, b6, b7, b8]) (h : K (a.put d (.slice (some ⟨w.heap.size, 0, none⟩) 2 2)) (w.alloc (.cells #[a0, a1, a2, a3, a4, a5, a6, a7, a8, b0, b1, b2, b3, b4, b5, b6, b7, b8] 29))) :
  Oper.wp Tryz.prog { dst := d, op := .buildSlice 22 2 #[(0, .tmp i), (1, .tmp j)], type := ty, pos := ps, after := af, guard := g } a w K Q := by
 unfold Oper.wp
 rw [ftwo_run hi hj]
 exact h
set_option maxHeartbeats 800000 in
set_option maxRecDepth 100000 in
theorem add_any (n : Int) (s : ByteArray) (w : World) : Calls Tryz.prog 17 #[.int .i64 n, .string s] w fun e w' => e = .returned (.agg #[.int .i64 1, .string s, .int .i64 0, .int .i64 n, .int .i64 1, .slice none 0 0, .slice none 0 0, .int .i64 0, .bool false]) ∧ Below w.heap.size w w' := by
 go_enter Tryz.func17, Tryz.ntmps17
 go_wp2
 refine bodyPost_ret (v := .agg #[.int .i64 1, .string s, .int .i64 0, .int .i64 n, .int .i64 1, .slice none 0 0, .slice none 0 0, .int .i64 0, .bool false]) ?_ rfl ⟨rfl, below1⟩
 simp only [results, Tryz.results17]
 go_simp
set_option maxHeartbeats 800000 in
set_option maxRecDepth 100000 in
theorem answer_any (st : Bool) (la : Option Addr) (ln lc : Nat) (w : World) : Calls Tryz.prog 18 #[.bool st, .slice la ln lc] w fun e w' => e = .returned (.agg #[.int .i64 3, .string ⟨#[]⟩, .int .i64 0, .int .i64 0, .int .i64 0, .slice none 0 0, .slice la ln lc, .int .i64 0, .bool st]) ∧ Below w.heap.size w w' := by
 go_enter Tryz.func18, Tryz.ntmps18
 go_wp2
 refine bodyPost_ret (v := .agg #[.int .i64 3, .string ⟨#[]⟩, .int .i64 0, .int .i64 0, .int .i64 0, .slice none 0 0, .slice la ln lc, .int .i64 0, .bool st]) ?_ rfl ⟨rfl, below1⟩
 simp only [results, Tryz.results18]
 go_simp
end Go.Proofs.YthmnaemcpcdinaaGreat
namespace Go.Proofs.YthmnaemcpcdinaaGreat
open Go Go.RowKit Go.ChangeShapes cl Go.Sort
def xA : Fct := ⟨1, sA, (0, 1), 1⟩
def xB : Fct := ⟨3, ⟨#[]⟩, (0, 0), 0⟩
def cA : List Value := [.int .i64 1, .string sA, .int .i64 0, .int .i64 1, .int .i64 1, .slice none 0 0, .slice none 0 0, .int .i64 0, .bool false]
def cB (lst : Value) (st : Bool) : List Value := [.int .i64 3, .string ⟨#[]⟩, .int .i64 0, .int .i64 0, .int .i64 0, .slice none 0 0, lst, .int .i64 0, .bool st]
def TwoF (W : World) (h : Nat) (la : Option Addr) (ln lc : Nat) (st : Bool) : Prop := W.heap[h]? = some (.cells #[.int .i64 1, .string sA, .int .i64 0, .int .i64 1, .int .i64 1, .slice none 0 0, .slice none 0 0, .int .i64 0, .bool false, .int .i64 3, .string ⟨#[]⟩, .int .i64 0, .int .i64 0, .int .i64 0, .slice none 0 0, .slice la ln lc, .int .i64 0, .bool st] 29)
variable {W W' : World} {h : Nat} {la : Option Addr} {ln lc : Nat} {st : Bool}
theorem TwoF.next (hh : TwoF W h la ln lc st) (hb : Below W.heap.size W W') : TwoF W' h la ln lc st := (hb.block _ (lt_of_block hh)).trans hh
theorem two_rows (hh : TwoF W h la ln lc st) : Fcts W W.heap.size (.slice (some ⟨h, 0, none⟩) 2 2) [xA, xB] := by
 refine ⟨[cA, cB (.slice la ln lc) st], rfl, fun j c x hc hx => ?_, ?_⟩
 ·
  rcases j with _ | _ | j
  ·
   obtain rfl : cA = c := by simpa using hc
   obtain rfl : xA = x := by simpa using hx
   exact ⟨rfl, _, _, _, _, _, _, _, _, rfl⟩
  ·
   obtain rfl : cB (.slice la ln lc) st = c := by simpa using hc
   obtain rfl : xB = x := by simpa using hx
   exact ⟨rfl, _, _, _, _, _, _, _, _, rfl⟩
  ·
   simp at hc
 ·
  exact ⟨rfl, some ⟨h, 0, none⟩, 2, rfl, ⟨(fun e => by cases e), by simp⟩, by unfold maxLen; simp, fun _ => ⟨h, 0, rfl, lt_of_block hh, fun i u hu => by rw [Nat.zero_add]; exact boxc hh i u (by simpa [cA, cB, ← Array.getElem?_toList] using hu)⟩⟩
theorem one_row (hh : TwoF W h la ln lc st) : Fcts W W.heap.size (.slice (some ⟨h, 0, none⟩) 1 2) [xA] := by
 refine ⟨[cA], rfl, fun j c x hc hx => ?_, ?_⟩
 ·
  rcases j with _ | j
  ·
   obtain rfl : cA = c := by simpa using hc
   obtain rfl : xA = x := by simpa using hx
   exact ⟨rfl, _, _, _, _, _, _, _, _, rfl⟩
  ·
   simp at hc
 ·
  refine ⟨rfl, some ⟨h, 0, none⟩, 2, rfl, ⟨(fun e => by cases e), by simp⟩, by unfold maxLen; simp, fun _ => ⟨h, 0, rfl, lt_of_block hh, fun i u hu => ?_⟩⟩
  rw [Nat.zero_add]
  have hi : i < 9 := (List.getElem?_eq_some_iff.1 hu).1
  refine boxc hh i u ?_
  rcases (by omega : i = 0 ∨ i = 1 ∨ i = 2 ∨ i = 3 ∨ i = 4 ∨ i = 5 ∨ i = 6 ∨ i = 7 ∨ i = 8) with rfl | rfl | rfl | rfl | rfl | rfl | rfl | rfl | rfl <;> exact hu
theorem wf0 : FWf xA ∧ FWf xB := by
 refine ⟨⟨?_, ?_⟩, ?_, ?_⟩ <;> exact WalkArith.wf_i64 (by decide)
theorem two_dots (hh : TwoF W h la ln lc st) : Calls Tryz.prog 21 #[.slice (some ⟨h, 0, none⟩) 2 2] W (Said true W) := by
 have := dots_any [xA, xB] _ W (two_rows hh) (by intro f hf; simp only [List.mem_cons, List.not_mem_nil, or_false] at hf; rcases hf with rfl | rfl; exact wf0.1; exact wf0.2) (by simp)
 have e : (dotsF [] [xA, xB]).isSome = true := by decide
 rwa [e] at this
theorem cells_a (hh : TwoF W h la ln lc st) : ∀ i u, (#[.int .i64 1, .string sA, .int .i64 ((0, 1) : Dot).1, .int .i64 ((0, 1) : Dot).2, .int .i64 1, .slice none 0 0, .slice none 0 0, .int .i64 0, .bool false] : Array Value)[i]? = some u → W.cell? ⟨h, i, none⟩ = some u := fun i u hu => by
 have hi : i < 9 := (Array.getElem?_eq_some_iff.1 hu).1
 refine boxc hh i u ?_
 rcases (by omega : i = 0 ∨ i = 1 ∨ i = 2 ∨ i = 3 ∨ i = 4 ∨ i = 5 ∨ i = 6 ∨ i = 7 ∨ i = 8) with rfl | rfl | rfl | rfl | rfl | rfl | rfl | rfl | rfl <;> exact hu
theorem cells_b (hh : TwoF W h la ln lc st) : ∀ i u, (#[.int .i64 3, .string ⟨#[]⟩, .int .i64 ((0, 0) : Dot).1, .int .i64 ((0, 0) : Dot).2, .int .i64 0, .slice none 0 0, .slice la ln lc, .int .i64 0, .bool st] : Array Value)[i]? = some u → W.cell? ⟨h, 9 + i, none⟩ = some u := fun i u hu => by
 have hi : i < 9 := (Array.getElem?_eq_some_iff.1 hu).1
 refine boxc hh (9 + i) u ?_
 rcases (by omega : i = 0 ∨ i = 1 ∨ i = 2 ∨ i = 3 ∨ i = 4 ∨ i = 5 ∨ i = 6 ∨ i = 7 ∨ i = 8) with rfl | rfl | rfl | rfl | rfl | rfl | rfl | rfl | rfl <;> exact hu
theorem judge_y (g c : Nat) (hm : MX W) (hh : TwoF W h (some ⟨g, 0, none⟩) 1 c true) (hg : W.cell? ⟨g, 0, none⟩ = some (.string sA)) :
  Calls Tryz.prog 9 #[.slice (some ⟨h, 0, none⟩) 2 2] W fun e w' => e = .returned (.tuple #[.int .i64 2, .bool true]) ∧ Below W.heap.size W w' :=
 judge_yes h sA (0, 1) 1 ⟨#[]⟩ (0, 0) 0 (some ⟨g, 0, none⟩) 1 c W (cells_a hh) (cells_b hh) (fun _ hb => two_dots (hh.next hb)) fun V hb => right_ans _ ⟨#[]⟩ (0, 0) 0 0 none (some ⟨g, 0, none⟩) 0 0 1 c true true V fun V2 hb2 =>
  fit_yes xA _ ⟨#[]⟩ (0, 0) 0 V2 (one_row ((hh.next hb).next hb2)) wf0.1 rfl (by decide) rfl ((hm.next hb).next hb2) g c ((hb2.cell (p := ⟨g, 0, none⟩) (Nat.lt_of_lt_of_le (World.block_lt_of_cell? _ _ hg) hb.size)).trans ((hb.cell (p := ⟨g, 0, none⟩) (World.block_lt_of_cell? _ _ hg)).trans hg))
theorem judge_n (hm : MX W) (hh : TwoF W h none 0 0 true) :
  Calls Tryz.prog 9 #[.slice (some ⟨h, 0, none⟩) 2 2] W fun e w' => e = .returned (.tuple #[.int .i64 1, .bool false]) ∧ Below W.heap.size W w' :=
 judge_no h sA (0, 1) 1 ⟨#[]⟩ (0, 0) 0 none 0 0 W (cells_a hh) (cells_b hh) (fun _ hb => two_dots (hh.next hb)) fun V hb => right_ans _ ⟨#[]⟩ (0, 0) 0 0 none none 0 0 0 0 true false V fun V2 hb2 =>
  fit_no xA _ ⟨#[]⟩ (0, 0) 0 V2 (one_row ((hh.next hb).next hb2)) wf0.1 rfl (by decide) rfl ((hm.next hb).next hb2)
theorem judge_m (hh : TwoF W h none 0 0 false) :
  Calls Tryz.prog 9 #[.slice (some ⟨h, 0, none⟩) 2 2] W fun e w' => e = .returned (.tuple #[.int .i64 2, .bool true]) ∧ Below W.heap.size W w' :=
 judge_may h sA (0, 1) 1 ⟨#[]⟩ (0, 0) 0 none 0 0 W (cells_a hh) (cells_b hh) (fun _ hb => two_dots (hh.next hb)) fun V hb => right_ans _ ⟨#[]⟩ (0, 0) 0 0 none none 0 0 0 0 false true V fun V2 hb2 =>
  fit_may xA _ ⟨#[]⟩ (0, 0) 0 V2 (one_row ((hh.next hb).next hb2)) rfl rfl
end Go.Proofs.YthmnaemcpcdinaaGreat
namespace Go.Proofs.YthmnaemcpcdinaaGreat
open Go Go.RowKit Go.ChangeShapes cl Go.Sort
set_option maxHeartbeats 6400000 in
set_option maxRecDepth 100000 in
theorem awake_any (w : World) (hm : MX w) : Calls Tryz.prog 8 #[] w (Said true w) := by
 have HMX : Hid (∀ W, Below w.heap.size w W → MX W) := fun W hW => hm.next hW
 have HAD : Hid (Calls Tryz.prog 17 #[.int .i64 1, .string ⟨#[123, 97, 61, 34, 49, 34, 125]⟩] w fun e w' => e = .returned (.agg #[.int .i64 1, .string sA, .int .i64 0, .int .i64 1, .int .i64 1, .slice none 0 0, .slice none 0 0, .int .i64 0, .bool false]) ∧ Below w.heap.size w w') := add_any 1 sA w
 clear hm
 go_enter Tryz.func8, Tryz.ntmps8
 go_wp2_with fail
 (with_reducible refine HAD.out.mono ?_)
 rintro e w1 ⟨rfl, hb1⟩
 obtain ⟨b2, hb2⟩ : ∃ b, b = w1.heap.size := ⟨_, rfl⟩
 obtain ⟨W2, hW2⟩ : ∃ W, W = w1.alloc (.cells #[.int .i64 1, .string sA, .int .i64 0, .int .i64 1, .int .i64 1, .slice none 0 0, .slice none 0 0, .int .i64 0, .bool false] 29) := ⟨_, rfl⟩
 have DW2 : Hid (Below w.heap.size w W2) := by show Below _ _ _; rw [hW2]; exact hb1.alloc hb1.size _
 have YW2 : Hid (W2.heap[b2]? = some (.cells #[.int .i64 1, .string sA, .int .i64 0, .int .i64 1, .int .i64 1, .slice none 0 0, .slice none 0 0, .int .i64 0, .bool false] 29)) := by show _ = _; rw [hW2, hb2]; exact heap_alloc_new w1 _
 have HWW := Lib.hid hW2
 have HBB := Lib.hid hb2
 clear hb1 hW2 hb2
 go_wp2_with fail
 rw [← HWW.out, ← HBB.out]
 clear HWW HBB
 refine wp_flow 10 (fun _ => 1000) (fun ww => RowKit.Below W2.heap.size W2 ww) (fun _ w w' => (fun (w w' : World) => RowKit.Below w.heap.size w w') w w') (fun kF vF wF => match kF with | 0 => (vF = .agg #[.int .i64 1, .string sA, .int .i64 0, .int .i64 1, .int .i64 1, .slice none 0 0, .slice none 0 0, .int .i64 0, .bool false]) | 1 => (∃ g, vF = .slice (some ⟨g, 0, none⟩) 1 1 ∧ wF.cell? ⟨g, 0, none⟩ = some (.string sA)) | 2 => (∃ g, vF = .agg #[.int .i64 3, .string ⟨#[]⟩, .int .i64 0, .int .i64 0, .int .i64 0, .slice none 0 0, .slice (some ⟨g, 0, none⟩) 1 1, .int .i64 0, .bool true] ∧ wF.cell? ⟨g, 0, none⟩ = some (.string sA)) | 3 => (∃ h g, vF = .slice (some ⟨h, 0, none⟩) 2 2 ∧ TwoF wF h (some ⟨g, 0, none⟩) 1 1 true ∧ wF.cell? ⟨g, 0, none⟩ = some (.string sA)) | 4 => (vF = .tuple #[.int .i64 2, .bool true]) | 5 => (vF = .tuple #[.int .i64 2, .bool true]) | 6 => (vF = .int .i64 2) | 7 => (vF = .bool true) | 8 => (vF = .int .i64 2) | 9 => (vF = .bool true) | _ => True) (fun _ _ _ _ => True) (by kernel_rfl) (by kernel_rfl) ?_ ?_ ?_ ?_ ?_
 ·
  exact (Below.refl _ _).drew
 ·
  intro iF wF1 wF2 hR hT; exact hR.trans (hT.mono hR.size)
 ·
  intro kF hkF iF hiF hne hdd hanc hdan vF wF1 wF2 h hT
  rcases (by omega : kF = 0 ∨ kF = 1 ∨ kF = 2 ∨ kF = 3 ∨ kF = 4 ∨ kF = 5 ∨ kF = 6 ∨ kF = 7 ∨ kF = 8 ∨ kF = 9) with rfl | rfl | rfl | rfl | rfl | rfl | rfl | rfl | rfl | rfl
  ·
   exact h
  ·
   have h : (∃ g, vF = .slice (some ⟨g, 0, none⟩) 1 1 ∧ wF1.cell? ⟨g, 0, none⟩ = some (.string sA)) := h
   show (∃ g, vF = .slice (some ⟨g, 0, none⟩) 1 1 ∧ wF2.cell? ⟨g, 0, none⟩ = some (.string sA))
   have hT : (fun (w w' : World) => RowKit.Below w.heap.size w w') wF1 wF2 := hT
   simp only at hT
   obtain ⟨g, e, h1⟩ := h
   exact ⟨g, e, (hT.cell (p := ⟨g, 0, none⟩) (World.block_lt_of_cell? _ _ h1)).trans h1⟩
  ·
   have h : (∃ g, vF = .agg #[.int .i64 3, .string ⟨#[]⟩, .int .i64 0, .int .i64 0, .int .i64 0, .slice none 0 0, .slice (some ⟨g, 0, none⟩) 1 1, .int .i64 0, .bool true] ∧ wF1.cell? ⟨g, 0, none⟩ = some (.string sA)) := h
   show (∃ g, vF = .agg #[.int .i64 3, .string ⟨#[]⟩, .int .i64 0, .int .i64 0, .int .i64 0, .slice none 0 0, .slice (some ⟨g, 0, none⟩) 1 1, .int .i64 0, .bool true] ∧ wF2.cell? ⟨g, 0, none⟩ = some (.string sA))
   have hT : (fun (w w' : World) => RowKit.Below w.heap.size w w') wF1 wF2 := hT
   simp only at hT
   obtain ⟨g, e, h1⟩ := h
   exact ⟨g, e, (hT.cell (p := ⟨g, 0, none⟩) (World.block_lt_of_cell? _ _ h1)).trans h1⟩
  ·
   have h : (∃ h g, vF = .slice (some ⟨h, 0, none⟩) 2 2 ∧ TwoF wF1 h (some ⟨g, 0, none⟩) 1 1 true ∧ wF1.cell? ⟨g, 0, none⟩ = some (.string sA)) := h
   show (∃ h g, vF = .slice (some ⟨h, 0, none⟩) 2 2 ∧ TwoF wF2 h (some ⟨g, 0, none⟩) 1 1 true ∧ wF2.cell? ⟨g, 0, none⟩ = some (.string sA))
   have hT : (fun (w w' : World) => RowKit.Below w.heap.size w w') wF1 wF2 := hT
   simp only at hT
   obtain ⟨a, g, e, h1, h2⟩ := h
   exact ⟨a, g, e, TwoF.next h1 hT, (hT.cell (p := ⟨g, 0, none⟩) (World.block_lt_of_cell? _ _ h2)).trans h2⟩
  iterate 6 exact h
 ·
  generalize hAF : fillOf _ _ _ = AF
  replace hAF := fun x => congrFun hAF x
  simp only [take_succ_cons, take_zero, fillOf, Act.put, setIfInBounds_toArray, set_cons_zero, set_cons_succ, Nat.reduceAdd, Nat.zero_add] at hAF
  refine .cons ?_ (.cons ?_ (.cons ?_ (.cons ?_ (.cons ?_ (.cons ?_ (.cons ?_ (.cons ?_ (.cons ?_ (.cons ?_ (.nil))))))))))
  all_goals
   intro xF ww1 hR hd K hK
   first | simp only [← hAF, Act.put, setIfInBounds_toArray, set_cons_zero, set_cons_succ] at hK ⊢ | simp only [← hAF, Act.put] at hK ⊢
   clear hAF
   try simp only [Nat.zero_add, Nat.reduceAdd] at hK ⊢
  ·
   clear hd
   obtain hbl := id hR
   have yy := (hR.block _ (lt_of_block YW2.out)).trans YW2.out
   have q0 := boxc yy 0 _ rfl
   have q1 := boxc yy 1 _ rfl
   have q2 := boxc yy 2 _ rfl
   have q3 := boxc yy 3 _ rfl
   have q4 := boxc yy 4 _ rfl
   have q5 := boxc yy 5 _ rfl
   have q6 := boxc yy 6 _ rfl
   have q7 := boxc yy 7 _ rfl
   have q8 := boxc yy 8 _ rfl
   rw [if_pos (by rfl)]
   go_simp
   exact hK.out _ _ (Below.refl _ _) (rfl) (fun _ _ _ => ⟨trivial, trivial⟩)
  ·
   clear hd
   obtain hbl := id hR
   rw [if_pos (by rfl)]
   go_simp
   exact hK.out _ _ (below1) (⟨_, rfl, boxc (heap_alloc_new _ _) 0 _ rfl⟩) (fun _ _ _ => ⟨trivial, trivial⟩)
  ·
   have dd1 := hd 1 (by kernel_rfl)
   clear hd
   try generalize xF 1 = yy1 at *
   obtain ⟨gs, rfl, hgs⟩ := dd1
   obtain hbl := id hR
   rw [if_pos (by rfl)]
   go_simp
   (go_at_call 18; (with_reducible refine (answer_any true (some ⟨gs, 0, none⟩) 1 1 _).mono ?_); rintro e wK ⟨rfl, hbK⟩)
   try go_wp2_with fail
   exact hK.out _ _ (hbK) (⟨gs, rfl, (hbK.cell (p := ⟨gs, 0, none⟩) (World.block_lt_of_cell? _ _ hgs)).trans hgs⟩) (fun _ _ _ => ⟨trivial, trivial⟩)
  ·
   have dd0 := hd 0 (by kernel_rfl)
   have dd2 := hd 2 (by kernel_rfl)
   clear hd
   try generalize xF 0 = yy0 at *
   try generalize xF 2 = yy2 at *
   obtain rfl := dd0
   obtain ⟨gb, rfl, hgb⟩ := dd2
   obtain hbl := id hR
   rw [if_pos (by rfl)]
   refine ftwo_wp rfl rfl ?_
   simp only [Act.put, setIfInBounds_toArray, set_cons_zero, set_cons_succ]
   exact hK.out _ _ (below1) (⟨_, gb, rfl, heap_alloc_new _ _, (below1.cell (p := ⟨gb, 0, none⟩) (World.block_lt_of_cell? _ _ hgb)).trans hgb⟩) (fun _ _ _ => ⟨trivial, trivial⟩)
  ·
   have dd3 := hd 3 (by kernel_rfl)
   clear hd
   try generalize xF 3 = yy3 at *
   obtain ⟨h3, g3, rfl, hh3, hg3⟩ := dd3
   obtain hbl := id hR
   rw [if_pos (by rfl)]
   go_simp
   (go_at_call 9; (with_reducible refine (judge_y g3 1 (HMX.out _ (DW2.out.trans (hR.mono DW2.out.size))) hh3 hg3).mono ?_); rintro e wK ⟨rfl, hbK⟩)
   try go_wp2_with fail
   exact hK.out _ _ (hbK) (rfl) (fun _ _ _ => ⟨trivial, trivial⟩)
  ·
   have dd4 := hd 4 (by kernel_rfl)
   clear hd
   try generalize xF 4 = yy4 at *
   obtain rfl := dd4
   obtain hbl := id hR
   rw [if_pos (by rfl)]
   go_simp
   exact hK.out _ _ (Below.refl _ _) (rfl) (fun _ _ _ => ⟨trivial, trivial⟩)
  ·
   have dd5 := hd 5 (by kernel_rfl)
   clear hd
   try generalize xF 5 = yy5 at *
   obtain rfl := dd5
   obtain hbl := id hR
   rw [if_pos (by rfl)]
   go_simp
   exact hK.out _ _ (Below.refl _ _) (rfl) (fun _ _ _ => ⟨trivial, trivial⟩)
  ·
   have dd5 := hd 5 (by kernel_rfl)
   clear hd
   try generalize xF 5 = yy5 at *
   obtain rfl := dd5
   obtain hbl := id hR
   rw [if_pos (by rfl)]
   go_simp
   exact hK.out _ _ (Below.refl _ _) (rfl) (fun _ _ _ => ⟨trivial, trivial⟩)
  ·
   have dd6 := hd 6 (by kernel_rfl)
   clear hd
   try generalize xF 6 = yy6 at *
   obtain rfl := dd6
   obtain hbl := id hR
   rw [if_pos (by rfl)]
   go_simp
   exact hK.out _ _ (Below.refl _ _) (rfl) (fun _ _ _ => ⟨trivial, trivial⟩)
  ·
   have dd7 := hd 7 (by kernel_rfl)
   clear hd
   try generalize xF 7 = yy7 at *
   obtain rfl := dd7
   obtain hbl := id hR
   rw [if_pos (by rfl)]
   go_simp
   exact hK.out _ _ (Below.refl _ _) (rfl) (fun _ _ _ => ⟨trivial, trivial⟩)
 intro xF ww1 hR hF hP
 clear hP
 have dd0 := hF 0 (by omega) (by decide)
 have dd1 := hF 1 (by omega) (by decide)
 have dd2 := hF 2 (by omega) (by decide)
 have dd3 := hF 3 (by omega) (by decide)
 have dd4 := hF 4 (by omega) (by decide)
 have dd5 := hF 5 (by omega) (by decide)
 have dd6 := hF 6 (by omega) (by decide)
 have dd7 := hF 7 (by omega) (by decide)
 have dd8 := hF 8 (by omega) (by decide)
 have dd9 := hF 9 (by omega) (by decide)
 clear hF
 simp only [take_succ_cons, take_zero, drop_succ_cons, drop_zero, fillOf, Act.put, setIfInBounds_toArray, set_cons_zero, set_cons_succ, Nat.reduceAdd, Nat.zero_add]
 try generalize xF 0 = yy0 at *
 try generalize xF 1 = yy1 at *
 try generalize xF 2 = yy2 at *
 try generalize xF 3 = yy3 at *
 try generalize xF 4 = yy4 at *
 try generalize xF 5 = yy5 at *
 try generalize xF 6 = yy6 at *
 try generalize xF 7 = yy7 at *
 try generalize xF 8 = yy8 at *
 try generalize xF 9 = yy9 at *
 clear xF
 obtain rfl := dd0
 obtain ⟨gs, rfl, hgs⟩ := dd1
 obtain ⟨gb, rfl, hgb⟩ := dd2
 obtain ⟨h3, g3, rfl, hh3, hg3⟩ := dd3
 obtain rfl := dd4
 obtain rfl := dd5
 obtain rfl := dd6
 obtain rfl := dd7
 obtain rfl := dd8
 obtain rfl := dd9
 have hRE1 := Lib.hid hR
 clear hR
 have Dww1 : Hid (Below w.heap.size w ww1) := DW2.out.trans (hRE1.out.mono DW2.out.size)
 have Yww1 : Hid (ww1.heap[b2]? = some (.cells #[.int .i64 1, .string sA, .int .i64 0, .int .i64 1, .int .i64 1, .slice none 0 0, .slice none 0 0, .int .i64 0, .bool false] 29)) := (hRE1.out.block _ (lt_of_block YW2.out)).trans YW2.out
 go_wp2_with fail
 refine wp_flow 9 (fun _ => 1000) (fun ww => RowKit.Below ww1.heap.size ww1 ww) (fun _ w w' => (fun (w w' : World) => RowKit.Below w.heap.size w w') w w') (fun kF vF wF => match kF with | 0 => (vF = .agg #[.int .i64 1, .string sA, .int .i64 0, .int .i64 1, .int .i64 1, .slice none 0 0, .slice none 0 0, .int .i64 0, .bool false]) | 1 => (vF = .agg #[.int .i64 3, .string ⟨#[]⟩, .int .i64 0, .int .i64 0, .int .i64 0, .slice none 0 0, .slice none 0 0, .int .i64 0, .bool true]) | 2 => (∃ h, vF = .slice (some ⟨h, 0, none⟩) 2 2 ∧ TwoF wF h none 0 0 true) | 3 => (vF = .tuple #[.int .i64 1, .bool false]) | 4 => (vF = .tuple #[.int .i64 1, .bool false]) | 5 => (vF = .int .i64 1) | 6 => (vF = .bool false) | 7 => (vF = .int .i64 1) | 8 => (vF = .bool false) | _ => True) (fun _ _ _ _ => True) (by kernel_rfl) (by kernel_rfl) ?_ ?_ ?_ ?_ ?_
 ·
  exact (Below.refl _ _).drew
 ·
  intro iF wF1 wF2 hR hT; exact hR.trans (hT.mono hR.size)
 ·
  intro kF hkF iF hiF hne hdd hanc hdan vF wF1 wF2 h hT
  rcases (by omega : kF = 0 ∨ kF = 1 ∨ kF = 2 ∨ kF = 3 ∨ kF = 4 ∨ kF = 5 ∨ kF = 6 ∨ kF = 7 ∨ kF = 8) with rfl | rfl | rfl | rfl | rfl | rfl | rfl | rfl | rfl
  iterate 2 exact h
  ·
   have h : (∃ h, vF = .slice (some ⟨h, 0, none⟩) 2 2 ∧ TwoF wF1 h none 0 0 true) := h
   show (∃ h, vF = .slice (some ⟨h, 0, none⟩) 2 2 ∧ TwoF wF2 h none 0 0 true)
   have hT : (fun (w w' : World) => RowKit.Below w.heap.size w w') wF1 wF2 := hT
   simp only at hT
   obtain ⟨a, e, h1⟩ := h
   exact ⟨a, e, TwoF.next h1 hT⟩
  iterate 6 exact h
 ·
  generalize hAF : fillOf _ _ _ = AF
  replace hAF := fun x => congrFun hAF x
  simp only [take_succ_cons, take_zero, fillOf, Act.put, setIfInBounds_toArray, set_cons_zero, set_cons_succ, Nat.reduceAdd, Nat.zero_add] at hAF
  refine .cons ?_ (.cons ?_ (.cons ?_ (.cons ?_ (.cons ?_ (.cons ?_ (.cons ?_ (.cons ?_ (.cons ?_ (.nil)))))))))
  all_goals
   intro xF ww2 hR hd K hK
   first | simp only [← hAF, Act.put, setIfInBounds_toArray, set_cons_zero, set_cons_succ] at hK ⊢ | simp only [← hAF, Act.put] at hK ⊢
   clear hAF
   try simp only [Nat.zero_add, Nat.reduceAdd] at hK ⊢
  ·
   clear hd
   obtain hbl := id hR
   have yy := (hR.block _ (lt_of_block Yww1.out)).trans Yww1.out
   have q0 := boxc yy 0 _ rfl
   have q1 := boxc yy 1 _ rfl
   have q2 := boxc yy 2 _ rfl
   have q3 := boxc yy 3 _ rfl
   have q4 := boxc yy 4 _ rfl
   have q5 := boxc yy 5 _ rfl
   have q6 := boxc yy 6 _ rfl
   have q7 := boxc yy 7 _ rfl
   have q8 := boxc yy 8 _ rfl
   rw [if_pos (by rfl)]
   go_simp
   exact hK.out _ _ (Below.refl _ _) (rfl) (fun _ _ _ => ⟨trivial, trivial⟩)
  ·
   clear hd
   obtain hbl := id hR
   rw [if_pos (by rfl)]
   go_simp
   (go_at_call 18; (with_reducible refine (answer_any true none 0 0 _).mono ?_); rintro e wK ⟨rfl, hbK⟩)
   try go_wp2_with fail
   exact hK.out _ _ (hbK) (rfl) (fun _ _ _ => ⟨trivial, trivial⟩)
  ·
   have dd0 := hd 0 (by kernel_rfl)
   have dd1 := hd 1 (by kernel_rfl)
   clear hd
   try generalize xF 0 = yy0 at *
   try generalize xF 1 = yy1 at *
   obtain rfl := dd0
   obtain rfl := dd1
   obtain hbl := id hR
   rw [if_pos (by rfl)]
   refine ftwo_wp rfl rfl ?_
   simp only [Act.put, setIfInBounds_toArray, set_cons_zero, set_cons_succ]
   exact hK.out _ _ (below1) (⟨_, rfl, heap_alloc_new _ _⟩) (fun _ _ _ => ⟨trivial, trivial⟩)
  ·
   have dd2 := hd 2 (by kernel_rfl)
   clear hd
   try generalize xF 2 = yy2 at *
   obtain ⟨h3, rfl, hh3⟩ := dd2
   obtain hbl := id hR
   rw [if_pos (by rfl)]
   go_simp
   (go_at_call 9; (with_reducible refine (judge_n (HMX.out _ (Dww1.out.trans (hR.mono Dww1.out.size))) hh3).mono ?_); rintro e wK ⟨rfl, hbK⟩)
   try go_wp2_with fail
   exact hK.out _ _ (hbK) (rfl) (fun _ _ _ => ⟨trivial, trivial⟩)
  ·
   have dd3 := hd 3 (by kernel_rfl)
   clear hd
   try generalize xF 3 = yy3 at *
   obtain rfl := dd3
   obtain hbl := id hR
   rw [if_pos (by rfl)]
   go_simp
   exact hK.out _ _ (Below.refl _ _) (rfl) (fun _ _ _ => ⟨trivial, trivial⟩)
  ·
   have dd4 := hd 4 (by kernel_rfl)
   clear hd
   try generalize xF 4 = yy4 at *
   obtain rfl := dd4
   obtain hbl := id hR
   rw [if_pos (by rfl)]
   go_simp
   exact hK.out _ _ (Below.refl _ _) (rfl) (fun _ _ _ => ⟨trivial, trivial⟩)
  ·
   have dd4 := hd 4 (by kernel_rfl)
   clear hd
   try generalize xF 4 = yy4 at *
   obtain rfl := dd4
   obtain hbl := id hR
   rw [if_pos (by rfl)]
   go_simp
   exact hK.out _ _ (Below.refl _ _) (rfl) (fun _ _ _ => ⟨trivial, trivial⟩)
  ·
   have dd5 := hd 5 (by kernel_rfl)
   clear hd
   try generalize xF 5 = yy5 at *
   obtain rfl := dd5
   obtain hbl := id hR
   rw [if_pos (by rfl)]
   go_simp
   exact hK.out _ _ (Below.refl _ _) (rfl) (fun _ _ _ => ⟨trivial, trivial⟩)
  ·
   have dd6 := hd 6 (by kernel_rfl)
   clear hd
   try generalize xF 6 = yy6 at *
   obtain rfl := dd6
   obtain hbl := id hR
   rw [if_pos (by rfl)]
   go_simp
   exact hK.out _ _ (Below.refl _ _) (rfl) (fun _ _ _ => ⟨trivial, trivial⟩)
 intro xF ww2 hR hF hP
 clear hP
 have dd0 := hF 0 (by omega) (by decide)
 have dd1 := hF 1 (by omega) (by decide)
 have dd2 := hF 2 (by omega) (by decide)
 have dd3 := hF 3 (by omega) (by decide)
 have dd4 := hF 4 (by omega) (by decide)
 have dd5 := hF 5 (by omega) (by decide)
 have dd6 := hF 6 (by omega) (by decide)
 have dd7 := hF 7 (by omega) (by decide)
 have dd8 := hF 8 (by omega) (by decide)
 clear hF
 simp only [take_succ_cons, take_zero, drop_succ_cons, drop_zero, fillOf, Act.put, setIfInBounds_toArray, set_cons_zero, set_cons_succ, Nat.reduceAdd, Nat.zero_add]
 try generalize xF 0 = yy0 at *
 try generalize xF 1 = yy1 at *
 try generalize xF 2 = yy2 at *
 try generalize xF 3 = yy3 at *
 try generalize xF 4 = yy4 at *
 try generalize xF 5 = yy5 at *
 try generalize xF 6 = yy6 at *
 try generalize xF 7 = yy7 at *
 try generalize xF 8 = yy8 at *
 clear xF
 obtain rfl := dd0
 obtain rfl := dd1
 obtain ⟨h3, rfl, hh3⟩ := dd2
 obtain rfl := dd3
 obtain rfl := dd4
 obtain rfl := dd5
 obtain rfl := dd6
 obtain rfl := dd7
 obtain rfl := dd8
 have hRE2 := Lib.hid hR
 clear hR
 have Dww2 : Hid (Below w.heap.size w ww2) := Dww1.out.trans (hRE2.out.mono Dww1.out.size)
 have Yww2 : Hid (ww2.heap[b2]? = some (.cells #[.int .i64 1, .string sA, .int .i64 0, .int .i64 1, .int .i64 1, .slice none 0 0, .slice none 0 0, .int .i64 0, .bool false] 29)) := (hRE2.out.block _ (lt_of_block Yww1.out)).trans Yww1.out
 go_wp2_with fail
 refine wp_flow 9 (fun _ => 1000) (fun ww => RowKit.Below ww2.heap.size ww2 ww) (fun _ w w' => (fun (w w' : World) => RowKit.Below w.heap.size w w') w w') (fun kF vF wF => match kF with | 0 => (vF = .agg #[.int .i64 1, .string sA, .int .i64 0, .int .i64 1, .int .i64 1, .slice none 0 0, .slice none 0 0, .int .i64 0, .bool false]) | 1 => (vF = .agg #[.int .i64 3, .string ⟨#[]⟩, .int .i64 0, .int .i64 0, .int .i64 0, .slice none 0 0, .slice none 0 0, .int .i64 0, .bool false]) | 2 => (∃ h, vF = .slice (some ⟨h, 0, none⟩) 2 2 ∧ TwoF wF h none 0 0 false) | 3 => (vF = .tuple #[.int .i64 2, .bool true]) | 4 => (vF = .tuple #[.int .i64 2, .bool true]) | 5 => (vF = .int .i64 2) | 6 => (vF = .bool true) | 7 => (vF = .int .i64 2) | 8 => (vF = .bool true) | _ => True) (fun _ _ _ _ => True) (by kernel_rfl) (by kernel_rfl) ?_ ?_ ?_ ?_ ?_
 ·
  exact (Below.refl _ _).drew
 ·
  intro iF wF1 wF2 hR hT; exact hR.trans (hT.mono hR.size)
 ·
  intro kF hkF iF hiF hne hdd hanc hdan vF wF1 wF2 h hT
  rcases (by omega : kF = 0 ∨ kF = 1 ∨ kF = 2 ∨ kF = 3 ∨ kF = 4 ∨ kF = 5 ∨ kF = 6 ∨ kF = 7 ∨ kF = 8) with rfl | rfl | rfl | rfl | rfl | rfl | rfl | rfl | rfl
  iterate 2 exact h
  ·
   have h : (∃ h, vF = .slice (some ⟨h, 0, none⟩) 2 2 ∧ TwoF wF1 h none 0 0 false) := h
   show (∃ h, vF = .slice (some ⟨h, 0, none⟩) 2 2 ∧ TwoF wF2 h none 0 0 false)
   have hT : (fun (w w' : World) => RowKit.Below w.heap.size w w') wF1 wF2 := hT
   simp only at hT
   obtain ⟨a, e, h1⟩ := h
   exact ⟨a, e, TwoF.next h1 hT⟩
  iterate 6 exact h
 ·
  generalize hAF : fillOf _ _ _ = AF
  replace hAF := fun x => congrFun hAF x
  simp only [take_succ_cons, take_zero, fillOf, Act.put, setIfInBounds_toArray, set_cons_zero, set_cons_succ, Nat.reduceAdd, Nat.zero_add] at hAF
  refine .cons ?_ (.cons ?_ (.cons ?_ (.cons ?_ (.cons ?_ (.cons ?_ (.cons ?_ (.cons ?_ (.cons ?_ (.nil)))))))))
  all_goals
   intro xF ww3 hR hd K hK
   first | simp only [← hAF, Act.put, setIfInBounds_toArray, set_cons_zero, set_cons_succ] at hK ⊢ | simp only [← hAF, Act.put] at hK ⊢
   clear hAF
   try simp only [Nat.zero_add, Nat.reduceAdd] at hK ⊢
  ·
   clear hd
   obtain hbl := id hR
   have yy := (hR.block _ (lt_of_block Yww2.out)).trans Yww2.out
   have q0 := boxc yy 0 _ rfl
   have q1 := boxc yy 1 _ rfl
   have q2 := boxc yy 2 _ rfl
   have q3 := boxc yy 3 _ rfl
   have q4 := boxc yy 4 _ rfl
   have q5 := boxc yy 5 _ rfl
   have q6 := boxc yy 6 _ rfl
   have q7 := boxc yy 7 _ rfl
   have q8 := boxc yy 8 _ rfl
   rw [if_pos (by rfl)]
   go_simp
   exact hK.out _ _ (Below.refl _ _) (rfl) (fun _ _ _ => ⟨trivial, trivial⟩)
  ·
   clear hd
   obtain hbl := id hR
   rw [if_pos (by rfl)]
   go_simp
   (go_at_call 18; (with_reducible refine (answer_any false none 0 0 _).mono ?_); rintro e wK ⟨rfl, hbK⟩)
   try go_wp2_with fail
   exact hK.out _ _ (hbK) (rfl) (fun _ _ _ => ⟨trivial, trivial⟩)
  ·
   have dd0 := hd 0 (by kernel_rfl)
   have dd1 := hd 1 (by kernel_rfl)
   clear hd
   try generalize xF 0 = yy0 at *
   try generalize xF 1 = yy1 at *
   obtain rfl := dd0
   obtain rfl := dd1
   obtain hbl := id hR
   rw [if_pos (by rfl)]
   refine ftwo_wp rfl rfl ?_
   simp only [Act.put, setIfInBounds_toArray, set_cons_zero, set_cons_succ]
   exact hK.out _ _ (below1) (⟨_, rfl, heap_alloc_new _ _⟩) (fun _ _ _ => ⟨trivial, trivial⟩)
  ·
   have dd2 := hd 2 (by kernel_rfl)
   clear hd
   try generalize xF 2 = yy2 at *
   obtain ⟨h3, rfl, hh3⟩ := dd2
   obtain hbl := id hR
   rw [if_pos (by rfl)]
   go_simp
   (go_at_call 9; (with_reducible refine (judge_m hh3).mono ?_); rintro e wK ⟨rfl, hbK⟩)
   try go_wp2_with fail
   exact hK.out _ _ (hbK) (rfl) (fun _ _ _ => ⟨trivial, trivial⟩)
  ·
   have dd3 := hd 3 (by kernel_rfl)
   clear hd
   try generalize xF 3 = yy3 at *
   obtain rfl := dd3
   obtain hbl := id hR
   rw [if_pos (by rfl)]
   go_simp
   exact hK.out _ _ (Below.refl _ _) (rfl) (fun _ _ _ => ⟨trivial, trivial⟩)
  ·
   have dd4 := hd 4 (by kernel_rfl)
   clear hd
   try generalize xF 4 = yy4 at *
   obtain rfl := dd4
   obtain hbl := id hR
   rw [if_pos (by rfl)]
   go_simp
   exact hK.out _ _ (Below.refl _ _) (rfl) (fun _ _ _ => ⟨trivial, trivial⟩)
  ·
   have dd4 := hd 4 (by kernel_rfl)
   clear hd
   try generalize xF 4 = yy4 at *
   obtain rfl := dd4
   obtain hbl := id hR
   rw [if_pos (by rfl)]
   go_simp
   exact hK.out _ _ (Below.refl _ _) (rfl) (fun _ _ _ => ⟨trivial, trivial⟩)
  ·
   have dd5 := hd 5 (by kernel_rfl)
   clear hd
   try generalize xF 5 = yy5 at *
   obtain rfl := dd5
   obtain hbl := id hR
   rw [if_pos (by rfl)]
   go_simp
   exact hK.out _ _ (Below.refl _ _) (rfl) (fun _ _ _ => ⟨trivial, trivial⟩)
  ·
   have dd6 := hd 6 (by kernel_rfl)
   clear hd
   try generalize xF 6 = yy6 at *
   obtain rfl := dd6
   obtain hbl := id hR
   rw [if_pos (by rfl)]
   go_simp
   exact hK.out _ _ (Below.refl _ _) (rfl) (fun _ _ _ => ⟨trivial, trivial⟩)
 intro xF ww3 hR hF hP
 clear hP
 have dd0 := hF 0 (by omega) (by decide)
 have dd1 := hF 1 (by omega) (by decide)
 have dd2 := hF 2 (by omega) (by decide)
 have dd3 := hF 3 (by omega) (by decide)
 have dd4 := hF 4 (by omega) (by decide)
 have dd5 := hF 5 (by omega) (by decide)
 have dd6 := hF 6 (by omega) (by decide)
 have dd7 := hF 7 (by omega) (by decide)
 have dd8 := hF 8 (by omega) (by decide)
 clear hF
 simp only [take_succ_cons, take_zero, drop_succ_cons, drop_zero, fillOf, Act.put, setIfInBounds_toArray, set_cons_zero, set_cons_succ, Nat.reduceAdd, Nat.zero_add]
 try generalize xF 0 = yy0 at *
 try generalize xF 1 = yy1 at *
 try generalize xF 2 = yy2 at *
 try generalize xF 3 = yy3 at *
 try generalize xF 4 = yy4 at *
 try generalize xF 5 = yy5 at *
 try generalize xF 6 = yy6 at *
 try generalize xF 7 = yy7 at *
 try generalize xF 8 = yy8 at *
 clear xF
 obtain rfl := dd0
 obtain rfl := dd1
 obtain ⟨h3, rfl, hh3⟩ := dd2
 obtain rfl := dd3
 obtain rfl := dd4
 obtain rfl := dd5
 obtain rfl := dd6
 obtain rfl := dd7
 obtain rfl := dd8
 have hRE3 := Lib.hid hR
 clear hR
 have HB9 : Hid (Below w.heap.size w ww3) := Dww2.out.trans (hRE3.out.mono Dww2.out.size)
 go_wp2
 go_ret
 exact ⟨rfl, HB9.out⟩
end Go.Proofs.YthmnaemcpcdinaaGreat
namespace Go.Proofs.YthmnaemcpcdinaaGreat
open Go Go.RowKit Go.ChangeShapes cl Go.Sort
set_option maxHeartbeats 6400000 in
set_option maxRecDepth 100000 in
theorem errs_any (code : Int) (la : Option Addr) (ln lc : Nat) (st : Bool) (w : World) (hm : MX w) (hl : ln ≤ maxLen) : Calls Tryz.prog 6 #[.int .i64 code, .slice la ln lc, .bool st] w (Said true w) := by
 unfold maxLen at hl
 have HAW : Hid (∀ W, Below w.heap.size w W → Calls Tryz.prog 8 #[] W (Said true W)) := fun W hW => awake_any W (hm.next hW)
 have HFT : Hid (code ≠ 0 → ∀ W, Calls Tryz.prog 11 #[.slice none 0 0, .agg #[.int .i64 3, .string ⟨#[]⟩, .int .i64 0, .int .i64 0, .int .i64 0, .slice none 0 0, .slice la ln lc, .int .i64 code, .bool st]] W (Said (decide (okE code) && decide (ln = 0)) W)) := fun h W => fits_err _ ⟨#[]⟩ (0, 0) 0 code none la 0 0 ln lc st W h hl
 clear hm
 by_cases h20 : 20 < ln
 ·
  have h20I : (20 : Int) < (ln : Int) := by omega
  have HA := Lib.hid (HAW.out w (Below.refl _ _))
  go_enter Tryz.func6, Tryz.ntmps6
  go_wp2_with fail
  (with_reducible refine HA.out.mono ?_)
  rintro e w1 ⟨rfl, hb⟩
  have HB := Lib.hid hb
  clear hb
  go_wp2
  go_ret
  exact ⟨rfl, HB.out⟩
 ·
  have h20I : ¬ (20 : Int) < (ln : Int) := by omega
  have h20b : decide ((20 : Int) < (ln : Int)) = false := decide_eq_false h20I
  by_cases h0 : code = 0
  ·
   subst h0
   have HA := Lib.hid (HAW.out w (Below.refl _ _))
   go_enter Tryz.func6, Tryz.ntmps6
   go_wp2_with fail
   (with_reducible refine HA.out.mono ?_)
   rintro e w1 ⟨rfl, hb⟩
   have HB := Lib.hid hb
   clear hb
   go_wp2
   go_ret
   exact ⟨rfl, HB.out⟩
  ·
   have HF := Lib.hid (HFT.out h0)
   have h0b : (code == 0) = false := by simpa using h0
   obtain ⟨w1, hw1⟩ : ∃ W, W = (w.alloc (.cells #[.int .i64 3, .string ⟨#[]⟩, .int .i64 0, .int .i64 0, .int .i64 0, .slice none 0 0, .slice la ln lc, .int .i64 code, .bool st] 29)).alloc (.cells #[.int .i64 1, .int .i64 4, .int .i64 8, .int .i64 9, .int .i64 11, .int .i64 10, .int .i64 12] 27) := ⟨_, rfl⟩
   have hb1 : Below w.heap.size w w1 := by rw [hw1]; exact below1.alloc (by simp) _
   have HB1 := Lib.hid hb1
   have HW1 := Lib.hid hw1
   clear hb1 hw1 HFT
   by_cases hk : okE code
   ·
    have hn0 : ((ln : Int) == 0) = decide (ln = 0) := by
     by_cases e : ln = 0
     ·
      subst e; rfl
     ·
      rw [decide_eq_false e]; simpa using e
    rw [decide_eq_true hk, Bool.true_and, ← hn0] at HF
    unfold okE at hk
    clear hn0
    rcases hk with rfl | rfl | rfl | rfl | rfl | rfl | rfl
    all_goals
     go_enter Tryz.func6, Tryz.ntmps6
     go_wp2
     refine wp_loop_rounds 8 ?_
     iterate 7 (rw [rounds_succ]; go_wp2)
     rw [rounds_succ]
     go_wp2_with fail
     rw [← HW1.out]
     (with_reducible refine (HF.out _).mono ?_)
     rintro e w3 ⟨rfl, hb3⟩
     have HA := Lib.hid (HAW.out w3 (HB1.out.trans (hb3.mono HB1.out.size)))
     have HB3 := Lib.hid (HB1.out.trans (hb3.mono HB1.out.size))
     clear hb3
     go_wp2_with fail
     (with_reducible refine HA.out.mono ?_)
     rintro e w4 ⟨rfl, hb4⟩
     have HB4 := Lib.hid (HB3.out.trans (hb4.mono HB3.out.size))
     clear hb4
     go_wp2
     go_ret
     exact ⟨rfl, HB4.out⟩
   ·
    rw [decide_eq_false hk, Bool.false_and] at HF
    unfold okE at hk
    have e1 : (1 == code) = false := by simp; omega
    have e2 : (4 == code) = false := by simp; omega
    have e3 : (8 == code) = false := by simp; omega
    have e4 : (9 == code) = false := by simp; omega
    have e5 : (11 == code) = false := by simp; omega
    have e6 : (10 == code) = false := by simp; omega
    have e7 : (12 == code) = false := by simp; omega
    go_enter Tryz.func6, Tryz.ntmps6
    go_wp2
    refine wp_loop_rounds 8 ?_
    iterate 7 (rw [rounds_succ]; go_wp2)
    rw [rounds_succ]
    go_wp2_with fail
    rw [← HW1.out]
    (with_reducible refine (HF.out _).mono ?_)
    rintro e w3 ⟨rfl, hb3⟩
    have HA := Lib.hid (HAW.out w3 (HB1.out.trans (hb3.mono HB1.out.size)))
    have HB3 := Lib.hid (HB1.out.trans (hb3.mono HB1.out.size))
    clear hb3
    go_wp2_with fail
    (with_reducible refine HA.out.mono ?_)
    rintro e w4 ⟨rfl, hb4⟩
    have HB4 := Lib.hid (HB3.out.trans (hb4.mono HB3.out.size))
    clear hb4
    go_wp2
    go_ret
    exact ⟨rfl, HB4.out⟩
end Go.Proofs.YthmnaemcpcdinaaGreat
namespace Go.Proofs.YthmnaemcpcdinaaGreat.close
open Go.RowKit Go.WideShapes Go.ChangeShapes
section
variable {H : Type} {enc : TypeId × Value → H} {P : Program}
theorem trodAll_stays (hl : laidOutB P = true) {W W' : World} (hb : Below W.heap.size W W') :
  ∀ (ts : List TypeId) (vs : List Value) (ds : List (DataW H)) (ps : List MemPlace), (∀ t ∈ ts, P.readableRec t = true ∧ t < P.types.size) → (∀ x ∈ ps, x.block < W.heap.size) →
   DataW.TrodAll enc P W 0 (fun _ => true) true ts vs ds ps → DataW.TrodAll enc P W' 0 (fun b => decide (b < W.heap.size)) true ts vs ds ps := by
 intro ts
 induction ts with
 | nil =>
  intro vs ds ps _ _ h
  obtain ⟨rfl, rfl, rfl⟩ := trodAll_nil h
  exact rfl
 | cons t ts ih =>
  intro vs ds ps ht hlt h
  obtain ⟨v, vs', d, ds', p, q, rfl, rfl, rfl, h0, r0⟩ := trodAll_cons h
  have h1 := ht t (List.mem_cons_self ..)
  exact ⟨p, q, Below.trod hl h1.1 h1.2 h0 hb (fun x hx => hlt x (List.mem_append_left _ hx)),
   ih _ _ _ (fun u hu => ht u (List.mem_cons_of_mem _ hu)) (fun x hx => hlt x (List.mem_append_right _ hx)) r0, rfl⟩
theorem law_post (hl : laidOutB P = true) {f : Func} {s : ChangeSpec} {apart fresh handsOn : Bool} {W W' : World} {args : Array Value} {ds gs : List (DataW H)} {before : List MemPlace} {tb : TypeId}
  (hts : ∀ t ∈ f.params.toList, P.readableRec t = true ∧ t < P.types.size) (hvars : s.vars = []) (hrt : f.resultTypes = #[tb]) (hb4 : P.underlying tb = some .bool)
  (hW : DataW.Whole enc P f.params.toList s.vars apart W args.toList ds gs before) (hs : s.fn H (ds ++ gs) = { results := [.lit (.bool true)], args := ds, vars := [] })
  (hb : Below W.heap.size W W') : s.post enc P f apart fresh handsOn false W args (.bool true) W' := by
 have hlt : ∀ p ∈ before, p.block < W.heap.size := fun p hp => hW.lt p hp
 have hW' := hW
 obtain ⟨p, q, hA, hV, rfl, _, _⟩ := hW'
 rw [hvars] at hV
 obtain ⟨rfl, rfl⟩ := trodVars_none hV
 refine ⟨ds, [], p ++ [], [], p, [], hW, ?_, ?_, ?_, World.keptBut_mono (fun x hx => ⟨hx, Or.inr (Or.inl (by simpa using hx))⟩) (hb.frame (· ∈ p ++ [])), fun h => by cases h⟩
 ·
  rw [hs, hrt]
  exact trodAll_cons_mk (shut_bool hb4 true) trodAll_mk0
 ·
  rw [hs]
  exact trodAll_stays hl hb _ _ _ _ hts (fun x hx => hlt x (List.mem_append_left _ hx)) hA
 ·
  rw [hs, hvars]
  exact rfl
end
end Go.Proofs.YthmnaemcpcdinaaGreat.close
