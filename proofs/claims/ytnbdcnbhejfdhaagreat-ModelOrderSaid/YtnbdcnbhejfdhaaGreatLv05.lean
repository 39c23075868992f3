/- texts put together: FlowG, MdMat, MdSer, MdChs, LabCanon. -/
import Derived.Test.YtnbdcnbhejfdhaaGreatLv01
import Derived.Test.YtnbdcnbhejfdhaaGreatLv02
import Derived.Test.YtnbdcnbhejfdhaaGreatLv03
import Derived.Test.YtnbdcnbhejfdhaaGreatLv04
namespace Go
section
variable {P : Program} {ops : Array Oper} {Q : Exit → Act → World → Prop}
def FlowStepG (P : Program) (ops : Array Oper) (Q : Exit → Act → World → Prop) (fill : (Nat → Value) → Act) (n : Nat) (die : Nat → Nat) (R : World → Prop) (T : Nat → World → World → Prop) (G : Nat → World → Prop) (F : Nat → Value → World → Prop) (P2 : Nat → Nat → Value → Value → Prop) (i : Nat) (o : Oper) : Prop :=
 ∀ x w, R w → (∀ s, s < n → (s == i || (flowAnc ops s).contains i) = true → G s w) → (∀ j, ((flowPred ops i).contains j && (die j == i || decide (n ≤ die j))) = true → F j (x j) w) → ∀ K : Act → World → Prop, Shut (∀ v w', T i w w' → F i v w' → (∀ j u, F j u w → P2 i j v u ∧ P2 j i u v) → K ((fill x).put o.dst v) w') →
  if Region.wanted o (yielded ops (fill x).tmps) then o.wp P (fill x) w K Q else K ((fill x).put o.dst undef) w
def FlowAllG (P : Program) (ops : Array Oper) (Q : Exit → Act → World → Prop) (fill : (Nat → Value) → Act) (n : Nat) (die : Nat → Nat) (R : World → Prop) (T : Nat → World → World → Prop) (G : Nat → World → Prop) (F : Nat → Value → World → Prop) (P2 : Nat → Nat → Value → Value → Prop) : Nat → List Oper → Prop
 | _, [] => True
 | i, o :: r => FlowStepG P ops Q fill n die R T G F P2 i o ∧ FlowAllG P ops Q fill n die R T G F P2 (i + 1) r
theorem FlowAllG.nil {fill : (Nat → Value) → Act} {n : Nat} {die : Nat → Nat} {R : World → Prop} {T : Nat → World → World → Prop} {G : Nat → World → Prop} {F : Nat → Value → World → Prop} {P2 : Nat → Nat → Value → Value → Prop} {i : Nat} : FlowAllG P ops Q fill n die R T G F P2 i [] := trivial
theorem FlowAllG.cons {fill : (Nat → Value) → Act} {n : Nat} {die : Nat → Nat} {R : World → Prop} {T : Nat → World → World → Prop} {G : Nat → World → Prop} {F : Nat → Value → World → Prop} {P2 : Nat → Nat → Value → Value → Prop} {i : Nat} {o : Oper} {r : List Oper} (h : FlowStepG P ops Q fill n die R T G F P2 i o) (h2 : FlowAllG P ops Q fill n die R T G F P2 (i + 1) r) : FlowAllG P ops Q fill n die R T G F P2 i (o :: r) := ⟨h, h2⟩
theorem FlowAllG.get {fill : (Nat → Value) → Act} {n : Nat} {die : Nat → Nat} {R : World → Prop} {T : Nat → World → World → Prop} {G : Nat → World → Prop} {F : Nat → Value → World → Prop} {P2 : Nat → Nat → Value → Value → Prop} : ∀ {l : List Oper} {i k : Nat} {o : Oper}, FlowAllG P ops Q fill n die R T G F P2 i l → l[k]? = some o → FlowStepG P ops Q fill n die R T G F P2 (i + k) o := by
 intro l
 induction l with
 | nil => intro i k o _ h; simp at h
 | cons p r ih =>
  intro i k o h ho
  cases k with
  | zero => simp only [List.getElem?_cons_zero, Option.some.injEq] at ho; subst ho; exact h.1
  | succ k => simp only [List.getElem?_cons_succ] at ho; have := ih h.2 ho; rwa [show i + (k + 1) = i + 1 + k by omega]
end
end Go
namespace Go.Proofs.YtnbdcnbhejfdhaaGreat
open Go Go.RowKit Go.ChangeShapes cl
set_option maxHeartbeats 800000 in
set_option maxRecDepth 100000 in
theorem plain_one (q : Nat) (w : World) (h0 : w.cell? ⟨q, 0, none⟩ = some (.int .i64 1)) : Calls Tryz.prog 109 #[.pointer (some ⟨q, 0, none⟩)] w fun e w' => e = .returned (.bool true) ∧ w' = w := by
 go_enter Tryz.func109, Tryz.ntmps109
 go_wp2
 go_ret
 exact ⟨rfl, rfl⟩
set_option maxHeartbeats 800000 in
set_option maxRecDepth 100000 in
theorem not_one (q : Nat) (w : World) (h0 : w.cell? ⟨q, 0, none⟩ = some (.int .i64 1)) : Calls Tryz.prog 110 #[.pointer (some ⟨q, 0, none⟩)] w fun e w' => e = .returned (.bool false) ∧ w' = w := by
 go_enter Tryz.func110, Tryz.ntmps110
 go_wp2
 go_ret
 exact ⟨rfl, rfl⟩
set_option maxHeartbeats 800000 in
set_option maxRecDepth 100000 in
theorem check_one (q : Nat) (nm vl : ByteArray) (w : World) (h0 : w.cell? ⟨q, 0, none⟩ = some (.int .i64 1)) (h1 : w.cell? ⟨q, 1, none⟩ = some (.string nm)) (h2 : w.cell? ⟨q, 2, none⟩ = some (.string vl)) (hq : q < w.heap.size)
  (hn : ∀ W, Calls Tryz.prog 104 #[.string nm] W (Said true W)) (hv : ∀ W, Calls Tryz.prog 105 #[.string vl] W (Said true W)) :
  Calls Tryz.prog 108 #[.pointer (some ⟨q, 0, none⟩)] w fun e w' => e = .returned (.int .i64 0) ∧ Below w.heap.size w w' := by
 have HN := Lib.hid hn
 have HV := Lib.hid hv
 have HP : Hid (∀ W, Below w.heap.size w W → Calls Tryz.prog 109 #[.pointer (some ⟨q, 0, none⟩)] W fun e w' => e = .returned (.bool true) ∧ w' = W) := fun W hW => plain_one q W ((hW.cell (p := ⟨q, 0, none⟩) hq).trans h0)
 have H2 : Hid (∀ W, Below w.heap.size w W → W.cell? ⟨q, 2, none⟩ = some (.string vl)) := fun W hW => (hW.cell (p := ⟨q, 2, none⟩) hq).trans h2
 clear hn hv h2
 go_enter Tryz.func108, Tryz.ntmps108
 go_wp2_with fail
 (with_reducible refine (HN.out _).mono ?_)
 rintro e w1 ⟨rfl, hb1⟩
 have HB1 := Lib.hid hb1
 have c2 := H2.out _ hb1
 clear hb1
 go_wp2_with fail
 (with_reducible refine (HP.out _ HB1.out).mono ?_)
 rintro e w2 ⟨rfl, rfl⟩
 go_wp2_with fail
 (with_reducible refine (HV.out _).mono ?_)
 rintro e w3 ⟨rfl, hb3⟩
 have HB3 := Lib.hid (HB1.out.trans (hb3.mono HB1.out.size))
 clear hb3
 go_wp2
 go_ret
 exact ⟨rfl, HB3.out⟩
set_option maxHeartbeats 1600000 in
set_option maxRecDepth 100000 in
theorem accepts_other (q : Nat) (nm vl s : ByteArray) (w : World) (h0 : w.cell? ⟨q, 0, none⟩ = some (.int .i64 1)) (h1 : w.cell? ⟨q, 1, none⟩ = some (.string nm)) (h2 : w.cell? ⟨q, 2, none⟩ = some (.string vl)) (hq : q < w.heap.size)
  (hn : ∀ W, Calls Tryz.prog 104 #[.string nm] W (Said true W)) (hv : ∀ W, Calls Tryz.prog 105 #[.string vl] W (Said true W)) (hne : s ≠ vl) :
  Calls Tryz.prog 68 #[.pointer (some ⟨q, 0, none⟩), .string s] w (Said false w) := by
 have HC := Lib.hid (check_one q nm vl w h0 h1 h2 hq hn hv)
 have HP : Hid (∀ W, Below w.heap.size w W → Calls Tryz.prog 109 #[.pointer (some ⟨q, 0, none⟩)] W fun e w' => e = .returned (.bool true) ∧ w' = W) := fun W hW => plain_one q W ((hW.cell (p := ⟨q, 0, none⟩) hq).trans h0)
 have HT : Hid (∀ W, Below w.heap.size w W → ∀ q' : Nat, Calls Tryz.prog 110 #[.pointer (some ⟨q, 0, none⟩)] (W.drewN q') fun e w' => e = .returned (.bool false) ∧ w' = W.drewN q') := fun W hW q' => not_one q _ (((below_drewN hW q').cell (p := ⟨q, 0, none⟩) hq).trans h0)
 have H2 : Hid (∀ W, Below w.heap.size w W → W.cell? ⟨q, 2, none⟩ = some (.string vl)) := fun W hW => (hW.cell (p := ⟨q, 2, none⟩) hq).trans h2
 have hs1 : (s.toList == vl.toList) = false := by rw [toList_beq]; exact decide_eq_false hne
 have hs2 : ¬ s.toList = vl.toList := fun e => hne (toList_inj e)
 clear hn hv h0 h1 h2 hne
 go_enter Tryz.func68, Tryz.ntmps68
 go_wp2_with fail
 (with_reducible refine HC.out.mono ?_)
 rintro e w1 ⟨rfl, hb1⟩
 have HB1 := Lib.hid hb1
 have c2 := H2.out _ hb1
 have HT1 : Hid (∀ q' : Nat, Calls Tryz.prog 110 #[.pointer (some ⟨q, 0, none⟩)] (w1.drewN q') fun e w' => e = .returned (.bool false) ∧ w' = w1.drewN q') := fun q' => HT.out _ hb1 q'
 have HBQ : Hid (∀ q, Below w.heap.size w (w1.drewN q)) := fun q => below_drewN hb1 q
 clear hb1
 go_wp2_with fail
 (with_reducible refine (HP.out _ HB1.out).mono ?_)
 rintro e w2 ⟨rfl, rfl⟩
 clear HC HP HT
 go_wp2_with fail
 go_quiet ((go_at_call 110; exact Calls.quiet_of_same (HT1.out _)))
 go_wp2
 go_ret
 exact ⟨rfl, HBQ.out _⟩
set_option maxHeartbeats 1600000 in
set_option maxRecDepth 100000 in
theorem maccepts_other (nm vl s : ByteArray) (w : World)
  (hn : ∀ W, Calls Tryz.prog 104 #[.string nm] W (Said true W)) (hv : ∀ W, Calls Tryz.prog 105 #[.string vl] W (Said true W)) (hne : s ≠ vl) :
  Calls Tryz.prog 44 #[.agg #[.int .i64 1, .string nm, .string vl], .string s] w (Said false w) := by
 obtain ⟨w2, hw2⟩ : ∃ W, W = (w.alloc (.cells #[.int .i64 1, .string nm, .string vl] 54)).alloc (.cells #[.int .i64 1, .string nm, .string vl, .int .u32 0, .int .i32 0, .int .u32 0, .slice none 0 0, .int .i64 0, .int .i64 0, .slice none 0 0, .slice none 0 0, .int .i64 0] 128) := ⟨_, rfl⟩
 have hb2 : Below w.heap.size w w2 := by rw [hw2]; exact below1.alloc (by simp) _
 have x2 : w2.heap[w.heap.size + 1]? = some (.cells #[.int .i64 1, .string nm, .string vl, .int .u32 0, .int .i32 0, .int .u32 0, .slice none 0 0, .int .i64 0, .int .i64 0, .slice none 0 0, .slice none 0 0, .int .i64 0] 128) := by
  have := heap_alloc_new (w.alloc (.cells #[.int .i64 1, .string nm, .string vl] 54)) (.cells #[.int .i64 1, .string nm, .string vl, .int .u32 0, .int .i32 0, .int .u32 0, .slice none 0 0, .int .i64 0, .int .i64 0, .slice none 0 0, .slice none 0 0, .int .i64 0] 128)
  rw [World.size_alloc] at this
  rw [hw2]; exact this
 have HA := Lib.hid (accepts_other (w.heap.size + 1) nm vl s w2 (boxc x2 0 _ rfl) (boxc x2 1 _ rfl) (boxc x2 2 _ rfl) (lt_of_block x2) hn hv hne)
 have HW := Lib.hid hw2
 have HB := Lib.hid hb2
 clear hn hv hne hw2 hb2 x2
 go_enter Tryz.func44, Tryz.ntmps44
 go_wp2_with fail
 rw [← HW.out]
 (with_reducible refine HA.out.mono ?_)
 rintro e w3 ⟨rfl, hb3⟩
 have HB3 := Lib.hid (HB.out.trans (hb3.mono HB.out.size))
 clear hb3
 go_wp2
 go_ret
 exact ⟨rfl, HB3.out⟩
end Go.Proofs.YtnbdcnbhejfdhaaGreat
namespace Go.Proofs.YtnbdcnbhejfdhaaGreat
open Go Go.RowKit Go.ChangeShapes cl Go.Sort
set_option maxHeartbeats 800000 in
set_option maxRecDepth 100000 in
theorem ins_one (b : Nat) (cap : Nat) (f : Value) (w : World) : Calls Tryz.prog 88 #[.slice (some ⟨b, 0, none⟩) 1 cap, .int .i64 0, .int .i64 1, f] w fun e w' => e = .returned (.tuple #[]) ∧ w' = w := by
 go_enter Tryz.func88, Tryz.ntmps88
 go_wp2
 refine wp_loop_rounds 1 ?_
 rw [rounds_succ]
 go_wp2
 go_end0
 exact ⟨rfl, rfl⟩
set_option maxHeartbeats 800000 in
set_option maxRecDepth 100000 in
theorem pdq_one (b : Nat) (cap : Nat) (k : Int) (f : Value) (w : World) : Calls Tryz.prog 53 #[.slice (some ⟨b, 0, none⟩) 1 cap, .int .i64 0, .int .i64 1, .int .i64 k, f] w fun e w' => e = .returned (.tuple #[]) ∧ w' = w := by
 have HI := Lib.hid (ins_one b cap f w)
 go_enter Tryz.func53, Tryz.ntmps53
 go_wp2
 refine wp_loop_rounds 1 ?_
 rw [rounds_succ]
 go_wp2_with fail
 (with_reducible refine HI.out.mono ?_)
 rintro e w1 ⟨rfl, rfl⟩
 go_wp2
 exact bodyPost_ret (v := .tuple #[]) (by simp [results, Tryz.results53, go_sem]) rfl ⟨rfl, rfl⟩
set_option maxHeartbeats 800000 in
set_option maxRecDepth 100000 in
theorem sort_one (b : Nat) (cap : Nat) (f : Value) (w : World) : Calls Tryz.prog 33 #[.slice (some ⟨b, 0, none⟩) 1 cap, f] w fun e w' => e = .returned (.tuple #[]) ∧ w' = w := by
 have HB := Lib.hid (Tryz.bits_Len 1 w (by omega) (by omega))
 have HP : Hid (∀ k : Int, Calls Tryz.prog 53 #[.slice (some ⟨b, 0, none⟩) 1 cap, .int .i64 0, .int .i64 1, .int .i64 k, f] w fun e w' => e = .returned (.tuple #[]) ∧ w' = w) := fun k => pdq_one b cap k f w
 go_enter Tryz.func33, Tryz.ntmps33
 go_wp2_with fail
 (with_reducible refine HB.out.mono ?_)
 rintro e w1 ⟨rfl, rfl⟩
 go_wp2_with fail
 (with_reducible refine (HP.out _).mono ?_)
 rintro e w2 ⟨rfl, rfl⟩
 go_wp2
 go_end0
 exact ⟨rfl, rfl⟩
theorem infoStrO : (Tryz.prog.info? 9).map (fun i => (i.zero, i.size, i.bytes)) = some (some (.string ⟨#[]⟩), 1, 16) := by kernel_rfl
theorem lcell_get {w : World} {B c : Nat} {ao : Option Addr} {x : Lv} (h : Cells w B (.slice ao 1 c) 1 4 (lcell x)) : ∃ b off, ao = some ⟨b, off, none⟩ ∧ b < B ∧ w.cell? ⟨b, off, none⟩ = some (.string x.s) ∧ w.cell? ⟨b, off + 1, none⟩ = some (.int .i64 x.d.1) ∧ w.cell? ⟨b, off + 2, none⟩ = some (.int .i64 x.d.2) ∧ w.cell? ⟨b, off + 3, none⟩ = some (.int .i64 x.t) := by
 obtain ⟨_, ao', c', e, _, _, h4⟩ := h
 simp only [Value.slice.injEq] at e
 obtain ⟨rfl, _, rfl⟩ := e
 obtain ⟨b, off, rfl, hB, hc⟩ := h4 (by omega)
 exact ⟨b, off, rfl, hB, hc 0 _ rfl, hc 1 _ rfl, hc 2 _ rfl, hc 3 _ rfl⟩
def SerP (x : Lv) (w : World) (e : Ending) (w' : World) : Prop := ∃ g cap, e = .returned (.slice (some ⟨g, 0, none⟩) 1 cap) ∧ w'.ownsRow w.heap.size 9 1 (.slice (some ⟨g, 0, none⟩) 1 cap) 1 [.string x.s] ∧ Below w.heap.size w w'
set_option maxHeartbeats 1600000 in
set_option maxRecDepth 100000 in
theorem series_one (x : Lv) (v : Value) (w : World) (h : Cells w w.heap.size v 1 4 (lcell x)) : Calls Tryz.prog 14 #[v] w (SerP x w) := by
 obtain ⟨ao, cap, e0, _, _⟩ := h.form
 subst e0
 obtain ⟨bb, off, rfl, hbB, p0, p1, p2, p3⟩ := lcell_get h
 clear h
 have HO0 : Hid ((w.alloc (.cells #[.string x.s, .int .i64 x.d.1, .int .i64 x.d.2, .int .i64 x.t] 43)).ownsRow w.heap.size 9 1 (.slice none 0 0) 0 []) := World.ownsRow_nil _ _ _ _
 have HZ0 : Hid (w.heap.size ≤ (w.alloc (.cells #[.string x.s, .int .i64 x.d.1, .int .i64 x.d.2, .int .i64 x.t] 43)).heap.size) := by show _ ≤ _; simp
 go_enter Tryz.func14, Tryz.ntmps14
 go_wp2
 refine wp_loop_rounds 2 ?_
 rw [rounds_succ]
 go_wp2_with (at_builtin; refine app1g (.tmp 12) (.tmp 15) 31 rfl rfl w.heap.size Tryz.underlying31 infoStrO rfl (by decide) (by decide) HO0.out rfl (by show Value.slice (some ⟨w.heap.size + 1, 0, none⟩) 1 1 = Value.slice (some ⟨World.heap _ |>.size, 0, none⟩) 1 1; simp) rfl (by intro u hu; simp at hu; rcases hu with rfl; rfl) (by omega) HZ0.out ?_)
 intro v' w5 hown hg5
 have hb5 : Below w.heap.size w w5 := (below1.alloc (by simp) _).grown hg5 (by simp; omega) (fun j hj => by cases hj)
 have HOWN := Lib.hid hown
 rcases hown.2 with ⟨rfl, h0⟩ | ⟨g, gc, cur, rfl, hbg, hg, hnc, hcm, hcs, htk⟩
 ·
  cases h0
 have hH : Holds encStr w5 g 0 (([x.s.data.toList] : List (List UInt8)).toArray) := fun j hj => by
  have hj0 : j = 0 := by simpa using hj
  subst hj0
  refine ⟨?_, by simp [World.frozen?, hg]⟩
  have := hown.cells (g := g) rfl 0 (.string x.s) rfl
  rw [Addr.add_lit] at this
  simpa using this
 have HS := Lib.hid (sort_one g gc (.func (.func 34) #[] #[]) w5)
 have HC : Hid (Calls Tryz.prog 35 #[.slice (some ⟨g, 0, none⟩) 1 gc] w5 fun e w' => e = .returned (.slice (some ⟨g, 0, none⟩) 1 gc) ∧ Below w5.heap.size w5 w') :=
  (Tryz.slices_Compact_string g 0 gc [x.s.data.toList] w5 hH (by simp) (by simpa using hnc)).mono (by
   rintro e w' ⟨rfl, q, rfl⟩
   refine ⟨rfl, ?_⟩
   have hh := putRow_self encStr (Sort.ahead w5 q) g 0 (([x.s.data.toList] : List (List UInt8)).toArray) (holds_ahead encStr w5 q g 0 _ hH)
   show Below _ _ (putRow encStr (Sort.ahead w5 q) g 0 (([x.s.data.toList] : List (List UInt8)).toArray))
   rw [hh]
   exact ⟨rfl, rfl, rfl, Nat.le_refl _, fun _ _ => rfl⟩)
 have HB5 := Lib.hid hb5
 clear hown hg5 hb5 hbg hg hnc hcm hcs htk hH
 go_wp2
 rw [rounds_succ]
 go_wp2_with fail
 (with_reducible refine HS.out.mono ?_)
 rintro e w6 ⟨rfl, rfl⟩
 go_wp2_with fail
 (with_reducible refine HC.out.mono ?_)
 rintro e w7 ⟨rfl, hb7⟩
 have HR : Hid (SerP x w (.returned (.slice (some ⟨g, 0, none⟩) 1 gc)) w7) := ⟨g, gc, rfl, own_stay HOWN.out hb7, HB5.out.trans (hb7.mono HB5.out.size)⟩
 clear hb7
 go_wp2
 go_ret
 exact HR.out
end Go.Proofs.YtnbdcnbhejfdhaaGreat
namespace Go.Proofs.YtnbdcnbhejfdhaaGreat
open Go Go.RowKit Go.ChangeShapes cl Go.Sort
set_option maxHeartbeats 800000 in
set_option maxRecDepth 100000 in
theorem rising_one (s : ByteArray) (B g cap : Nat) (w : World) (h : w.ownsRow B 9 1 (.slice (some ⟨g, 0, none⟩) 1 cap) 1 [.string s]) : Calls Tryz.prog 55 #[.slice (some ⟨g, 0, none⟩) 1 cap] w fun e w' => e = .returned (.slice (some ⟨g, 0, none⟩) 1 cap) ∧ Below w.heap.size w w' := by
 have hown := h
 rcases h.2 with ⟨_, h0⟩ | ⟨g', gc, cur, e, hbg, hg, hnc, hcm, hcs, htk⟩
 ·
  cases h0
 simp only [Value.slice.injEq, Option.some.injEq, Addr.mk.injEq, and_true, true_and] at e
 obtain ⟨rfl, rfl⟩ := e
 have hH : Holds encStr w g 0 (([s.data.toList] : List (List UInt8)).toArray) := fun j hj => by
  have hj0 : j = 0 := by simpa using hj
  subst hj0
  refine ⟨?_, by simp [World.frozen?, hg]⟩
  have := hown.cells (g := g) rfl 0 (.string s) rfl
  rw [Addr.add_lit] at this
  simpa using this
 have HS := Lib.hid (sort_one g cap (.func (.func 34) #[] #[]) w)
 have HC : Hid (Calls Tryz.prog 35 #[.slice (some ⟨g, 0, none⟩) 1 cap] w fun e w' => e = .returned (.slice (some ⟨g, 0, none⟩) 1 cap) ∧ Below w.heap.size w w') :=
  (Tryz.slices_Compact_string g 0 cap [s.data.toList] w hH (by simp) (by simpa using hnc)).mono (by
   rintro e w' ⟨rfl, q, rfl⟩
   refine ⟨rfl, ?_⟩
   have hh := putRow_self encStr (Sort.ahead w q) g 0 (([s.data.toList] : List (List UInt8)).toArray) (holds_ahead encStr w q g 0 _ hH)
   show Below _ _ (putRow encStr (Sort.ahead w q) g 0 (([s.data.toList] : List (List UInt8)).toArray))
   rw [hh]
   exact ⟨rfl, rfl, rfl, Nat.le_refl _, fun _ _ => rfl⟩)
 clear h hown hbg hg hnc hcm hcs htk hH
 go_enter Tryz.func55, Tryz.ntmps55
 go_wp2_with fail
 (with_reducible refine HS.out.mono ?_)
 rintro e w6 ⟨rfl, rfl⟩
 go_wp2_with fail
 (with_reducible refine HC.out.mono ?_)
 rintro e w7 ⟨rfl, hb7⟩
 have HR := Lib.hid hb7
 clear hb7
 go_wp2
 go_ret
 exact ⟨rfl, HR.out⟩
end Go.Proofs.YtnbdcnbhejfdhaaGreat
namespace Go.Proofs.YtnbdcnbhejfdhaaGreat.lm
theorem canon_fault {l : List Lab} {f : Int} (h : faults [] l = f) (hf : f ≠ 0) : canonF l = (f, []) := by
 unfold canonF
 rw [h, if_neg hf]
theorem take_snoc {l : List Lab} {k : Nat} {x : Lab} (hk : k < l.length) (hx : x = l.getD k (.empty, .empty)) : l.take (k + 1) = l.take k ++ [x] := by
 rw [List.take_succ_eq_append_getElem hk, hx]
 simp [List.getD, hk]
theorem faults_step {l : List Lab} {k : Nat} {x : Lab} (hk : k < l.length) (hx : x = l.getD k (.empty, .empty)) : faults (l.take k) (l.drop k) = if fault (l.take k) x = 0 then faults (l.take (k + 1)) (l.drop (k + 1)) else fault (l.take k) x := by
 have e : l[k] = x := by rw [hx]; simp [List.getD, hk]
 rw [List.drop_eq_getElem_cons hk, take_snoc hk hx, e]
 rfl
theorem good_step {l : List Lab} {k : Nat} {x : Lab} (hk : k < l.length) (hx : x = l.getD k (.empty, .empty)) (hg : Good (l.take k)) (hf : fault (l.take k) x = 0) : Good (l.take (k + 1)) := by
 rw [take_snoc hk hx]
 refine (faults_zero [x] (l.take k) hg).1 ?_
 unfold faults
 rw [if_pos hf]; rfl
theorem kept_step {l : List Lab} {k : Nat} {x : Lab} (hk : k < l.length) (hx : x = l.getD k (.empty, .empty)) : kept (l.take (k + 1)) = if x.2 = .empty then kept (l.take k) else kept (l.take k) ++ [x] := by
 rw [take_snoc hk hx, kept_app, kept_one]
 split <;> simp
theorem names_step {l : List Lab} {k : Nat} {x : Lab} (hk : k < l.length) (hx : x = l.getD k (.empty, .empty)) : names (l.take (k + 1)) = names (l.take k) ++ [x.1] := by
 rw [take_snoc hk hx, names_app]; rfl
end Go.Proofs.YtnbdcnbhejfdhaaGreat.lm
namespace Go.Proofs.YtnbdcnbhejfdhaaGreat
open Go.RowKit Go.ChangeShapes Go.Maps Go.WideMaps cl Go.Sort
theorem grown_of {W W' : World} (hb : Below W.heap.size W W') : W.grownBy W' none := ⟨hb.os, hb.tape, hb.output, hb.size, fun i hi _ => hb.block i hi⟩
theorem grown_cell {w w' : World} {row : Option Nat} (hg : w.grownBy w' row) {p : Addr} (hp : p.block < w.heap.size) (hne : some p.block ≠ row) : w'.cell? p = w.cell? p :=
 World.cell?_of_block (hg.block p.block hp hne)
def SortP (g cap q B : Nat) (L : List Lab) (w : World) (e : Ending) (w' : World) : Prop := e = .returned (.tuple #[]) ∧ w'.ownsRow B 82 2 (.slice (some ⟨g, 0, none⟩) q cap) q (lcells L) ∧ Below B w w'
theorem sort_any (g cap q B : Nat) (L : List Lab) (w : World) (hown : w.ownsRow B 82 2 (.slice (some ⟨g, 0, none⟩) q cap) q (lcells L)) (hq : q = L.length) (h6 : q ≤ 12) (hn : (lm.names L).Nodup) (hB : B ≤ w.heap.size) :
  Calls Tryz.prog 106 #[.slice (some ⟨g, 0, none⟩) q cap, .func (.func 107) #[] #[]] w (SortP g cap q B (lm.sortN L) w) := by
 subst hq
 have hown' : w.ownsRow B 82 2 (.slice (some ⟨g, 0, none⟩) L.length cap) L.length (L.flatMap lb.enc) := hown
 obtain ⟨hH, hg, _, hafter⟩ := kit.sort_own (enc := lb.enc) (fun _ => rfl) (by decide) hown' rfl hB
 have hcon := lb.sortFunc g 0 cap L.toArray w hH hg (by simpa using h6)
 rw [List.size_toArray] at hcon
 refine hcon.mono ?_
 rintro e w' ⟨rfl, n, os, rfl⟩
 have hins := insertionSort_holds (lt := ltOf lb.cf) lm.swo L.toArray 0 L.length (Nat.zero_le _) (by simp)
 have hsz : (Sort.insertionSort (ltOf lb.cf) L.toArray 0 L.length).size = L.length := by rw [hins.1.1]; simp
 obtain ⟨h1, h2⟩ := hafter _ n os hsz
 rw [lm.sorted_is hn (by rw [List.size_toArray]; exact hins.1) (by rw [List.size_toArray]; exact hins.2)] at h1
 exact ⟨rfl, h1, h2⟩
theorem lcells_two {xa xb : ByteArray} : ∀ u ∈ (#[.string xa, .string xb] : Array Value).toList, u.oneCell' = true := by
 intro u hu
 simp only [List.mem_cons, List.not_mem_nil, or_false] at hu
 rcases hu with rfl | rfl <;> rfl
theorem ret8 {R : Int × List Lab} {f : Int} {w W : World} (h : R = (f, [])) (hb : Below w.heap.size w W) : CanonP R w (.returned (.tuple #[.slice none 0 0, .int .i64 f])) W := by
 rw [h]
 exact ⟨_, rfl, Cells.nil _ _ _, hb⟩
set_option maxHeartbeats 6400000 in
set_option maxRecDepth 100000 in
theorem canon_any (l : List Lab) (v : Value) (w : World) (h : Labs w w.heap.size v l) (hs : ∀ x ∈ l, x.1.size ≤ maxLen ∧ x.2.size ≤ maxLen) (hl6 : l.length ≤ 100000) :
  Calls Tryz.prog 65 #[v] w (CanonP (lm.canonF l) w) := by
 have hmm := @run_makeMap Tryz.prog
 obtain ⟨R, hR⟩ : ∃ R, R = lm.canonF l := ⟨_, rfl⟩
 rw [← hR]
 have HR := Lib.hid hR
 obtain ⟨n, hn⟩ : ∃ n, n = l.length := ⟨_, rfl⟩
 obtain ⟨ao, cap, rfl⟩ : ∃ ao cap, v = .slice ao n cap := by
  obtain ⟨ao, cap, e, _⟩ := h.form
  exact ⟨ao, cap, by rw [hn]; exact e⟩
 have HC := Lib.hid h
 have HN := Lib.hid hn
 have HS := Lib.hid hs
 have hn63 : n ≤ 100000 := by omega
 have HNM : Hid (∀ (s : ByteArray) (W : World), s.size ≤ maxLen → Calls Tryz.prog 104 #[.string s] W (Said (lb.isName s) W)) := fun s W h => isname_any s W h
 have HVL : Hid (∀ (s : ByteArray) (W : World), s.size ≤ maxLen → Calls Tryz.prog 105 #[.string s] W (Said (lb.isVal s) W)) := fun s W h => isval_any s W h
 have hA : Below w.heap.size w (w.alloc (.map #[] 0)) := (Below.refl _ _).alloc (Nat.le_refl _) _
 obtain ⟨i0, hi, hz0, hz1, hz2⟩ := info_parts infoLab
 clear h hn hs hR hl6
 go_enter Tryz.func65, Tryz.ntmps65
 go_wp2
 go_step3
 go_wp2
 go_step3
 go_wp2
 go_loopw [5, 6, 7, 8, 9, 13] (fun o _ _ _ _ i wr => ∃ (k : Nat) (D : DataW Unit) (q : Nat) (oa : Option Addr) (oc : Nat), o = .slice oa q oc ∧ i = .int .i64 k ∧ k ≤ n ∧ q ≤ 6 ∧ Hid (lm.faults [] l = lm.faults (l.take k) (l.drop k)) ∧ Hid (lm.Good (l.take k)) ∧ Hid (lm.MapN D (lm.names (l.take k))) ∧ Hid (wr.ownsMap Tryz.prog 9 (plainElem Tryz.prog 3) w.heap.size k D) ∧ Hid (q = (lm.kept (l.take k)).length) ∧ Hid (wr.ownsRow (w.heap.size + 1) 82 2 (.slice oa q oc) q (lcells (lm.kept (l.take k)))) ∧ Below w.heap.size w wr ∧ w.heap.size + 1 ≤ wr.heap.size) (fun _ _ _ _ _ i _ => n - (intOf i).toNat)
 case atStart =>
  refine ⟨0, .map [], 0, none, 0, rfl, rfl, by omega, by omega, rfl, lm.good_nil, lm.mapN_nil, ?_, rfl, ?_, hA, by rw [World.size_alloc]; exact Nat.le_refl _⟩
  ·
   exact World.ownsMap_made (H := Unit) w (P := Tryz.prog) (k := 9) (plainElem Tryz.prog 3)
  ·
   exact ⟨rfl, Or.inl ⟨rfl, rfl⟩⟩
 case round =>
  obtain ⟨k, D, q, oa, oc, rfl, rfl, hk, hq6, HF, HG, HM, HO, HQ, HW, hb0, hz⟩ := hrel
  by_cases hlt : k < n
  ·
   obtain ⟨b, off, rfl, hB, p0, p1⟩ := HC.out.get HN.out hlt
   have HKL : Hid (k < l.length) := by show k < l.length; rw [← HN.out]; exact hlt
   have hsz := HS.out (l.getD k (.empty, .empty)) (by have := HKL.out; simp [List.getD, this])
   obtain ⟨⟨xa, xb⟩, hx⟩ : ∃ x, x = l.getD k (.empty, .empty) := ⟨_, rfl⟩
   rw [← hx] at p0 p1 hsz
   simp only at p0 p1 hsz
   have HX := Lib.hid hx
   have e0 := (hb0.cell (p := ⟨b, off + k * 2, none⟩) hB).trans p0
   have e1 := (hb0.cell (p := ⟨b, off + k * 2 + 1, none⟩) hB).trans p1
   have HSA := Lib.hid hsz.1
   have HSB := Lib.hid hsz.2
   have hkI : (k : Int) < (n : Int) := by omega
   have HST : Hid (lm.faults (l.take k) (l.drop k) = if lm.fault (l.take k) (xa, xb) = 0 then lm.faults (l.take (k + 1)) (l.drop (k + 1)) else lm.fault (l.take k) (xa, xb)) := lm.faults_step HKL.out HX.out
   have HBAD : Hid (∀ f : Int, f ≠ 0 → lm.fault (l.take k) (xa, xb) = f → R = (f, [])) := fun f hf he => by
    rw [HR.out]
    refine lm.canon_fault ?_ hf
    rw [HF.out, HST.out, he, if_neg hf]
   have hbx : Below w.heap.size w (wr.alloc (.cells #[.string xa, .string xb] 82)) := hb0.alloc (by omega) _
   have HOX := Lib.hid (HO.out.alloc (.cells #[.string xa, .string xb] 82))
   have HWX := Lib.hid (HW.out.alloc (.cells #[.string xa, .string xb] 82))
   have HN1 := Lib.hid (HNM.out xa (wr.alloc (.cells #[.string xa, .string xb] 82)) HSA.out)
   clear p0 p1 hx hsz
   by_cases hnm : lb.isName xa = true
   rotate_left
   ·
    have hnmf : lb.isName xa = false := by simpa using hnm
    have HB8 : Hid (R = (8, [])) := HBAD.out 8 (by decide) (by unfold lm.fault lm.good; rw [hnmf]; rfl)
    rw [hnmf] at HN1
    clear hnm hnmf
    go_wp2_with fail
    (with_reducible refine HN1.out.mono ?_)
    rintro e w1 ⟨rfl, hb1⟩
    have HRET := Lib.hid (ret8 HB8.out (hbx.trans (hb1.mono (by simp; omega))))
    go_wp2
    exact bodyPost_ret (v := .tuple #[.slice none 0 0, .int .i64 8]) (by simp [results, Tryz.results65, go_sem]) rfl HRET.out
   rw [hnm] at HN1
   go_wp2_with fail
   (with_reducible refine HN1.out.mono ?_)
   rintro e w1 ⟨rfl, hb1⟩
   obtain ⟨c0, c1, _, _, hz1'⟩ := two hb1
   have hbx2 := hbx.trans (hb1.mono (by simp; omega))
   have hz2' : w.heap.size + 1 ≤ w1.heap.size := by omega
   have HV1 := Lib.hid (HVL.out xb w1 HSB.out)
   have HO1 := Lib.hid (HOX.out.kept (row := none) (grown_of hb1) (fun e => by cases e))
   have HW1 := Lib.hid (own_stay HWX.out hb1)
   clear HN1
   by_cases hvl : lb.isVal xb = true
   rotate_left
   ·
    have hvlf : lb.isVal xb = false := by simpa using hvl
    have HB8 : Hid (R = (8, [])) := HBAD.out 8 (by decide) (by unfold lm.fault lm.good; rw [hvlf, Bool.and_false]; rfl)
    rw [hvlf] at HV1
    clear hvl hvlf
    go_wp2_with fail
    (with_reducible refine HV1.out.mono ?_)
    rintro e w2 ⟨rfl, hb2⟩
    have HRET := Lib.hid (ret8 HB8.out (hbx2.trans (hb2.mono (by omega))))
    go_wp2
    exact bodyPost_ret (v := .tuple #[.slice none 0 0, .int .i64 8]) (by simp [results, Tryz.results65, go_sem]) rfl HRET.out
   rw [hvl] at HV1
   have HGD : Hid (lm.good (xa, xb) = true) := by show (_ && _) = true; rw [hnm, hvl]; rfl
   go_wp2_with fail
   (with_reducible refine HV1.out.mono ?_)
   rintro e w2 ⟨rfl, hb2⟩
   have d0 := (hb2.cell (p := ⟨wr.heap.size, 0, none⟩) hz1').trans c0
   have d1 := (hb2.cell (p := ⟨wr.heap.size, 1, none⟩) hz1').trans c1
   have hz3 : wr.heap.size < w2.heap.size := by have := hb2.size; omega
   have hbx3 := hbx2.trans (hb2.mono (by omega))
   have HO2 := Lib.hid (HO1.out.kept (row := none) (grown_of hb2) (fun e => by cases e))
   have HW2 := Lib.hid (own_stay HW1.out hb2)
   have HKEY := Lib.hid (keyOf_string_mk (s := xa) Tryz.underlying9 HSA.out)
   have HHAS := Lib.hid (HM.out xa)
   clear HV1 c0 c1 hvl hnm
   by_cases hin : xa ∈ lm.names (l.take k)
   ·
    have HB8 : Hid (R = (8, [])) := HBAD.out 8 (by decide) (by unfold lm.fault; rw [if_neg (by rw [HGD.out]; decide), if_pos hin])
    have HRET := Lib.hid (ret8 HB8.out hbx3)
    have HH : Hid (Maps.has D (.string xa.data.toList) = true) := by show _ = _; rw [HHAS.out]; exact decide_eq_true hin
    clear hin
    go_wp2_with (at_lookup; refine look_ok rfl _ _ 77 rfl 9 3 .i64 mlaw Tryz.underlying77 Tryz.underlying3 (zeroI _) w.heap.size k D rfl HO2.out _ _ rfl HKEY.out true HH.out ?_; intro cv)
    exact bodyPost_ret (v := .tuple #[.slice none 0 0, .int .i64 8]) (by simp [results, Tryz.results65, go_sem]) rfl HRET.out
   have HH : Hid (Maps.has D (.string xa.data.toList) = false) := by show _ = _; rw [HHAS.out]; exact decide_eq_false hin
   have HNI := Lib.hid hin
   have HMP : Hid (lm.MapN (D.put (.string xa.data.toList) (.lit (.int .i64 k))) (lm.names (l.take (k + 1)))) := by
    show lm.MapN _ _
    rw [lm.names_step HKL.out HX.out]
    exact lm.mapN_put HM.out (HO2.out.isMap) _
   clear hin
   have HFZ : Hid ((xb = .empty ∨ (lm.kept (l.take k)).length ≠ 6) → lm.fault (l.take k) (xa, xb) = 0) := fun h => lm.fault_zero.2 ⟨HGD.out, HNI.out, h⟩
   by_cases he : xb = .empty
   ·
    subst he
    have hF0 := HFZ.out (Or.inl rfl)
    have HF2 : Hid (lm.faults [] l = lm.faults (l.take (k + 1)) (l.drop (k + 1))) := by show _ = _; rw [HF.out, HST.out, if_pos hF0]
    have HG2 : Hid (lm.Good (l.take (k + 1))) := lm.good_step HKL.out HX.out HG.out hF0
    have HK2 : Hid (lm.kept (l.take (k + 1)) = lm.kept (l.take k)) := by show _ = _; rw [lm.kept_step HKL.out HX.out, if_pos rfl]
    clear hF0
    go_wp2_with (first | (at_lookup; refine look_ok rfl _ _ 77 rfl 9 3 .i64 mlaw Tryz.underlying77 Tryz.underlying3 (zeroI _) w.heap.size k D rfl HO2.out _ _ rfl HKEY.out false HH.out ?_; intro cv) | (at_mapUpdate; refine wpList_mapUpdate_own _ rfl _ _ _ 77 rfl 9 3 mlaw Tryz.underlying77 _ w.heap.size k _ rfl HO2.out (by unfold maxLen; omega) _ _ _ rfl rfl HKEY.out _ [] (plainElem_int Tryz.underlying3 (WalkArith.wf_i64 (by omega))) ?_; intro w3 hown3 hgrow3; have d0' := (grown_cell hgrow3 (p := ⟨wr.heap.size, 0, none⟩) hz3 (fun e => by have := Option.some.inj e; simp at this; omega)).trans d0; have d1' := (grown_cell hgrow3 (p := ⟨wr.heap.size, 1, none⟩) hz3 (fun e => by have := Option.some.inj e; simp at this; omega)).trans d1; have hz4 : wr.heap.size < w3.heap.size := Nat.lt_of_lt_of_le hz3 hgrow3.size; have hbx4 := hbx3.grown hgrow3 (by omega) (fun j hj => by cases hj; exact Nat.le_refl _); have HM3 := Lib.hid (And.intro hown3 hgrow3); clear hown3 hgrow3))
    have HM4 := Lib.hid HM3.out.1
    have HW4 : Hid (w3.ownsRow (w.heap.size + 1) 82 2 (.slice oa q oc) q (lcells (lm.kept (l.take k)))) := HW2.out.kept HM3.out.2 (Or.inr (fun e => row_ne_low HW2.out (Nat.lt_succ_self _) e.symm))
    go_roundw
    case rel => exact ⟨k + 1, _, q, oa, oc, rfl, by go_num, by omega, hq6, HF2.out, HG2.out, HMP.out, HM4.out, by show q = _; rw [HK2.out]; exact HQ.out, by show World.ownsRow _ _ _ _ _ _ _; rw [HK2.out]; exact HW4.out, hbx4, by omega⟩
    case measure => simp [intOf]; omega
   obtain ⟨hs1, hs2, hs3⟩ : xb.toList.isEmpty = false ∧ ¬ xb.toList = [] ∧ ¬ xb = ByteArray.empty := kit.ne_empty (Nat.pos_of_ne_zero fun e => he (ByteArray.ext (Array.eq_empty_of_size_eq_zero e)))
   by_cases h6 : q = 6
   ·
    have HB4 : Hid (R = (4, [])) := HBAD.out 4 (by decide) (by unfold lm.fault; rw [if_neg (by rw [HGD.out]; decide), if_neg HNI.out, if_neg he, if_pos (by rw [← HQ.out]; exact h6)])
    have HRB := Lib.hid (fun (W : World) (hb : Below w.heap.size w W) => ret8 HB4.out hb)
    subst h6
    go_wp2_with (first | (at_lookup; refine look_ok rfl _ _ 77 rfl 9 3 .i64 mlaw Tryz.underlying77 Tryz.underlying3 (zeroI _) w.heap.size k D rfl HO2.out _ _ rfl HKEY.out false HH.out ?_; intro cv) | (at_mapUpdate; refine wpList_mapUpdate_own _ rfl _ _ _ 77 rfl 9 3 mlaw Tryz.underlying77 _ w.heap.size k _ rfl HO2.out (by unfold maxLen; omega) _ _ _ rfl rfl HKEY.out _ [] (plainElem_int Tryz.underlying3 (WalkArith.wf_i64 (by omega))) ?_; intro w3 hown3 hgrow3; have d0' := (grown_cell hgrow3 (p := ⟨wr.heap.size, 0, none⟩) hz3 (fun e => by have := Option.some.inj e; simp at this; omega)).trans d0; have d1' := (grown_cell hgrow3 (p := ⟨wr.heap.size, 1, none⟩) hz3 (fun e => by have := Option.some.inj e; simp at this; omega)).trans d1; have hz4 : wr.heap.size < w3.heap.size := Nat.lt_of_lt_of_le hz3 hgrow3.size; have hbx4 := hbx3.grown hgrow3 (by omega) (fun j hj => by cases hj; exact Nat.le_refl _); have HM3 := Lib.hid (And.intro hown3 hgrow3); clear hown3 hgrow3))
    exact bodyPost_ret (v := .tuple #[.slice none 0 0, .int .i64 4]) (by simp [results, Tryz.results65, go_sem]) rfl (HRB.out _ hbx4)
   have hF0 := HFZ.out (Or.inr (by rw [← HQ.out]; exact h6))
   have HF2 : Hid (lm.faults [] l = lm.faults (l.take (k + 1)) (l.drop (k + 1))) := by show _ = _; rw [HF.out, HST.out, if_pos hF0]
   have HG2 : Hid (lm.Good (l.take (k + 1))) := lm.good_step HKL.out HX.out HG.out hF0
   have HK2 : Hid (lm.kept (l.take (k + 1)) = lm.kept (l.take k) ++ [(xa, xb)]) := by show _ = _; rw [lm.kept_step HKL.out HX.out, if_neg he]
   have HQ2 : Hid (q + 1 = (lm.kept (l.take (k + 1))).length) := by show _ = _; rw [HK2.out, List.length_append, ← HQ.out]; rfl
   have HL2 : Hid (lcells (lm.kept (l.take (k + 1))) = lcells (lm.kept (l.take k)) ++ [.string xa, .string xb]) := by show _ = _; rw [HK2.out, lcells_app]; rfl
   have h6b : ((q : Int) == 6) = false := by simp; omega
   have h6c : ¬ (q : Int) = 6 := by omega
   have hq5 : q ≤ 5 := by omega
   have HWA : Hid (∀ (W : World), Hid (W.ownsMap Tryz.prog 9 (plainElem Tryz.prog 3) w.heap.size (k + 1) (D.put (.string xa.data.toList) (.lit (.int .i64 k))) ∧ w2.grownBy W (some w.heap.size)) → W.ownsRow (w.heap.size + 1) 82 2 (.slice oa q oc) q (lcells (lm.kept (l.take k)))) := fun W hW => HW2.out.kept hW.out.2 (Or.inr (fun e => row_ne_low HW2.out (Nat.lt_succ_self _) e.symm))
   clear hF0 he h6
   go_wp2_with (first | (at_lookup; refine look_ok rfl _ _ 77 rfl 9 3 .i64 mlaw Tryz.underlying77 Tryz.underlying3 (zeroI _) w.heap.size k D rfl HO2.out _ _ rfl HKEY.out false HH.out ?_; intro cv) | (at_mapUpdate; refine wpList_mapUpdate_own _ rfl _ _ _ 77 rfl 9 3 mlaw Tryz.underlying77 _ w.heap.size k _ rfl HO2.out (by unfold maxLen; omega) _ _ _ rfl rfl HKEY.out _ [] (plainElem_int Tryz.underlying3 (WalkArith.wf_i64 (by omega))) ?_; intro w3 hown3 hgrow3; have d0' := (grown_cell hgrow3 (p := ⟨wr.heap.size, 0, none⟩) hz3 (fun e => by have := Option.some.inj e; simp at this; omega)).trans d0; have d1' := (grown_cell hgrow3 (p := ⟨wr.heap.size, 1, none⟩) hz3 (fun e => by have := Option.some.inj e; simp at this; omega)).trans d1; have hz4 : wr.heap.size < w3.heap.size := Nat.lt_of_lt_of_le hz3 hgrow3.size; have hbx4 := hbx3.grown hgrow3 (by omega) (fun j hj => by cases hj; exact Nat.le_refl _); have HM3 := Lib.hid (And.intro hown3 hgrow3); clear hown3 hgrow3) | (at_builtin; refine app1g (.tmp 46) (.tmp 48) 48 rfl rfl (w.heap.size + 1) Tryz.underlying48 infoLab rfl (by decide) (by decide) (HWA.out _ HM3) rfl rfl rfl lcells_two (by omega) (by omega) ?_; intro v4 w4 hown4 hgrow4))
   have hbel4 := grown_below ((HWA.out _ HM3).alloc _) (by rw [World.size_alloc]; omega) hgrow4
   have HM4 := Lib.hid ((HM3.out.1.alloc (.cells #[.string xa, .string xb] 82)).kept hgrow4 (row_ne_low (HWA.out _ HM3) (Nat.lt_succ_self _)))
   have hbx5 := (hbx4.alloc (by omega) (.cells #[.string xa, .string xb] 82)).trans (hbel4.mono (by omega))
   have hz5 : w.heap.size + 1 ≤ w4.heap.size := by have := hbel4.size; rw [World.size_alloc] at this; omega
   have HW5 := Lib.hid hown4
   clear hown4 hgrow4 hbel4
   rcases own_form HW5.out with ⟨_, h0⟩ | ⟨g4, cap4, rfl, hg4⟩
   ·
    omega
   go_wp2
   go_roundw
   case rel => exact ⟨k + 1, _, q + 1, some ⟨g4, 0, none⟩, cap4, ⟨rfl, rfl, rfl⟩, by go_num, by omega, by omega, HF2.out, HG2.out, HMP.out, HM4.out, HQ2.out, by show World.ownsRow _ _ _ _ _ _ _; rw [HL2.out]; exact HW5.out⟩
   case measure => simp [intOf]; omega
  ·
   obtain rfl : k = n := by omega
   have HT : Hid (l.take k = l ∧ l.drop k = []) := ⟨List.take_of_length_le (by rw [HN.out]; exact Nat.le_refl _), List.drop_eq_nil_of_le (by rw [HN.out]; exact Nat.le_refl _)⟩
   have HF0 : Hid (lm.faults [] l = 0) := by show _ = _; rw [HF.out, HT.out.2]; rfl
   have HQ1 : Hid (q = (lm.kept l).length) := by show _ = _; have := HQ.out; rw [HT.out.1] at this; exact this
   by_cases h0 : q = 0
   ·
    have HB8 : Hid (R = (8, [])) := by
     show _ = _
     rw [HR.out, lm.canonF, if_pos HF0.out, if_pos (List.eq_nil_of_length_eq_zero (by rw [← HQ1.out]; exact h0))]
    have HRET := Lib.hid (ret8 HB8.out hb0)
    subst h0
    go_wp2
    exact bodyPost_ret (v := .tuple #[.slice none 0 0, .int .i64 8]) (by simp [results, Tryz.results65, go_sem]) rfl HRET.out
   ·
    have h0b : ((q : Int) == 0) = false := by simp; omega
    have h0c : ¬ (q : Int) = 0 := by omega
    rcases own_form HW.out with ⟨_, h⟩ | ⟨g, cap2, hv, hg⟩
    ·
     exact absurd h h0
    simp only [Value.slice.injEq] at hv
    obtain ⟨rfl, _, rfl⟩ := hv
    have HWL : Hid (wr.ownsRow (w.heap.size + 1) 82 2 (.slice (some ⟨g, 0, none⟩) q oc) q (lcells (lm.kept l))) := by
     show World.ownsRow _ _ _ _ _ _ _
     have := HW.out
     rw [HT.out.1] at this; exact this
    have HGL := (lm.faults_iff l).1 HF0.out
    have HSO := Lib.hid (sort_any g oc q (w.heap.size + 1) (lm.kept l) wr HWL.out HQ1.out (by omega) (HGL.2.1.sublist ((lm.kept_sub l).map _)) hz)
    have HRS : Hid (R = (0, lm.sortN (lm.kept l))) := by
     show _ = _
     rw [HR.out, lm.canon_ok HGL (fun e => by have := HQ1.out; rw [e] at this; exact h0 this)]
    have HLS : Hid (q = (lm.sortN (lm.kept l)).length) := by show _ = _; rw [(lm.sortN_perm _).length_eq]; exact HQ1.out
    have HRET : Hid (∀ W, W.ownsRow (w.heap.size + 1) 82 2 (.slice (some ⟨g, 0, none⟩) q oc) q (lcells (lm.sortN (lm.kept l))) → Below (w.heap.size + 1) wr W → CanonP R w (.returned (.tuple #[.slice (some ⟨g, 0, none⟩) q oc, .int .i64 0])) W) := fun W hW hb => by
     rw [HRS.out]
     refine ⟨_, rfl, ?_, hb0.trans (hb.mono (by omega))⟩
     show Cells _ _ _ _ _ _
     rw [← HLS.out]
     exact Cells.own hW
    clear h0 HGL
    go_wp2_with fail
    (with_reducible refine HSO.out.mono ?_)
    rintro e w5 ⟨rfl, hown5, hb5⟩
    have HR5 := Lib.hid (HRET.out _ hown5 hb5)
    clear hown5 hb5
    go_wp2
    exact bodyPost_ret (v := .tuple #[.slice (some ⟨g, 0, none⟩) q oc, .int .i64 0]) (by simp [results, Tryz.results65, go_sem]) rfl HR5.out
end Go.Proofs.YtnbdcnbhejfdhaaGreat
