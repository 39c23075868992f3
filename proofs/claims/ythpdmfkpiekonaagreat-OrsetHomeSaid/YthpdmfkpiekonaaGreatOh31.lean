/- texts put together: ArgsK, OrsLw, OrsHome, Close. -/
import Derived.Test.YthpdmfkpiekonaaGreatOh00
import Derived.Test.YthpdmfkpiekonaaGreatOh30
import Derived.Carry
import Derived.ChangeArms
import Derived.Deep.DeepHandedRow
import Derived.Deep.SlicePairs
import Derived.JoinedCond
import Derived.Lib.LaidTab
import Derived.Lib.SmallJoins
import Derived.OpenShut
import Derived.ProofKit
import Derived.Test.YthpdmfkpiekonaaGreatRows
import Derived.WalkKit
import Derived.WideShapes
namespace Go.Proofs.YthpdmfkpiekonaaGreat
open Go.RowKit Go.WideShapes Go.ChangeShapes cl
def kcells (l : List (List Int)) : List Value := l.flatten.map (.int .i64)
theorem kcells_len {k : Nat} : ∀ {l : List (List Int)}, (∀ x ∈ l, x.length = k) → (kcells l).length = l.length * k := by
 intro l h
 unfold kcells
 rw [List.length_map]
 induction l with
 | nil => simp
 | cons x l ih =>
  rw [List.flatten_cons, List.length_append, List.length_cons, ih (fun y hy => h y (List.mem_cons_of_mem _ hy)), h x List.mem_cons_self, Nat.succ_mul, Nat.add_comm]
theorem kcells_get {k : Nat} : ∀ {l : List (List Int)} (_ : ∀ x ∈ l, x.length = k) (j i : Nat), j < l.length → i < k → (kcells l)[j * k + i]? = some (.int .i64 ((l.getD j []).getD i 0)) := by
 intro l
 induction l with
 | nil => intro _ j i h; simp at h
 | cons x l ih =>
  intro h j i hj hi
  have hx := h x List.mem_cons_self
  have e : kcells (x :: l) = x.map (.int .i64) ++ kcells l := by simp [kcells]
  rw [e]
  cases j with
  | zero =>
   rw [Nat.zero_mul, Nat.zero_add, List.getElem?_append_left (by rw [List.length_map, hx]; exact hi)]
   simp [List.getD, hx, hi]
  | succ j =>
   rw [Nat.succ_mul, List.getElem?_append_right (by rw [List.length_map, hx]; omega), List.length_map, hx]
   have := ih (fun y hy => h y (List.mem_cons_of_mem _ hy)) j i (by simpa using hj) hi
   rw [show j * k + k + i - k = j * k + i by omega, this]
   rfl
def KInts (k : Nat) (w : World) (B : Nat) (v : Value) (l : List (List Int)) : Prop := (∀ x ∈ l, x.length = k ∧ ∀ y ∈ x, (Lit.int .i64 y).wf = true) ∧ Cells w B v l.length k (kcells l)
theorem KInts.get {k : Nat} {w : World} {B n c : Nat} {ao : Option Addr} {l : List (List Int)} (h : KInts k w B (.slice ao n c) l) (hn : n = l.length) {j : Nat} (hj : j < n) : ∃ b off, ao = some ⟨b, off, none⟩ ∧ b < B ∧
  (∀ i, i < k → w.cell? ⟨b, off + (j * k + i), none⟩ = some (.int .i64 ((l.getD j []).getD i 0))) ∧ (l.getD j []).length = k ∧ ∀ y ∈ l.getD j [], (Lit.int .i64 y).wf = true := by
 subst hn
 obtain ⟨hk, _, ao', c', e, _, _, h4⟩ := h
 simp only [Value.slice.injEq] at e
 obtain ⟨rfl, _, rfl⟩ := e
 obtain ⟨b, off, rfl, hB, hc⟩ := h4 (by omega)
 have hm : l.getD j [] ∈ l := by
  simp only [List.getD, List.getElem?_eq_getElem hj, Option.getD_some]
  exact List.getElem_mem hj
 refine ⟨b, off, rfl, hB, fun i hi => hc _ _ (kcells_get (fun x hx => (hk x hx).1) j i hj hi), (hk _ hm).1, (hk _ hm).2⟩
theorem KInts.form {k : Nat} {w : World} {B : Nat} {v : Value} {l : List (List Int)} (h : KInts k w B v l) : ∃ ao cap, v = .slice ao l.length cap ∧ l.length ≤ cap ∧ l.length ≤ maxLen := Cells.form h.2
theorem open_kints {H : Type} {enc : TypeId × Value → H} {P : Program} {W : World} {r : Reach} {b0 : Nat} {t e it : TypeId} {k : Nat} {fs : Array Field} {v : Value} {d : DataW H} {ps : List MemPlace} (ht : P.underlying t = some (.slice e)) (he : P.underlying e = some (.struct fs))
  (hfs : fs.size = k) (ce : P.cellsOf e = k) (hf : ∀ (i : Nat) (f : Field), fs[i]? = some f → f.offset = i ∧ f.type = it) (ci : P.cellsOf it = 1) (si : P.underlying it = some (.int .i64)) (hk : 0 < k)
  (hval : Value.okWide P W r b0 t v) (hd : DataW.Trod enc P W 0 (fun _ => true) true t v d ps) : ∃ l : List (List Int), KInts k W W.heap.size v l := by
 obtain ⟨a0, len, cap, rfl⟩ := okWide_slice ht hval
 obtain ⟨fuel, hfu⟩ := hd
 rcases Deep.open_slice ht hfu with ⟨hcs, _⟩ | ⟨a, len', cap', m, n, D, Pl, hcs, _, hle, hmax, hm, _, hx⟩
 ·
  simp [Value.cells] at hcs
  obtain ⟨rfl, rfl, rfl⟩ := hcs
  exact ⟨[], by simp, Cells.nil _ _ _⟩
 ·
  simp [Value.cells] at hcs
  obtain ⟨rfl, rfl, rfl⟩ := hcs
  have hml : len ≤ m := by rw [hm]; split <;> omega
  have one : ∀ i q, i < len → q < k → ∃ x : Int, W.cell? (a.add (i * k + q)) = some (.int .i64 x) ∧ (Lit.int .i64 x).wf = true := fun i q hi hq => by
   obtain ⟨cs', h1, h2⟩ := hx i (by omega)
   rw [ce] at h1
   obtain ⟨_, hlen, hcell⟩ := World.cells?_some h1
   obtain ⟨xs, n', hn', hxy, _, hxl, hff⟩ := DataW.trod_struct he h2
   have hq2 : q < fs.size := by omega
   obtain ⟨f1, f2⟩ := hf q fs[q] (Array.getElem?_eq_getElem hq2)
   have g0 := hff q fs[q] (Array.getElem?_eq_getElem hq2)
   rw [f1, f2, ci, List.getElem?_eq_getElem (by omega)] at g0
   have hql : q < cs'.length := by omega
   rw [List.drop_eq_getElem_cons hql, List.take_succ_cons, List.take_zero] at g0
   obtain ⟨x, ex, _, sx⟩ := DataW.trod_int si g0
   simp only [List.cons.injEq, and_true] at ex
   have e0 := hcell q (by omega)
   rw [Deep.add_add] at e0
   exact ⟨x, by rw [e0, List.getElem?_eq_getElem hql, ex], sx⟩
  have hg : ∃ f : Nat → Nat → Int, ∀ i q, i < len → q < k → W.cell? (a.add (i * k + q)) = some (.int .i64 (f i q)) ∧ (Lit.int .i64 (f i q)).wf = true := by
   refine ⟨fun i q => if h : i < len ∧ q < k then (one i q h.1 h.2).choose else 0, fun i q hi hq => ?_⟩
   simp only [dif_pos (And.intro hi hq)]
   exact (one i q hi hq).choose_spec
  obtain ⟨f, hg⟩ := hg
  have hl : ((List.range len).map fun i => (List.range k).map (f i)).length = len := by simp
  have hall : ∀ x ∈ (List.range len).map fun i => (List.range k).map (f i), x.length = k := fun x hx => by
   obtain ⟨i, _, rfl⟩ := List.mem_map.1 hx
   simp
  refine ⟨(List.range len).map fun i => (List.range k).map (f i), fun x hx => ⟨hall x hx, fun y hy => ?_⟩, by rw [kcells_len hall], some a, cap, by rw [hl], ⟨(fun e => by cases e), by omega⟩, by omega, fun hp => ?_⟩
  ·
   obtain ⟨i, hi, rfl⟩ := List.mem_map.1 hx
   obtain ⟨q, hq, rfl⟩ := List.mem_map.1 hy
   exact (hg i q (List.mem_range.1 hi) (List.mem_range.1 hq)).2
  ·
   rw [hl] at hp
   obtain ⟨b, off, spot⟩ := a
   have h0 := (hg 0 0 hp hk).1
   have hspot : spot = none := by simpa [Addr.add] using World.cell?_spot h0
   subst hspot
   refine ⟨b, off, rfl, (by have := World.block_lt_of_cell? _ _ h0; rwa [Addr.add_lit] at this), fun j u hj => ?_⟩
   have hjl : j < len * k := by have := (List.getElem?_eq_some_iff.1 hj).1; rw [kcells_len hall, hl] at this; exact this
   have hjk : j / k < len := by rw [Nat.div_lt_iff_lt_mul hk]; exact hjl
   have hmk : j % k < k := Nat.mod_lt _ hk
   have ej : j / k * k + j % k = j := Nat.div_add_mod' j k
   have g0 := kcells_get hall (j / k) (j % k) (by rw [hl]; exact hjk) hmk
   have hv : (((List.range len).map fun i => (List.range k).map (f i)).getD (j / k) []).getD (j % k) 0 = f (j / k) (j % k) := by simp [List.getD, hjk, hmk]
   rw [hv, ej, hj] at g0
   have k0 := (hg (j / k) (j % k) hjk hmk).1
   rw [Addr.add_lit, ej] at k0
   rw [k0]; exact g0.symm
end Go.Proofs.YthpdmfkpiekonaaGreat
namespace Go.Proofs.YthpdmfkpiekonaaGreat
open Go Go.RowKit Go.ChangeShapes cl
def g16 : Nat → Value := fun j => if j < 9 then .slice none 0 0 else if j < 12 then .int .i64 0 else .slice none 0 0
theorem box_zero {w : World} {q : Nat} (h : w.heap[q]? = some (.cells #[.slice none 0 0, .slice none 0 0, .slice none 0 0, .slice none 0 0, .slice none 0 0, .slice none 0 0, .slice none 0 0, .slice none 0 0, .slice none 0 0, .int .i64 0, .int .i64 0, .int .i64 0, .slice none 0 0, .slice none 0 0, .slice none 0 0, .slice none 0 0] 43 (0, 0))) : Box16 w q g16 :=
 ⟨_, h, rfl, fun j hj => by
  rcases (by omega : j = 0 ∨ j = 1 ∨ j = 2 ∨ j = 3 ∨ j = 4 ∨ j = 5 ∨ j = 6 ∨ j = 7 ∨ j = 8 ∨ j = 9 ∨ j = 10 ∨ j = 11 ∨ j = 12 ∨ j = 13 ∨ j = 14 ∨ j = 15) with rfl | rfl | rfl | rfl | rfl | rfl | rfl | rfl | rfl | rfl | rfl | rfl | rfl | rfl | rfl | rfl <;> rfl⟩
theorem pin_zero (B : Nat) (w : World) : PIn B w g16 PS.zero := by
 refine ⟨fun i hi => ?_, fun i hi => ?_, fun i hi => ?_, ⟨[], rfl, (fun j c x hc => by simp at hc), World.ownsRow_nil _ _ _ _⟩, fun i hi => ?_, fun i j hi hj _ => ?_⟩
 ·
  have : g16 (i * 3) = .slice none 0 0 := if_pos (by omega)
  rw [this]; exact World.ownsRow_nil _ _ _ _
 ·
  have h1 : g16 (i * 3 + 1) = .slice none 0 0 := if_pos (by omega)
  have h2 : g16 (i * 3 + 2) = .slice none 0 0 := if_pos (by omega)
  rw [h1, h2]; exact ⟨_, _, _, _, rfl, World.ownsRow_nil _ _ _ _, World.ownsRow_nil _ _ _ _⟩
 ·
  rcases (by omega : i = 0 ∨ i = 1 ∨ i = 2) with rfl | rfl | rfl <;> rfl
 ·
  have : g16 (13 + i) = .slice none 0 0 := by unfold g16; rw [if_neg (by omega), if_neg (by omega)]
  rw [this]; exact World.ownsRow_nil _ _ _ _
 ·
  have : g16 (13 + i) = .slice none 0 0 := by unfold g16; rw [if_neg (by omega), if_neg (by omega)]
  rw [this]; exact Or.inl rfl
theorem PIn.sets {B : Nat} {w : World} {g : Nat → Value} {s : PS} (h : PIn B w g s) {i : Nat} (hi : i < 3) : ∃ ae ne ce av nv cv ac nc cc, g (i * 3) = .slice ae ne ce ∧ g (i * 3 + 1) = .slice av nv cv ∧ g (i * 3 + 2) = .slice ac nc cc ∧ EntO B w (.slice ae ne ce) (s.l i) ∧ OwnC B w (.agg #[.slice av nv cv, .slice ac nc cc]) (s.c i) ∧ ne = (s.l i).length := by
 have h1 := h.ent i hi
 have h2 := h.ctx i hi
 obtain ⟨ae, ce, e⟩ := own_slice h1
 obtain ⟨av, nv, cv, ac, nc, cc, e2⟩ := h2.form
 simp only [Value.agg.injEq, Array.mk.injEq, List.cons.injEq, and_true] at e2
 rw [e] at h1
 rw [e2.1, e2.2] at h2
 exact ⟨ae, _, ce, av, nv, cv, ac, nc, cc, e, e2.1, e2.2, h1, h2, rfl⟩
theorem mx_pos {w : World} (h : MX w) : 0 < w.heap.size := by
 obtain ⟨m, h⟩ := h
 exact World.block_lt_of_cell? _ _ h
end Go.Proofs.YthpdmfkpiekonaaGreat
namespace Go.Proofs.YthpdmfkpiekonaaGreat
open Go Go.RowKit Go.ChangeShapes cl
set_option maxHeartbeats 12800000 in
set_option maxRecDepth 100000 in
theorem home_any (l : List (List Int)) (v : Value) (w : World) (hm : MX w) (h : KInts 4 w w.heap.size v l) :
  Calls Tryz.prog 4 #[v] w (Said true w) := by
 obtain ⟨B, hBe⟩ : ∃ B, B = w.heap.size := ⟨_, rfl⟩
 have h0 : 0 < B := by rw [hBe]; exact mx_pos hm
 have HMX : Hid (∀ W, Below B w W → MX W) := fun W hW => hm.b hW h0
 have HAW : Hid (∀ W, Below B w W → Calls Tryz.prog 8 #[] W (Said true W)) := fun W hW => awake_any W (HMX.out W hW)
 have HBG : Hid (∀ W, Calls Tryz.prog 15 #[] W fun e w' => e = .returned (.agg #[.slice none 0 0, .slice none 0 0, .slice none 0 0, .slice none 0 0, .slice none 0 0, .slice none 0 0, .slice none 0 0, .slice none 0 0, .slice none 0 0, .int .i64 0, .int .i64 0, .int .i64 0, .slice none 0 0, .slice none 0 0, .slice none 0 0, .slice none 0 0]) ∧ Below W.heap.size W w') := begun_any
 obtain ⟨m, hq⟩ : ∃ m, m = l.length := ⟨_, rfl⟩
 obtain ⟨so, sc, rfl, hmm⟩ : ∃ ao cap, v = .slice ao m cap ∧ m ≤ 9223372036854775807 := by
  obtain ⟨ao, cap, e, _, h9⟩ := h.form
  unfold maxLen at h9
  exact ⟨ao, cap, by rw [hq]; exact e, by rw [hq]; exact h9⟩
 have HK := Lib.hid h
 have HQ := Lib.hid hq
 have HBE := Lib.hid hBe
 clear h hq hm
 by_cases hbig : 60 < m
 ·
  have hbI : (60 : Int) < (m : Int) := by omega
  clear hBe
  go_enter Tryz.func4, Tryz.ntmps4
  go_wp2_with fail
  (with_reducible refine (HAW.out _ (Below.refl _ _)).mono ?_)
  rintro e w2 ⟨rfl, hb2⟩
  go_wp2_with fail
  go_ret
  exact ⟨rfl, hb2⟩
 have hbI : ¬ (60 : Int) < (m : Int) := by omega
 have hbN : ¬ 60 < m := hbig
 clear hbig hBe
 go_enter Tryz.func4, Tryz.ntmps4
 go_wp2_with fail
 (with_reducible refine (HBG.out _).mono ?_)
 rintro e w1 ⟨rfl, hb1⟩
 obtain ⟨q, hqe⟩ : ∃ q, q = w1.heap.size := ⟨_, rfl⟩
 obtain ⟨w2, hw2⟩ : ∃ W, W = w1.alloc (.cells #[.slice none 0 0, .slice none 0 0, .slice none 0 0, .slice none 0 0, .slice none 0 0, .slice none 0 0, .slice none 0 0, .slice none 0 0, .slice none 0 0, .int .i64 0, .int .i64 0, .int .i64 0, .slice none 0 0, .slice none 0 0, .slice none 0 0, .slice none 0 0] 43) := ⟨_, rfl⟩
 have hb2 : Below w1.heap.size w1 w2 := by rw [hw2]; exact below1
 have x2 : w2.heap[q]? = some (.cells #[.slice none 0 0, .slice none 0 0, .slice none 0 0, .slice none 0 0, .slice none 0 0, .slice none 0 0, .slice none 0 0, .slice none 0 0, .slice none 0 0, .int .i64 0, .int .i64 0, .int .i64 0, .slice none 0 0, .slice none 0 0, .slice none 0 0, .slice none 0 0] 43 (0, 0)) := by rw [hw2, hqe]; exact heap_alloc_new w1 _
 have hBq : B ≤ q := by rw [hqe, HBE.out]; exact hb1.size
 have hb12 : Below B w w2 := by rw [HBE.out]; exact hb1.trans (hb2.mono hb1.size)
 have HX0 := Lib.hid (box_zero x2)
 have HP0 := Lib.hid (pin_zero B w2)
 have HI0 := Lib.hid (inv_zero 0)
 have HB0 := Lib.hid hb12
 have HW2 := Lib.hid hw2
 have HQE := Lib.hid hqe
 clear hqe hw2 hb2 x2 hb12 hb1
 go_wp2_with fail
 rw [← HW2.out, ← HQE.out]
 go_loopw [13] (fun i wr => ∃ (k : Nat) (g : Nat → Value) (s : PS), i = .int .i64 (k : Int) ∧ k ≤ m ∧ Hid (Box16 wr q g) ∧ Hid (PIn B wr g s) ∧ Hid (Inv k s) ∧ Hid (Below B w wr)) (fun i _ => m - (intOf i).toNat)
 case atStart => exact ⟨0, g16, PS.zero, rfl, by omega, HX0, HP0, HI0, HB0⟩
 case round =>
  obtain ⟨k, g, s, rfl, hk, HX, HP, HI, HB⟩ := hrel
  by_cases hlt : k < m
  ·
   have hkI : (k : Int) < (m : Int) := by omega
   have hk0 : 0 ≤ (k : Int) := by omega
   obtain ⟨b, off, rfl, hbB, hcc, -⟩ := HK.out.get HQ.out hlt
   have hz : B ≤ wr.heap.size := Nat.le_trans hBq (Nat.le_of_lt HX.out.lt)
   have hcc2 : ∀ i : Nat, i < 4 → wr.cell? ⟨b, off + k * 4 + i, none⟩ = some (.int .i64 ((l.getD k []).getD i 0)) := fun i hi => (HB.out.cell (p := ⟨b, _, none⟩) (by rw [HBE.out]; exact hbB)).trans (by rw [Nat.add_assoc]; exact hcc i hi)
   obtain ⟨oK, hoK⟩ : ∃ x, x = (l.getD k []).getD 0 0 := ⟨_, rfl⟩
   obtain ⟨oW, hoW⟩ : ∃ x, x = (l.getD k []).getD 1 0 := ⟨_, rfl⟩
   obtain ⟨oA, hoA⟩ : ∃ x, x = (l.getD k []).getD 2 0 := ⟨_, rfl⟩
   obtain ⟨oB, hoB⟩ : ∃ x, x = (l.getD k []).getD 3 0 := ⟨_, rfl⟩
   have q0 : wr.cell? ⟨b, off + k * 4, none⟩ = some (.int .i64 ((l.getD k []).getD 0 0)) := hcc2 0 (by decide)
   have q1 := hcc2 1 (by decide)
   have q2 := hcc2 2 (by decide)
   have q3 := hcc2 3 (by decide)
   rw [← hoK] at q0
   rw [← hoW] at q1
   rw [← hoA] at q2
   rw [← hoB] at q3
   obtain ⟨w3, hw3⟩ : ∃ W, W = wr.alloc (.cells #[.int .i64 oK, .int .i64 oW, .int .i64 oA, .int .i64 oB] 46) := ⟨_, rfl⟩
   have hb3 : Below wr.heap.size wr w3 := by rw [hw3]; exact below1
   have HST := Lib.hid (step_any B q k s g oK oW oA oB w3 (HX.out.on hb3) (HP.out.on hb3) HI.out (by omega) hBq (HMX.out w3 (HB.out.trans (hb3.mono hz))) h0)
   have HB3 := Lib.hid (HB.out.trans (hb3.mono hz))
   have HW3 := Lib.hid hw3
   clear hcc hcc2 hoK hoW hoA hoB hbB hw3 hb3
   go_wp2_with fail
   rw [← HW3.out]
   (with_reducible refine HST.out.mono ?_)
   rintro e w4 ⟨rfl, g', s', hx', hp', hi', hb'⟩
   have HX' := Lib.hid hx'
   have HP' := Lib.hid hp'
   have HI' := Lib.hid hi'
   have HB' := Lib.hid (HB3.out.trans hb')
   clear hx' hp' hi' hb' q0 q1 q2 q3
   go_wp2_with fail
   go_roundw
   case rel => exact ⟨k + 1, g', s', by go_num, by omega, HX', HP', HI', HB'⟩
   case measure => simp [intOf]; omega
  ·
   have hkm : k = m := by omega
   subst hkm
   have hbI' : B ≤ wr.heap.size := Nat.le_trans hBq (Nat.le_of_lt HX.out.lt)
   have HRT : Hid (∀ (i : Nat) W, i < 3 → Below wr.heap.size wr W → ∃ ae ne ce av nv cv ac nc cc, g (i * 3) = .slice ae ne ce ∧ g (i * 3 + 1) = .slice av nv cv ∧ g (i * 3 + 2) = .slice ac nc cc ∧ Calls Tryz.prog 17 #[.agg #[.slice ae ne ce, .slice av nv cv, .slice ac nc cc]] W (Said true W)) := fun i W hi hW => by
    obtain ⟨ae, ne, ce, av, nv, cv, ac, nc, cc, e0, e1, e2, hE, hC, _⟩ := (HP.out.on hW).sets hi
    exact ⟨ae, ne, ce, av, nv, cv, ac, nc, cc, e0, e1, e2, oright_yes _ _ _ _ _ W hE.at hC.at (HI.out.set i hi) (HMX.out W (HB.out.trans (hW.mono hbI')))⟩
   obtain ⟨a0, n0, c0, a1, n1, c1, a2, n2, c2, e0, e1, e2, hR0⟩ := HRT.out 0 wr (by decide) (Below.refl _ _)
   have k0 := HX.out.cell (j := 0) (by decide)
   have k1 := HX.out.cell (j := 1) (by decide)
   have k2 := HX.out.cell (j := 2) (by decide)
   rw [show g 0 = _ from e0] at k0
   rw [show g 1 = _ from e1] at k1
   rw [show g 2 = _ from e2] at k2
   have HR0 := Lib.hid hR0
   clear e0 e1 e2 hR0
   go_wp2_with fail
   (with_reducible refine HR0.out.mono ?_)
   rintro e w5 ⟨rfl, hb5⟩
   have HB5 := Lib.hid hb5
   obtain ⟨a3, n3, c3, a4, n4, c4, a5, n5, c5, e0, e1, e2, hR1⟩ := HRT.out 1 w5 (by decide) hb5
   have hx5 := HX.out.on hb5
   clear k0 k1 k2
   have k0 := hx5.cell (j := 3) (by decide)
   have k1 := hx5.cell (j := 4) (by decide)
   have k2 := hx5.cell (j := 5) (by decide)
   rw [show g 3 = _ from e0] at k0
   rw [show g 4 = _ from e1] at k1
   rw [show g 5 = _ from e2] at k2
   have HR1 := Lib.hid hR1
   clear e0 e1 e2 hR1 hx5 hb5
   go_wp2_with fail
   (with_reducible refine HR1.out.mono ?_)
   rintro e w6 ⟨rfl, hb6⟩
   have hb56 := HB5.out.trans (hb6.mono HB5.out.size)
   have HB6 := Lib.hid hb56
   obtain ⟨a6, n6, c6, a7, n7, c7, a8, n8, c8, e0, e1, e2, hR2⟩ := HRT.out 2 w6 (by decide) hb56
   have hx6 := HX.out.on hb56
   clear k0 k1 k2
   have k0 := hx6.cell (j := 6) (by decide)
   have k1 := hx6.cell (j := 7) (by decide)
   have k2 := hx6.cell (j := 8) (by decide)
   rw [show g 6 = _ from e0] at k0
   rw [show g 7 = _ from e1] at k1
   rw [show g 8 = _ from e2] at k2
   have HR2 := Lib.hid hR2
   clear e0 e1 e2 hR2 hx6 hb6 hb56
   go_wp2_with fail
   (with_reducible refine HR2.out.mono ?_)
   rintro e w7 ⟨rfl, hb7⟩
   have hb67 := HB6.out.trans (hb7.mono HB6.out.size)
   have HBZ := Lib.hid (HB.out.trans (hb67.mono hbI'))
   clear k0 k1 k2 hb7 hb67
   go_wp2_with fail
   (with_reducible refine (HAW.out _ HBZ.out).mono ?_)
   rintro e w8 ⟨rfl, hb8⟩
   have hfin : Below w.heap.size w w8 := by
    have := HBZ.out.trans (hb8.mono (by have h1 := HBZ.out.size; have h2 := HBE.out; omega))
    rw [HBE.out] at this; exact this
   go_wp2_with fail
   go_ret
   exact ⟨rfl, hfin⟩
end Go.Proofs.YthpdmfkpiekonaaGreat
namespace Go.Proofs.YthpdmfkpiekonaaGreat.close
open Go.RowKit Go.WideShapes Go.ChangeShapes
section
variable {H : Type} {enc : TypeId × Value → H} {P : Program}
theorem trodAll_stays (hl : laidOutB P = true) {W W' : World} (hb : Below W.heap.size W W') :
  ∀ (ts : List TypeId) (vs : List Value) (ds : List (DataW H)) (ps : List MemPlace), (∀ t ∈ ts, P.readableRec t = true ∧ t < P.types.size) → (∀ x ∈ ps, x.block < W.heap.size) →
   DataW.TrodAll enc P W 0 (fun _ => true) true ts vs ds ps → DataW.TrodAll enc P W' 0 (fun b => decide (b < W.heap.size)) true ts vs ds ps := by
 intro ts
 induction ts with
 | nil =>
  intro vs ds ps _ _ h
  obtain ⟨rfl, rfl, rfl⟩ := trodAll_nil h
  exact rfl
 | cons t ts ih =>
  intro vs ds ps ht hlt h
  obtain ⟨v, vs', d, ds', p, q, rfl, rfl, rfl, h0, r0⟩ := trodAll_cons h
  have h1 := ht t (List.mem_cons_self ..)
  exact ⟨p, q, Below.trod hl h1.1 h1.2 h0 hb (fun x hx => hlt x (List.mem_append_left _ hx)),
   ih _ _ _ (fun u hu => ht u (List.mem_cons_of_mem _ hu)) (fun x hx => hlt x (List.mem_append_right _ hx)) r0, rfl⟩
theorem law_post (hl : laidOutB P = true) {f : Func} {s : ChangeSpec} {apart fresh handsOn : Bool} {W W' : World} {args : Array Value} {ds gs : List (DataW H)} {before : List MemPlace} {tb : TypeId}
  (hts : ∀ t ∈ f.params.toList, P.readableRec t = true ∧ t < P.types.size) (hvars : s.vars = []) (hrt : f.resultTypes = #[tb]) (hb4 : P.underlying tb = some .bool)
  (hW : DataW.Whole enc P f.params.toList s.vars apart W args.toList ds gs before) (hs : s.fn H (ds ++ gs) = { results := [.lit (.bool true)], args := ds, vars := [] })
  (hb : Below W.heap.size W W') : s.post enc P f apart fresh handsOn false W args (.bool true) W' := by
 have hlt : ∀ p ∈ before, p.block < W.heap.size := fun p hp => hW.lt p hp
 have hW' := hW
 obtain ⟨p, q, hA, hV, rfl, _, _⟩ := hW'
 rw [hvars] at hV
 obtain ⟨rfl, rfl⟩ := trodVars_none hV
 refine ⟨ds, [], p ++ [], [], p, [], hW, ?_, ?_, ?_, World.keptBut_mono (fun x hx => ⟨hx, Or.inr (Or.inl (by simpa using hx))⟩) (hb.frame (· ∈ p ++ [])), fun h => by cases h⟩
 ·
  rw [hs, hrt]
  exact trodAll_cons_mk (shut_bool hb4 true) trodAll_mk0
 ·
  rw [hs]
  exact trodAll_stays hl hb _ _ _ _ hts (fun x hx => hlt x (List.mem_append_left _ hx)) hA
 ·
  rw [hs, hvars]
  exact rfl
end
end Go.Proofs.YthpdmfkpiekonaaGreat.close
