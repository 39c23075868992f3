/- texts put together: ArgsK, OrsLw, OrsMw, OrsMeans. -/
import Derived.Test.YthpdmfkpiekonaaGreatOh00
import Derived.Test.YthpdmfkpiekonaaGreatOh30
import Derived.ChangeArms
import Derived.Deep.SlicePairs
import Derived.Lib.SmallJoins
import Derived.WideShapes
namespace Go.Proofs.YthpdmfkpiekonaaGreat
open Go Go.RowKit Go.ChangeShapes cl
theorem hasF_no {c : dm.Ctx} {d : Dot} (h : ¬ dm.Knows c d) : dm.hasF c d = false := by
 cases e : dm.hasF c d
 ·
  rfl
 ·
  exact absurd (dm.hasF_iff.1 e) h
end Go.Proofs.YthpdmfkpiekonaaGreat
namespace Go.Proofs.YthpdmfkpiekonaaGreat
open Go.RowKit Go.WideShapes Go.ChangeShapes cl
def kcells (l : List (List Int)) : List Value := l.flatten.map (.int .i64)
theorem kcells_len {k : Nat} : ∀ {l : List (List Int)}, (∀ x ∈ l, x.length = k) → (kcells l).length = l.length * k := by
 intro l h
 unfold kcells
 rw [List.length_map]
 induction l with
 | nil => simp
 | cons x l ih =>
  rw [List.flatten_cons, List.length_append, List.length_cons, ih (fun y hy => h y (List.mem_cons_of_mem _ hy)), h x List.mem_cons_self, Nat.succ_mul, Nat.add_comm]
theorem kcells_get {k : Nat} : ∀ {l : List (List Int)} (_ : ∀ x ∈ l, x.length = k) (j i : Nat), j < l.length → i < k → (kcells l)[j * k + i]? = some (.int .i64 ((l.getD j []).getD i 0)) := by
 intro l
 induction l with
 | nil => intro _ j i h; simp at h
 | cons x l ih =>
  intro h j i hj hi
  have hx := h x List.mem_cons_self
  have e : kcells (x :: l) = x.map (.int .i64) ++ kcells l := by simp [kcells]
  rw [e]
  cases j with
  | zero =>
   rw [Nat.zero_mul, Nat.zero_add, List.getElem?_append_left (by rw [List.length_map, hx]; exact hi)]
   simp [List.getD, hx, hi]
  | succ j =>
   rw [Nat.succ_mul, List.getElem?_append_right (by rw [List.length_map, hx]; omega), List.length_map, hx]
   have := ih (fun y hy => h y (List.mem_cons_of_mem _ hy)) j i (by simpa using hj) hi
   rw [show j * k + k + i - k = j * k + i by omega, this]
   rfl
def KInts (k : Nat) (w : World) (B : Nat) (v : Value) (l : List (List Int)) : Prop := (∀ x ∈ l, x.length = k ∧ ∀ y ∈ x, (Lit.int .i64 y).wf = true) ∧ Cells w B v l.length k (kcells l)
theorem KInts.get {k : Nat} {w : World} {B n c : Nat} {ao : Option Addr} {l : List (List Int)} (h : KInts k w B (.slice ao n c) l) (hn : n = l.length) {j : Nat} (hj : j < n) : ∃ b off, ao = some ⟨b, off, none⟩ ∧ b < B ∧
  (∀ i, i < k → w.cell? ⟨b, off + (j * k + i), none⟩ = some (.int .i64 ((l.getD j []).getD i 0))) ∧ (l.getD j []).length = k ∧ ∀ y ∈ l.getD j [], (Lit.int .i64 y).wf = true := by
 subst hn
 obtain ⟨hk, _, ao', c', e, _, _, h4⟩ := h
 simp only [Value.slice.injEq] at e
 obtain ⟨rfl, _, rfl⟩ := e
 obtain ⟨b, off, rfl, hB, hc⟩ := h4 (by omega)
 have hm : l.getD j [] ∈ l := by
  simp only [List.getD, List.getElem?_eq_getElem hj, Option.getD_some]
  exact List.getElem_mem hj
 refine ⟨b, off, rfl, hB, fun i hi => hc _ _ (kcells_get (fun x hx => (hk x hx).1) j i hj hi), (hk _ hm).1, (hk _ hm).2⟩
theorem KInts.form {k : Nat} {w : World} {B : Nat} {v : Value} {l : List (List Int)} (h : KInts k w B v l) : ∃ ao cap, v = .slice ao l.length cap ∧ l.length ≤ cap ∧ l.length ≤ maxLen := Cells.form h.2
theorem open_kints {H : Type} {enc : TypeId × Value → H} {P : Program} {W : World} {r : Reach} {b0 : Nat} {t e it : TypeId} {k : Nat} {fs : Array Field} {v : Value} {d : DataW H} {ps : List MemPlace} (ht : P.underlying t = some (.slice e)) (he : P.underlying e = some (.struct fs))
  (hfs : fs.size = k) (ce : P.cellsOf e = k) (hf : ∀ (i : Nat) (f : Field), fs[i]? = some f → f.offset = i ∧ f.type = it) (ci : P.cellsOf it = 1) (si : P.underlying it = some (.int .i64)) (hk : 0 < k)
  (hval : Value.okWide P W r b0 t v) (hd : DataW.Trod enc P W 0 (fun _ => true) true t v d ps) : ∃ l : List (List Int), KInts k W W.heap.size v l := by
 obtain ⟨a0, len, cap, rfl⟩ := okWide_slice ht hval
 obtain ⟨fuel, hfu⟩ := hd
 rcases Deep.open_slice ht hfu with ⟨hcs, _⟩ | ⟨a, len', cap', m, n, D, Pl, hcs, _, hle, hmax, hm, _, hx⟩
 ·
  simp [Value.cells] at hcs
  obtain ⟨rfl, rfl, rfl⟩ := hcs
  exact ⟨[], by simp, Cells.nil _ _ _⟩
 ·
  simp [Value.cells] at hcs
  obtain ⟨rfl, rfl, rfl⟩ := hcs
  have hml : len ≤ m := by rw [hm]; split <;> omega
  have one : ∀ i q, i < len → q < k → ∃ x : Int, W.cell? (a.add (i * k + q)) = some (.int .i64 x) ∧ (Lit.int .i64 x).wf = true := fun i q hi hq => by
   obtain ⟨cs', h1, h2⟩ := hx i (by omega)
   rw [ce] at h1
   obtain ⟨_, hlen, hcell⟩ := World.cells?_some h1
   obtain ⟨xs, n', hn', hxy, _, hxl, hff⟩ := DataW.trod_struct he h2
   have hq2 : q < fs.size := by omega
   obtain ⟨f1, f2⟩ := hf q fs[q] (Array.getElem?_eq_getElem hq2)
   have g0 := hff q fs[q] (Array.getElem?_eq_getElem hq2)
   rw [f1, f2, ci, List.getElem?_eq_getElem (by omega)] at g0
   have hql : q < cs'.length := by omega
   rw [List.drop_eq_getElem_cons hql, List.take_succ_cons, List.take_zero] at g0
   obtain ⟨x, ex, _, sx⟩ := DataW.trod_int si g0
   simp only [List.cons.injEq, and_true] at ex
   have e0 := hcell q (by omega)
   rw [Deep.add_add] at e0
   exact ⟨x, by rw [e0, List.getElem?_eq_getElem hql, ex], sx⟩
  have hg : ∃ f : Nat → Nat → Int, ∀ i q, i < len → q < k → W.cell? (a.add (i * k + q)) = some (.int .i64 (f i q)) ∧ (Lit.int .i64 (f i q)).wf = true := by
   refine ⟨fun i q => if h : i < len ∧ q < k then (one i q h.1 h.2).choose else 0, fun i q hi hq => ?_⟩
   simp only [dif_pos (And.intro hi hq)]
   exact (one i q hi hq).choose_spec
  obtain ⟨f, hg⟩ := hg
  have hl : ((List.range len).map fun i => (List.range k).map (f i)).length = len := by simp
  have hall : ∀ x ∈ (List.range len).map fun i => (List.range k).map (f i), x.length = k := fun x hx => by
   obtain ⟨i, _, rfl⟩ := List.mem_map.1 hx
   simp
  refine ⟨(List.range len).map fun i => (List.range k).map (f i), fun x hx => ⟨hall x hx, fun y hy => ?_⟩, by rw [kcells_len hall], some a, cap, by rw [hl], ⟨(fun e => by cases e), by omega⟩, by omega, fun hp => ?_⟩
  ·
   obtain ⟨i, hi, rfl⟩ := List.mem_map.1 hx
   obtain ⟨q, hq, rfl⟩ := List.mem_map.1 hy
   exact (hg i q (List.mem_range.1 hi) (List.mem_range.1 hq)).2
  ·
   rw [hl] at hp
   obtain ⟨b, off, spot⟩ := a
   have h0 := (hg 0 0 hp hk).1
   have hspot : spot = none := by simpa [Addr.add] using World.cell?_spot h0
   subst hspot
   refine ⟨b, off, rfl, (by have := World.block_lt_of_cell? _ _ h0; rwa [Addr.add_lit] at this), fun j u hj => ?_⟩
   have hjl : j < len * k := by have := (List.getElem?_eq_some_iff.1 hj).1; rw [kcells_len hall, hl] at this; exact this
   have hjk : j / k < len := by rw [Nat.div_lt_iff_lt_mul hk]; exact hjl
   have hmk : j % k < k := Nat.mod_lt _ hk
   have ej : j / k * k + j % k = j := Nat.div_add_mod' j k
   have g0 := kcells_get hall (j / k) (j % k) (by rw [hl]; exact hjk) hmk
   have hv : (((List.range len).map fun i => (List.range k).map (f i)).getD (j / k) []).getD (j % k) 0 = f (j / k) (j % k) := by simp [List.getD, hjk, hmk]
   rw [hv, ej, hj] at g0
   have k0 := (hg (j / k) (j % k) hjk hmk).1
   rw [Addr.add_lit, ej] at k0
   rw [k0]; exact g0.symm
end Go.Proofs.YthpdmfkpiekonaaGreat
namespace Go.Proofs.YthpdmfkpiekonaaGreat
open Go Go.RowKit Go.ChangeShapes cl
def g16 : Nat → Value := fun j => if j < 9 then .slice none 0 0 else if j < 12 then .int .i64 0 else .slice none 0 0
theorem box_zero {w : World} {q : Nat} (h : w.heap[q]? = some (.cells #[.slice none 0 0, .slice none 0 0, .slice none 0 0, .slice none 0 0, .slice none 0 0, .slice none 0 0, .slice none 0 0, .slice none 0 0, .slice none 0 0, .int .i64 0, .int .i64 0, .int .i64 0, .slice none 0 0, .slice none 0 0, .slice none 0 0, .slice none 0 0] 43 (0, 0))) : Box16 w q g16 :=
 ⟨_, h, rfl, fun j hj => by
  rcases (by omega : j = 0 ∨ j = 1 ∨ j = 2 ∨ j = 3 ∨ j = 4 ∨ j = 5 ∨ j = 6 ∨ j = 7 ∨ j = 8 ∨ j = 9 ∨ j = 10 ∨ j = 11 ∨ j = 12 ∨ j = 13 ∨ j = 14 ∨ j = 15) with rfl | rfl | rfl | rfl | rfl | rfl | rfl | rfl | rfl | rfl | rfl | rfl | rfl | rfl | rfl | rfl <;> rfl⟩
theorem pin_zero (B : Nat) (w : World) : PIn B w g16 PS.zero := by
 refine ⟨fun i hi => ?_, fun i hi => ?_, fun i hi => ?_, ⟨[], rfl, (fun j c x hc => by simp at hc), World.ownsRow_nil _ _ _ _⟩, fun i hi => ?_, fun i j hi hj _ => ?_⟩
 ·
  have : g16 (i * 3) = .slice none 0 0 := if_pos (by omega)
  rw [this]; exact World.ownsRow_nil _ _ _ _
 ·
  have h1 : g16 (i * 3 + 1) = .slice none 0 0 := if_pos (by omega)
  have h2 : g16 (i * 3 + 2) = .slice none 0 0 := if_pos (by omega)
  rw [h1, h2]; exact ⟨_, _, _, _, rfl, World.ownsRow_nil _ _ _ _, World.ownsRow_nil _ _ _ _⟩
 ·
  rcases (by omega : i = 0 ∨ i = 1 ∨ i = 2) with rfl | rfl | rfl <;> rfl
 ·
  have : g16 (13 + i) = .slice none 0 0 := by unfold g16; rw [if_neg (by omega), if_neg (by omega)]
  rw [this]; exact World.ownsRow_nil _ _ _ _
 ·
  have : g16 (13 + i) = .slice none 0 0 := by unfold g16; rw [if_neg (by omega), if_neg (by omega)]
  rw [this]; exact Or.inl rfl
theorem mx_pos {w : World} (h : MX w) : 0 < w.heap.size := by
 obtain ⟨m, h⟩ := h
 exact World.block_lt_of_cell? _ _ h
end Go.Proofs.YthpdmfkpiekonaaGreat
namespace Go.Proofs.YthpdmfkpiekonaaGreat
open Go Go.RowKit Go.ChangeShapes cl
def xk (C : List Chg) (k : Nat) : Ent := ((C.getD k default).L).headD default
def okF (C : List Chg) (has : List Bool) (k j : Nat) : Bool := (!has.getD j false) || decide (j = k) || !dm.hasF (C.getD j default).c (xk C k).d
def alF (C : List Chg) (has : List Bool) (k j : Nat) : Bool := (List.range j).all (okF C has k)
theorem alF_succ (C : List Chg) (has : List Bool) (k j : Nat) : alF C has k (j + 1) = (alF C has k j && okF C has k j) := by
 unfold alF
 rw [List.range_succ, List.all_append]
 simp
def wtB (C : List Chg) (has : List Bool) (k : Nat) : Bool := has.getD k false && !(C.getD k default).L.isEmpty && alF C has k C.length
def wtF (C : List Chg) (has : List Bool) (k : Nat) : Nat := ((List.range k).filter (wtB C has)).length
theorem wtF_succ (C : List Chg) (has : List Bool) (k : Nat) : wtF C has (k + 1) = wtF C has k + if wtB C has k = true then 1 else 0 := by
 unfold wtF
 rw [List.range_succ, List.filter_append, List.length_append]
 congr 1
 cases e : wtB C has k <;> simp [e]
theorem wtF_le (C : List Chg) (has : List Bool) (k : Nat) : wtF C has k ≤ k := by
 unfold wtF
 refine Nat.le_trans (List.length_filter_le _ _) ?_
 simp
def eqE (y x : Ent) : Bool := decide (y.d = x.d) && decide (y.s = x.s) && decide (y.t = x.t)
theorem eqE_iff {y x : Ent} : eqE y x = true ↔ y = x := by
 obtain ⟨a, b, c⟩ := y
 obtain ⟨a', b', c'⟩ := x
 unfold eqE
 simp only [Bool.and_eq_true, decide_eq_true_eq, Ent.mk.injEq]
 constructor
 ·
  rintro ⟨⟨h1, h2⟩, h3⟩; exact ⟨h2, h1, h3⟩
 ·
  rintro ⟨h1, h2, h3⟩; exact ⟨⟨h2, h1⟩, h3⟩
def fdF (l : List Ent) (x : Ent) (n : Nat) : Bool := (l.take n).any fun y => eqE y x
theorem fdF_succ (l : List Ent) (x : Ent) {n : Nat} (h : n < l.length) : fdF l x (n + 1) = (fdF l x n || eqE (l.getD n default) x) := by
 unfold fdF
 rw [take_one l n default h, List.any_append]
 simp
theorem fdF_all (l : List Ent) (x : Ent) : fdF l x l.length = true ↔ x ∈ l := by
 unfold fdF
 rw [List.take_length, List.any_eq_true]
 constructor
 ·
  rintro ⟨y, hy, h⟩; rw [← eqE_iff.1 h]; exact hy
 ·
  exact fun h => ⟨x, h, eqE_iff.2 rfl⟩
theorem alF_iff {C : List Chg} {has : List Bool} {k : Nat} : alF C has k C.length = true ↔ ∀ j, j < C.length → has.getD j false = true → j ≠ k → ¬ dm.Knows (C.getD j default).c (xk C k).d := by
 unfold alF okF
 rw [List.all_eq_true]
 constructor
 ·
  intro h j hj hh hne hk
  have := h j (List.mem_range.2 hj)
  rw [hh, dm.hasF_iff.2 hk] at this
  simp [hne] at this
 ·
  intro h j hj
  have hj := List.mem_range.1 hj
  cases hh : has.getD j false
  ·
   rfl
  ·
   by_cases e : j = k
   ·
    simp [e]
   ·
    have := hasF_no (h j hj hh e)
    rw [this]
    simp
theorem xk_of {C : List Chg} {k : Nat} {x : Ent} (h : (C.getD k default).L = [x]) : xk C k = x := by unfold xk; rw [h]; rfl
theorem found_alive {C : List Chg} {has : List Bool} {l : List Ent} {c : dm.Ctx} {k : Nat} {x : Ent} (hC : Chgs C) (hM : Means C (fun j => has.getD j false = true) l c) (hk : k < C.length) (hh : has.getD k false = true) (hL : (C.getD k default).L = [x]) : x ∈ l ↔ alF C has k C.length = true := by
 rw [hM.mem, alF_iff, xk_of hL]
 constructor
 ·
  rintro ⟨k', hk', _, hx, hno⟩
  have e : k' = k := by
   refine Decidable.byContradiction fun hne => ?_
   exact hC.apart k' k hk' hk hne x hx x (by rw [hL]; simp) rfl
  subst e
  exact hno
 ·
  exact fun h => ⟨k, hk, hh, by rw [hL]; simp, h⟩
theorem want_len {C : List Chg} {has : List Bool} {l : List Ent} {c : dm.Ctx} (hC : Chgs C) (hM : Means C (fun j => has.getD j false = true) l c) (hu : os.Up l) : wtF C has C.length = l.length := by
 have hone : ∀ k, wtB C has k = true → k < C.length → ∃ x, (C.getD k default).L = [x] ∧ has.getD k false = true ∧ alF C has k C.length = true := fun k hw hk => by
  unfold wtB at hw
  simp only [Bool.and_eq_true] at hw
  obtain ⟨⟨h1, h2⟩, h3⟩ := hw
  rcases hC.one k hk with ⟨e, _⟩ | ⟨x, e, _⟩
  ·
   rw [e] at h2; simp at h2
  ·
   exact ⟨x, e, h1, h3⟩
 have hK : ∀ k ∈ (List.range C.length).filter (wtB C has), k < C.length ∧ wtB C has k = true := fun k hk => ⟨List.mem_range.1 (List.mem_filter.1 hk).1, (List.mem_filter.1 hk).2⟩
 have hn1 : (((List.range C.length).filter (wtB C has)).map (xk C)).Nodup := by
  refine List.pairwise_map.2 ?_
  refine List.Pairwise.imp_of_mem (R := fun a b => a ≠ b) (fun {a b} ha hb hab e => ?_) (List.nodup_range.sublist List.filter_sublist)
  obtain ⟨ha1, ha2⟩ := hK a ha
  obtain ⟨hb1, hb2⟩ := hK b hb
  obtain ⟨x, hx, _⟩ := hone a ha2 ha1
  obtain ⟨y, hy, _⟩ := hone b hb2 hb1
  refine hC.apart a b ha1 hb1 hab x (by rw [hx]; simp) y (by rw [hy]; simp) ?_
  rw [xk_of hx, xk_of hy] at e
  rw [e]
 have hn2 : l.Nodup := by
  refine hu.imp fun {a b} h e => ?_
  rw [e] at h
  exact dm.dless_irrefl _ h
 have hp : (((List.range C.length).filter (wtB C has)).map (xk C)).Perm l := by
  refine (List.perm_ext_iff_of_nodup hn1 hn2).2 fun x => ?_
  rw [List.mem_map]
  constructor
  ·
   rintro ⟨k, hk, rfl⟩
   obtain ⟨h1, h2⟩ := hK k hk
   obtain ⟨x, hx, hh, ha⟩ := hone k h2 h1
   rw [xk_of hx]
   exact (found_alive hC hM h1 hh hx).2 ha
  ·
   intro hx
   obtain ⟨k, hk, hh, hxk, _⟩ := (hM.mem x).1 hx
   have hL : (C.getD k default).L = [x] := by
    rcases hC.one k hk with ⟨e, _⟩ | ⟨y, e, _⟩
    ·
     rw [e] at hxk; cases hxk
    ·
     rw [e, List.mem_singleton] at hxk; rw [e, hxk]
   refine ⟨k, List.mem_filter.2 ⟨List.mem_range.2 hk, ?_⟩, xk_of hL⟩
   unfold wtB
   rw [hh, (found_alive hC hM hk hh hL).1 hx, hL]; rfl
 have := hp.length_eq
 rw [List.length_map] at this
 exact this
end Go.Proofs.YthpdmfkpiekonaaGreat
namespace Go.Proofs.YthpdmfkpiekonaaGreat
open Go Go.RowKit Go.ChangeShapes cl
set_option maxHeartbeats 12800000 in
set_option maxRecDepth 100000 in
theorem means_any (l : List (List Int)) (v : Value) (w : World) (hm : MX w) (h : KInts 4 w w.heap.size v l) :
  Calls Tryz.prog 5 #[v] w (Said true w) := by
 obtain ⟨B, hBe⟩ : ∃ B, B = w.heap.size := ⟨_, rfl⟩
 have h0 : 0 < B := by rw [hBe]; exact mx_pos hm
 have HMX : Hid (∀ W, Below B w W → MX W) := fun W hW => hm.b hW h0
 have HAW : Hid (∀ W, Below B w W → Calls Tryz.prog 8 #[] W (Said true W)) := fun W hW => awake_any W (HMX.out W hW)
 have HBG : Hid (∀ W, Calls Tryz.prog 15 #[] W fun e w' => e = .returned (.agg #[.slice none 0 0, .slice none 0 0, .slice none 0 0, .slice none 0 0, .slice none 0 0, .slice none 0 0, .slice none 0 0, .slice none 0 0, .slice none 0 0, .int .i64 0, .int .i64 0, .int .i64 0, .slice none 0 0, .slice none 0 0, .slice none 0 0, .slice none 0 0]) ∧ Below W.heap.size W w') := begun_any
 obtain ⟨m, hq⟩ : ∃ m, m = l.length := ⟨_, rfl⟩
 obtain ⟨so, sc, rfl, hmm⟩ : ∃ ao cap, v = .slice ao m cap ∧ m ≤ 9223372036854775807 := by
  obtain ⟨ao, cap, e, _, h9⟩ := h.form
  unfold maxLen at h9
  exact ⟨ao, cap, by rw [hq]; exact e, by rw [hq]; exact h9⟩
 have HK := Lib.hid h
 have HQ := Lib.hid hq
 have HBE := Lib.hid hBe
 clear h hq hm
 by_cases hbig : 50 < m
 ·
  have hbI : (50 : Int) < (m : Int) := by omega
  clear hBe
  go_enter Tryz.func5, Tryz.ntmps5
  go_wp2_with fail
  (with_reducible refine (HAW.out _ (Below.refl _ _)).mono ?_)
  rintro e w2 ⟨rfl, hb2⟩
  go_wp2_with fail
  go_ret
  exact ⟨rfl, hb2⟩
 have hbI : ¬ (50 : Int) < (m : Int) := by omega
 have hbN : ¬ 50 < m := hbig
 clear hbig hBe
 go_enter Tryz.func5, Tryz.ntmps5
 go_wp2_with fail
 (with_reducible refine (HBG.out _).mono ?_)
 rintro e w1 ⟨rfl, hb1⟩
 obtain ⟨q, hqe⟩ : ∃ q, q = w1.heap.size := ⟨_, rfl⟩
 obtain ⟨w2, hw2⟩ : ∃ W, W = w1.alloc (.cells #[.slice none 0 0, .slice none 0 0, .slice none 0 0, .slice none 0 0, .slice none 0 0, .slice none 0 0, .slice none 0 0, .slice none 0 0, .slice none 0 0, .int .i64 0, .int .i64 0, .int .i64 0, .slice none 0 0, .slice none 0 0, .slice none 0 0, .slice none 0 0] 43) := ⟨_, rfl⟩
 have hb2 : Below w1.heap.size w1 w2 := by rw [hw2]; exact below1
 have x2 : w2.heap[q]? = some (.cells #[.slice none 0 0, .slice none 0 0, .slice none 0 0, .slice none 0 0, .slice none 0 0, .slice none 0 0, .slice none 0 0, .slice none 0 0, .slice none 0 0, .int .i64 0, .int .i64 0, .int .i64 0, .slice none 0 0, .slice none 0 0, .slice none 0 0, .slice none 0 0] 43 (0, 0)) := by rw [hw2, hqe]; exact heap_alloc_new w1 _
 have hBq : B ≤ q := by rw [hqe, HBE.out]; exact hb1.size
 have hb12 : Below B w w2 := by rw [HBE.out]; exact hb1.trans (hb2.mono hb1.size)
 have HX0 := Lib.hid (box_zero x2)
 have HP0 := Lib.hid (pin_zero B w2)
 have HI0 := Lib.hid (inv_zero 0)
 have HB0 := Lib.hid hb12
 have HW2 := Lib.hid hw2
 have HQE := Lib.hid hqe
 clear hqe hw2 hb2 x2 hb12 hb1
 go_wp2_with fail
 rw [← HW2.out, ← HQE.out]
 go_loopw [24] (fun i wr => ∃ (k : Nat) (g : Nat → Value) (s : PS), i = .int .i64 (k : Int) ∧ k ≤ m ∧ Hid (Box16 wr q g) ∧ Hid (PIn B wr g s) ∧ Hid (Inv k s) ∧ Hid (Below B w wr)) (fun i _ => m - (intOf i).toNat)
 case atStart => exact ⟨0, g16, PS.zero, rfl, by omega, HX0, HP0, HI0, HB0⟩
 case round =>
  obtain ⟨k, g, s, rfl, hk, HX, HP, HI, HB⟩ := hrel
  by_cases hlt : k < m
  ·
   have hkI : (k : Int) < (m : Int) := by omega
   have hk0 : 0 ≤ (k : Int) := by omega
   obtain ⟨b, off, rfl, hbB, hcc, -⟩ := HK.out.get HQ.out hlt
   have hz : B ≤ wr.heap.size := Nat.le_trans hBq (Nat.le_of_lt HX.out.lt)
   have hcc2 : ∀ i : Nat, i < 4 → wr.cell? ⟨b, off + k * 4 + i, none⟩ = some (.int .i64 ((l.getD k []).getD i 0)) := fun i hi => (HB.out.cell (p := ⟨b, _, none⟩) (by rw [HBE.out]; exact hbB)).trans (by rw [Nat.add_assoc]; exact hcc i hi)
   obtain ⟨oK, hoK⟩ : ∃ x, x = (l.getD k []).getD 0 0 := ⟨_, rfl⟩
   obtain ⟨oW, hoW⟩ : ∃ x, x = (l.getD k []).getD 1 0 := ⟨_, rfl⟩
   obtain ⟨oA, hoA⟩ : ∃ x, x = (l.getD k []).getD 2 0 := ⟨_, rfl⟩
   obtain ⟨oB, hoB⟩ : ∃ x, x = (l.getD k []).getD 3 0 := ⟨_, rfl⟩
   have q0 : wr.cell? ⟨b, off + k * 4, none⟩ = some (.int .i64 ((l.getD k []).getD 0 0)) := hcc2 0 (by decide)
   have q1 := hcc2 1 (by decide)
   have q2 := hcc2 2 (by decide)
   have q3 := hcc2 3 (by decide)
   rw [← hoK] at q0
   rw [← hoW] at q1
   rw [← hoA] at q2
   rw [← hoB] at q3
   obtain ⟨w3, hw3⟩ : ∃ W, W = wr.alloc (.cells #[.int .i64 oK, .int .i64 oW, .int .i64 oA, .int .i64 oB] 46) := ⟨_, rfl⟩
   have hb3 : Below wr.heap.size wr w3 := by rw [hw3]; exact below1
   have HST := Lib.hid (step_any B q k s g oK oW oA oB w3 (HX.out.on hb3) (HP.out.on hb3) HI.out (by omega) hBq (HMX.out w3 (HB.out.trans (hb3.mono hz))) h0)
   have HB3 := Lib.hid (HB.out.trans (hb3.mono hz))
   have HW3 := Lib.hid hw3
   clear hcc hcc2 hoK hoW hoA hoB hbB hw3 hb3
   go_wp2_with fail
   rw [← HW3.out]
   (with_reducible refine HST.out.mono ?_)
   rintro e w4 ⟨rfl, g', s', hx', hp', hi', hb'⟩
   have HX' := Lib.hid hx'
   have HP' := Lib.hid hp'
   have HI' := Lib.hid hi'
   have HB' := Lib.hid (HB3.out.trans hb')
   clear hx' hp' hi' hb' q0 q1 q2 q3
   go_wp2_with fail
   go_roundw
   case rel => exact ⟨k + 1, g', s', by go_num, by omega, HX', HP', HI', HB'⟩
   case measure => simp [intOf]; omega
  ·
   have hkm : k = m := by omega
   subst hkm
   have hbI' : B ≤ wr.heap.size := Nat.le_trans hBq (Nat.le_of_lt HX.out.lt)
   obtain ⟨W0, hW0⟩ : ∃ W, W = wr := ⟨_, rfl⟩
   rw [← hW0] at HX HP HB hbI' ⊢
   have hk50 : k ≤ 60 := by omega
   clear hW0 HK hk hmm hbI hbN hlt
   obtain ⟨nC, hnC⟩ : ∃ n, n = s.C.length := ⟨_, rfl⟩
   have hC60 : nC ≤ 60 := by rw [hnC]; have := HI.out.many; omega
   obtain ⟨aC, cC, hgC⟩ : ∃ a c, g 12 = .slice a nC c := by
    obtain ⟨a, c, e⟩ := HP.out.chg.len
    exact ⟨a, c, by rw [e, hnC]⟩
   have HNC := Lib.hid hnC
   have HGC := Lib.hid hgC
   clear hnC hgC
   have XC : Hid (∀ W, Below W0.heap.size W0 W → W.cell? ⟨q, 12, none⟩ = some (.slice aC nC cC)) := fun W hW => by rw [← HGC.out]; exact (HX.out.on hW).cell (by decide)
   obtain ⟨rC, hac⟩ : ∃ rC, nC ≠ 0 → aC = some ⟨rC, 0, none⟩ := by
    obtain ⟨D, _, _, h2⟩ := HP.out.chg
    rw [HGC.out] at h2
    rcases h2.2 with ⟨e, e2⟩ | ⟨r, _, _, e, _⟩
    ·
     exact ⟨0, fun h => absurd (HNC.out.trans e2) h⟩
    ·
     simp only [Value.slice.injEq] at e
     exact ⟨r, fun _ => e.1⟩
   have HCG : Hid (∀ (W : World) (k : Nat), Below W0.heap.size W0 W → k < nC → ∃ t0a t0c t1a t1b t1c t2a t2b t2c t3a t3b t3c, W.cell? ⟨rC, k * 4, none⟩ = some (.slice t0a (s.C.getD k default).L.length t0c) ∧ W.cell? ⟨rC, k * 4 + 1, none⟩ = some (.slice t1a t1b t1c) ∧ W.cell? ⟨rC, k * 4 + 2, none⟩ = some (.slice t2a t2b t2c) ∧ W.cell? ⟨rC, k * 4 + 3, none⟩ = some (.slice t3a t3b t3c) ∧
     EntO B W (.slice t0a (s.C.getD k default).L.length t0c) (s.C.getD k default).L ∧ OwnC B W (.agg #[.slice t2a t2b t2c, .slice t3a t3b t3c]) (s.C.getD k default).c) := fun W k hW hk => by
    have hch := (HP.out.on hW).chg
    rw [HGC.out, hac (by omega)] at hch
    obtain ⟨r, t0, t1, t2, t3, er, hrl, q0, q1, q2, q3, hL, hA, hC⟩ := hch.get (by rw [← HNC.out]; exact hk)
    obtain rfl : rC = r := by cases er; rfl
    obtain ⟨t0a, t0c, rfl⟩ := own_slice hL
    obtain ⟨t1a, t1c, rfl⟩ := own_slice hA
    obtain ⟨t2a, t2b, t2c, t3a, t3b, t3c, e2⟩ := hC.form
    simp only [Value.agg.injEq, Array.mk.injEq, List.cons.injEq, and_true] at e2
    obtain ⟨rfl, rfl⟩ := e2
    exact ⟨_, _, _, _, _, _, _, _, _, _, _, q0, q1, q2, q3, hL, hC⟩
   have HHS : Hid (∀ (c : dm.Ctx) (d : Dot) (v : Value) W, CtxAt W W.heap.size v c → Calls Tryz.prog 18 #[v, .agg #[.int .i64 d.1, .int .i64 d.2]] W (SaidD (dm.hasF c d) W)) := fun c d v W h => has_any c d v W h
   go_wp2_with fail
   go_loopw [31] (fun v wr => ∃ i : Nat, v = .int .i64 (i : Int) ∧ i ≤ 3 ∧ Hid (Below W0.heap.size W0 wr)) (fun v _ => 3 - (intOf v).toNat)
   case atStart => exact ⟨0, rfl, by omega, Below.refl _ _⟩
   case round =>
    obtain ⟨i, rfl, hi, HD⟩ := hrel
    by_cases hi3 : i < 3
    ·
     have hi3i : (i : Int) < 3 := by omega
     have hi0 : 0 ≤ (i : Int) := by omega
     have c12 := XC.out _ HD.out
     have HHL : Hid ((s.has i).length = nC) := by show _ = _; rw [HNC.out]; exact HI.out.hasl i hi3
     obtain ⟨aH, cH, hgH⟩ : ∃ a c, g (13 + i) = .slice a nC c := by
      obtain ⟨a, c, e⟩ := own_slice (HP.out.has i hi3)
      exact ⟨a, c, by rw [e, HHL.out]⟩
     have HOH : Hid (∀ W, Below W0.heap.size W0 W → W.cell? ⟨q, 13 + i, none⟩ = some (.slice aH nC cH) ∧ W.ownsRow B 4 1 (.slice aH nC cH) nC ((s.has i).map Value.bool)) := fun W hW => by
      refine ⟨by rw [← hgH]; exact (HX.out.on hW).cell (by omega), ?_⟩
      have := (HP.out.on hW).has i hi3
      unfold HasO at this
      rw [hgH, HHL.out] at this
      exact this
     clear hgH
     go_wp2_with fail
     go_loopw [7, 37] (fun u v wr => ∃ k : Nat, v = .int .i64 (k : Int) ∧ u = .int .i64 (wtF s.C (s.has i) k : Int) ∧ k ≤ nC ∧ Hid (Below W0.heap.size W0 wr)) (fun _ v _ => nC - (intOf v).toNat)
     case atStart => exact ⟨0, rfl, rfl, Nat.zero_le _, HD⟩
     case round =>
      obtain ⟨k1, rfl, rfl, hk1, HD1⟩ := hrel
      by_cases hlt : k1 < nC
      ·
       obtain rfl := hac (by omega)
       have hkI : (k1 : Int) < (nC : Int) := by omega
       have hk0 : 0 ≤ (k1 : Int) := by omega
       obtain ⟨t0a, t0c, t1a, t1b, t1c, t2a, t2b, t2c, t3a, t3b, t3c, q0, q1, q2, q3, hL, hC⟩ := HCG.out wr k1 HD1.out hlt
       obtain ⟨nL, hnL⟩ : ∃ n, n = (s.C.getD k1 default).L.length := ⟨_, rfl⟩
       rw [← hnL] at q0
       obtain ⟨b9, hb9⟩ : ∃ b, b = wr.heap.size := ⟨_, rfl⟩
       obtain ⟨w1, hw1⟩ : ∃ W, W = wr.alloc (.cells #[.slice t0a nL t0c, .slice t1a t1b t1c, .slice t2a t2b t2c, .slice t3a t3b t3c] 29) := ⟨_, rfl⟩
       have hb1 : Below wr.heap.size wr w1 := by rw [hw1]; exact below1
       have x9 : w1.heap[b9]? = some (.cells #[.slice t0a nL t0c, .slice t1a t1b t1c, .slice t2a t2b t2c, .slice t3a t3b t3c] 29 (0, 0)) := by rw [hw1, hb9]; exact heap_alloc_new wr _
       have HD2 := Lib.hid (HD1.out.trans (hb1.mono HD1.out.size))
       have X9 := Lib.hid x9
       have HNL := Lib.hid hnL
       obtain ⟨ch, oh⟩ := HOH.out w1 HD2.out
       obtain ⟨bt, hbt⟩ : ∃ b, b = (s.has i).getD k1 false := ⟨_, rfl⟩
       have hget : ((s.has i).map Value.bool)[k1]? = some (.bool bt) := by
        rw [List.getElem?_map, hbt, List.getD_eq_getElem?_getD, List.getElem?_eq_getElem (by rw [HHL.out]; exact hlt)]; rfl
       obtain ⟨rH, rfl, _, _, cr, _, _⟩ := own_at oh hget
       have HBT := Lib.hid hbt
       have HW1 := Lib.hid hw1
       have HE9 := Lib.hid hb9
       have l0 := boxc x9 0 _ rfl
       have HL1 : Hid (EntO B w1 (.slice t0a nL t0c) (s.C.getD k1 default).L) := by show EntO _ _ _ _; rw [hnL]; exact hL.on hb1
       have HC1 : Hid (OwnC B w1 (.agg #[.slice t2a t2b t2c, .slice t3a t3b t3c]) (s.C.getD k1 default).c) := hC.on hb1
       rw [hw1] at ch cr l0
       rw [hb9] at l0
       clear hL hC hnL hb9 hw1 hb1 x9 oh hget hbt
       cases bt
       ·
        have hwt : wtB s.C (s.has i) k1 = false := by unfold wtB; rw [← HBT.out]; rfl
        have HWT : Hid (wtF s.C (s.has i) (k1 + 1) = wtF s.C (s.has i) k1) := by show _ = _; rw [wtF_succ, hwt]; rfl
        clear hwt
        go_wp2_with fail
        go_roundw
        case rel => exact ⟨k1 + 1, by go_num, by rw [HWT.out], by omega, by rw [← HW1.out]; exact HD2⟩
        case measure => simp [intOf]; omega
       ·
        have hkC : k1 < s.C.length := by rw [← HNC.out]; exact hlt
        rcases HI.out.chgs.one k1 hkC with ⟨e1, _⟩ | ⟨x, e1, _⟩
        ·
         have hn0 : nL = 0 := by rw [HNL.out, e1]; rfl
         have hwt : wtB s.C (s.has i) k1 = false := by unfold wtB; rw [e1]; simp
         have HWT : Hid (wtF s.C (s.has i) (k1 + 1) = wtF s.C (s.has i) k1) := by show _ = _; rw [wtF_succ, hwt]; rfl
         subst hn0
         clear hwt e1 hkC
         go_wp2_with fail
         go_roundw
         case rel => exact ⟨k1 + 1, by go_num, by rw [HWT.out], by omega, by rw [← HW1.out]; exact HD2⟩
         case measure => simp [intOf]; omega
        have hn1 : nL = 1 := by rw [HNL.out, e1]; rfl
        subst hn1
        have hE1 := HL1.out
        rw [e1] at hE1
        obtain ⟨rE, oE, era, _, y0, y1, y2, y3, y4⟩ := Ents.get hE1.at (j := 0) rfl (by decide)
        subst era
        simp only [Nat.zero_mul, Nat.add_zero] at y0 y1 y2 y3 y4
        have hx0 : ([x] : List Ent).getD 0 default = x := rfl
        rw [hx0] at y0 y1 y2 y3
        obtain ⟨b10, hb10⟩ : ∃ b, b = wr.heap.size + 1 := ⟨_, rfl⟩
        have hs1 : w1.heap.size = wr.heap.size + 1 := by rw [HW1.out, World.size_alloc]
        obtain ⟨w2, hw2⟩ : ∃ W, W = w1.alloc (.cells #[.string x.s, .int .i64 x.d.1, .int .i64 x.d.2, .int .i64 x.t, .slice none 0 0] 53) := ⟨_, rfl⟩
        have hb2 : Below w1.heap.size w1 w2 := by rw [hw2]; exact below1
        have x10 : w2.heap[b10]? = some (.cells #[.string x.s, .int .i64 x.d.1, .int .i64 x.d.2, .int .i64 x.t, .slice none 0 0] 53 (0, 0)) := by rw [hw2, hb10, ← hs1]; exact heap_alloc_new w1 _
        have HD3 := Lib.hid (HD2.out.trans (hb2.mono HD2.out.size))
        have X10 := Lib.hid x10
        have HW2 := Lib.hid hw2
        have HE10 := Lib.hid hb10
        have HXL : Hid ((s.C.getD k1 default).L = [x]) := e1
        have hxk : xk s.C k1 = x := xk_of e1
        have HXK := Lib.hid hxk
        have c12 := XC.out _ HD3.out
        rw [hw2, HW1.out] at c12
        rw [HW1.out] at y0 y1 y2 y3 y4
        have HX9E := HW1
        clear hE1 hx0 hw2 hb2 x10 hb10 e1 hxk hs1
        go_wp2_with fail
        rw [← HW1.out, ← HW2.out, ← HE10.out, ← HE9.out]
        clear y0 y1 y2 y3 y4 c12 l0 ch cr q0 q1 q2 q3 HX9E
        go_loopw [11, 63] (fun a v wz => ∃ j : Nat, v = .int .i64 (j : Int) ∧ a = .bool (alF s.C (s.has i) k1 j) ∧ j ≤ nC ∧ Hid (Below w2.heap.size w2 wz)) (fun _ v _ => nC - (intOf v).toNat)
        case atStart => exact ⟨0, rfl, rfl, Nat.zero_le _, Below.refl _ _⟩
        case round =>
         obtain ⟨j, rfl, rfl, hj, HD4⟩ := hrel
         have HDj := Lib.hid (HD3.out.trans (HD4.out.mono HD3.out.size))
         by_cases hjl : j < nC
         ·
          have hjI : (j : Int) < (nC : Int) := by omega
          have hj0 : 0 ≤ (j : Int) := by omega
          obtain ⟨s0a, s0c, s1a, s1b, s1c, s2a, s2b, s2c, s3a, s3b, s3c, q0, q1, q2, q3, _, hC⟩ := HCG.out wr j HDj.out hjl
          obtain ⟨nM, hnM⟩ : ∃ n, n = (s.C.getD j default).L.length := ⟨_, rfl⟩
          rw [← hnM] at q0
          obtain ⟨b13, hb13⟩ : ∃ b, b = wr.heap.size := ⟨_, rfl⟩
          obtain ⟨w5, hw5⟩ : ∃ W, W = wr.alloc (.cells #[.slice s0a nM s0c, .slice s1a s1b s1c, .slice s2a s2b s2c, .slice s3a s3b s3c] 29) := ⟨_, rfl⟩
          have hb5 : Below wr.heap.size wr w5 := by rw [hw5]; exact below1
          have x13 : w5.heap[b13]? = some (.cells #[.slice s0a nM s0c, .slice s1a s1b s1c, .slice s2a s2b s2c, .slice s3a s3b s3c] 29 (0, 0)) := by rw [hw5, hb13]; exact heap_alloc_new wr _
          have HD5 := Lib.hid (HDj.out.trans (hb5.mono HDj.out.size))
          have HD45 := Lib.hid (HD4.out.trans (hb5.mono HD4.out.size))
          have HC5 : Hid (CtxAt w5 w5.heap.size (.agg #[.slice s2a s2b s2c, .slice s3a s3b s3c]) (s.C.getD j default).c) := (hC.on hb5).at
          obtain ⟨ch, oh⟩ := HOH.out w5 HD5.out
          obtain ⟨bj, hbj⟩ : ∃ b, b = (s.has i).getD j false := ⟨_, rfl⟩
          have hget : ((s.has i).map Value.bool)[j]? = some (.bool bj) := by
           rw [List.getElem?_map, hbj, List.getD_eq_getElem?_getD, List.getElem?_eq_getElem (by rw [HHL.out]; exact hjl)]; rfl
          obtain ⟨rK, eK, _, _, cr, _, _⟩ := own_at oh hget
          obtain rfl : rH = rK := by cases eK; rfl
          have x10 := (HD45.out.block _ (lt_of_block X10.out)).trans X10.out
          have d1 := boxc x10 1 _ rfl
          have d2 := boxc x10 2 _ rfl
          have z2 := boxc x13 2 _ rfl
          have z3 := boxc x13 3 _ rfl
          have HW5 := Lib.hid hw5
          have HE13 := Lib.hid hb13
          have HBJ := Lib.hid hbj
          obtain ⟨al, hal⟩ : ∃ b, b = alF s.C (s.has i) k1 j := ⟨_, rfl⟩
          have HAL := Lib.hid hal
          rw [← hal]
          rw [hw5] at ch cr d1 d2 z2 z3
          rw [hb13] at z2 z3
          clear hC hnM hb13 hw5 hb5 x13 oh hget eK x10 hbj hal
          cases al
          ·
           have HA2 : Hid (alF s.C (s.has i) k1 (j + 1) = false) := by show _ = _; rw [alF_succ, ← HAL.out]; rfl
           go_wp2_with fail
           go_roundw
           case rel => exact ⟨j + 1, by go_num, by rw [HA2.out], by omega, by rw [← HW5.out]; exact HD45⟩
           case measure => simp [intOf]; omega
          ·
           cases bj
           ·
            have HA2 : Hid (alF s.C (s.has i) k1 (j + 1) = true) := by show _ = _; rw [alF_succ, ← HAL.out]; unfold okF; rw [← HBJ.out]; rfl
            go_wp2_with fail
            go_roundw
            case rel => exact ⟨j + 1, by go_num, by rw [HA2.out], by omega, by rw [← HW5.out]; exact HD45⟩
            case measure => simp [intOf]; omega
           ·
            by_cases hjk : j = k1
            ·
             subst hjk
             have HA2 : Hid (alF s.C (s.has i) j (j + 1) = true) := by show _ = _; rw [alF_succ, ← HAL.out]; unfold okF; simp
             go_wp2_with fail
             go_roundw
             case rel => exact ⟨j + 1, by go_num, by rw [HA2.out], by omega, by rw [← HW5.out]; exact HD45⟩
             case measure => simp [intOf]; omega
            ·
             have hjb : ((j : Int) == (k1 : Int)) = false := by simp; omega
             have hjkI : ¬ (j : Int) = (k1 : Int) := by omega
             have HHJ := Lib.hid (HHS.out (s.C.getD j default).c x.d _ w5 HC5.out)
             have HOK : Hid (okF s.C (s.has i) k1 j = !dm.hasF (s.C.getD j default).c x.d) := by show _ = _; unfold okF; rw [← HBJ.out, HXK.out]; simp [hjk]
             go_wp2_with fail
             rw [← HW5.out]
             (with_reducible refine HHJ.out.mono ?_)
             rintro e w6 ⟨rfl, hb6⟩
             have HD6 := Lib.hid (HD45.out.trans (hb6.mono HD45.out.size))
             obtain ⟨bh, hbh⟩ : ∃ b, b = dm.hasF (s.C.getD j default).c x.d := ⟨_, rfl⟩
             have HA2 : Hid (alF s.C (s.has i) k1 (j + 1) = !bh) := by show _ = _; rw [alF_succ, ← HAL.out, HOK.out, hbh]; rfl
             rw [← hbh]
             clear hbh hb6
             cases bh
             ·
              go_wp2_with fail
              go_roundw
              case rel => exact ⟨j + 1, by go_num, by rw [HA2.out]; rfl, by omega, HD6⟩
              case measure => simp [intOf]; omega
             ·
              go_wp2_with fail
              go_roundw
              case rel => exact ⟨j + 1, by go_num, by rw [HA2.out]; rfl, by omega, HD6⟩
              case measure => simp [intOf]; omega
         ·
          obtain rfl : nC = j := by omega
          obtain ⟨ae, ce, hge⟩ := own_slice (HP.out.ent i hi3)
          obtain ⟨ne, hne⟩ : ∃ n, n = (s.l i).length := ⟨_, rfl⟩
          rw [← hne] at hge
          have HNE := Lib.hid hne
          have hne60 : ne ≤ 60 := by rw [hne]; exact Nat.le_trans (HI.out.len hi3) hk50
          have HEN : Hid (∀ W, Below W0.heap.size W0 W → W.cell? ⟨q, i * 3, none⟩ = some (.slice ae ne ce) ∧ EntO B W (.slice ae ne ce) (s.l i)) := fun W hW => by
           refine ⟨by rw [← hge]; exact (HX.out.on hW).cell (by omega), ?_⟩
           have := (HP.out.on hW).ent i hi3
           rw [hge] at this
           exact this
          have cE := (HEN.out wr HDj.out).1
          obtain ⟨ba, hba⟩ : ∃ b, b = alF s.C (s.has i) k1 nC := ⟨_, rfl⟩
          have HBA := Lib.hid hba
          rw [← hba]
          clear hge hne hba
          go_wp2_with fail
          clear cE
          go_loopw [14, 99] (fun f v wz => ∃ m : Nat, v = .int .i64 (m : Int) ∧ f = .bool (fdF (s.l i) x m) ∧ m ≤ ne ∧ Hid (Below w2.heap.size w2 wz)) (fun _ v _ => ne - (intOf v).toNat)
          case atStart => exact ⟨0, rfl, rfl, Nat.zero_le _, HD4⟩
          case round =>
           obtain ⟨m, rfl, rfl, hm, HD7⟩ := hrel
           have HDm := Lib.hid (HD3.out.trans (HD7.out.mono HD3.out.size))
           by_cases hml : m < ne
           ·
            have hmI : (m : Int) < (ne : Int) := by omega
            have hm0 : 0 ≤ (m : Int) := by omega
            obtain ⟨rF, oF, erf, _, y0, y1, y2, y3, y4⟩ := Ents.get (HEN.out wr HDm.out).2.at HNE.out hml
            subst erf
            obtain ⟨y, hy⟩ : ∃ y, y = (s.l i).getD m default := ⟨_, rfl⟩
            rw [← hy] at y0 y1 y2 y3
            obtain ⟨b16, hb16⟩ : ∃ b, b = wr.heap.size := ⟨_, rfl⟩
            obtain ⟨w8, hw8⟩ : ∃ W, W = wr.alloc (.cells #[.string y.s, .int .i64 y.d.1, .int .i64 y.d.2, .int .i64 y.t, .slice none 0 0] 53) := ⟨_, rfl⟩
            have hb8 : Below wr.heap.size wr w8 := by rw [hw8]; exact below1
            have x16 : w8.heap[b16]? = some (.cells #[.string y.s, .int .i64 y.d.1, .int .i64 y.d.2, .int .i64 y.t, .slice none 0 0] 53 (0, 0)) := by rw [hw8, hb16]; exact heap_alloc_new wr _
            have HD8 := Lib.hid (HD7.out.trans (hb8.mono HD7.out.size))
            have x10 := (HD8.out.block _ (lt_of_block X10.out)).trans X10.out
            have d0 := boxc x10 0 _ rfl
            have d1 := boxc x10 1 _ rfl
            have d2 := boxc x10 2 _ rfl
            have d3 := boxc x10 3 _ rfl
            have z0 := boxc x16 0 _ rfl
            have z1 := boxc x16 1 _ rfl
            have z2 := boxc x16 2 _ rfl
            have z3 := boxc x16 3 _ rfl
            obtain ⟨fd, hfd⟩ : ∃ b, b = fdF (s.l i) x m := ⟨_, rfl⟩
            have HFS : Hid (fdF (s.l i) x (m + 1) = (fd || eqE y x)) := by show _ = _; rw [fdF_succ _ _ (by rw [← HNE.out]; exact hml), hfd, hy]
            have HW8 := Lib.hid hw8
            rw [← hfd]
            rw [hw8] at d0 d1 d2 d3 z0 z1 z2 z3
            rw [hb16] at z0 z1 z2 z3
            clear hy hb16 hw8 hb8 x16 x10 hfd
            cases fd
            ·
             obtain ⟨ys, ⟨yd1, yd2⟩, yt⟩ := y
             obtain ⟨xs, ⟨xd1, xd2⟩, xt⟩ := x
             dsimp only at y0 y1 y2 y3 d0 d1 d2 d3 z0 z1 z2 z3
             by_cases e1 : yd1 = xd1
             ·
              subst e1
              by_cases e2 : yd2 = xd2
              ·
               subst e2
               by_cases e3 : ys = xs
               ·
                subst e3
                by_cases e4 : yt = xt
                ·
                 subst e4
                 have HF2 : Hid (fdF (s.l i) ⟨ys, (yd1, yd2), yt⟩ (m + 1) = true) := by show _ = _; rw [HFS.out]; unfold eqE; simp
                 go_wp2_with fail
                 go_roundw
                 case rel => exact ⟨m + 1, by go_num, by rw [HF2.out], by omega, by rw [← HW8.out]; exact HD8⟩
                 case measure => simp [intOf]; omega
                ·
                 have en4 : (yt == xt) = false := by simpa using e4
                 have HF2 : Hid (fdF (s.l i) ⟨ys, (yd1, yd2), xt⟩ (m + 1) = false) := by show _ = _; rw [HFS.out]; unfold eqE; simp [e4]
                 go_wp2_with fail
                 go_roundw
                 case rel => exact ⟨m + 1, by go_num, by rw [HF2.out], by omega, by rw [← HW8.out]; exact HD8⟩
                 case measure => simp [intOf]; omega
               ·
                have en3 : (ys.toList == xs.toList) = false := by rw [toList_beq]; simpa using e3
                have em3 : ¬ ys.toList = xs.toList := fun h => e3 (toList_inj h)
                have HF2 : Hid (fdF (s.l i) ⟨xs, (yd1, yd2), xt⟩ (m + 1) = false) := by show _ = _; rw [HFS.out]; unfold eqE; simp [e3]
                go_wp2_with fail
                go_roundw
                case rel => exact ⟨m + 1, by go_num, by rw [HF2.out], by omega, by rw [← HW8.out]; exact HD8⟩
                case measure => simp [intOf]; omega
              ·
               have en2 : (yd2 == xd2) = false := by simpa using e2
               have HF2 : Hid (fdF (s.l i) ⟨xs, (yd1, xd2), xt⟩ (m + 1) = false) := by show _ = _; rw [HFS.out]; unfold eqE; simp [e2]
               go_wp2_with fail
               go_roundw
               case rel => exact ⟨m + 1, by go_num, by rw [HF2.out], by omega, by rw [← HW8.out]; exact HD8⟩
               case measure => simp [intOf]; omega
             ·
              have en1 : (yd1 == xd1) = false := by simpa using e1
              have HF2 : Hid (fdF (s.l i) ⟨xs, (xd1, xd2), xt⟩ (m + 1) = false) := by show _ = _; rw [HFS.out]; unfold eqE; simp [e1]
              go_wp2_with fail
              go_roundw
              case rel => exact ⟨m + 1, by go_num, by rw [HF2.out], by omega, by rw [← HW8.out]; exact HD8⟩
              case measure => simp [intOf]; omega
            ·
             have HF2 : Hid (fdF (s.l i) x (m + 1) = true) := by show _ = _; rw [HFS.out]; rfl
             go_wp2_with fail
             go_roundw
             case rel => exact ⟨m + 1, by go_num, by rw [HF2.out], by omega, by rw [← HW8.out]; exact HD8⟩
             case measure => simp [intOf]; omega
           ·
            obtain rfl : ne = m := by omega
            have hfe : fdF (s.l i) x ne = ba := by
             have h1 := found_alive HI.out.chgs (HI.out.means i hi3) hkC HBT.out.symm HXL.out
             rw [← HNC.out, ← HBA.out] at h1
             have h2 := fdF_all (s.l i) x
             rw [← HNE.out] at h2
             cases h3 : fdF (s.l i) x ne <;> cases h4 : ba <;> simp_all
            have hwb : wtB s.C (s.has i) k1 = ba := by
             unfold wtB
             rw [← HBT.out, HXL.out, ← HNC.out, ← HBA.out]; rfl
            have HWT : Hid (wtF s.C (s.has i) (k1 + 1) = wtF s.C (s.has i) k1 + if ba = true then 1 else 0) := by show _ = _; rw [wtF_succ, hwb]
            have hwl := wtF_le s.C (s.has i) k1
            have hwI : (wtF s.C (s.has i) k1 : Int) ≤ 60 := by omega
            rw [hfe]
            clear hfe hwb
            cases ba
            ·
             go_wp2_with fail
             go_roundw
             case rel => exact ⟨k1 + 1, by go_num, by rw [HWT.out]; rfl, by omega, HDm⟩
             case measure => simp [intOf]; omega
            ·
             go_wp2_with fail
             go_roundw
             case rel => exact ⟨k1 + 1, by go_num, by rw [HWT.out]; go_num, by omega, HDm⟩
             case measure => simp [intOf]; omega
      ·
       obtain rfl : nC = k1 := by omega
       obtain ⟨ae, ce, hge⟩ := own_slice (HP.out.ent i hi3)
       have cE := (HX.out.on HD1.out).cell (j := i * 3) (by omega)
       have hwn : wtF s.C (s.has i) nC = (s.l i).length := by rw [HNC.out]; exact want_len HI.out.chgs (HI.out.means i hi3) (HI.out.set i hi3).up
       obtain ⟨ne, hne⟩ : ∃ n, n = (s.l i).length := ⟨_, rfl⟩
       rw [hge, ← hne] at cE
       rw [hwn, ← hne]
       clear hge hwn hne
       go_wp2_with fail
       go_roundw
       case rel => exact ⟨i + 1, by go_num, by omega, HD1⟩
       case measure => simp [intOf]; omega
    ·
     obtain rfl : i = 3 := by omega
     have HBZ := Lib.hid (HB.out.trans (HD.out.mono hbI'))
     go_wp2_with fail
     (with_reducible refine (HAW.out _ HBZ.out).mono ?_)
     rintro e w8 ⟨rfl, hb8⟩
     have hfin : Below w.heap.size w w8 := by
      have := HBZ.out.trans (hb8.mono (by have h1 := HBZ.out.size; have h2 := HBE.out; omega))
      rw [HBE.out] at this; exact this
     go_wp2_with fail
     go_ret
     exact ⟨rfl, hfin⟩
end Go.Proofs.YthpdmfkpiekonaaGreat
