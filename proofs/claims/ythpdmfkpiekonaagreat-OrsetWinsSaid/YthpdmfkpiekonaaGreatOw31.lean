/- texts put together: ArgsK, OrsLw, OrsNew, OrsWm, AppZ. -/
import Derived.Test.YthpdmfkpiekonaaGreatOh00
import Derived.Test.YthpdmfkpiekonaaGreatOh13
import Derived.Test.YthpdmfkpiekonaaGreatOh16
import Derived.Test.YthpdmfkpiekonaaGreatOh30
import Derived.ChangeArms
import Derived.Deep.SlicePairs
import Derived.Lib.SmallJoins
import Derived.WideShapes
namespace Go.Proofs.YthpdmfkpiekonaaGreat
open Go Go.RowKit Go.ChangeShapes cl
theorem Kt.of_below {T : TypeId} {w w' : World} (h : Below w.heap.size w w') : Kt T w w' := ⟨h.size, fun q hq _ => h.block q hq⟩
theorem rset_add {l L1 : List Ent} {c c' : dm.Ctx} {x : Ent} {p : Ent → Bool} {m : Nat} (hr : RSet l c) (hx : os.Fine x) (h1 : L1.Perm (staysOf p l ++ [x])) (u1 : os.Up L1) (hc : dm.Is c' (fun e => dm.Knows c e ∨ e = x.d) m) : RSet L1 c' := by
 have hm : ∀ y ∈ L1, y ∈ l ∨ y = x := fun y hy => by
  rcases List.mem_append.1 (h1.mem_iff.1 hy) with h | h
  ·
   exact Or.inl (mem_stays.1 h).1
  ·
   exact Or.inr (List.mem_singleton.1 h)
 refine ⟨hc.right, u1, fun y hy => ?_, fun y hy => ?_⟩
 ·
  rcases hm y hy with h | rfl
  ·
   exact hr.fine y h
  ·
   exact hx
 ·
  rcases hm y hy with h | rfl
  ·
   exact (hc.know _).2 (Or.inl (hr.kn y h))
  ·
   exact (hc.know _).2 (Or.inr rfl)
theorem rset_drop {l : List Ent} {c c' : dm.Ctx} {d : Dot} {p : Ent → Bool} {m : Nat} (hr : RSet l c) (hc : dm.Is c' (fun e => dm.Knows c e ∨ e = d) m) : RSet (staysOf p l) c' :=
 ⟨hc.right, hr.up.sublist List.filter_sublist, fun y hy => hr.fine y (mem_stays.1 hy).1, fun y hy => (hc.know _).2 (Or.inl (hr.kn y (mem_stays.1 hy).1))⟩
end Go.Proofs.YthpdmfkpiekonaaGreat
namespace Go.Proofs.YthpdmfkpiekonaaGreat
open Go.RowKit Go.WideShapes Go.ChangeShapes cl
def kcells (l : List (List Int)) : List Value := l.flatten.map (.int .i64)
theorem kcells_len {k : Nat} : ∀ {l : List (List Int)}, (∀ x ∈ l, x.length = k) → (kcells l).length = l.length * k := by
 intro l h
 unfold kcells
 rw [List.length_map]
 induction l with
 | nil => simp
 | cons x l ih =>
  rw [List.flatten_cons, List.length_append, List.length_cons, ih (fun y hy => h y (List.mem_cons_of_mem _ hy)), h x List.mem_cons_self, Nat.succ_mul, Nat.add_comm]
theorem kcells_get {k : Nat} : ∀ {l : List (List Int)} (_ : ∀ x ∈ l, x.length = k) (j i : Nat), j < l.length → i < k → (kcells l)[j * k + i]? = some (.int .i64 ((l.getD j []).getD i 0)) := by
 intro l
 induction l with
 | nil => intro _ j i h; simp at h
 | cons x l ih =>
  intro h j i hj hi
  have hx := h x List.mem_cons_self
  have e : kcells (x :: l) = x.map (.int .i64) ++ kcells l := by simp [kcells]
  rw [e]
  cases j with
  | zero =>
   rw [Nat.zero_mul, Nat.zero_add, List.getElem?_append_left (by rw [List.length_map, hx]; exact hi)]
   simp [List.getD, hx, hi]
  | succ j =>
   rw [Nat.succ_mul, List.getElem?_append_right (by rw [List.length_map, hx]; omega), List.length_map, hx]
   have := ih (fun y hy => h y (List.mem_cons_of_mem _ hy)) j i (by simpa using hj) hi
   rw [show j * k + k + i - k = j * k + i by omega, this]
   rfl
def KInts (k : Nat) (w : World) (B : Nat) (v : Value) (l : List (List Int)) : Prop := (∀ x ∈ l, x.length = k ∧ ∀ y ∈ x, (Lit.int .i64 y).wf = true) ∧ Cells w B v l.length k (kcells l)
theorem KInts.get {k : Nat} {w : World} {B n c : Nat} {ao : Option Addr} {l : List (List Int)} (h : KInts k w B (.slice ao n c) l) (hn : n = l.length) {j : Nat} (hj : j < n) : ∃ b off, ao = some ⟨b, off, none⟩ ∧ b < B ∧
  (∀ i, i < k → w.cell? ⟨b, off + (j * k + i), none⟩ = some (.int .i64 ((l.getD j []).getD i 0))) ∧ (l.getD j []).length = k ∧ ∀ y ∈ l.getD j [], (Lit.int .i64 y).wf = true := by
 subst hn
 obtain ⟨hk, _, ao', c', e, _, _, h4⟩ := h
 simp only [Value.slice.injEq] at e
 obtain ⟨rfl, _, rfl⟩ := e
 obtain ⟨b, off, rfl, hB, hc⟩ := h4 (by omega)
 have hm : l.getD j [] ∈ l := by
  simp only [List.getD, List.getElem?_eq_getElem hj, Option.getD_some]
  exact List.getElem_mem hj
 refine ⟨b, off, rfl, hB, fun i hi => hc _ _ (kcells_get (fun x hx => (hk x hx).1) j i hj hi), (hk _ hm).1, (hk _ hm).2⟩
theorem KInts.form {k : Nat} {w : World} {B : Nat} {v : Value} {l : List (List Int)} (h : KInts k w B v l) : ∃ ao cap, v = .slice ao l.length cap ∧ l.length ≤ cap ∧ l.length ≤ maxLen := Cells.form h.2
theorem open_kints {H : Type} {enc : TypeId × Value → H} {P : Program} {W : World} {r : Reach} {b0 : Nat} {t e it : TypeId} {k : Nat} {fs : Array Field} {v : Value} {d : DataW H} {ps : List MemPlace} (ht : P.underlying t = some (.slice e)) (he : P.underlying e = some (.struct fs))
  (hfs : fs.size = k) (ce : P.cellsOf e = k) (hf : ∀ (i : Nat) (f : Field), fs[i]? = some f → f.offset = i ∧ f.type = it) (ci : P.cellsOf it = 1) (si : P.underlying it = some (.int .i64)) (hk : 0 < k)
  (hval : Value.okWide P W r b0 t v) (hd : DataW.Trod enc P W 0 (fun _ => true) true t v d ps) : ∃ l : List (List Int), KInts k W W.heap.size v l := by
 obtain ⟨a0, len, cap, rfl⟩ := okWide_slice ht hval
 obtain ⟨fuel, hfu⟩ := hd
 rcases Deep.open_slice ht hfu with ⟨hcs, _⟩ | ⟨a, len', cap', m, n, D, Pl, hcs, _, hle, hmax, hm, _, hx⟩
 ·
  simp [Value.cells] at hcs
  obtain ⟨rfl, rfl, rfl⟩ := hcs
  exact ⟨[], by simp, Cells.nil _ _ _⟩
 ·
  simp [Value.cells] at hcs
  obtain ⟨rfl, rfl, rfl⟩ := hcs
  have hml : len ≤ m := by rw [hm]; split <;> omega
  have one : ∀ i q, i < len → q < k → ∃ x : Int, W.cell? (a.add (i * k + q)) = some (.int .i64 x) ∧ (Lit.int .i64 x).wf = true := fun i q hi hq => by
   obtain ⟨cs', h1, h2⟩ := hx i (by omega)
   rw [ce] at h1
   obtain ⟨_, hlen, hcell⟩ := World.cells?_some h1
   obtain ⟨xs, n', hn', hxy, _, hxl, hff⟩ := DataW.trod_struct he h2
   have hq2 : q < fs.size := by omega
   obtain ⟨f1, f2⟩ := hf q fs[q] (Array.getElem?_eq_getElem hq2)
   have g0 := hff q fs[q] (Array.getElem?_eq_getElem hq2)
   rw [f1, f2, ci, List.getElem?_eq_getElem (by omega)] at g0
   have hql : q < cs'.length := by omega
   rw [List.drop_eq_getElem_cons hql, List.take_succ_cons, List.take_zero] at g0
   obtain ⟨x, ex, _, sx⟩ := DataW.trod_int si g0
   simp only [List.cons.injEq, and_true] at ex
   have e0 := hcell q (by omega)
   rw [Deep.add_add] at e0
   exact ⟨x, by rw [e0, List.getElem?_eq_getElem hql, ex], sx⟩
  have hg : ∃ f : Nat → Nat → Int, ∀ i q, i < len → q < k → W.cell? (a.add (i * k + q)) = some (.int .i64 (f i q)) ∧ (Lit.int .i64 (f i q)).wf = true := by
   refine ⟨fun i q => if h : i < len ∧ q < k then (one i q h.1 h.2).choose else 0, fun i q hi hq => ?_⟩
   simp only [dif_pos (And.intro hi hq)]
   exact (one i q hi hq).choose_spec
  obtain ⟨f, hg⟩ := hg
  have hl : ((List.range len).map fun i => (List.range k).map (f i)).length = len := by simp
  have hall : ∀ x ∈ (List.range len).map fun i => (List.range k).map (f i), x.length = k := fun x hx => by
   obtain ⟨i, _, rfl⟩ := List.mem_map.1 hx
   simp
  refine ⟨(List.range len).map fun i => (List.range k).map (f i), fun x hx => ⟨hall x hx, fun y hy => ?_⟩, by rw [kcells_len hall], some a, cap, by rw [hl], ⟨(fun e => by cases e), by omega⟩, by omega, fun hp => ?_⟩
  ·
   obtain ⟨i, hi, rfl⟩ := List.mem_map.1 hx
   obtain ⟨q, hq, rfl⟩ := List.mem_map.1 hy
   exact (hg i q (List.mem_range.1 hi) (List.mem_range.1 hq)).2
  ·
   rw [hl] at hp
   obtain ⟨b, off, spot⟩ := a
   have h0 := (hg 0 0 hp hk).1
   have hspot : spot = none := by simpa [Addr.add] using World.cell?_spot h0
   subst hspot
   refine ⟨b, off, rfl, (by have := World.block_lt_of_cell? _ _ h0; rwa [Addr.add_lit] at this), fun j u hj => ?_⟩
   have hjl : j < len * k := by have := (List.getElem?_eq_some_iff.1 hj).1; rw [kcells_len hall, hl] at this; exact this
   have hjk : j / k < len := by rw [Nat.div_lt_iff_lt_mul hk]; exact hjl
   have hmk : j % k < k := Nat.mod_lt _ hk
   have ej : j / k * k + j % k = j := Nat.div_add_mod' j k
   have g0 := kcells_get hall (j / k) (j % k) (by rw [hl]; exact hjk) hmk
   have hv : (((List.range len).map fun i => (List.range k).map (f i)).getD (j / k) []).getD (j % k) 0 = f (j / k) (j % k) := by simp [List.getD, hjk, hmk]
   rw [hv, ej, hj] at g0
   have k0 := (hg (j / k) (j % k) hjk hmk).1
   rw [Addr.add_lit, ej] at k0
   rw [k0]; exact g0.symm
end Go.Proofs.YthpdmfkpiekonaaGreat
namespace Go.Proofs.YthpdmfkpiekonaaGreat
open Go Go.RowKit Go.ChangeShapes cl
def g16 : Nat → Value := fun j => if j < 9 then .slice none 0 0 else if j < 12 then .int .i64 0 else .slice none 0 0
theorem box_zero {w : World} {q : Nat} (h : w.heap[q]? = some (.cells #[.slice none 0 0, .slice none 0 0, .slice none 0 0, .slice none 0 0, .slice none 0 0, .slice none 0 0, .slice none 0 0, .slice none 0 0, .slice none 0 0, .int .i64 0, .int .i64 0, .int .i64 0, .slice none 0 0, .slice none 0 0, .slice none 0 0, .slice none 0 0] 43 (0, 0))) : Box16 w q g16 :=
 ⟨_, h, rfl, fun j hj => by
  rcases (by omega : j = 0 ∨ j = 1 ∨ j = 2 ∨ j = 3 ∨ j = 4 ∨ j = 5 ∨ j = 6 ∨ j = 7 ∨ j = 8 ∨ j = 9 ∨ j = 10 ∨ j = 11 ∨ j = 12 ∨ j = 13 ∨ j = 14 ∨ j = 15) with rfl | rfl | rfl | rfl | rfl | rfl | rfl | rfl | rfl | rfl | rfl | rfl | rfl | rfl | rfl | rfl <;> rfl⟩
theorem pin_zero (B : Nat) (w : World) : PIn B w g16 PS.zero := by
 refine ⟨fun i hi => ?_, fun i hi => ?_, fun i hi => ?_, ⟨[], rfl, (fun j c x hc => by simp at hc), World.ownsRow_nil _ _ _ _⟩, fun i hi => ?_, fun i j hi hj _ => ?_⟩
 ·
  have : g16 (i * 3) = .slice none 0 0 := if_pos (by omega)
  rw [this]; exact World.ownsRow_nil _ _ _ _
 ·
  have h1 : g16 (i * 3 + 1) = .slice none 0 0 := if_pos (by omega)
  have h2 : g16 (i * 3 + 2) = .slice none 0 0 := if_pos (by omega)
  rw [h1, h2]; exact ⟨_, _, _, _, rfl, World.ownsRow_nil _ _ _ _, World.ownsRow_nil _ _ _ _⟩
 ·
  rcases (by omega : i = 0 ∨ i = 1 ∨ i = 2) with rfl | rfl | rfl <;> rfl
 ·
  have : g16 (13 + i) = .slice none 0 0 := by unfold g16; rw [if_neg (by omega), if_neg (by omega)]
  rw [this]; exact World.ownsRow_nil _ _ _ _
 ·
  have : g16 (13 + i) = .slice none 0 0 := by unfold g16; rw [if_neg (by omega), if_neg (by omega)]
  rw [this]; exact Or.inl rfl
theorem PIn.sets {B : Nat} {w : World} {g : Nat → Value} {s : PS} (h : PIn B w g s) {i : Nat} (hi : i < 3) : ∃ ae ne ce av nv cv ac nc cc, g (i * 3) = .slice ae ne ce ∧ g (i * 3 + 1) = .slice av nv cv ∧ g (i * 3 + 2) = .slice ac nc cc ∧ EntO B w (.slice ae ne ce) (s.l i) ∧ OwnC B w (.agg #[.slice av nv cv, .slice ac nc cc]) (s.c i) ∧ ne = (s.l i).length := by
 have h1 := h.ent i hi
 have h2 := h.ctx i hi
 obtain ⟨ae, ce, e⟩ := own_slice h1
 obtain ⟨av, nv, cv, ac, nc, cc, e2⟩ := h2.form
 simp only [Value.agg.injEq, Array.mk.injEq, List.cons.injEq, and_true] at e2
 rw [e] at h1
 rw [e2.1, e2.2] at h2
 exact ⟨ae, _, ce, av, nv, cv, ac, nc, cc, e, e2.1, e2.2, h1, h2, rfl⟩
theorem mx_pos {w : World} (h : MX w) : 0 < w.heap.size := by
 obtain ⟨m, h⟩ := h
 exact World.block_lt_of_cell? _ _ h
end Go.Proofs.YthpdmfkpiekonaaGreat
namespace Go.Proofs.YthpdmfkpiekonaaGreat
open Go Go.RowKit Go.ChangeShapes cl
def nwF (s : ByteArray) (l : List Ent) : Int × Bool := l.foldl (fun p e => if e.s = s then (max p.1 e.t, true) else p) (0, false)
theorem nwF_snoc (s : ByteArray) (l : List Ent) (x : Ent) : nwF s (l ++ [x]) = if x.s = s then (max (nwF s l).1 x.t, true) else nwF s l := by
 unfold nwF
 rw [List.foldl_append]; rfl
set_option maxHeartbeats 1600000 in
set_option maxRecDepth 100000 in
theorem newest_any (s : ByteArray) (l : List Ent) (v u1 u2 : Value) (w : World) (h : Ents w w.heap.size v l) :
  Calls Tryz.prog 22 #[.agg #[v, u1, u2], .string s] w fun e w' => e = .returned (.tuple #[.int .i64 (nwF s l).1, .bool (nwF s l).2]) ∧ Below w.heap.size w w' := by
 obtain ⟨n, hn⟩ : ∃ n, n = l.length := ⟨_, rfl⟩
 have HN := Lib.hid hn
 obtain ⟨ao, cap, rfl, hnm⟩ : ∃ ao cap, v = .slice ao n cap ∧ n ≤ 9223372036854775807 := by
  obtain ⟨ao, cap, e, _, h9⟩ := h.form
  unfold maxLen at h9
  exact ⟨ao, cap, by rw [hn]; exact e, by rw [hn]; exact h9⟩
 have HC := Lib.hid h
 clear h hn
 go_enter Tryz.func22, Tryz.ntmps22
 go_wp2
 go_loopw [6, 7, 13] (fun a b i wr => ∃ (k : Nat), i = .int .i64 k ∧ k ≤ n ∧ a = .int .i64 (nwF s (l.take k)).1 ∧ b = .bool (nwF s (l.take k)).2 ∧ Hid (Below w.heap.size w wr)) (fun _ _ i _ => n - (intOf i).toNat)
 case atStart => exact ⟨0, rfl, by omega, rfl, rfl, below1⟩
 case round =>
  obtain ⟨k, rfl, hk, rfl, rfl, HB⟩ := hrel
  by_cases hlt : k < n
  ·
   have hkI : (k : Int) < (n : Int) := by omega
   obtain ⟨bb, off, rfl, hbB, p0, p1, p2, p3, p4⟩ := Ents.get (Cells.next HC.out HB.out) HN.out hlt
   obtain ⟨x, hx⟩ : ∃ x, x = l.getD k default := ⟨_, rfl⟩
   rw [← hx] at p0 p1 p2 p3
   have HX : Hid (l.take (k + 1) = l.take k ++ [x]) := by
    show _ = _
    rw [hx]; exact take_one l k default (by rw [← HN.out]; exact hlt)
   have HS : Hid (nwF s (l.take (k + 1)) = if x.s = s then (max (nwF s (l.take k)).1 x.t, true) else nwF s (l.take k)) := by show _ = _; rw [HX.out, nwF_snoc]
   obtain ⟨⟨M, T⟩, hM⟩ : ∃ p, p = nwF s (l.take k) := ⟨_, rfl⟩
   rw [← hM] at HS ⊢
   have HB1 : Hid (Below w.heap.size w (wr.alloc (.cells #[.string x.s, .int .i64 x.d.1, .int .i64 x.d.2, .int .i64 x.t, .slice none 0 0] 53))) := HB.out.alloc HB.out.size _
   have hq := toList_beq x.s s
   clear hx hM
   by_cases he : x.s = s
   ·
    rw [decide_eq_true he] at hq
    have HS2 : Hid (nwF s (l.take (k + 1)) = (max M x.t, true)) := by show _ = _; rw [HS.out, if_pos he]
    clear he HS
    go_wp2
    go_roundw
    case rel => exact ⟨k + 1, by go_num, by omega, by rw [HS2.out], by rw [HS2.out], HB1⟩
    case measure => simp [intOf]; omega
   ·
    rw [decide_eq_false he] at hq
    have HS2 : Hid (nwF s (l.take (k + 1)) = (M, T)) := by show _ = _; rw [HS.out, if_neg he]
    clear he HS
    go_wp2
    go_roundw
    case rel => exact ⟨k + 1, by go_num, by omega, by rw [HS2.out], by rw [HS2.out], HB1⟩
    case measure => simp [intOf]; omega
  ·
   have hkn : k = n := by omega
   subst hkn
   rw [List.take_of_length_le (by rw [← HN.out]; exact Nat.le_refl _)]
   go_wp2
   exact bodyPost_ret (v := .tuple #[.int .i64 (nwF s l).1, .bool (nwF s l).2]) (by simp [results, Tryz.results22, go_sem]) rfl ⟨rfl, HB.out⟩
end Go.Proofs.YthpdmfkpiekonaaGreat
namespace Go.Proofs.YthpdmfkpiekonaaGreat
open Go Go.RowKit Go.ChangeShapes cl
theorem nwF_cons (s : ByteArray) (l : List Ent) (x : Ent) : (nwF s (l ++ [x])).2 = ((nwF s l).2 || decide (x.s = s)) := by
 rw [nwF_snoc]
 by_cases h : x.s = s
 ·
  simp [h]
 ·
  simp [h]
theorem newest_iff (s : ByteArray) (l : List Ent) : (nwF s l).2 = true ↔ ∃ x ∈ l, x.s = s := by
 have key : ∀ r : List Ent, (nwF s r.reverse).2 = true ↔ ∃ x ∈ r, x.s = s := by
  intro r
  induction r with
  | nil => simp [nwF]
  | cons x r ih =>
   rw [List.reverse_cons, nwF_cons, Bool.or_eq_true, ih, decide_eq_true_eq]
   constructor
   ·
    rintro (⟨y, hy, e⟩ | e)
    ·
     exact ⟨y, List.mem_cons_of_mem _ hy, e⟩
    ·
     exact ⟨x, List.mem_cons_self, e⟩
   ·
    rintro ⟨y, hy, e⟩
    rcases List.mem_cons.1 hy with rfl | hy
    ·
     exact Or.inr e
    ·
     exact Or.inl ⟨y, hy, e⟩
 have := key l.reverse
 rw [List.reverse_reverse] at this
 rw [this]
 simp
def PS.Near (s : PS) (d : Dot) : Prop := s.Done d ∨ d = s.nd 0 ∨ d = s.nd 1
theorem near_len {n : Nat} {s : PS} (h : Inv n s) {c : dm.Ctx} (hr : dm.Right c) (hk : ∀ d, dm.Knows c d → s.Near d) : c.2.length ≤ n + 2 := by
 have := cloud_len (U := s.U ++ [s.nd 0, s.nd 1]) hr (fun d hd => by
  rcases hk d hd with h | h | h
  ·
   exact List.mem_append_left _ (PS.mem_U h)
  ·
   rw [h]; simp
  ·
   rw [h]; simp)
 rw [List.length_append, PS.U_len, h.sum] at this
 have := h.many
 simp at *
 omega
theorem near_ents {n : Nat} {s : PS} (h : Inv n s) {l : List Ent} {c : dm.Ctx} (hr : RSet l c) (hk : ∀ d, dm.Knows c d → s.Near d) : l.length ≤ n + 2 := by
 have := nodup_len (a := l.map Ent.d) (b := s.U ++ [s.nd 0, s.nd 1]) (nodup_of hr.up) (fun d hd => by
  obtain ⟨x, hx, rfl⟩ := List.mem_map.1 hd
  rcases hk _ (hr.kn x hx) with h | h | h
  ·
   exact List.mem_append_left _ (PS.mem_U h)
  ·
   rw [h]; simp
  ·
   rw [h]; simp)
 rw [List.length_append, PS.U_len, h.sum, List.length_map] at this
 have := h.many
 simp at *
 omega
theorem nd_ne {s : PS} {i j : Nat} (h : i ≠ j) : s.nd i ≠ s.nd j := fun e => by
 have : ((i : Nat) : Int) = (j : Int) := congrArg Prod.fst e
 omega
theorem not_near2 {s : PS} : ¬ s.Near (s.nd 2) := by
 rintro (h | h | h)
 ·
  exact PS.nd_fresh h
 ·
  exact nd_ne (by decide) h
 ·
  exact nd_ne (by decide) h
structure Has0 (s : PS) (x : Ent) (l : List Ent) (c : dm.Ctx) : Prop where
 set : RSet l c
 mem : x ∈ l
 kn : ∀ d, dm.Knows c d → s.Near d
theorem Has0.apply {s : PS} {x : Ent} {l l2 L : List Ent} {A : List Dot} {c c2 dc : dm.Ctx} {m : Nat} (h : Has0 s x l c) (hd : RDel L A dc) (hno : ¬ dm.Knows dc x.d) (hk : ∀ d, dm.Knows dc d → s.Near d)
  (hp : l2.Perm (staysOf (deadF A dc) l ++ newOf c L)) (hu : os.Up l2) (hc : dm.Is c2 (fun e => dm.Knows c e ∨ dm.Knows dc e) m) : Has0 s x l2 c2 := by
 refine ⟨rset_apply h.set hd hp hu hc, ?_, fun d hd' => ?_⟩
 ·
  rw [hp.mem_iff, List.mem_append]
  exact Or.inl (mem_stays.2 ⟨h.mem, dead_iff.2 (Or.inr hno)⟩)
 ·
  rcases (hc.know d).1 hd' with h1 | h1
  ·
   exact h.kn d h1
  ·
   exact hk d h1
theorem has0_add {n : Nat} {s : PS} (h : Inv n s) {x : Ent} {p : Ent → Bool} {l1 : List Ent} {c1 : dm.Ctx} {m : Nat} (hx : os.Fine x) (hxd : x.d = s.nd 0) (hp : l1.Perm (staysOf p (s.l 0) ++ [x])) (hu : os.Up l1) (hc : dm.Is c1 (fun e => dm.Knows (s.c 0) e ∨ e = x.d) m) : Has0 s x l1 c1 := by
 refine ⟨rset_add (h.set 0 (by decide)) hx hp hu hc, ?_, fun d hd => ?_⟩
 ·
  rw [hp.mem_iff]; simp
 ·
  rcases (hc.know d).1 hd with h1 | h1
  ·
   exact Or.inl (h.kn (by decide) d h1)
  ·
   exact Or.inr (Or.inl (by rw [h1, hxd]))
theorem add_near {n : Nat} {s : PS} (h : Inv n s) {x : Ent} {p : Ent → Bool} {dc : dm.Ctx} {m : Nat} (hxd : x.d = s.nd 0) (hd : dm.Is dc (fun e => valid e = true ∧ e ∈ goneOf p (s.l 0) ++ [x.d]) m) : ∀ d, dm.Knows dc d → s.Near d := fun d hk => by
 obtain ⟨_, h1⟩ := (hd.know d).1 hk
 rcases List.mem_append.1 h1 with h1 | h1
 ·
  obtain ⟨y, hy, _, rfl⟩ := mem_gone.1 h1
  exact Or.inl (h.kn (by decide) _ ((h.set 0 (by decide)).kn y hy))
 ·
  exact Or.inr (Or.inl (by rw [List.mem_singleton.1 h1, hxd]))
structure Rem1 (s : PS) (l : List Ent) (c cx : dm.Ctx) : Prop where
 set : RSet l c
 kn : ∀ d, dm.Knows c d → s.Done d ∨ d = s.nd 1
 right : dm.Right cx
 knx : ∀ d, dm.Knows cx d → s.Done d ∨ d = s.nd 1
theorem Rem1.no {s : PS} {l : List Ent} {c cx : dm.Ctx} (h : Rem1 s l c cx) : ¬ dm.Knows c (s.nd 0) ∧ ¬ dm.Knows cx (s.nd 0) := by
 have key : ¬ (s.Done (s.nd 0) ∨ s.nd 0 = s.nd 1) := by
  rintro (h | h)
  ·
   exact PS.nd_fresh h
  ·
   exact nd_ne (by decide) h
 exact ⟨fun hk => key (h.kn _ hk), fun hk => key (h.knx _ hk)⟩
theorem rem1_none {n : Nat} {s : PS} (h : Inv n s) : Rem1 s (s.l 1) (s.c 1) ([], []) :=
 ⟨h.set 1 (by decide), fun d hd => Or.inl (h.kn (by decide) d hd), right_nil, fun d hd => absurd hd (kn_nil d)⟩
theorem rem1_some {n : Nat} {s : PS} (h : Inv n s) {p : Ent → Bool} {c cx : dm.Ctx} {m k : Nat} (hc : dm.Is c (fun e => dm.Knows (s.c 1) e ∨ e = s.nd 1) m) (hx : dm.Is cx (fun e => valid e = true ∧ e ∈ goneOf p (s.l 1) ++ [s.nd 1]) k) : Rem1 s (staysOf p (s.l 1)) c cx := by
 refine ⟨rset_drop (h.set 1 (by decide)) hc, fun d hd => ?_, hx.right, fun d hd => ?_⟩
 ·
  rcases (hc.know d).1 hd with h1 | h1
  ·
   exact Or.inl (h.kn (by decide) d h1)
  ·
   exact Or.inr h1
 ·
  obtain ⟨_, h1⟩ := (hx.know d).1 hd
  rcases List.mem_append.1 h1 with h1 | h1
  ·
   obtain ⟨y, hy, _, rfl⟩ := mem_gone.1 h1
   exact Or.inl (h.kn (by decide) _ ((h.set 1 (by decide)).kn y hy))
  ·
   exact Or.inr (List.mem_singleton.1 h1)
theorem Rem1.del {s : PS} {l : List Ent} {c cx : dm.Ctx} (h : Rem1 s l c cx) : RDel [] [] cx := rdel0 h.right
theorem or_near {s : PS} {d : Dot} (h : s.Done d ∨ d = s.nd 1) : s.Near d := h.elim Or.inl (fun h => Or.inr (Or.inr h))
structure All (s : PS) (C : List Chg) : Prop where
 right : ∀ k, k < C.length → RDel (C.getD k default).L (C.getD k default).A (C.getD k default).c
 told : ∀ k, k < C.length → ∀ d ∈ (C.getD k default).A, d ∈ (C.getD k default).L.map Ent.d
 few : ∀ k, k < C.length → (C.getD k default).L.length ≤ 1 ∧ (C.getD k default).A.length ≤ 1
 kn : ∀ k, k < C.length → ∀ d, dm.Knows (C.getD k default).c d → s.Done d ∨ d = s.nd 1
theorem all_of {n : Nat} {s : PS} (h : Inv n s) {l : List Ent} {c cx : dm.Ctx} (hr : Rem1 s l c cx) : All s (s.C ++ [⟨[], [], cx⟩]) := by
 have hl : (s.C ++ [(⟨[], [], cx⟩ : Chg)]).length = s.C.length + 1 := by simp
 refine ⟨fun k hk => ?_, fun k hk d hd => ?_, fun k hk => ?_, fun k hk d hd => ?_⟩
 ·
  by_cases e : k = s.C.length
  ·
   subst e; rw [getD_last]; exact hr.del
  ·
   rw [getD_app _ _ (by omega)]; exact h.chgs.right k (by omega)
 ·
  by_cases e : k = s.C.length
  ·
   subst e; rw [getD_last] at hd; cases hd
  ·
   rw [getD_app _ _ (by omega)] at hd ⊢
   obtain ⟨x, hx, e2⟩ := h.chgs.alive (by omega) hd
   exact List.mem_map.2 ⟨x, hx, e2⟩
 ·
  by_cases e : k = s.C.length
  ·
   subst e; rw [getD_last]; simp
  ·
   rw [getD_app _ _ (by omega)]; exact h.lenL (by omega)
 ·
  by_cases e : k = s.C.length
  ·
   subst e; rw [getD_last] at hd; exact hr.knx d hd
  ·
   rw [getD_app _ _ (by omega)] at hd; exact Or.inl (h.knC k (by omega) d hd)
theorem All.no {s : PS} {C : List Chg} (h : All s C) {k : Nat} (hk : k < C.length) : ¬ dm.Knows (C.getD k default).c (s.nd 0) := fun hd => by
 rcases h.kn k hk _ hd with h | h
 ·
  exact PS.nd_fresh h
 ·
  exact nd_ne (by decide) h
end Go.Proofs.YthpdmfkpiekonaaGreat
namespace Go.Proofs.YthpdmfkpiekonaaGreat.kit
open Go.RowKit
theorem appZ {P : Program} {w : World} {ops : Array Oper} {rest : List Oper} {o : Oper} {a : Act} {Q : Exit → Act → World → Prop}
  (s x : Operand) (t : TypeId) (hgd : o.guard = none)
  (ho : o.op = .call { callee := .builtin .append, args := #[s, x], argTypes := #[t, t] })
  (base : Nat) {e : TypeId} {z : Value} {size bytes : Nat} (ht : P.underlying t = some (.slice e)) (hi : (P.info? e).map (fun i => (i.zero, i.size, i.bytes)) = some (some z, size, bytes))
  (hzs : z.cells.size = size) (hsz : 0 < size) (hb1 : 0 < bytes)
  {g : Nat} (hown : w.ownsRow base e size (.slice (some ⟨g, 0, none⟩) 0 0) 0 []) (hs : a.eval s = .slice (some ⟨g, 0, none⟩) 0 0)
  {ao : Option Addr} {m c : Nat} (news : List Value) (hx : a.eval x = .slice ao m c) (hl : news.length = m * size) (hnone : ao = none → m = 0 ∧ c = 0)
  (hnews : ∀ ad, ao = some ad → ∀ j u, news[j]? = some u → w.cell? (ad.add j) = some u) (h1 : ∀ u ∈ news, u.oneCell' = true)
  (hbytes : m * bytes ≤ 140737488355328) (hbase : base ≤ w.heap.size)
  (h : ∀ v' w', w'.ownsRow base e size v' m news → Below w.heap.size w w' → wpList P ops Q rest (a.put o.dst v') w') :
  wpList P ops Q (o :: rest) a w := by
 obtain ⟨i, hi', hz, hsize, hby⟩ := info_parts hi
 subst hsize
 subst hby
 have hle : m ≤ m * i.bytes := Nat.le_mul_of_pos_right _ hb1
 cases ao with
 | none =>
  obtain ⟨rfl, rfl⟩ := hnone rfl
  obtain rfl : news = [] := List.eq_nil_of_length_eq_zero (by simpa using hl)
  exact wpList_append_own_none hgd s x t ho base e i i.size ht hi' _ 0 [] hs hown hx (h _ w hown (Below.refl _ _))
 | some ad =>
  rcases hown.2 with ⟨e0, _⟩ | ⟨g', cap, cur, e0, hbg, hg, hnc, hcm, hcs, htake⟩
  ·
   cases e0
  ·
   simp only [Value.slice.injEq, Option.some.injEq, Addr.mk.injEq, and_true, true_and] at e0
   obtain ⟨rfl, rfl⟩ := e0
   have hc0 : cur.size = 0 := by rw [hcs]; simp
   obtain rfl : cur = #[] := Array.eq_empty_of_size_eq_zero hc0
   refine wpList_plain hgd fun K hK => ?_
   by_cases hm : m = 0
   ·
    subst hm
    obtain rfl : news = [] := List.eq_nil_of_length_eq_zero (by simpa using hl)
    have hr := run_append_room (P := P) w t o.type e i ht hi' g 0 0 #[] hg ad 0 c [] (by simp) (fun j u hj => by simp at hj) (fun u hu => by cases hu) (by omega) (by simp)
    have hh := setRow_heap w g #[] (#[] : Array Value) e (0, 0) hg
    unfold Oper.wp
    simp [execOp, ho, resolve, invoke, builtin, hs, hx, hr, Result.andThen]
    refine hK _ _ (h _ _ ?_ ⟨rfl, rfl, rfl, by simp [World.setRow], fun k _ => ?_⟩)
    ·
     exact ⟨by simp, Or.inr ⟨g, 0, #[], rfl, hbg, hh, Nat.le_refl _, hcm, by simp, by simp⟩⟩
    ·
     by_cases hk : k = g
     ·
      subst hk; rw [hg]; exact hh
     ·
      exact setRow_other w g k _ hk
   ·
    have hr := run_append_grow (P := P) w t o.type e i z ht hi' hz ⟨g, 0, none⟩ 0 0 [] (by simp) (fun j u hj => by simp at hj) ad m c news hl (hnews ad rfl) (by omega) (by omega) (growslice_fits (by omega) (by simpa using hbytes))
    have hge := grownCap_ge w (0 + m) 0 e
    have hcm2 : grownCap w (0 + m) 0 e ≤ maxLen := grownCap_le_maxLen w (0 + m) 0 e (by unfold maxLen; omega)
    unfold Oper.wp
    simp [execOp, ho, resolve, invoke, builtin, hs, hx, hr, Result.andThen]
    refine hK _ _ (h _ _ ⟨hl, Or.inr ⟨w.heap.size, _, _, rfl, hbase, heap_alloc_new w.drew _, by simpa using hge, by simpa using hcm2, ?_, ?_⟩⟩ (((Below.refl _ w).drew).alloc (Nat.le_refl _) _))
    ·
     simp only [Array.size_append, List.size_toArray, size_zeroCells, hzs, hl, ← Nat.add_mul, Nat.zero_add] at hge ⊢
     congr 1
     omega
    ·
     simp only [Array.toList_append]
     rw [← hl]
     exact List.take_left
end Go.Proofs.YthpdmfkpiekonaaGreat.kit
