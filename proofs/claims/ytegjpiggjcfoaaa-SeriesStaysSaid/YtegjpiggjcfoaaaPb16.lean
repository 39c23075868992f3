/- texts put together: SerSame, ArgsK. -/
import Derived.Test.YtegjpiggjcfoaaaPb00
import Derived.Test.YtegjpiggjcfoaaaPb09
import Derived.BigQuiet
import Derived.ChangeArms
import Derived.Deep.SlicePairs
import Derived.Lib.SmallJoins
import Derived.WideShapes
namespace Go.Proofs.Ytegjpiggjcfoaaa
open Go Go.RowKit Go.ChangeShapes cl Go.Sort
theorem below_two {w W : World} {x0 x1 x2 y0 y1 y2 : Value} {t : TypeId} (hb : Below (w.heap.size + 2) ((w.alloc (.cells #[x0, x1, x2] t)).alloc (.cells #[y0, y1, y2] t)) W) :
  (W.cell? ⟨w.heap.size, 0, none⟩ = some x0 ∧ W.cell? ⟨w.heap.size, 1, none⟩ = some x1 ∧ W.cell? ⟨w.heap.size, 2, none⟩ = some x2) ∧
  (W.cell? ⟨w.heap.size + 1, 0, none⟩ = some y0 ∧ W.cell? ⟨w.heap.size + 1, 1, none⟩ = some y1 ∧ W.cell? ⟨w.heap.size + 1, 2, none⟩ = some y2) ∧ Below w.heap.size w W := by
 have hs1 : (w.alloc (.cells #[x0, x1, x2] t)).heap.size = w.heap.size + 1 := by rw [World.size_alloc]
 have hs2 : ((w.alloc (.cells #[x0, x1, x2] t)).alloc (.cells #[y0, y1, y2] t)).heap.size = w.heap.size + 2 := by rw [World.size_alloc, hs1]
 have hb1 : Below (w.heap.size + 1) (w.alloc (.cells #[x0, x1, x2] t)) ((w.alloc (.cells #[x0, x1, x2] t)).alloc (.cells #[y0, y1, y2] t)) := (Below.refl _ _).alloc (by rw [hs1]; exact Nat.le_refl _) _
 have hb2 := hb1.trans (hb.mono (by omega))
 obtain ⟨a0, a1, a2, _⟩ := three (w := w) (w2 := W) (t := t) (by rw [hs1]; exact hb2)
 obtain ⟨b0, b1, b2, _⟩ := three (w := w.alloc (.cells #[x0, x1, x2] t)) (w2 := W) (x := y0) (y := y1) (z := y2) (t := t) (by rw [hs2]; exact hb)
 rw [hs1] at b0 b1 b2
 exact ⟨⟨a0, a1, a2⟩, ⟨b0, b1, b2⟩, ((Below.refl _ _).alloc (Nat.le_refl _) _).trans (hb2.mono (by omega))⟩
set_option maxHeartbeats 3200000 in
set_option maxRecDepth 100000 in
theorem ssame_eq (S : List tb.Sym) (R : List se.Row) (va ra vb rb : Value) (w : World) (ha : SerAt w w.heap.size va ra S R) (hb : SerAt w w.heap.size vb rb S R) :
  Calls Try.prog 16 #[tval va ra, tval vb rb] w (Said true w) := by
 obtain ⟨n, hn⟩ : ∃ n, n = S.length := ⟨_, rfl⟩
 obtain ⟨q, hq⟩ : ∃ n, n = R.length := ⟨_, rfl⟩
 obtain ⟨ao, ca, rfl, hnm⟩ : ∃ ao cap, va = .slice ao n cap ∧ n ≤ maxLen := by
  obtain ⟨ao, cap, e, _, hm⟩ := Cells.form ha.1
  exact ⟨ao, cap, by rw [hn]; exact e, by rw [hn]; exact hm⟩
 obtain ⟨bo, cb, rfl⟩ : ∃ ao cap, vb = .slice ao n cap := by
  obtain ⟨ao, cap, e, _⟩ := Cells.form hb.1
  exact ⟨ao, cap, by rw [hn]; exact e⟩
 obtain ⟨pa, da, rfl, _, hqm⟩ := ha.2.form' hq
 obtain ⟨pb, db, rfl, _, _⟩ := hb.2.form' hq
 unfold maxLen at hnm hqm
 have HCA := Lib.hid ha
 have HCB := Lib.hid hb
 have HN := Lib.hid hn
 have HQ := Lib.hid hq
 clear ha hb hn hq
 obtain ⟨W0, hW0⟩ : ∃ W, W = (w.alloc (.cells #[.slice ao n ca, .int .i64 24000, .slice pa q da] 28)).alloc (.cells #[.slice bo n cb, .int .i64 24000, .slice pb q db] 28) := ⟨_, rfl⟩
 have HBX : Hid (∀ W, Below (w.heap.size + 2) W0 W → (W.cell? ⟨w.heap.size, 0, none⟩ = some (.slice ao n ca) ∧ W.cell? ⟨w.heap.size, 1, none⟩ = some (.int .i64 24000) ∧ W.cell? ⟨w.heap.size, 2, none⟩ = some (.slice pa q da)) ∧
  (W.cell? ⟨w.heap.size + 1, 0, none⟩ = some (.slice bo n cb) ∧ W.cell? ⟨w.heap.size + 1, 1, none⟩ = some (.int .i64 24000) ∧ W.cell? ⟨w.heap.size + 1, 2, none⟩ = some (.slice pb q db)) ∧ Below w.heap.size w W) := fun W hW => by
  rw [hW0] at hW; exact below_two hW
 have HW0 := Lib.hid hW0
 have hb0 : Below (w.heap.size + 2) W0 W0 := Below.refl _ _
 obtain ⟨⟨a0, a1, a2⟩, ⟨b0, b1, b2⟩, _⟩ := HBX.out W0 hb0
 rw [hW0] at a0 a1 a2 b0 b1 b2
 clear hW0
 go_enter Try.func16, Try.ntmps16
 go_wp2
 rw [← HW0.out]
 clear a0 a1 a2 b0 b1 b2
 go_loopw [39] (fun i wr => ∃ k : Nat, i = .int .i64 k ∧ k ≤ n ∧ Hid (Below (w.heap.size + 2) W0 wr)) (fun i _ => n - (intOf i).toNat)
 case atStart => exact ⟨0, rfl, by omega, hb0⟩
 case round =>
  obtain ⟨k, rfl, hk, HD⟩ := hrel
  obtain ⟨⟨a0, a1, a2⟩, ⟨b0, b1, b2⟩, hbl⟩ := HBX.out wr HD.out
  by_cases hlt : k < n
  ·
   obtain ⟨ba, oa, rfl, hBa, p0, p1⟩ := Tabs.get HCA.out.1 HN.out hlt
   obtain ⟨bb, ob, rfl, hBb, r0, r1⟩ := Tabs.get HCB.out.1 HN.out hlt
   have c0 := (hbl.cell (p := ⟨ba, oa + k * 2, none⟩) hBa).trans p0
   have c1 := (hbl.cell (p := ⟨ba, oa + k * 2 + 1, none⟩) hBa).trans p1
   have d0 := (hbl.cell (p := ⟨bb, ob + k * 2, none⟩) hBb).trans r0
   have d1 := (hbl.cell (p := ⟨bb, ob + k * 2 + 1, none⟩) hBb).trans r1
   clear p0 p1 r0 r1
   have hkI : (k : Int) < (n : Int) := by omega
   obtain ⟨⟨x0, x1⟩, hx⟩ : ∃ x, x = tb.at_ S k := ⟨_, rfl⟩
   rw [← hx] at c0 c1 d0 d1
   simp only at c0 c1 d0 d1
   clear hx
   go_wp2
   go_quiet (fail)
   go_wp2
   go_roundw
   case rel => exact ⟨k + 1, by go_num, by omega, below_drewN HD.out _⟩
   case measure => simp [intOf]; omega
  ·
   go_wp2
   clear a0 a1 a2 b0 b1 b2
   go_loopw [59] (fun i wr => ∃ k : Nat, i = .int .i64 k ∧ k ≤ q ∧ Hid (Below (w.heap.size + 2) W0 wr)) (fun i _ => q - (intOf i).toNat)
   case atStart => exact ⟨0, rfl, by omega, HD.out⟩
   case round =>
    rename World => wr2
    obtain ⟨j, rfl, hj, HE⟩ := hrel
    obtain ⟨⟨a0, a1, a2⟩, ⟨b0, b1, b2⟩, hbl2⟩ := HBX.out wr2 HE.out
    by_cases hjl : j < q
    ·
     have hjI : (j : Int) < (q : Int) := by omega
     obtain ⟨ba, oa, ia, m, ja, rfl, hBa, hma, hmm, hia, p0, p1⟩ := row_at HCA.out.2 HQ.out hjl
     obtain ⟨bb, ob, ib, m', jb, rfl, hBb, hmb, _, hib, r0, r1⟩ := row_at HCB.out.2 HQ.out hjl
     obtain rfl : m = m' := by rw [hma, hmb]
     unfold maxLen at hmm
     have c0 := (hbl2.cell (p := ⟨ba, oa + j * 2, none⟩) hBa).trans p0
     have c1 := (hbl2.cell (p := ⟨ba, oa + j * 2 + 1, none⟩) hBa).trans p1
     have d0 := (hbl2.cell (p := ⟨bb, ob + j * 2, none⟩) hBb).trans r0
     have d1 := (hbl2.cell (p := ⟨bb, ob + j * 2 + 1, none⟩) hBb).trans r1
     have HIA := Lib.hid (Cells.next hia (Below.refl _ _))
     have HIB := Lib.hid (Cells.next hib (Below.refl _ _))
     have HMM := Lib.hid hma
     obtain ⟨r, hr⟩ : ∃ x, x = (se.at_ R j).2 := ⟨_, rfl⟩
     rw [← hr] at c1 d1
     have HP0 := Lib.hid p0; have HR0 := Lib.hid r0
     clear p0 p1 r0 r1 hr hma hmb hia hib
     go_wp2
     go_quiet (fail)
     go_wp2
     clear a0 a1 a2 b0 b1 b2 c0 c1 d0 d1
     go_loopw [99] (fun i wr => ∃ k : Nat, i = .int .i64 k ∧ k ≤ m ∧ Hid (Below (w.heap.size + 2) W0 wr)) (fun i _ => m - (intOf i).toNat)
     case atStart => exact ⟨0, rfl, by omega, below_drewN HE.out _⟩
     case round =>
      rename World => wr3
      obtain ⟨i, rfl, hi, HF⟩ := hrel
      obtain ⟨⟨a0, a1, a2⟩, ⟨b0, b1, b2⟩, hbl3⟩ := HBX.out wr3 HF.out
      by_cases hil : i < m
      ·
       have hiI : (i : Int) < (m : Int) := by omega
       have c0 := (hbl3.cell (p := ⟨ba, oa + j * 2, none⟩) hBa).trans HP0.out
       have d0 := (hbl3.cell (p := ⟨bb, ob + j * 2, none⟩) hBb).trans HR0.out
       obtain ⟨_, xa, ya, e1, _, _, h4⟩ := HIA.out
       simp only [Value.slice.injEq] at e1
       obtain ⟨rfl, _, rfl⟩ := e1
       obtain ⟨ga, fa, rfl, hga, hca⟩ := h4 (by omega)
       obtain ⟨_, xb, yb, e2, _, _, h5⟩ := HIB.out
       simp only [Value.slice.injEq] at e2
       obtain ⟨rfl, _, rfl⟩ := e2
       obtain ⟨gb, fb, rfl, hgb, hcb⟩ := h5 (by omega)
       obtain ⟨t, ht⟩ : ∃ t, (se.texts (se.at_ R j).1)[i]? = some t := ⟨_, List.getElem?_eq_getElem (by rw [← HMM.out]; exact hil)⟩
       have z0 := (hbl3.cell (p := ⟨ga, fa + i, none⟩) hga).trans (hca i _ (nums_get ht))
       have z1 := (hbl3.cell (p := ⟨gb, fb + i, none⟩) hgb).trans (hcb i _ (nums_get ht))
       clear h4 h5 hca hcb ht
       go_wp2
       go_quiet (fail)
       go_wp2
       go_roundw
       case rel => exact ⟨i + 1, by go_num, by omega, below_drewN HF.out _⟩
       case measure => simp [intOf]; omega
      ·
       clear a0 a1 a2 b0 b1 b2
       go_wp2
       go_roundw
       case rel => exact ⟨j + 1, by go_num, by omega, HF.out⟩
       case measure => simp [intOf]; omega
    ·
     go_wp2
     go_ret
     exact ⟨rfl, hbl2⟩
end Go.Proofs.Ytegjpiggjcfoaaa
namespace Go.Proofs.Ytegjpiggjcfoaaa
open Go.RowKit Go.WideShapes Go.ChangeShapes cl
def kcells (l : List (List Int)) : List Value := l.flatten.map (.int .i64)
theorem kcells_len {k : Nat} : ∀ {l : List (List Int)}, (∀ x ∈ l, x.length = k) → (kcells l).length = l.length * k := by
 intro l h
 unfold kcells
 rw [List.length_map]
 induction l with
 | nil => simp
 | cons x l ih =>
  rw [List.flatten_cons, List.length_append, List.length_cons, ih (fun y hy => h y (List.mem_cons_of_mem _ hy)), h x List.mem_cons_self, Nat.succ_mul, Nat.add_comm]
theorem kcells_get {k : Nat} : ∀ {l : List (List Int)} (_ : ∀ x ∈ l, x.length = k) (j i : Nat), j < l.length → i < k → (kcells l)[j * k + i]? = some (.int .i64 ((l.getD j []).getD i 0)) := by
 intro l
 induction l with
 | nil => intro _ j i h; simp at h
 | cons x l ih =>
  intro h j i hj hi
  have hx := h x List.mem_cons_self
  have e : kcells (x :: l) = x.map (.int .i64) ++ kcells l := by simp [kcells]
  rw [e]
  cases j with
  | zero =>
   rw [Nat.zero_mul, Nat.zero_add, List.getElem?_append_left (by rw [List.length_map, hx]; exact hi)]
   simp [List.getD, hx, hi]
  | succ j =>
   rw [Nat.succ_mul, List.getElem?_append_right (by rw [List.length_map, hx]; omega), List.length_map, hx]
   have := ih (fun y hy => h y (List.mem_cons_of_mem _ hy)) j i (by simpa using hj) hi
   rw [show j * k + k + i - k = j * k + i by omega, this]
   rfl
def KInts (k : Nat) (w : World) (B : Nat) (v : Value) (l : List (List Int)) : Prop := (∀ x ∈ l, x.length = k ∧ ∀ y ∈ x, (Lit.int .i64 y).wf = true) ∧ Cells w B v l.length k (kcells l)
theorem KInts.get {k : Nat} {w : World} {B n c : Nat} {ao : Option Addr} {l : List (List Int)} (h : KInts k w B (.slice ao n c) l) (hn : n = l.length) {j : Nat} (hj : j < n) : ∃ b off, ao = some ⟨b, off, none⟩ ∧ b < B ∧
  (∀ i, i < k → w.cell? ⟨b, off + (j * k + i), none⟩ = some (.int .i64 ((l.getD j []).getD i 0))) ∧ (l.getD j []).length = k ∧ ∀ y ∈ l.getD j [], (Lit.int .i64 y).wf = true := by
 subst hn
 obtain ⟨hk, _, ao', c', e, _, _, h4⟩ := h
 simp only [Value.slice.injEq] at e
 obtain ⟨rfl, _, rfl⟩ := e
 obtain ⟨b, off, rfl, hB, hc⟩ := h4 (by omega)
 have hm : l.getD j [] ∈ l := by
  simp only [List.getD, List.getElem?_eq_getElem hj, Option.getD_some]
  exact List.getElem_mem hj
 refine ⟨b, off, rfl, hB, fun i hi => hc _ _ (kcells_get (fun x hx => (hk x hx).1) j i hj hi), (hk _ hm).1, (hk _ hm).2⟩
theorem KInts.form {k : Nat} {w : World} {B : Nat} {v : Value} {l : List (List Int)} (h : KInts k w B v l) : ∃ ao cap, v = .slice ao l.length cap ∧ l.length ≤ cap ∧ l.length ≤ maxLen := Cells.form h.2
theorem open_kints {H : Type} {enc : TypeId × Value → H} {P : Program} {W : World} {r : Reach} {b0 : Nat} {t e it : TypeId} {k : Nat} {fs : Array Field} {v : Value} {d : DataW H} {ps : List MemPlace} (ht : P.underlying t = some (.slice e)) (he : P.underlying e = some (.struct fs))
  (hfs : fs.size = k) (ce : P.cellsOf e = k) (hf : ∀ (i : Nat) (f : Field), fs[i]? = some f → f.offset = i ∧ f.type = it) (ci : P.cellsOf it = 1) (si : P.underlying it = some (.int .i64)) (hk : 0 < k)
  (hval : Value.okWide P W r b0 t v) (hd : DataW.Trod enc P W 0 (fun _ => true) true t v d ps) : ∃ l : List (List Int), KInts k W W.heap.size v l := by
 obtain ⟨a0, len, cap, rfl⟩ := okWide_slice ht hval
 obtain ⟨fuel, hfu⟩ := hd
 rcases Deep.open_slice ht hfu with ⟨hcs, _⟩ | ⟨a, len', cap', m, n, D, Pl, hcs, _, hle, hmax, hm, _, hx⟩
 ·
  simp [Value.cells] at hcs
  obtain ⟨rfl, rfl, rfl⟩ := hcs
  exact ⟨[], by simp, Cells.nil _ _ _⟩
 ·
  simp [Value.cells] at hcs
  obtain ⟨rfl, rfl, rfl⟩ := hcs
  have hml : len ≤ m := by rw [hm]; split <;> omega
  have one : ∀ i q, i < len → q < k → ∃ x : Int, W.cell? (a.add (i * k + q)) = some (.int .i64 x) ∧ (Lit.int .i64 x).wf = true := fun i q hi hq => by
   obtain ⟨cs', h1, h2⟩ := hx i (by omega)
   rw [ce] at h1
   obtain ⟨_, hlen, hcell⟩ := World.cells?_some h1
   obtain ⟨xs, n', hn', hxy, _, hxl, hff⟩ := DataW.trod_struct he h2
   have hq2 : q < fs.size := by omega
   obtain ⟨f1, f2⟩ := hf q fs[q] (Array.getElem?_eq_getElem hq2)
   have g0 := hff q fs[q] (Array.getElem?_eq_getElem hq2)
   rw [f1, f2, ci, List.getElem?_eq_getElem (by omega)] at g0
   have hql : q < cs'.length := by omega
   rw [List.drop_eq_getElem_cons hql, List.take_succ_cons, List.take_zero] at g0
   obtain ⟨x, ex, _, sx⟩ := DataW.trod_int si g0
   simp only [List.cons.injEq, and_true] at ex
   have e0 := hcell q (by omega)
   rw [Deep.add_add] at e0
   exact ⟨x, by rw [e0, List.getElem?_eq_getElem hql, ex], sx⟩
  have hg : ∃ f : Nat → Nat → Int, ∀ i q, i < len → q < k → W.cell? (a.add (i * k + q)) = some (.int .i64 (f i q)) ∧ (Lit.int .i64 (f i q)).wf = true := by
   refine ⟨fun i q => if h : i < len ∧ q < k then (one i q h.1 h.2).choose else 0, fun i q hi hq => ?_⟩
   simp only [dif_pos (And.intro hi hq)]
   exact (one i q hi hq).choose_spec
  obtain ⟨f, hg⟩ := hg
  have hl : ((List.range len).map fun i => (List.range k).map (f i)).length = len := by simp
  have hall : ∀ x ∈ (List.range len).map fun i => (List.range k).map (f i), x.length = k := fun x hx => by
   obtain ⟨i, _, rfl⟩ := List.mem_map.1 hx
   simp
  refine ⟨(List.range len).map fun i => (List.range k).map (f i), fun x hx => ⟨hall x hx, fun y hy => ?_⟩, by rw [kcells_len hall], some a, cap, by rw [hl], ⟨(fun e => by cases e), by omega⟩, by omega, fun hp => ?_⟩
  ·
   obtain ⟨i, hi, rfl⟩ := List.mem_map.1 hx
   obtain ⟨q, hq, rfl⟩ := List.mem_map.1 hy
   exact (hg i q (List.mem_range.1 hi) (List.mem_range.1 hq)).2
  ·
   rw [hl] at hp
   obtain ⟨b, off, spot⟩ := a
   have h0 := (hg 0 0 hp hk).1
   have hspot : spot = none := by simpa [Addr.add] using World.cell?_spot h0
   subst hspot
   refine ⟨b, off, rfl, (by have := World.block_lt_of_cell? _ _ h0; rwa [Addr.add_lit] at this), fun j u hj => ?_⟩
   have hjl : j < len * k := by have := (List.getElem?_eq_some_iff.1 hj).1; rw [kcells_len hall, hl] at this; exact this
   have hjk : j / k < len := by rw [Nat.div_lt_iff_lt_mul hk]; exact hjl
   have hmk : j % k < k := Nat.mod_lt _ hk
   have ej : j / k * k + j % k = j := Nat.div_add_mod' j k
   have g0 := kcells_get hall (j / k) (j % k) (by rw [hl]; exact hjk) hmk
   have hv : (((List.range len).map fun i => (List.range k).map (f i)).getD (j / k) []).getD (j % k) 0 = f (j / k) (j % k) := by simp [List.getD, hjk, hmk]
   rw [hv, ej, hj] at g0
   have k0 := (hg (j / k) (j % k) hjk hmk).1
   rw [Addr.add_lit, ej] at k0
   rw [k0]; exact g0.symm
end Go.Proofs.Ytegjpiggjcfoaaa
