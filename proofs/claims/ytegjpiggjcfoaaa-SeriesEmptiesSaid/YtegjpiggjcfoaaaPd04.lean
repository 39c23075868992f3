/- texts put together: SymDrop, SymLaw, SerMem, Shelf, LabSort, SortRow. -/
import Derived.Test.YtegjpiggjcfoaaaPd00
import Derived.Test.YtegjpiggjcfoaaaPd02
import Derived.Test.YtegjpiggjcfoaaaPd03
import Derived.Deep.RegionHeld3
import Derived.Ground.Names2Prog
import Derived.Shelf.GgSortFunc.InsertionK
import Derived.Shelf.LaysM
import Derived.Shelf.SlSortCmp.SmallK
import Derived.Shelf.Slices.Clone
import Derived.Shelf.Small.Bits
import Derived.Shelf.Small.Strs
import Derived.Shelf.Strconv.Itoa0
import Derived.Shelf.Strings.Cut
import Derived.Shelf.Strings.Prefix
import Derived.Shelf.Strings.Search1
import Derived.Shelf.Strings.Search2
import Derived.Shelf.Strings.Shaped
import Derived.Sort.OwnSorted
import Derived.Test.YtegjpiggjcfoaaaProg
namespace Go.Proofs.Ytegjpiggjcfoaaa
open Go.RowKit Go.ChangeShapes cl
theorem tcells_set2 : ∀ (l : List tb.Sym) (j : Nat) (y : Int), (tcells l).set (j * 2 + 1) (.int .i64 y) = tcells (l.set j ((tb.at_ l j).1, y)) := by
 intro l
 induction l with
 | nil => intro j y; rfl
 | cons z l ih =>
  intro j y
  cases j with
  | zero => rfl
  | succ j =>
   have := ih j y
   have e : tb.at_ (z :: l) (j + 1) = tb.at_ l j := by simp [tb.at_]
   rw [List.set_cons_succ, e, tcells_cons, tcells_cons, ← this, Nat.succ_mul]
   rfl
theorem tcells_set1 : ∀ (l : List tb.Sym) (j : Nat) (x : ByteArray), (tcells l).set (j * 2) (.string x) = tcells (l.set j (x, (tb.at_ l j).2)) := by
 intro l
 induction l with
 | nil => intro j y; rfl
 | cons z l ih =>
  intro j y
  cases j with
  | zero => rfl
  | succ j =>
   have := ih j y
   have e : tb.at_ (z :: l) (j + 1) = tb.at_ l j := by simp [tb.at_]
   rw [List.set_cons_succ, e, tcells_cons, tcells_cons, ← this, Nat.succ_mul]
   rfl
def CloneP (L : List tb.Sym) (w : World) (e : Ending) (w' : World) : Prop := ∃ g c : Nat, e = .returned (.slice (some ⟨g, 0, none⟩) L.length c) ∧ w'.ownsRow w.heap.size 52 2 (.slice (some ⟨g, 0, none⟩) L.length c) L.length (tcells L) ∧ Below w.heap.size w w'
set_option maxHeartbeats 800000 in
set_option maxRecDepth 100000 in
theorem sclone_any (L : List tb.Sym) (b off cap : Nat) (w : World) (h : Tabs w w.heap.size (.slice (some ⟨b, off, none⟩) L.length cap) L) (hl : L.length ≤ 100000) (h0 : 0 < L.length) :
  Calls Try.prog 36 #[.slice (some ⟨b, off, none⟩) L.length cap] w (CloneP L w) := by
 have hb0 : Below w.heap.size w (w.alloc (.cells #[] 52)) := (Below.refl _ _).alloc (Nat.le_refl _) _
 have HN := Lib.hid (Cells.news (h.next hb0))
 have HO := Lib.hid (cl.own_none (w := w) (W := w) 52 (Nat.le_refl _) 2)
 have HTL : Hid ((tcells L).length = L.length * 2) := tcells_len L
 have HF : Hid (∀ v w', w'.ownsRow w.heap.size 52 2 v L.length (tcells L) → Below w.heap.size w w' → CloneP L w (.returned v) w') := fun v w' ho hb => by
  rcases ho.2 with ⟨rfl, hx⟩ | ⟨g, c, cur, rfl, hr⟩
  ·
   have := tcells_len L
   rw [hx] at this
   simp at this; omega
  ·
   exact ⟨g, c, rfl, ho, hb⟩
 obtain ⟨n, hn⟩ : ∃ n, n = L.length := ⟨_, rfl⟩
 rw [← hn] at HN HTL HF h0 hl ⊢
 clear hn h
 have q22 : ∀ (w : World) (a : Option Addr) (n c n' c' : Nat), (binOp .eql 23 (.slice a n c) (.slice none n' c')).run Try.prog w = .ok (.bool a.isNone) w := fun w a n c n' c' => Lib.run_eql_slice_nil w _ _ a n c n' c' Try.underlying23
 go_enter Try.func36, Try.ntmps36
 go_wp2_with (at_builtin; refine kit.appN (.tmp 5) (.tmp 6) 23 rfl rfl w.heap.size Try.underlying23 infoSym rfl (by decide) (by decide) HO.out rfl (tcells L) rfl HTL.out HN.out.1 HN.out.2 tcells_one (by omega) (by simp) ?_)
 intro v' w1 hown hb1
 have hbf := hb0.trans hb1
 have HO1 : Hid (w1.ownsRow w.heap.size 52 2 v' n (tcells L)) := by show World.ownsRow _ _ _ _ _ _ _; simpa using hown
 clear hown
 go_wp2
 go_ret
 exact HF.out _ _ HO1.out hbf
def DropP (c : Int) (vs : Value) (r : List tb.Sym × Int) (w : World) (e : Ending) (w' : World) : Prop :=
 ∃ (ao : Option Addr) (cap : Nat), e = .returned (.tuple #[.agg #[.slice ao r.1.length cap, .int .i64 c], .int .i64 r.2]) ∧ (vs = .slice ao r.1.length cap ∨ ∃ g, ao = some ⟨g, 0, none⟩ ∧ w.heap.size ≤ g) ∧ Tabs w' w'.heap.size (.slice ao r.1.length cap) r.1 ∧ Below w.heap.size w w'
theorem drop_tabs {w W : World} {g n cap : Nat} {e : TypeId} {c : Int} {L2 : List tb.Sym} (ho : W.ownsRow (w.heap.size + 2) e 2 (.slice (some ⟨g, 0, none⟩) n cap) n (tcells L2)) (hb : Below w.heap.size w W) :
  Tabs ((W.setCell ⟨w.heap.size + 1, 0, none⟩ (.slice (some ⟨g, 0, none⟩) n cap)).setCell ⟨w.heap.size + 1, 1, none⟩ (.int .i64 c))
   ((W.setCell ⟨w.heap.size + 1, 0, none⟩ (.slice (some ⟨g, 0, none⟩) n cap)).setCell ⟨w.heap.size + 1, 1, none⟩ (.int .i64 c)).heap.size (.slice (some ⟨g, 0, none⟩) n cap) L2 ∧ n = L2.length ∧
  Below w.heap.size w ((W.setCell ⟨w.heap.size + 1, 0, none⟩ (.slice (some ⟨g, 0, none⟩) n cap)).setCell ⟨w.heap.size + 1, 1, none⟩ (.int .i64 c)) := by
 have o3 := ownsRow_setCell_below ho (a := ⟨w.heap.size + 1, 0, none⟩) (show w.heap.size + 1 < w.heap.size + 2 by omega) (.slice (some ⟨g, 0, none⟩) n cap)
 have o4 := ownsRow_setCell_below o3 (a := ⟨w.heap.size + 1, 1, none⟩) (show w.heap.size + 1 < w.heap.size + 2 by omega) (.int .i64 c)
 have hn : n = L2.length := by
  have := o4.1
  rw [tcells_len] at this; omega
 refine ⟨?_, hn, set2 hb _ _⟩
 have := Cells.own o4
 unfold Tabs
 rw [← hn]; exact this
set_option maxHeartbeats 6400000 in
set_option maxRecDepth 100000 in
theorem drop_right (c id : Int) (L : List tb.Sym) (vs : Value) (w : World) (hr : tb.Right c L) (h : Tabs w w.heap.size vs L) :
  Calls Try.prog 25 #[.agg #[vs, .int .i64 c], .int .i64 id] w (DropP c vs (tb.drop L id) w) := by
 have HRT : Hid (∀ W, Below w.heap.size w W → Calls Try.prog 18 #[.agg #[vs, .int .i64 c]] W (SaidT true W)) := fun W hW => symright_true c L vs W hr ((h.below hW).mono hW.size)
 have HUS : Hid (∀ W, Below w.heap.size w W → Calls Try.prog 34 #[.agg #[vs, .int .i64 c], .int .i64 id] W (SaidT (tb.used L id) W)) := fun W hW => used_any c id L vs W ((h.below hW).mono hW.size)
 have HD : Hid (tb.used L id = true → 0 ≤ id ∧ id < (L.length : Int) ∧ 0 < (tb.at_ L id.toNat).2) := fun hu => by
  unfold tb.used at hu
  exact of_decide_eq_true hu
 obtain ⟨q0, hq0⟩ : ∃ q, q = L.length := ⟨_, rfl⟩
 obtain ⟨ao, cap, rfl⟩ : ∃ ao cap, vs = .slice ao q0 cap := by
  obtain ⟨ao, cap, e, _⟩ := h.form
  exact ⟨ao, cap, by rw [hq0]; exact e⟩
 have HC : Hid (∀ W, Below w.heap.size w W → Tabs W W.heap.size (.slice ao q0 cap) L) := fun W hW => (h.below hW).mono hW.size
 have HSAM : Hid (∀ W, Below w.heap.size w W → ∀ e2 : Int, tb.drop L id = (L, e2) → DropP c (.slice ao q0 cap) (tb.drop L id) w (.returned (.tuple #[.agg #[.slice ao q0 cap, .int .i64 c], .int .i64 e2])) W) := fun W hW e2 he => by
  rw [he]
  exact ⟨ao, cap, by rw [← hq0], Or.inl (by rw [← hq0]), by show Tabs _ _ _ _; rw [← hq0]; exact HC.out W hW, hW⟩
 have HCL : Hid (∀ (b off : Nat) W, 0 < q0 → ao = some ⟨b, off, none⟩ → Below w.heap.size w W → Calls Try.prog 36 #[.slice (some ⟨b, off, none⟩) q0 cap] W (CloneP L W)) := fun b off W h0 hao hW => by
  have ht := HC.out W hW
  rw [hao, hq0] at ht
  rw [hq0]
  exact sclone_any L b off cap W ht (by have := hr.1; have := hr.2.1; have := hr.2.2.1; omega) (by omega)
 have HQ := Lib.hid hq0
 have HR := Lib.hid hr
 have hA0 : Below (w.heap.size + 2) ((w.alloc (.cells #[.slice ao q0 cap, .int .i64 c] 25)).alloc (.cells #[.slice none 0 0, .int .i64 0] 25)) ((w.alloc (.cells #[.slice ao q0 cap, .int .i64 c] 25)).alloc (.cells #[.slice none 0 0, .int .i64 0] 25)) := Below.refl _ _
 obtain ⟨_, _, _, _, _, _, _, hA⟩ := boxes2 hA0
 have HR1 := Lib.hid (HRT.out _ hA)
 obtain ⟨PT, hPT⟩ : ∃ P, P = tb.drop L id := ⟨_, rfl⟩
 have HPT := Lib.hid hPT
 rw [← hPT] at HSAM ⊢
 have HPD : Hid (PT = if tb.used L id = true then (L.set id.toNat (if (tb.at_ L id.toNat).2 = 1 then .empty else (tb.at_ L id.toNat).1, (tb.at_ L id.toNat).2 - 1), 0) else (L, 5)) := hPT
 rw [← hq0] at HD
 obtain ⟨U, hU⟩ : ∃ U, U = tb.used L id := ⟨_, rfl⟩
 rw [← hU] at HUS HD HPD
 clear h hq0 hA0 hPT HRT hr hU HPT
 go_enter Try.func25, Try.ntmps25
 go_wp2_with fail
 (with_reducible refine HR1.out.mono ?_)
 rintro e w1 ⟨rfl, hb1⟩
 have hbW1 : Below (w.heap.size + 2) ((w.alloc (.cells #[.slice ao q0 cap, .int .i64 c] 25)).alloc (.cells #[.slice none 0 0, .int .i64 0] 25)) w1 := hb1.mono (by simp)
 obtain ⟨a0, a1, b0, b1, f0, f1, hz, hbl1⟩ := boxes2 hbW1
 have HU1 := Lib.hid (HUS.out _ hbl1)
 go_wp2_with fail
 (with_reducible refine HU1.out.mono ?_)
 rintro e w2 ⟨rfl, hb2⟩
 have hbW2 := hbW1.trans (hb2.mono (by omega))
 obtain ⟨a0, a1, b0, b1, f0, f1, hz, hbl2⟩ := boxes2 hbW2
 by_cases hu : U = true
 case neg =>
  obtain rfl : U = false := by simpa using hu
  have HS : Hid (PT = (L, 5)) := by show _ = _; rw [HPD.out, if_neg (by decide)]
  have HSA := Lib.hid (HSAM.out _ (set2 hbl2 (.slice ao q0 cap) (.int .i64 c)) 5 HS.out)
  clear hu
  go_wp2
  exact bodyPost_ret (v := .tuple #[.agg #[.slice ao q0 cap, .int .i64 c], .int .i64 5]) (by simp [results, Try.results25, go_sem, b0, b1]) rfl HSA.out
 subst hu
 obtain ⟨h0, h1, h2⟩ := HD.out rfl
 obtain ⟨k, rfl⟩ : ∃ k : Nat, id = (k : Int) := ⟨id.toNat, by omega⟩
 rw [Int.toNat_natCast] at h2 HPD
 have hk : k < q0 := by omega
 have HRI := Lib.hid (HR.out.2.2.2.1 k (by rw [← HQ.out]; exact hk))
 obtain ⟨b, off, rfl, hB, _, _⟩ := Tabs.get (HC.out _ hbl2) HQ.out hk
 have HCW := Lib.hid (HCL.out b off w2 (by omega) rfl hbl2)
 obtain ⟨⟨x, r⟩, hx⟩ : ∃ x, x = tb.at_ L k := ⟨_, rfl⟩
 have HX := Lib.hid hx
 rw [← hx] at HRI HPD h2
 obtain ⟨hr0, hr1, _, _⟩ := HRI.out
 simp only at hr0 hr1 HPD h2
 clear hx HD HSAM HCL HUS
 go_wp2_with fail
 (with_reducible refine HCW.out.mono ?_)
 rintro e w3 ⟨g, cc, rfl, ho3, hb3⟩
 have ho3' := Joins.ownsRow_le ho3 hz
 have HO3 : Hid (w3.ownsRow (w.heap.size + 2) 52 2 (.slice (some ⟨g, 0, none⟩) q0 cc) q0 (tcells L)) := by
  show World.ownsRow _ _ _ _ _ _ _
  rw [HQ.out]; exact ho3'
 have hbW3 := hbW2.trans (hb3.mono (by omega))
 obtain ⟨a0, a1, b0, b1, f0, f1, hz, hbl3⟩ := boxes2 hbW3
 obtain ⟨s0, s1, t0, t1, hbg⟩ := own_spot HO3.out (by rw [← HQ.out]; exact hk)
 rw [← HX.out] at s0 s1
 simp only at s0 s1
 obtain ⟨o1, hbo1⟩ := kit.own_set (j := k * 2 + 1) (u := .int .i64 (r - 1)) HO3.out
 rw [tcells_set2, ← HX.out] at o1
 have HGE : Hid (w.heap.size ≤ g) := by show _ ≤ _; omega
 have hgne : ¬ g = w.heap.size + 1 := by omega
 have hgne2 : ¬ w.heap.size + 1 = g := by omega
 have hkI : (k : Int) < (q0 : Int) := by omega
 have HLEN : Hid (L.length = q0) := HQ.out.symm
 rw [← HQ.out]
 clear ho3 ho3'
 by_cases hr1' : r = 1
 ·
  subst hr1'
  obtain ⟨o2, hbo2⟩ := kit.own_set (j := k * 2) (u := .string ⟨#[]⟩) o1
  rw [tcells_set1] at o2
  have HL2 : Hid ((L.set k (x, 1 - 1)).set k (⟨#[]⟩, (tb.at_ (L.set k (x, 1 - 1)) k).2) = L.set k (⟨#[]⟩, 0)) := by
   show _ = _
   rw [List.set_set, tb.at_set (by rw [← HQ.out]; exact hk), if_pos rfl]; rfl
  have o3 := HL2.out ▸ o2
  obtain ⟨hT, hn, hBE⟩ := drop_tabs (c := c) o3 ((hbl3.trans (hbo1.mono (by omega))).trans (hbo2.mono (by omega)))
  have HPF : Hid (PT = (L.set k (⟨#[]⟩, 0), 0)) := by show _ = _; rw [HPD.out, if_pos trivial, if_pos rfl]; rfl
  have HN := Lib.hid hn
  have HT := Lib.hid hT
  have HBE := Lib.hid hBE
  clear hT hBE o1 o2 o3 hn hbo1 hbo2
  go_wp2
  refine bodyPost_ret (v := .tuple #[.agg #[.slice (some ⟨g, 0, none⟩) q0 cc, .int .i64 c], .int .i64 0]) (by simp [results, Try.results25, go_sem, b0, b1]) rfl ⟨some ⟨g, 0, none⟩, cc, by rw [HPF.out]; show _ = Ending.returned (.tuple #[.agg #[.slice _ (L.set k (⟨#[]⟩, 0)).length cc, _], _]); rw [← HN.out], Or.inr ⟨g, rfl, HGE.out⟩, ?_, HBE.out⟩
  show Tabs _ _ _ _
  rw [HPF.out]
  show Tabs _ _ (.slice _ (L.set k (⟨#[]⟩, 0)).length cc) _
  rw [← HN.out]
  exact HT.out
 ·
  obtain ⟨hT, hn, hBE⟩ := drop_tabs (c := c) o1 (hbl3.trans (hbo1.mono (by omega)))
  have HPF : Hid (PT = (L.set k (x, r - 1), 0)) := by show _ = _; rw [HPD.out, if_pos trivial, if_neg hr1']
  have HN := Lib.hid hn
  have HT := Lib.hid hT
  have HBE := Lib.hid hBE
  have hrb : (r - 1 == 0) = false := by simp; omega
  clear hT hBE o1 hn hbo1
  go_wp2
  refine bodyPost_ret (v := .tuple #[.agg #[.slice (some ⟨g, 0, none⟩) q0 cc, .int .i64 c], .int .i64 0]) (by simp [results, Try.results25, go_sem, b0, b1]) rfl ⟨some ⟨g, 0, none⟩, cc, by rw [HPF.out]; show _ = Ending.returned (.tuple #[.agg #[.slice _ (L.set k (x, r - 1)).length cc, _], _]); rw [← HN.out], Or.inr ⟨g, rfl, HGE.out⟩, ?_, HBE.out⟩
  show Tabs _ _ _ _
  rw [HPF.out]
  show Tabs _ _ (.slice _ (L.set k (x, r - 1)).length cc) _
  rw [← HN.out]
  exact HT.out
end Go.Proofs.Ytegjpiggjcfoaaa
namespace Go.Proofs.Ytegjpiggjcfoaaa
open Go.RowKit Go.ChangeShapes cl
def St (w : World) (B1 : Nat) (c : Int) (L : List tb.Sym) (ao : Option Addr) (n cap : Nat) (W : World) : Prop :=
 Tabs W W.heap.size (.slice ao n cap) L ∧ (∀ b off, ao = some ⟨b, off, none⟩ → b ≠ B1) ∧ W.cell? ⟨B1, 0, none⟩ = some (.slice ao n cap) ∧ W.cell? ⟨B1, 1, none⟩ = some (.int .i64 c) ∧
 W.frozen? ⟨B1, 0, none⟩ = false ∧ W.frozen? ⟨B1, 1, none⟩ = false ∧ Below w.heap.size w W ∧ w.heap.size ≤ B1 ∧ B1 < W.heap.size
theorem St.step {w W W' : World} {B1 n cap : Nat} {c : Int} {L : List tb.Sym} {ao : Option Addr} (h : St w B1 c L ao n cap W) (hb : Below W.heap.size W W') : St w B1 c L ao n cap W' := by
 obtain ⟨h0, h1, h2, h3, h4, h5, h6, h7, h8⟩ := h
 exact ⟨h0.next hb, h1, (hb.cell (p := ⟨B1, 0, none⟩) h8).trans h2, (hb.cell (p := ⟨B1, 1, none⟩) h8).trans h3, (hb.frozen (p := ⟨B1, 0, none⟩) h8).trans h4, (hb.frozen (p := ⟨B1, 1, none⟩) h8).trans h5, h6.trans (hb.mono h6.size), h7, by have := hb.size; omega⟩
theorem Tabs.lt {w : World} {B n cap : Nat} {ao : Option Addr} {L : List tb.Sym} (h : Tabs w B (.slice ao n cap) L) (hn : 0 < L.length) : ∀ b off, ao = some ⟨b, off, none⟩ → b < B := by
 intro b off e
 obtain ⟨_, ao', c', e1, _, _, h4⟩ := h
 simp only [Value.slice.injEq] at e1
 obtain ⟨b', off', e2, hB, _⟩ := h4 hn
 rw [e1.1, e2] at e
 simp only [Option.some.injEq, Addr.mk.injEq] at e
 omega
theorem St.start {w W : World} {n cap : Nat} {c : Int} {L : List tb.Sym} {ao : Option Addr} {t : TypeId} (h : Tabs W W.heap.size (.slice ao n cap) L) (hlt : ∀ b off, ao = some ⟨b, off, none⟩ → b < W.heap.size) (hb : Below w.heap.size w W) :
  St w W.heap.size c L ao n cap (W.alloc (.cells #[.slice ao n cap, .int .i64 c] t)) := by
 have hB : Below W.heap.size W (W.alloc (.cells #[.slice ao n cap, .int .i64 c] t)) := (Below.refl _ _).alloc (Nat.le_refl _) _
 obtain ⟨a0, a1, f0, f1, _⟩ := twoT (w := W) (x := .slice ao n cap) (y := .int .i64 c) (t := t) (Below.refl _ _)
 exact ⟨h.next hB, fun b off e => by have := hlt b off e; omega, a0, a1, f0, f1, hb.trans (hB.mono hb.size), hb.size, by rw [World.size_alloc]; omega⟩
theorem St.store {w W : World} {B1 n cap n' cap' : Nat} {c : Int} {L L' : List tb.Sym} {ao ao' : Option Addr} (h : St w B1 c L ao n cap W) (ht : Tabs W W.heap.size (.slice ao' n' cap') L') (hne : ∀ b off, ao' = some ⟨b, off, none⟩ → b ≠ B1) :
  St w B1 c L' ao' n' cap' ((W.setCell ⟨B1, 0, none⟩ (.slice ao' n' cap')).setCell ⟨B1, 1, none⟩ (.int .i64 c)) := by
 obtain ⟨h0, h1, h2, h3, h4, h5, h6, h7, h8⟩ := h
 have hsz : ((W.setCell ⟨B1, 0, none⟩ (.slice ao' n' cap')).setCell ⟨B1, 1, none⟩ (.int .i64 c)).heap.size = W.heap.size := by rw [World.size_setCell, World.size_setCell]
 refine ⟨?_, hne, ?_, ?_, by simpa using h4, by simpa using h5, (h6.setCell h7 _).setCell h7 _, h7, by rw [hsz]; exact h8⟩
 ·
  rw [hsz]
  obtain ⟨g0, ao2, cap2, e, g1, g2, g3⟩ := ht
  refine ⟨g0, ao2, cap2, e, g1, g2, fun hp => ?_⟩
  obtain ⟨b, off, e2, hB, hc⟩ := g3 hp
  simp only [Value.slice.injEq] at e
  have hb := hne b off (by rw [e.1, e2])
  refine ⟨b, off, e2, hB, fun j u hj => ?_⟩
  rw [World.cell?_setCell_far _ _ _ _ (show B1 ≠ b from fun e => hb e.symm), World.cell?_setCell_far _ _ _ _ (show B1 ≠ b from fun e => hb e.symm)]
  exact hc j u hj
 ·
  rw [World.cell?_setCell_other _ _ _ _ (by simp), World.cell?_setCell_same _ _ _ h2]
 ·
  rw [World.cell?_setCell_same _ _ _ (u := .int .i64 c) (by rw [World.cell?_setCell_other _ _ _ _ (by simp)]; exact h3)]
theorem St.apart {w Wc : World} {B1 n cap n' cap' : Nat} {c : Int} {L : List tb.Sym} {ao ao' : Option Addr} (h : St w B1 c L ao n cap Wc) (hv : Value.slice ao n cap = .slice ao' n' cap' ∨ ∃ g, ao' = some ⟨g, 0, none⟩ ∧ Wc.heap.size ≤ g) :
  ∀ b off, ao' = some ⟨b, off, none⟩ → b ≠ B1 := by
 intro b off e
 rcases hv with h1 | ⟨g, h1, h2⟩
 ·
  simp only [Value.slice.injEq] at h1
  exact h.2.1 b off (by rw [h1.1, e])
 ·
  rw [h1] at e
  simp only [Option.some.injEq, Addr.mk.injEq] at e
  have := h.2.2.2.2.2.2.2.2
  omega
end Go.Proofs.Ytegjpiggjcfoaaa
namespace Go.Proofs.Ytegjpiggjcfoaaa
open Go.RowKit Go.ChangeShapes cl
def nums (S : List tb.Sym) (ts : List ByteArray) : List Value := ts.map fun t => .int .i64 (tb.find S t : Int)
theorem nums_get {S : List tb.Sym} {ts : List ByteArray} {j : Nat} {t : ByteArray} (h : ts[j]? = some t) : (nums S ts)[j]? = some (.int .i64 (tb.find S t : Int)) := by simp [nums, h]
theorem nums_app (S : List tb.Sym) (a b : List ByteArray) : nums S (a ++ b) = nums S a ++ nums S b := by simp [nums]
theorem nums_same {S S' : List tb.Sym} {ts : List ByteArray} (h : ∀ t ∈ ts, tb.find S' t = tb.find S t) : nums S' ts = nums S ts := by
 unfold nums
 exact List.map_congr_left fun t ht => by rw [h t ht]
def rowR (S : List tb.Sym) : Rel se.Row := fun w B c r => ∃ vi, c = [vi, .int .i64 r.2] ∧ Cells w B vi (se.texts r.1).length 1 (nums S (se.texts r.1))
theorem rowR_steady (S : List tb.Sym) : Steady (rowR S) := by
 rintro w w' B B' c x ⟨vi, h1, h2⟩ hb hB
 exact ⟨vi, h1, (h2.below hb).mono hB⟩
abbrev tval (vs vr : Value) : Value := .agg #[vs, .int .i64 24000, vr]
def SerAt (w : World) (B : Nat) (vs vr : Value) (S : List tb.Sym) (R : List se.Row) : Prop := Tabs w B vs S ∧ RowsAt 2 (rowR S) w B vr R
theorem SerAt.below {w w' : World} {B : Nat} {vs vr : Value} {S : List tb.Sym} {R : List se.Row} (h : SerAt w B vs vr S R) (hb : Below B w w') : SerAt w' B vs vr S R := ⟨Cells.below h.1 hb, h.2.below (rowR_steady S) hb (Nat.le_refl _)⟩
theorem SerAt.mono {w : World} {B B' : Nat} {vs vr : Value} {S : List tb.Sym} {R : List se.Row} (h : SerAt w B vs vr S R) (hB : B ≤ B') : SerAt w B' vs vr S R := ⟨Cells.mono h.1 hB, h.2.mono (rowR_steady S) hB⟩
theorem SerAt.next {w w' : World} {vs vr : Value} {S : List tb.Sym} {R : List se.Row} (h : SerAt w w.heap.size vs vr S R) (hb : Below w.heap.size w w') : SerAt w' w'.heap.size vs vr S R := (h.below hb).mono hb.size
theorem row_at {w : World} {B n cap : Nat} {ao : Option Addr} {S : List tb.Sym} {R : List se.Row} (h : RowsAt 2 (rowR S) w B (.slice ao n cap) R) (hn : n = R.length) {k : Nat} (hk : k < n) :
  ∃ b off ai m ci, ao = some ⟨b, off, none⟩ ∧ b < B ∧ m = (se.texts (se.at_ R k).1).length ∧ m ≤ maxLen ∧ Cells w B (.slice ai m ci) m 1 (nums S (se.texts (se.at_ R k).1)) ∧ w.cell? ⟨b, off + k * 2, none⟩ = some (.slice ai m ci) ∧ w.cell? ⟨b, off + k * 2 + 1, none⟩ = some (.int .i64 (se.at_ R k).2) := by
 obtain ⟨b, off, c, e, hB, _, ⟨vi, hc, hvi⟩, hcell⟩ := h.get hn hk ([], 0)
 subst hc
 obtain ⟨ai, ci, rfl, _, hm⟩ := hvi.form
 exact ⟨b, off, ai, _, ci, e, hB, rfl, hm, hvi, hcell 0 _ rfl, hcell 1 _ rfl⟩
set_option maxHeartbeats 1600000 in
set_option maxRecDepth 100000 in
theorem sfree_any (S : List tb.Sym) (R : List se.Row) (vs vr : Value) (w : World) (h : RowsAt 2 (rowR S) w w.heap.size vr R) :
  Calls Try.prog 26 #[tval vs vr] w (NatP (se.free R) w) := by
 have HY : Hid (∀ k, k < R.length → (se.at_ R k).2 < 1 → (∀ j, j < k → 1 ≤ (se.at_ R j).2) → se.free R = k) := fun k h1 h2 h3 => se.free_eq h1 h2 (fun j hj => by have := h3 j hj; omega)
 have HN : Hid ((∀ j, j < R.length → 1 ≤ (se.at_ R j).2) → se.free R = R.length) := fun h => se.free_none (fun j hj => by have := h j hj; omega)
 obtain ⟨F, hF⟩ : ∃ F, F = se.free R := ⟨_, rfl⟩
 rw [← hF] at HY HN ⊢
 clear hF
 obtain ⟨q0, hq0⟩ : ∃ q, q = R.length := ⟨_, rfl⟩
 obtain ⟨ao, cap, rfl, _, hqm⟩ := h.form' hq0
 unfold maxLen at hqm
 have HC := Lib.hid h
 have HQ := Lib.hid hq0
 rw [← hq0] at HY HN
 have hA : Below w.heap.size w (w.alloc (.cells #[vs, .int .i64 24000, .slice ao q0 cap] 28)) := (Below.refl _ _).alloc (Nat.le_refl _) _
 clear h hq0
 go_enter Try.func26, Try.ntmps26
 go_wp2
 go_loopw [3, 4, 8] (fun _ _ i wr => ∃ k : Nat, i = .int .i64 k ∧ k ≤ q0 ∧ Hid (∀ j, j < k → 1 ≤ (se.at_ R j).2) ∧ Below (w.heap.size + 1) (w.alloc (.cells #[vs, .int .i64 24000, .slice ao q0 cap] 28)) wr) (fun _ _ i _ => q0 - (intOf i).toNat)
 case atStart => exact ⟨0, rfl, by omega, fun j hj => absurd hj (Nat.not_lt_zero _), Below.refl _ _⟩
 case round =>
  obtain ⟨k, rfl, hk, HT, hbl⟩ := hrel
  have hb0 : Below w.heap.size w wr := hA.trans (hbl.mono (by omega))
  obtain ⟨d0, d1, d2, _, _, _, hz⟩ := three (w := w) (w2 := wr) (t := 28) (by rw [World.size_alloc]; exact hbl)
  have hz1 : w.heap.size + 1 ≤ wr.heap.size := hz
  by_cases hlt : k < q0
  ·
   have hkI : (k : Int) < (q0 : Int) := by omega
   obtain ⟨b, off, ai, m, ci, rfl, hB, hm, _, _, p0, p1⟩ := row_at HC.out HQ.out hlt
   have e0 := (hb0.cell (p := ⟨b, off + k * 2, none⟩) hB).trans p0
   have e1 := (hb0.cell (p := ⟨b, off + k * 2 + 1, none⟩) hB).trans p1
   have HT2 : Hid (1 ≤ (se.at_ R k).2 → ∀ j, j < k + 1 → 1 ≤ (se.at_ R j).2) := fun hn j hj => by
    by_cases e : j = k
    ·
     subst e; exact hn
    ·
     exact HT.out j (by omega)
   have HYK : Hid ((se.at_ R k).2 < 1 → F = k) := fun h => HY.out k hlt h HT.out
   obtain ⟨r, hx⟩ : ∃ x, x = (se.at_ R k).2 := ⟨_, rfl⟩
   rw [← hx] at e1 HT2 HYK
   clear p0 p1 hx hm
   have hbx := hbl.alloc hz1 (.cells #[.slice ai m ci, .int .i64 r] 45)
   have hb0x := hb0.alloc (by omega) (.cells #[.slice ai m ci, .int .i64 r] 45)
   by_cases hr : r < 1
   ·
    obtain rfl := HYK.out hr
    go_wp2
    go_ret
    exact ⟨rfl, hb0x⟩
   ·
    have HT3 := Lib.hid (HT2.out (by omega))
    go_wp2
    go_roundw
    case rel => exact ⟨k + 1, by go_num, by omega, HT3.out, hbx⟩
    case measure => simp [intOf]; omega
  ·
   obtain rfl : k = q0 := by omega
   obtain rfl := HN.out HT.out
   go_wp2
   go_ret
   exact ⟨rfl, hb0⟩
set_option maxHeartbeats 1600000 in
set_option maxRecDepth 100000 in
theorem sused_any (id : Int) (S : List tb.Sym) (R : List se.Row) (vs vr : Value) (w : World) (h : RowsAt 2 (rowR S) w w.heap.size vr R) :
  Calls Try.prog 22 #[tval vs vr, .int .i64 id] w (Said (se.used R id) w) := by
 have HU : Hid (se.used R id = decide (0 ≤ id ∧ id < (R.length : Int) ∧ 1 ≤ (se.at_ R id.toNat).2)) := rfl
 obtain ⟨F, hF⟩ : ∃ F, F = se.used R id := ⟨_, rfl⟩
 rw [← hF] at HU ⊢
 clear hF
 obtain ⟨q0, hq0⟩ : ∃ q, q = R.length := ⟨_, rfl⟩
 obtain ⟨ao, cap, rfl, _, hqm⟩ := h.form' hq0
 unfold maxLen at hqm
 have HC := Lib.hid h
 have HQ := Lib.hid hq0
 rw [← hq0] at HU
 have hA : Below w.heap.size w (w.alloc (.cells #[vs, .int .i64 24000, .slice ao q0 cap] 28)) := (Below.refl _ _).alloc (Nat.le_refl _) _
 clear h hq0
 by_cases h0 : id < 0
 ·
  have HF : Hid (F = false) := by show _ = _; rw [HU.out]; exact decide_eq_false (fun h => by omega)
  have h0b : ¬ 0 ≤ id := by omega
  go_enter Try.func22, Try.ntmps22
  go_wp2
  go_ret
  rw [HF.out]; exact ⟨rfl, hA⟩
 obtain ⟨k, rfl⟩ : ∃ k : Nat, id = (k : Int) := ⟨id.toNat, by omega⟩
 rw [Int.toNat_natCast] at HU
 by_cases hlt : k < q0
 ·
  have hkI : (k : Int) < (q0 : Int) := by omega
  have hk0 : (0 : Int) ≤ (k : Int) := by omega
  obtain ⟨b, off, ai, m, ci, rfl, hB, hm, _, _, p0, p1⟩ := row_at HC.out HQ.out hlt
  have e1 := (hA.cell (p := ⟨b, off + k * 2 + 1, none⟩) hB).trans p1
  obtain ⟨r, hx⟩ : ∃ x, x = (se.at_ R k).2 := ⟨_, rfl⟩
  rw [← hx] at p1 e1 HU
  clear hx h0 p0 hm
  have hne : ¬ b = w.heap.size := by omega
  by_cases hr : 1 ≤ r
  ·
   have HF : Hid (F = true) := by show _ = _; rw [HU.out]; exact decide_eq_true ⟨by omega, by omega, hr⟩
   go_enter Try.func22, Try.ntmps22
   go_wp2
   go_ret
   rw [HF.out]; exact ⟨rfl, hA⟩
  ·
   have HF : Hid (F = false) := by show _ = _; rw [HU.out]; exact decide_eq_false (fun h => hr h.2.2)
   go_enter Try.func22, Try.ntmps22
   go_wp2
   go_ret
   rw [HF.out]; exact ⟨rfl, hA⟩
 ·
  have hkI : ¬ (k : Int) < (q0 : Int) := by omega
  have hk0 : (0 : Int) ≤ (k : Int) := by omega
  have HF : Hid (F = false) := by show _ = _; rw [HU.out]; exact decide_eq_false (fun h => by omega)
  clear h0
  go_enter Try.func22, Try.ntmps22
  go_wp2
  go_ret
  rw [HF.out]; exact ⟨rfl, hA⟩
end Go.Proofs.Ytegjpiggjcfoaaa
namespace Go.Proofs
open Go.Shelf
def Try.lays125_ren : Go.Shelf.Ren := ⟨fun | 125 => 49 | 128 => 63 | 129 => 64 | n => n, fun | 46 => 98 | 3 => 3 | 51 => 109 | 53 => 53 | 4 => 4 | 5 => 5 | 9 => 9 | n => n, fun | n => n⟩
theorem Try.lays125 : Go.Proofs.Lays.n125 Try.prog Try.lays125_ren := {
 mixed := by kernel_rfl
 f125 := Try.func49.trans (congrArg some (by kernel_rfl))
 f128 := Try.func63.trans (congrArg some (by kernel_rfl))
 f129 := Try.func64.trans (congrArg some (by kernel_rfl))
 t3 := Try.underlying3
 a3 := Try.isAgg3
 z3 := Try.sizeOf3
 v3 := Try.zeroValue3
 t4 := Try.underlying4
 a4 := Try.isAgg4
 z4 := Try.sizeOf4
 v4 := Try.zeroValue4
 t5 := Try.underlying5
 a5 := Try.isAgg5
 z5 := Try.sizeOf5
 v5 := Try.zeroValue5
 t9 := Try.underlying9
 a9 := Try.isAgg9
 z9 := Try.sizeOf9
 v9 := Try.zeroValue9
 t46 := Try.underlying98
 a46 := Try.isAgg98
 z46 := Try.sizeOf98
 v46 := Try.zeroValue98
 t51 := Try.underlying109
 a51 := Try.isAgg109
 z51 := Try.sizeOf109
 v51 := Try.zeroValue109
 t53 := Try.underlying53
 a53 := Try.isAgg53
 z53 := Try.sizeOf53
 v53 := Try.zeroValue53 }
theorem Try.bits_Len (x : Int) (w : World) (h0 : 0 ≤ x) (h1 : x ≤ 18446744073709551615) :
  Calls Try.prog 49 #[.int .u64 x] w fun e w' => e = .returned (.int .i64 (Lib.bitLen x.toNat)) ∧ w' = w := Any.bits_Len Try.lays125 x w h0 h1
open Go.RowKit in
def Try.lays106_ren : Go.Shelf.Ren := ⟨fun | 106 => 45 | 213 => 50 | 265 => 65 | n => n, fun | 9 => 9 | 3 => 3 | n => n, fun | n => n⟩
theorem Try.lays106 : Go.Proofs.Lays.n106 Try.prog Try.lays106_ren := {
 mixed := by kernel_rfl
 f106 := Try.func45.trans (congrArg some (by kernel_rfl))
 f213 := Try.func50.trans (congrArg some (by kernel_rfl))
 f265 := Try.func65.trans (congrArg some (by kernel_rfl))
 t3 := Try.underlying3
 a3 := Try.isAgg3
 z3 := Try.sizeOf3
 v3 := Try.zeroValue3
 t9 := Try.underlying9
 a9 := Try.isAgg9
 z9 := Try.sizeOf9
 v9 := Try.zeroValue9 }
open Go.RowKit in
theorem Try.strings_Compare (a b : ByteArray) (w : World) :
  Calls Try.prog 45 #[.string a, .string b] w fun e w' => e = .returned (.int .i64 (Lib.compareBytes a.data.toList b.data.toList)) ∧ w' = w := Any.strings_Compare Try.lays106 a b w
open Go.RowKit Go.Lib in
open Go.RowKit Go.Lib in
open Go.RowKit Go.Lib in
open Go.RowKit Go.Lib in
open Go.RowKit Go.Lib in
open Go.RowKit Go.Lib in
open Go.RowKit Go.Lib in
def Try.lays145_ren : Go.Shelf.Ren := ⟨fun | 145 => 29 | 220 => 39 | 219 => 46 | 217 => 51 | 225 => 52 | 224 => 53 | 267 => 54 | 266 => 66 | 314 => 67 | n => n, fun | 9 => 9 | 4 => 4 | 59 => 79 | 3 => 3 | 5 => 5 | 46 => 98 | 146 => 111 | 51 => 109 | n => n, fun | 1 => 0 | n => n⟩
theorem Try.lays145 : Go.Proofs.Lays.n145 Try.prog Try.lays145_ren := {
 mixed := by kernel_rfl
 f145 := Try.func29.trans (congrArg some (by kernel_rfl))
 f217 := Try.func51.trans (congrArg some (by kernel_rfl))
 f219 := Try.func46.trans (congrArg some (by kernel_rfl))
 f220 := Try.func39.trans (congrArg some (by kernel_rfl))
 f224 := Try.func53.trans (congrArg some (by kernel_rfl))
 f225 := Try.func52.trans (congrArg some (by kernel_rfl))
 f266 := Try.func66.trans (congrArg some (by kernel_rfl))
 f267 := Try.func54.trans (congrArg some (by kernel_rfl))
 f314 := Try.func67.trans (congrArg some (by kernel_rfl))
 t3 := Try.underlying3
 a3 := Try.isAgg3
 z3 := Try.sizeOf3
 v3 := Try.zeroValue3
 t4 := Try.underlying4
 a4 := Try.isAgg4
 z4 := Try.sizeOf4
 v4 := Try.zeroValue4
 t5 := Try.underlying5
 a5 := Try.isAgg5
 z5 := Try.sizeOf5
 v5 := Try.zeroValue5
 t9 := Try.underlying9
 a9 := Try.isAgg9
 z9 := Try.sizeOf9
 v9 := Try.zeroValue9
 t46 := Try.underlying98
 a46 := Try.isAgg98
 z46 := Try.sizeOf98
 v46 := Try.zeroValue98
 t51 := Try.underlying109
 a51 := Try.isAgg109
 z51 := Try.sizeOf109
 v51 := Try.zeroValue109
 t59 := Try.underlying79
 a59 := Try.isAgg79
 z59 := Try.sizeOf79
 v59 := Try.zeroValue79
 t146 := Try.underlying111
 a146 := Try.isAgg111
 z146 := Try.sizeOf111
 v146 := Try.zeroValue111
 g1 := by kernel_rfl }
open Go.RowKit Go.Lib in
theorem Try.strings_Cut (s sep : ByteArray) (m : Int) (w : World) (hs : s.size < 4294967281) (hm : w.cell? ⟨0, 0, none⟩ = some (.int .i64 m)) :
  Calls Try.prog 29 #[.string s, .string sep] w fun e w' => e = .returned (.tuple #[.string ⟨(Lib.cut s.data.toList sep.data.toList).1.toArray⟩, .string ⟨(Lib.cut s.data.toList sep.data.toList).2.1.toArray⟩, .bool (Lib.cut s.data.toList sep.data.toList).2.2]) ∧ ∃ n, w' = w.drewN n := Any.strings_Cut Try.lays145 s sep m w hs hm
open Go.RowKit Go.Lib in
open Go.RowKit Go.Lib in
open Go.RowKit Go.Lib in
open Go.RowKit Go.Lib in
open Go.RowKit Go.Lib in
def Try.lays101_ren : Go.Shelf.Ren := ⟨fun | 101 => 30 | 208 => 40 | 206 => 47 | n => n, fun | 9 => 9 | 4 => 4 | 3 => 3 | n => n, fun | n => n⟩
theorem Try.lays101 : Go.Proofs.Lays.n101 Try.prog Try.lays101_ren := {
 mixed := by kernel_rfl
 f101 := Try.func30.trans (congrArg some (by kernel_rfl))
 f206 := Try.func47.trans (congrArg some (by kernel_rfl))
 f208 := Try.func40.trans (congrArg some (by kernel_rfl))
 t3 := Try.underlying3
 a3 := Try.isAgg3
 z3 := Try.sizeOf3
 v3 := Try.zeroValue3
 t4 := Try.underlying4
 a4 := Try.isAgg4
 z4 := Try.sizeOf4
 v4 := Try.zeroValue4
 t9 := Try.underlying9
 a9 := Try.isAgg9
 z9 := Try.sizeOf9
 v9 := Try.zeroValue9 }
open Go.RowKit Go.Lib in
theorem Try.strings_TrimPrefix (s p : ByteArray) (w : World) :
  Calls Try.prog 30 #[.string s, .string p] w fun e w' => e = .returned (.string ⟨(Lib.trimPrefix s.data.toList p.data.toList).toArray⟩) ∧ w' = w := Any.strings_TrimPrefix Try.lays101 s p w
def Try.laysNm215_ren : Go.Shelf.Ren := ⟨fun | 15 => 35 | n => n, fun | 22 => 29 | 3 => 3 | 4 => 4 | n => n, fun | n => n⟩
theorem Try.laysNm215 : Go.Proofs.Lays2.n15 Try.prog Try.laysNm215_ren := {
 mixed := by kernel_rfl
 f15 := Try.func35.trans (congrArg some (by kernel_rfl))
 t3 := Try.underlying3
 a3 := Try.isAgg3
 z3 := Try.sizeOf3
 v3 := Try.zeroValue3
 t4 := Try.underlying4
 a4 := Try.isAgg4
 z4 := Try.sizeOf4
 v4 := Try.zeroValue4
 t22 := Try.underlying29
 a22 := Try.isAgg29
 z22 := Try.sizeOf29
 v22 := Try.zeroValue29
 i3 := by kernel_rfl }
open Go.RowKit Go.Lib in
theorem Try.slices_Clone_int (b off n c : Nat) (zs : List Int) (w : World) (hz : n ≤ zs.length) (hbig : n * 8 ≤ 140737488355328) (hc : ∀ j, j < zs.length → w.cell? ⟨b, off + j, none⟩ = some (.int .i64 (zs.getD j 0))) :
  Calls Try.prog 35 #[.slice (some ⟨b, off, none⟩) n c] w fun e w' => ∃ v', e = .returned v' ∧ w'.ownsRow w.heap.size 3 1 v' n ((zs.take n).map (Value.int .i64)) ∧ v' ≠ .slice none 0 0 ∧ Below w.heap.size w w' := Any.slices_Clone_int Try.laysNm215 b off n c zs w hz hbig hc
open Go.RowKit Go.Lib in
theorem Try.slices_Clone_int_nil (n c : Nat) (w : World) :
  Calls Try.prog 35 #[.slice none n c] w fun e w' => e = .returned (.slice none 0 0) ∧ w' = w := Any.slices_Clone_int_nil Try.laysNm215 n c w
open Go.RowKit Go.Lib in
theorem Try.slices_Clone_int_zero (a : Addr) (c : Nat) (w : World) :
  Calls Try.prog 35 #[.slice (some a) 0 c] w fun e w' => ∃ v', e = .returned v' ∧ w'.ownsRow w.heap.size 3 1 v' 0 [] ∧ v' ≠ .slice none 0 0 ∧ Below w.heap.size w w' := Any.slices_Clone_int_zero Try.laysNm215 a c w
def Try.sortLab_ren : Go.Shelf.Ren := ⟨fun | 6 => 43 | 15 => 49 | 14 => 48 | 28 => 63 | 29 => 64 | 20 => 55 | 21 => 56 | 22 => 57 | 23 => 58 | 24 => 59 | 25 => 60 | 26 => 61 | 27 => 62 | 46 => 68 | 47 => 69 | 48 => 70 | 49 => 71 | 50 => 72 | 57 => 73 | n => n, fun | 22 => 38 | 24 => 47 | 25 => 94 | 3 => 3 | 39 => 98 | 0 => 0 | 53 => 109 | 55 => 53 | 4 => 4 | 46 => 103 | 45 => 102 | 50 => 36 | 5 => 5 | 9 => 9 | 66 => 113 | 70 => 117 | 76 => 119 | 77 => 120 | n => n, fun | n => n⟩
theorem Try.sortLab : Go.Proofs.SlLaysF0.n6 Try.prog Try.sortLab_ren := {
 mixed := by kernel_rfl
 f6 := ⟨Try.f43.name, by decide, Try.func43.trans (congrArg some (by kernel_rfl))⟩
 f14 := ⟨Try.f48.name, by decide, Try.func48.trans (congrArg some (by kernel_rfl))⟩
 f15 := Try.func49.trans (congrArg some (by kernel_rfl))
 f20 := ⟨Try.f55.name, by decide, Try.func55.trans (congrArg some (by kernel_rfl))⟩
 f21 := ⟨Try.f56.name, by decide, Try.func56.trans (congrArg some (by kernel_rfl))⟩
 f22 := ⟨Try.f57.name, by decide, Try.func57.trans (congrArg some (by kernel_rfl))⟩
 f23 := ⟨Try.f58.name, by decide, Try.func58.trans (congrArg some (by kernel_rfl))⟩
 f24 := ⟨Try.f59.name, by decide, Try.func59.trans (congrArg some (by kernel_rfl))⟩
 f25 := ⟨Try.f60.name, by decide, Try.func60.trans (congrArg some (by kernel_rfl))⟩
 f26 := ⟨Try.f61.name, by decide, Try.func61.trans (congrArg some (by kernel_rfl))⟩
 f27 := ⟨Try.f62.name, by decide, Try.func62.trans (congrArg some (by kernel_rfl))⟩
 f28 := Try.func63.trans (congrArg some (by kernel_rfl))
 f29 := Try.func64.trans (congrArg some (by kernel_rfl))
 f46 := ⟨Try.f68.name, by decide, Try.func68.trans (congrArg some (by kernel_rfl))⟩
 f47 := Try.func69.trans (congrArg some (by kernel_rfl))
 f48 := Try.func70.trans (congrArg some (by kernel_rfl))
 f49 := ⟨Try.f71.name, by decide, Try.func71.trans (congrArg some (by kernel_rfl))⟩
 f50 := ⟨Try.f72.name, by decide, Try.func72.trans (congrArg some (by kernel_rfl))⟩
 f57 := ⟨Try.f73.name, by decide, Try.func73.trans (congrArg some (by kernel_rfl))⟩
 t0 := Try.underlying0
 a0 := Try.isAgg0
 z0 := Try.sizeOf0
 v0 := Try.zeroValue0
 t3 := Try.underlying3
 a3 := Try.isAgg3
 z3 := Try.sizeOf3
 v3 := Try.zeroValue3
 t4 := Try.underlying4
 a4 := Try.isAgg4
 z4 := Try.sizeOf4
 v4 := Try.zeroValue4
 t5 := Try.underlying5
 a5 := Try.isAgg5
 z5 := Try.sizeOf5
 v5 := Try.zeroValue5
 t9 := Try.underlying9
 a9 := Try.isAgg9
 z9 := Try.sizeOf9
 v9 := Try.zeroValue9
 t22 := Try.underlying38
 a22 := Try.isAgg38
 z22 := Try.sizeOf38
 v22 := Try.zeroValue38
 t25 := Try.underlying94
 a25 := Try.isAgg94
 z25 := Try.sizeOf94
 v25 := Try.zeroValue94
 t39 := Try.underlying98
 a39 := Try.isAgg98
 z39 := Try.sizeOf98
 v39 := Try.zeroValue98
 t45 := Try.underlying102
 a45 := Try.isAgg102
 z45 := Try.sizeOf102
 v45 := Try.zeroValue102
 t46 := Try.underlying103
 a46 := Try.isAgg103
 z46 := Try.sizeOf103
 v46 := Try.zeroValue103
 t50 := Try.underlying36
 a50 := Try.isAgg36
 z50 := Try.sizeOf36
 v50 := Try.zeroValue36
 t53 := Try.underlying109
 a53 := Try.isAgg109
 z53 := Try.sizeOf109
 v53 := Try.zeroValue109
 t55 := Try.underlying53
 a55 := Try.isAgg53
 z55 := Try.sizeOf53
 v55 := Try.zeroValue53
 t66 := Try.underlying113
 a66 := Try.isAgg113
 z66 := Try.sizeOf113
 v66 := Try.zeroValue113
 t70 := Try.underlying117
 a70 := Try.isAgg117
 z70 := Try.sizeOf117
 v70 := Try.zeroValue117
 t76 := Try.underlying119
 a76 := Try.isAgg119
 z76 := Try.sizeOf119
 v76 := Try.zeroValue119
 t77 := Try.underlying120
 a77 := Try.isAgg120
 z77 := Try.sizeOf120
 v77 := Try.zeroValue120 }
end Go.Proofs
namespace Go.Proofs.Ytegjpiggjcfoaaa.lb
open Go Go.Shelf Go.RowKit Go.Lib Go.Sort
def enc (x : ByteArray × ByteArray) : List Value := [.string x.1, .string x.2]
def cf (x y : ByteArray × ByteArray) : Int := Lib.compareBytes x.1.data.toList y.1.data.toList
set_option maxHeartbeats 1000000 in
theorem closure (x y : ByteArray × ByteArray) (W : World) : Calls Try.prog 44 #[.agg #[.string x.1, .string x.2], .agg #[.string y.1, .string y.2]] W fun e w' => e = .returned (.int .i64 (cf x y)) ∧ ∃ q os', w' = grow (W.drewN q) os' := by
 have hcon := fun W' => Try.strings_Compare x.1 y.1 W'
 unfold cf
 generalize Lib.compareBytes x.1.data.toList y.1.data.toList = r at hcon ⊢
 go_enter Try.func44, Try.ntmps44
 go_wp2_with (go_at_call 45; refine (hcon _).mono ?_; rintro e w' ⟨rfl, rfl⟩)
 go_ret
 exact ⟨rfl, 0, _, by rw [alloc_eq_grow, alloc_eq_grow, grow_grow]; rfl⟩
theorem cmpLays (blk off size : Nat) (w : World) : CmpLays Try.prog 44 #[] enc 2 cf blk off size w :=
 fun _ _ _ _ x y => closure x y _
theorem hlen (n : Nat) (W : World) (h : n ≤ 12) : Calls Try.prog 49 #[.int .u64 n] W fun e w' => (∃ l : Int, e = .returned (.int .i64 l)) ∧ w' = W :=
 (Try.bits_Len n W (by omega) (by omega)).mono fun _ _ ⟨he, hw⟩ => ⟨⟨_, he⟩, hw⟩
set_option maxHeartbeats 1000000 in
theorem sortFunc (blk off cap : Nat) (d : Array (ByteArray × ByteArray)) (w : World) (hH : HoldsK enc 2 w blk off d) (hblk : blk < w.heap.size) (h12 : d.size ≤ 12) :
  Calls Try.prog 43 #[.slice (some ⟨blk, off, none⟩) d.size cap, .func (.func 44) #[] #[]] w fun e w' => e = .returned (.tuple #[]) ∧ ∃ n os, w' = sortWorldK enc 2 w blk off n (Sort.insertionSort (ltOf cf) d 0 d.size) os := by
 have eg : ∀ args w, (callFunc 44 args).run Try.prog w = .ok (.enter 44 args) w := enters_of Try.func44 (by kernel_rfl) rfl
 have hcon := AnyQ.slices_SortFunc_small Try.sortLab 2 Try.isAgg47 Try.sizeOf47 enc (fun _ => rfl) (fun x v hv => by simp [enc] at hv; rcases hv with rfl | rfl <;> rfl) cf 44 #[] blk off cap d w eg (cmpLays blk off d.size w) hH hblk h12 hlen
 exact hcon
end Go.Proofs.Ytegjpiggjcfoaaa.lb
namespace Go.Proofs.Ytegjpiggjcfoaaa.kit
open Go.RowKit Go.Sort
variable {α : Type} [Inhabited α]
theorem flat_len {α : Type} (enc : α → List Value) (k : Nat) (hk : ∀ x, (enc x).length = k) : ∀ l : List α, (l.flatMap enc).length = l.length * k := by
 intro l
 induction l with
 | nil => simp
 | cons x r ih => rw [List.flatMap_cons, List.length_append, hk, ih, List.length_cons, Nat.add_mul, Nat.one_mul, Nat.add_comm]
theorem flat_get (enc : α → List Value) (k : Nat) (hk : ∀ x, (enc x).length = k) (k0 : 0 < k) : ∀ (l : List α) (t : Nat), t < l.length * k → (l.flatMap enc)[t]! = (enc l[t / k]!)[t % k]! := by
 intro l
 induction l with
 | nil => intro t h; simp at h
 | cons x r ih =>
  intro t h
  rw [List.flatMap_cons]
  have hx := hk x
  by_cases ht : t < k
  ·
   have e1 : t / k = 0 := Nat.div_eq_of_lt ht
   have e2 : t % k = t := Nat.mod_eq_of_lt ht
   rw [e1, e2]
   have h1 : t < (enc x ++ r.flatMap enc).length := by rw [List.length_append]; omega
   rw [getElem!_pos _ t h1, List.getElem_append_left (by omega)]
   have : (x :: r)[0]! = x := rfl
   rw [this, getElem!_pos _ t (by omega)]
  ·
   obtain ⟨u, rfl⟩ : ∃ u, t = u + k := ⟨t - k, by omega⟩
   have hu : u < r.length * k := by rw [List.length_cons, Nat.add_mul, Nat.one_mul] at h; omega
   have hlen := flat_len enc k hk r
   have h1 : u + k < (enc x ++ r.flatMap enc).length := by rw [List.length_append]; omega
   have e1 : (u + k) / k = u / k + 1 := Nat.add_div_right u k0
   have e2 : (u + k) % k = u % k := Nat.add_mod_right u k
   have e3 : u + k - (enc x).length = u := by omega
   rw [getElem!_pos _ (u + k) h1, List.getElem_append_right (by omega), e1, e2]
   have h2 := ih u hu
   rw [getElem!_pos _ u (by omega)] at h2
   have e4 : (x :: r)[u / k + 1]! = r[u / k]! := by simp
   rw [e4, ← h2]
   simp only [e3]
theorem flatK_list (enc : α → List Value) (k : Nat) (hk : ∀ x, (enc x).length = k) (k0 : 0 < k) (d : Array α) : (flatK enc k d).toList = d.toList.flatMap enc := by
 have hlen := flat_len enc k hk d.toList
 refine List.ext_getElem (by rw [hlen, Array.length_toList, size_flatK, Array.length_toList]) fun t h1 h2 => ?_
 have ht : t < d.size * k := by rw [Array.length_toList, size_flatK] at h1; exact h1
 have a := get_flatK enc k d t ht
 have b := flat_get enc k hk k0 d.toList t (by rw [Array.length_toList]; exact ht)
 rw [getElem!_pos _ t (by rw [size_flatK]; exact ht)] at a
 rw [getElem!_pos _ t h2] at b
 rw [Array.getElem_toList, a, b]
 have : d.toList[t / k]! = d[t / k]! := by
  simp [Array.getElem!_eq_getD, Array.getD, List.getElem!_eq_getElem?_getD]
  by_cases h : t / k < d.size <;> simp [h]
 rw [this]
theorem sort_own {w : World} {base : Nat} {e : TypeId} {enc : α → List Value} {k n g cap : Nat} {l : List α} (hk : ∀ x, (enc x).length = k) (k0 : 0 < k) (hown : w.ownsRow base e k (.slice (some ⟨g, 0, none⟩) n cap) n (l.flatMap enc)) (hl : l.length = n) (hB : base ≤ w.heap.size) :
  HoldsK enc k w g 0 l.toArray ∧ g < w.heap.size ∧ base ≤ g ∧ ∀ (d : Array α) (m : Nat) (os : Array Obj), d.size = n →
   (sortWorldK enc k w g 0 m d os).ownsRow base e k (.slice (some ⟨g, 0, none⟩) n cap) n (d.toList.flatMap enc) ∧ Below base w (sortWorldK enc k w g 0 m d os) := by
 have hlt := hown.lt g rfl
 rcases hown.2 with ⟨hv, _⟩ | ⟨g', cap', cur, hv, hbg, hg, hnc, hcm, hcs, htake⟩
 ·
  cases hv
 simp only [Value.slice.injEq, Option.some.injEq, Addr.mk.injEq] at hv
 obtain ⟨⟨rfl, _, _⟩, _, rfl⟩ := hv
 have hfl := flatK_list enc k hk k0 l.toArray
 have hnk : n * k ≤ cap * k := Nat.mul_le_mul_right _ hnc
 refine ⟨?_, hlt.2, hbg, fun d m os hd => ⟨?_, ?_⟩⟩
 ·
  intro j hj
  have hj2 : j < n * k := by rw [size_flatK, List.size_toArray, hl] at hj; exact hj
  refine ⟨?_, by simp [World.frozen?, hg]⟩
  have hc : (l.flatMap enc)[j]? = some ((flatK enc k l.toArray)[j]!) := by
   have h1 : j < (flatK enc k l.toArray).toList.length := by rw [Array.length_toList]; exact hj
   have h2 : (flatK enc k l.toArray).toList[j]? = (l.flatMap enc)[j]? := by rw [hfl]
   rw [← h2, List.getElem?_eq_getElem h1, Array.getElem_toList, getElem!_pos _ j hj]
  have := hown.cells (g := g) rfl j _ hc
  rw [Addr.add_lit] at this
  exact this
 ·
  have hs : (flatK enc k d).size = n * k := by rw [size_flatK, hd]
  refine ⟨by rw [flat_len enc k hk, Array.length_toList, hd], Or.inr ⟨g, cap, putCells id 0 (flatK enc k d) cur, rfl, hbg, ?_, hnc, hcm, by simp [putCells, hcs], ?_⟩⟩
  ·
   unfold sortWorldK putRowK
   rw [heap_grow_old _ _ (by simpa using hlt.2)]
   simp [putRow, mapBlock, Sort.ahead, Array.getElem?_modify, hg, onCells]
  ·
   rw [← flatK_list enc k hk k0 d]
   apply List.ext_getElem?
   intro j
   by_cases hj : j < n * k
   ·
    have hjf : j < (flatK enc k d).size := by omega
    rw [List.getElem?_take_of_lt hj, Array.getElem?_toList, Array.getElem?_toList]
    have hjc : j < cur.size := by omega
    rw [getElem?_pos (flatK enc k d) j hjf]
    simp only [putCells, Array.getElem?_mapIdx, getElem?_pos cur j hjc, Option.map_some, Nat.sub_zero, id]
    rw [if_pos (show 0 ≤ j ∧ j < 0 + (flatK enc k d).size from ⟨Nat.zero_le _, by omega⟩), getElem!_pos (flatK enc k d) j hjf]
   ·
    rw [List.getElem?_eq_none (by rw [List.length_take]; omega), List.getElem?_eq_none (by rw [Array.length_toList]; omega)]
 ·
  unfold sortWorldK putRowK
  refine ⟨rfl, rfl, rfl, by simp, fun i hi => ?_⟩
  have hne : g ≠ i := by omega
  rw [heap_grow_old _ _ (by simp; omega)]
  simp [putRow, mapBlock, Sort.ahead, Array.getElem?_modify, hne]
end Go.Proofs.Ytegjpiggjcfoaaa.kit
