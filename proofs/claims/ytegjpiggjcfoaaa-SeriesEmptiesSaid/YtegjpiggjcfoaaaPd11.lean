/- texts put together: SerNew, SerDrp. -/
import Derived.Test.YtegjpiggjcfoaaaPd10
namespace Go.Proofs.Ytegjpiggjcfoaaa
open Go Go.RowKit Go.ChangeShapes cl Go.Sort
theorem symnew_any (w : World) : Calls Try.prog 28 #[.int .i64 24000] w fun e w' => e = .returned (.agg #[.slice none 0 0, .int .i64 24000]) ∧ Below w.heap.size w w' := by
 go_enter Try.func28, Try.ntmps28
 go_wp2
 exact bodyPost_ret (v := .agg #[.slice none 0 0, .int .i64 24000]) (by simp [results, Try.results28, go_sem]; omega) rfl ⟨rfl, ((Below.refl _ _).alloc (Nat.le_refl _) _)⟩
set_option maxHeartbeats 3200000 in
set_option maxRecDepth 100000 in
theorem snew_any (w : World) : Calls Try.prog 15 #[] w fun e w' => e = .returned (tval (.slice none 0 0) (.slice none 0 0)) ∧ Below w.heap.size w w' := by
 have HN : Hid (∀ W, Calls Try.prog 28 #[.int .i64 24000] W fun e w' => e = .returned (.agg #[.slice none 0 0, .int .i64 24000]) ∧ Below W.heap.size W w') := fun W => symnew_any W
 have hA : Below w.heap.size w (w.alloc (.cells #[.slice none 0 0, .int .i64 0, .slice none 0 0] 28)) := (Below.refl _ _).alloc (Nat.le_refl _) _
 go_enter Try.func15, Try.ntmps15
 go_wp2_with fail
 (with_reducible refine (HN.out _).mono ?_)
 rintro e w1 ⟨rfl, hb1⟩
 obtain ⟨b0, b1, b2, f0, f1, f2, _⟩ := three (w := w) (w2 := w1) (t := 28) hb1
 have hb := hA.trans (hb1.mono hA.size)
 go_wp2
 refine bodyPost_ret (v := tval (.slice none 0 0) (.slice none 0 0)) (by simp [results, Try.results15, go_sem, b0, b1, b2, tval]) rfl ⟨rfl, ?_⟩
 exact ((hb.setCell (Nat.le_refl _) _).setCell (Nat.le_refl _) _).setCell (Nat.le_refl _) _
theorem flat_set1 : ∀ (cs : List (List Value)) (i : Nat) (a b : Value), (∀ c ∈ cs, c.length = 2) → cs[i]?.map (fun c => c[0]?) = some (some a) → cs.flatten.set (i * 2 + 1) b = (cs.set i [a, b]).flatten := by
 intro cs
 induction cs with
 | nil => intro i a b _ h; simp at h
 | cons c cs ih =>
  intro i a b hc hi
  obtain ⟨p, q, rfl⟩ : ∃ p q, c = [p, q] := by
   have := hc c List.mem_cons_self
   match c, this with
   | [p, q], _ => exact ⟨p, q, rfl⟩
  cases i with
  | zero =>
   simp only [List.getElem?_cons_zero, Option.map_some, Option.some.injEq] at hi
   subst hi
   rfl
  | succ i =>
   have := ih i a b (fun x hx => hc x (List.mem_cons_of_mem _ hx)) (by simpa using hi)
   rw [List.set_cons_succ, List.flatten_cons, List.flatten_cons, ← this, Nat.succ_mul]
   rfl
theorem OwnR.refs {w : World} {base g n i : Nat} {S : List tb.Sym} {R : List se.Row} (h : OwnR w base g n S R) (hi : i < n) (y : Int) :
  OwnR (w.setCell ⟨g, i * 2 + 1, none⟩ (.int .i64 y)) base g n S (R.set i ((se.at_ R i).1, y)) ∧ Below base w (w.setCell ⟨g, i * 2 + 1, none⟩ (.int .i64 y)) := by
 obtain ⟨cs, h0, h1, h2, h3⟩ := h
 obtain ⟨o1, b1⟩ := kit.own_set (j := i * 2 + 1) (u := .int .i64 y) h3
 have hlen : ∀ c ∈ cs, c.length = 2 := fun c hcm => by
  obtain ⟨j, hj, rfl⟩ := List.mem_iff_getElem.1 hcm
  exact (h2 j _ R[j] (List.getElem?_eq_getElem hj) (List.getElem?_eq_getElem (by omega))).1
 have hci : cs[i]? = some cs[i] := List.getElem?_eq_getElem (by omega)
 obtain ⟨_, ai, m, ci, e1, e2, e3⟩ := h2 i cs[i] R[i] hci (List.getElem?_eq_getElem (by omega))
 have hRi : R[i] = se.at_ R i := se.at_get (by omega)
 rw [flat_set1 cs i (.slice ai m ci) _ hlen (by rw [hci, e1]; rfl)] at o1
 refine ⟨⟨cs.set i [.slice ai m ci, .int .i64 y], by rw [List.length_set, List.length_set]; exact h0, by rw [List.length_set]; exact h1, fun j c z hcj hyj => ?_, o1⟩, b1⟩
 rw [List.getElem?_set] at hcj hyj
 by_cases hij : i = j
 ·
  rw [if_pos hij, if_pos (by omega)] at hcj hyj
  obtain rfl := Option.some.inj hcj
  obtain rfl := Option.some.inj hyj
  have hx : rowG S base w [.slice ai m ci, .int .i64 y] ((se.at_ R i).1, y) := ⟨ai, m, ci, rfl, by rw [← hRi]; exact e2, e3⟩
  exact ⟨rfl, hx.far (own_ob h3) (by decide)⟩
 ·
  rw [if_neg hij] at hcj hyj
  obtain ⟨e, k1⟩ := h2 j c z hcj hyj
  exact ⟨e, k1.far (own_ob h3) (by decide)⟩
theorem OwnR.sym {w : World} {base g n : Nat} {S S' : List tb.Sym} {R : List se.Row} (h : OwnR w base g n S R) (hs : ∀ x ∈ R, ∀ t ∈ se.texts x.1, tb.find S' t = tb.find S t) : OwnR w base g n S' R := by
 obtain ⟨cs, h0, h1, h2, h3⟩ := h
 refine ⟨cs, h0, h1, fun j c x hc hx => ?_, h3⟩
 obtain ⟨e, ai, m, ci, e1, e2, e3⟩ := h2 j c x hc hx
 exact ⟨e, ai, m, ci, e1, by rw [nums_same (hs x (List.mem_of_getElem? hx))]; exact e2, e3⟩
theorem OwnR.ids {w : World} {base g n i : Nat} {S : List tb.Sym} {R : List se.Row} (h : OwnR w base g n S R) (hi : i < n) :
  ∃ ai m ci, m = (se.texts (se.at_ R i).1).length ∧ w.cell? ⟨g, i * 2, none⟩ = some (.slice ai m ci) ∧ Cells w w.heap.size (.slice ai m ci) m 1 (nums S (se.texts (se.at_ R i).1)) ∧ ∀ b off s, ai = some ⟨b, off, s⟩ → base ≤ b ∧ Ob w b 3 := by
 obtain ⟨cs, h0, h1, h2, h3⟩ := h
 have hlen : ∀ c ∈ cs, c.length = 2 := fun c hcm => by
  obtain ⟨j, hj, rfl⟩ := List.mem_iff_getElem.1 hcm
  exact (h2 j _ R[j] (List.getElem?_eq_getElem hj) (List.getElem?_eq_getElem (by omega))).1
 have hci : cs[i]? = some cs[i] := List.getElem?_eq_getElem (by omega)
 obtain ⟨_, ai, m, ci, e1, e2, e3⟩ := h2 i cs[i] R[i] hci (List.getElem?_eq_getElem (by omega))
 have hRi : R[i] = se.at_ R i := se.at_get (by omega)
 have g0 := flat_get cs hlen i cs[i] 0 hci (by decide)
 rw [e1] at g0
 have c0 := h3.cells (g := g) rfl _ _ g0
 rw [Addr.add_lit, Nat.zero_add] at c0
 rw [hRi] at e2
 obtain ⟨_, _, e, _⟩ := e2.form
 simp only [Value.slice.injEq] at e
 obtain ⟨_, hm, _⟩ := e
 rw [← hm] at e2
 exact ⟨ai, m, ci, hm, c0, e2, e3⟩
end Go.Proofs.Ytegjpiggjcfoaaa
namespace Go.Proofs.Ytegjpiggjcfoaaa
open Go Go.RowKit Go.ChangeShapes cl Go.Sort
theorem heap_new (W : World) (a : Array Value) (t : TypeId) : (W.alloc (.cells a t)).heap[W.heap.size]? = some (.cells a t (0, 0)) := by
 show (W.heap.push _)[W.heap.size]? = _
 simp
theorem OwnR.base {w : World} {base base' g n : Nat} {S : List tb.Sym} {R : List se.Row} (h : OwnR w base g n S R) (hb : base' ≤ base) : OwnR w base' g n S R := by
 obtain ⟨cs, h0, h1, h2, h3, h4⟩ := h
 refine ⟨cs, h0, h1, fun j c x hc hx => ?_, h3, ?_⟩
 ·
  obtain ⟨e, ai, m, ci, e1, e2, e3⟩ := h2 j c x hc hx
  exact ⟨e, ai, m, ci, e1, e2, fun b off s e => ⟨Nat.le_trans hb (e3 b off s e).1, (e3 b off s e).2⟩⟩
 rcases h4 with h4 | ⟨g', cap, cur, e1, e2, e3⟩
 ·
  exact Or.inl h4
 ·
  exact Or.inr ⟨g', cap, cur, e1, Nat.le_trans hb e2, e3⟩
theorem below_two' {w W : World} {x0 x1 x2 y0 y1 y2 : Value} {t : TypeId} (hb : Below (w.heap.size + 2) ((w.alloc (.cells #[x0, x1, x2] t)).alloc (.cells #[y0, y1, y2] t)) W) :
  (W.cell? ⟨w.heap.size, 0, none⟩ = some x0 ∧ W.cell? ⟨w.heap.size, 1, none⟩ = some x1 ∧ W.cell? ⟨w.heap.size, 2, none⟩ = some x2) ∧
  (W.cell? ⟨w.heap.size + 1, 0, none⟩ = some y0 ∧ W.cell? ⟨w.heap.size + 1, 1, none⟩ = some y1 ∧ W.cell? ⟨w.heap.size + 1, 2, none⟩ = some y2) ∧
  (W.frozen? ⟨w.heap.size + 1, 0, none⟩ = false ∧ W.frozen? ⟨w.heap.size + 1, 1, none⟩ = false ∧ W.frozen? ⟨w.heap.size + 1, 2, none⟩ = false) ∧ Below w.heap.size w W := by
 have hs1 : (w.alloc (.cells #[x0, x1, x2] t)).heap.size = w.heap.size + 1 := by rw [World.size_alloc]
 have hs2 : ((w.alloc (.cells #[x0, x1, x2] t)).alloc (.cells #[y0, y1, y2] t)).heap.size = w.heap.size + 2 := by rw [World.size_alloc, hs1]
 have hb1 : Below (w.heap.size + 1) (w.alloc (.cells #[x0, x1, x2] t)) ((w.alloc (.cells #[x0, x1, x2] t)).alloc (.cells #[y0, y1, y2] t)) := (Below.refl _ _).alloc (by rw [hs1]; exact Nat.le_refl _) _
 have hb2 := hb1.trans (hb.mono (by omega))
 obtain ⟨a0, a1, a2, _⟩ := three (w := w) (w2 := W) (t := t) (by rw [hs1]; exact hb2)
 obtain ⟨b0, b1, b2, f0, f1, f2, _⟩ := three (w := w.alloc (.cells #[x0, x1, x2] t)) (w2 := W) (x := y0) (y := y1) (z := y2) (t := t) (by rw [hs2]; exact hb)
 rw [hs1] at b0 b1 b2 f0 f1 f2
 exact ⟨⟨a0, a1, a2⟩, ⟨b0, b1, b2⟩, ⟨f0, f1, f2⟩, ((Below.refl _ _).alloc (Nat.le_refl _) _).trans (hb2.mono (by omega))⟩
theorem drops_step {S : List tb.Sym} {ts : List ByteArray} {j : Nat} {t : ByteArray} (hr : tb.Right 24000 S) (hc : ∀ x, (se.ct ts x : Int) ≤ tb.cnt S x) (hj : ts[j]? = some t) :
  tb.drop (se.drops S (ts.take j)) (tb.find S t : Int) = (se.drops S (ts.take (j + 1)), 0) := by
 have hle : ∀ m x, se.ct (ts.take m) x ≤ se.ct ts x := fun m x => List.Sublist.countP_le (List.take_sublist m ts)
 have e : ts.take (j + 1) = ts.take j ++ [t] := by rw [List.take_add_one, hj]; rfl
 have h1 := hle (j + 1) t
 rw [e, se.ct_app] at h1
 have h2 : se.ct [t] t = 1 := by rw [se.ct_cons, if_pos rfl]; rfl
 have h3 := hc t
 obtain ⟨f1, f2⟩ := se.drops_find (ts := ts.take j) (x := t) hr (fun x => by have := hle j x; have := hc x; omega) (by omega)
 have hu := tb.used_find f2
 rw [f1] at hu
 rw [e, se.drops_snoc, f1]
 have h4 : (tb.drop (se.drops S (ts.take j)) (tb.find S t : Int)).2 = 0 := by unfold tb.drop; rw [if_pos hu]
 exact Prod.ext rfl h4
def RB (W : World) (vr : Value) : Prop := ∀ b off s n c, vr = .slice (some ⟨b, off, s⟩) n c → Ob W b 45
theorem RB.next {W W' : World} {vr : Value} (h : RB W vr) (hb : Below W.heap.size W W') : RB W' vr := fun b off s n c e => (h b off s n c e).keep hb
theorem RB.own {W : World} {base g n : Nat} {S : List tb.Sym} {R : List se.Row} (h : OwnR W base g n S R) : RB W (.slice (some ⟨g, 0, none⟩) n n) := fun b off s m c e => by
 obtain ⟨_, _, _, _, h3⟩ := h
 have h4 := own_ob h3
 simp only [Value.slice.injEq, Option.some.injEq, Addr.mk.injEq] at e
 rw [← e.1.1]; exact h4
def rowX (q : Nat) (S : List tb.Sym) : Rel se.Row := fun w B c r => ∃ vi, c = [vi, .int .i64 r.2] ∧ Cells w B vi (se.texts r.1).length 1 (nums S (se.texts r.1)) ∧ (0 < (se.texts r.1).length → ∀ b off s n cc, vi = .slice (some ⟨b, off, s⟩) n cc → b ≠ q)
def RX (q : Nat) (S : List tb.Sym) (R : List se.Row) (W : World) (vr : Value) : Prop := RowsAt 2 (rowX q S) W W.heap.size vr R
theorem rowX_steady (q : Nat) (S : List tb.Sym) : Steady (rowX q S) := by
 rintro w w' B B' c x ⟨vi, h1, h2, h3⟩ hb hB
 exact ⟨vi, h1, (h2.below hb).mono hB, h3⟩
theorem RX.next {q : Nat} {S : List tb.Sym} {R : List se.Row} {W W' : World} {vr : Value} (h : RX q S R W vr) (hb : Below W.heap.size W W') : RX q S R W' vr := ((show RowsAt 2 (rowX q S) W W.heap.size vr R from h).below (rowX_steady q S) hb (Nat.le_refl _)).mono (rowX_steady q S) hb.size
theorem RX.own {W : World} {base g n q : Nat} {S : List tb.Sym} {R : List se.Row} (h : OwnR W base g n S R) (hq : q < base) : RX q S R W (.slice (some ⟨g, 0, none⟩) n n) := by
 obtain ⟨cs, h0, h1, h2, h3⟩ := h
 refine ⟨cs, h0, fun j c x hc hx => ?_, by rw [h1]; exact Cells.own h3⟩
 obtain ⟨e, ai, m, ci, e1, e2, e3⟩ := h2 j c x hc hx
 refine ⟨e, _, e1, e2, fun _ b off s n' cc e => ?_⟩
 simp only [Value.slice.injEq] at e
 have := (e3 b off s e.1).1
 omega
def SDropQ (r : List tb.Sym × List se.Row × Int) (S : List tb.Sym) (R : List se.Row) (vr : Value) (w : World) (e : Ending) (w' : World) : Prop := ∃ vs' vr', e = .returned (.tuple #[tval vs' vr', .int .i64 r.2.2]) ∧ SerAt w' w'.heap.size vs' vr' r.1 r.2.1 ∧ Below w.heap.size w w' ∧ (RB w vr → RB w' vr') ∧ ∀ q, q < w.heap.size → RX q S R w vr → RX q r.1 r.2.1 w' vr'
def SDropP (r : List tb.Sym × List se.Row × Int) (vr : Value) (w : World) (e : Ending) (w' : World) : Prop := ∃ vs' vr', e = .returned (.tuple #[tval vs' vr', .int .i64 r.2.2]) ∧ SerAt w' w'.heap.size vs' vr' r.1 r.2.1 ∧ Below w.heap.size w w' ∧ (RB w vr → RB w' vr')
set_option maxHeartbeats 3200000 in
set_option maxRecDepth 100000 in
theorem sdrop_full (id : Int) (S : List tb.Sym) (R : List se.Row) (vs vr : Value) (w : World) (hok : se.Ok S R) (h : SerAt w w.heap.size vs vr S R) :
  Calls Try.prog 13 #[tval vs vr, .int .i64 id] w (SDropQ (se.drop S R id) S R vr w) := by
 obtain ⟨sa, sn, sc, rfl⟩ : ∃ a n c, vs = .slice a n c := by
  obtain ⟨a, c, e, _⟩ := Cells.form h.1
  exact ⟨_, _, _, e⟩
 obtain ⟨q0, hq0⟩ : ∃ q, q = R.length := ⟨_, rfl⟩
 obtain ⟨ra, rc, rfl, _, hqm⟩ := h.2.form' hq0
 unfold maxLen at hqm
 have HQ := Lib.hid hq0
 have HC := Lib.hid h
 have HOK := Lib.hid hok
 obtain ⟨W0, hW0⟩ : ∃ W, W = (w.alloc (.cells #[.slice sa sn sc, .int .i64 24000, .slice ra q0 rc] 28)).alloc (.cells #[.slice none 0 0, .int .i64 0, .slice none 0 0] 28) := ⟨_, rfl⟩
 have HBX : Hid (∀ W, Below (w.heap.size + 2) W0 W → (W.cell? ⟨w.heap.size, 0, none⟩ = some (.slice sa sn sc) ∧ W.cell? ⟨w.heap.size, 1, none⟩ = some (.int .i64 24000) ∧ W.cell? ⟨w.heap.size, 2, none⟩ = some (.slice ra q0 rc)) ∧
  (W.cell? ⟨w.heap.size + 1, 0, none⟩ = some (.slice none 0 0) ∧ W.cell? ⟨w.heap.size + 1, 1, none⟩ = some (.int .i64 0) ∧ W.cell? ⟨w.heap.size + 1, 2, none⟩ = some (.slice none 0 0)) ∧
  (W.frozen? ⟨w.heap.size + 1, 0, none⟩ = false ∧ W.frozen? ⟨w.heap.size + 1, 1, none⟩ = false ∧ W.frozen? ⟨w.heap.size + 1, 2, none⟩ = false) ∧ Below w.heap.size w W) := fun W hW => by
  rw [hW0] at hW; exact below_two' hW
 have hs0 : W0.heap.size = w.heap.size + 2 := by rw [hW0, World.size_alloc, World.size_alloc]
 have HO4 : Hid (∀ W, Below W0.heap.size W0 W → Ob W (w.heap.size + 1) 28) := fun W hW => by
  have h1 := heap_new (w.alloc (.cells #[.slice sa sn sc, .int .i64 24000, .slice ra q0 rc] 28)) #[.slice none 0 0, .int .i64 0, .slice none 0 0] 28
  rw [World.size_alloc, ← hW0] at h1
  exact ⟨_, heap_keep hW h1⟩
 have hw0 := (HBX.out W0 (Below.refl _ _)).2.2.2
 have HUS := Lib.hid (sused_any id S R (.slice sa sn sc) (.slice ra q0 rc) W0 (h.next hw0).2)
 have HSET : Hid (∀ W x0 x1 x2, Below w.heap.size w W → Below w.heap.size w (((W.setCell ⟨w.heap.size + 1, 0, none⟩ x0).setCell ⟨w.heap.size + 1, 1, none⟩ x1).setCell ⟨w.heap.size + 1, 2, none⟩ x2)) := fun W x0 x1 x2 hb =>
  ((hb.setCell (Nat.le_succ _) _).setCell (Nat.le_succ _) _).setCell (Nat.le_succ _) _
 obtain ⟨F, hF⟩ : ∃ F, F = se.used R id := ⟨_, rfl⟩
 rw [← hF] at HUS
 have HW0 := Lib.hid hW0
 obtain ⟨⟨a0, a1, a2⟩, _⟩ := HBX.out W0 (Below.refl _ _)
 rw [hW0] at a0 a1 a2
 by_cases hu : F = false
 ·
  subst hu
  have HRET : Hid (∀ W, Below w.heap.size w W → SDropQ (se.drop S R id) S R (.slice ra q0 rc) w (.returned (.tuple #[tval (.slice sa sn sc) (.slice ra q0 rc), .int .i64 5])) W) := fun W hb => by
   unfold se.drop
   rw [if_neg (by rw [← hF]; decide)]
   exact ⟨_, _, rfl, HC.out.next hb, hb, fun h => h.next hb, fun q _ h => h.next hb⟩
  clear h hq0 hok hW0 hw0 hF
  go_enter Try.func13, Try.ntmps13
  go_wp2_with fail
  rw [← HW0.out]
  (with_reducible refine HUS.out.mono ?_)
  rintro e w1 ⟨rfl, hb1⟩
  clear a0 a1 a2
  obtain ⟨⟨a0, a1, a2⟩, ⟨b0, b1, b2⟩, ⟨f0, f1, f2⟩, hb⟩ := HBX.out w1 (by rw [← hs0]; exact hb1)
  have HR1 := Lib.hid (HRET.out _ (HSET.out w1 (.slice sa sn sc) (.int .i64 24000) (.slice ra q0 rc) hb))
  clear HRET
  go_wp2
  refine bodyPost_ret (v := .tuple #[tval (.slice sa sn sc) (.slice ra q0 rc), .int .i64 5]) (by simp [results, Try.results13, go_sem, b0, b1, b2, tval]) rfl ?_
  exact HR1.out
 obtain rfl : F = true := by simpa using hu
 have hus : 0 ≤ id ∧ id < (R.length : Int) ∧ 1 ≤ (se.at_ R id.toNat).2 := of_decide_eq_true hF.symm
 have HDR : Hid (se.drop S R id = if (se.at_ R id.toNat).2 = 1 then (se.drops S (se.texts (se.at_ R id.toNat).1), R.set id.toNat ([], 0), 0) else (S, R.set id.toNat ((se.at_ R id.toNat).1, (se.at_ R id.toNat).2 - 1), 0)) := by
  show _ = _
  unfold se.drop
  rw [if_pos hF.symm]
 obtain ⟨RES, hRES⟩ : ∃ r, r = se.drop S R id := ⟨_, rfl⟩
 rw [← hRES] at HDR ⊢
 obtain ⟨k, rfl⟩ : ∃ k : Nat, id = (k : Int) := ⟨id.toNat, by omega⟩
 rw [Int.toNat_natCast] at hus HDR
 have hk : k < R.length := by omega
 have hkq : k < q0 := by rw [hq0]; exact hk
 have hk4 : k ≤ 4000 := by have := hok.len; omega
 have hkI : (k : Int) < (q0 : Int) := by omega
 have hk0 : (0 : Int) ≤ (k : Int) := by omega
 have HFEW : Hid (Few R) := fun x hx => by
  obtain ⟨j, hj, rfl⟩ := List.mem_iff_getElem.1 hx
  rw [se.at_get hj]
  have hb := hok.row j hj
  rw [se.texts_len]
  by_cases h0 : 0 < (se.at_ R j).2
  ·
   have := (canon_len (hb.2.2.2 h0)).2.1; omega
  ·
   rw [hb.2.2.1 (by omega)]; decide
 have HAG0 : Hid (∀ W, Below w.heap.size w W → Calls Try.prog 24 #[.slice ra q0 rc, .int .i64 (k : Int)] W (fun e w' => ∃ g n, e = .returned (.slice (some ⟨g, 0, none⟩) n n) ∧ Hid (n = R.length) ∧ OwnR w' W.heap.size g n S R ∧ Below W.heap.size W w')) := fun W hW => by
  have := again_any k S R (.slice ra q0 rc) W HFEW.out HOK.out.len hk4 ((HC.out.below hW).mono hW.size).2
  rwa [more_in hk] at this
 have HKR := Lib.hid hk
 clear h hq0 hok hW0 hw0 hF hu hRES hk
 go_enter Try.func13, Try.ntmps13
 go_wp2_with fail
 rw [← HW0.out]
 (with_reducible refine HUS.out.mono ?_)
 rintro e w1 ⟨rfl, hb1⟩
 clear a0 a1 a2
 obtain ⟨_, _, _, hbw⟩ := HBX.out w1 (by rw [← hs0]; exact hb1)
 have HB1 := Lib.hid hb1
 replace HBX : Hid (∀ W, Below w1.heap.size w1 W → (W.cell? ⟨w.heap.size, 0, none⟩ = some (.slice sa sn sc) ∧ W.cell? ⟨w.heap.size, 1, none⟩ = some (.int .i64 24000) ∧ W.cell? ⟨w.heap.size, 2, none⟩ = some (.slice ra q0 rc)) ∧
  (W.cell? ⟨w.heap.size + 1, 0, none⟩ = some (.slice none 0 0) ∧ W.cell? ⟨w.heap.size + 1, 1, none⟩ = some (.int .i64 0) ∧ W.cell? ⟨w.heap.size + 1, 2, none⟩ = some (.slice none 0 0)) ∧
  (W.frozen? ⟨w.heap.size + 1, 0, none⟩ = false ∧ W.frozen? ⟨w.heap.size + 1, 1, none⟩ = false ∧ W.frozen? ⟨w.heap.size + 1, 2, none⟩ = false) ∧ Below w.heap.size w W) := fun W hW => HBX.out W (by
   have hz := HB1.out.size
   have := HB1.out.trans (hW.mono hz)
   rw [hs0] at this; exact this)
 have HAG : Hid (∀ W, Below w1.heap.size w1 W → Calls Try.prog 24 #[.slice ra q0 rc, .int .i64 (k : Int)] W (fun e w' => ∃ g n, e = .returned (.slice (some ⟨g, 0, none⟩) n n) ∧ Hid (n = R.length) ∧ OwnR w' W.heap.size g n S R ∧ Below W.heap.size W w')) := fun W hW => HAG0.out W (hbw.trans (hW.mono hbw.size))
 have hz1 : w.heap.size + 2 ≤ w1.heap.size := by have := hb1.size; omega
 clear hb1 HAG0
 go_wp2_with fail
 refine wp_flow 8 (fun _ => 1000) (fun ww => RowKit.Below w1.heap.size w1 ww) (fun _ w w' => (fun (w w' : World) => RowKit.Below w.heap.size w w') w w') (fun kF vF wF => match kF with | 0 => (vF = .pointer (some ⟨w.heap.size, 2, none⟩)) | 1 => (vF = .slice ra q0 rc) | 2 => (vF = .int .i64 (k : Int)) | 3 => (∃ g n, vF = .slice (some ⟨g, 0, none⟩) n n ∧ Hid (n = R.length) ∧ OwnR wF w1.heap.size g n S R) | 4 => (vF = .pointer (some ⟨w.heap.size, 0, none⟩)) | 5 => (vF = .agg #[.slice sa sn sc, .int .i64 24000]) | 6 => (∃ g7, vF = .pointer (some ⟨g7, 0, none⟩) ∧ w1.heap.size ≤ g7 ∧ wF.heap[g7]? = some (.cells #[.slice none 0 0, .int .i64 0] 25 (0, 0))) | 7 => (∃ g n, vF = .slice (some ⟨g, 0, none⟩) n n ∧ Hid (n = R.length) ∧ OwnR wF w1.heap.size g n S R) | _ => True) (fun _ _ _ _ => True) (by kernel_rfl) (by kernel_rfl) ?_ ?_ ?_ ?_ ?_
 ·
  exact (Below.refl _ _).drew
 ·
  intro iF wF1 wF2 hR hT; exact hR.trans (hT.mono hR.size)
 ·
  intro kF hkF iF hiF hne hdd hanc hdan vF wF1 wF2 h hT
  rcases (by omega : kF = 0 ∨ kF = 1 ∨ kF = 2 ∨ kF = 3 ∨ kF = 4 ∨ kF = 5 ∨ kF = 6 ∨ kF = 7) with rfl | rfl | rfl | rfl | rfl | rfl | rfl | rfl
  ·
   exact h
  ·
   exact h
  ·
   exact h
  ·
   have h : (∃ g n, vF = .slice (some ⟨g, 0, none⟩) n n ∧ Hid (n = R.length) ∧ OwnR wF1 w1.heap.size g n S R) := h
   show (∃ g n, vF = .slice (some ⟨g, 0, none⟩) n n ∧ Hid (n = R.length) ∧ OwnR wF2 w1.heap.size g n S R)
   have hT : (fun (w w' : World) => RowKit.Below w.heap.size w w') wF1 wF2 := hT
   simp only at hT
   obtain ⟨g, n, e, h1, h2⟩ := h
   exact ⟨g, n, e, h1, h2.stay hT⟩
  ·
   exact h
  ·
   exact h
  ·
   have h : (∃ g7, vF = .pointer (some ⟨g7, 0, none⟩) ∧ w1.heap.size ≤ g7 ∧ wF1.heap[g7]? = some (.cells #[.slice none 0 0, .int .i64 0] 25 (0, 0))) := h
   show (∃ g7, vF = .pointer (some ⟨g7, 0, none⟩) ∧ w1.heap.size ≤ g7 ∧ wF2.heap[g7]? = some (.cells #[.slice none 0 0, .int .i64 0] 25 (0, 0)))
   have hT : (fun (w w' : World) => RowKit.Below w.heap.size w w') wF1 wF2 := hT
   simp only at hT
   obtain ⟨g7, e, h1, h2⟩ := h
   exact ⟨g7, e, h1, heap_keep hT h2⟩
  ·
   have h : (∃ g n, vF = .slice (some ⟨g, 0, none⟩) n n ∧ Hid (n = R.length) ∧ OwnR wF1 w1.heap.size g n S R) := h
   show (∃ g n, vF = .slice (some ⟨g, 0, none⟩) n n ∧ Hid (n = R.length) ∧ OwnR wF2 w1.heap.size g n S R)
   have hT : (fun (w w' : World) => RowKit.Below w.heap.size w w') wF1 wF2 := hT
   simp only at hT
   obtain ⟨g, n, e, h1, h2⟩ := h
   exact ⟨g, n, e, h1, h2.stay hT⟩
 ·
  generalize hAF : fillOf _ _ _ = AF
  replace hAF := fun x => congrFun hAF x
  simp only [List.take_succ_cons, List.take_zero, fillOf, Act.put, List.setIfInBounds_toArray, List.set_cons_zero, List.set_cons_succ, Nat.reduceAdd, Nat.zero_add] at hAF
  refine FlowAll.cons ?_ ?_
  ·
   intro xF w2 hR hd K hK
   clear hd
   simp only [← hAF, Act.put, List.setIfInBounds_toArray, List.set_cons_zero, List.set_cons_succ] at hK ⊢
   clear hAF
   try simp only [Nat.zero_add] at hK ⊢
   try simp only [Nat.reduceAdd] at hK ⊢
   obtain hbR := id hR
   rw [if_pos (by rfl)]
   go_simp
   exact hK.out _ _ (Below.refl _ _) (rfl) (fun _ _ _ => ⟨trivial, trivial⟩)
  refine FlowAll.cons ?_ ?_
  ·
   intro xF w2 hR hd K hK
   have dd0 : ((xF 0) = .pointer (some ⟨w.heap.size, 2, none⟩)) := hd 0 (by kernel_rfl)
   clear hd
   simp only [← hAF, Act.put, List.setIfInBounds_toArray, List.set_cons_zero, List.set_cons_succ] at hK ⊢
   clear hAF
   try simp only [Nat.zero_add] at hK ⊢
   try simp only [Nat.reduceAdd] at hK ⊢
   try generalize xF 0 = yy0 at *
   obtain rfl := dd0
   obtain hbR := id hR
   obtain ⟨⟨k0, k1, k2⟩, _⟩ := HBX.out _ hR
   rw [if_pos (by rfl)]
   go_simp
   exact hK.out _ _ (Below.refl _ _) (rfl) (fun _ _ _ => ⟨trivial, trivial⟩)
  refine FlowAll.cons ?_ ?_
  ·
   intro xF w2 hR hd K hK
   clear hd
   simp only [← hAF, Act.put, List.setIfInBounds_toArray, List.set_cons_zero, List.set_cons_succ] at hK ⊢
   clear hAF
   try simp only [Nat.zero_add] at hK ⊢
   try simp only [Nat.reduceAdd] at hK ⊢
   obtain hbR := id hR
   rw [if_pos (by rfl)]
   go_simp
   exact hK.out _ _ (Below.refl _ _) (rfl) (fun _ _ _ => ⟨trivial, trivial⟩)
  refine FlowAll.cons ?_ ?_
  ·
   intro xF w2 hR hd K hK
   have dd1 : ((xF 1) = .slice ra q0 rc) := hd 1 (by kernel_rfl)
   have dd2 : ((xF 2) = .int .i64 (k : Int)) := hd 2 (by kernel_rfl)
   clear hd
   simp only [← hAF, Act.put, List.setIfInBounds_toArray, List.set_cons_zero, List.set_cons_succ] at hK ⊢
   clear hAF
   try simp only [Nat.zero_add] at hK ⊢
   try simp only [Nat.reduceAdd] at hK ⊢
   try generalize xF 1 = yy1 at *
   try generalize xF 2 = yy2 at *
   obtain rfl := dd1
   obtain rfl := dd2
   obtain hbR := id hR
   rw [if_pos (by rfl)]
   go_simp
   (go_at_call 24; (with_reducible refine (HAG.out _ hR).mono ?_); rintro e wK ⟨g, n, rfl, hn, ho, hbK⟩)
   try go_wp2_with fail
   exact hK.out _ _ (hbK) (⟨_, _, rfl, hn, OwnR.base ho hR.size⟩) (fun _ _ _ => ⟨trivial, trivial⟩)
  refine FlowAll.cons ?_ ?_
  ·
   intro xF w2 hR hd K hK
   clear hd
   simp only [← hAF, Act.put, List.setIfInBounds_toArray, List.set_cons_zero, List.set_cons_succ] at hK ⊢
   clear hAF
   try simp only [Nat.zero_add] at hK ⊢
   try simp only [Nat.reduceAdd] at hK ⊢
   obtain hbR := id hR
   rw [if_pos (by rfl)]
   go_simp
   exact hK.out _ _ (Below.refl _ _) (rfl) (fun _ _ _ => ⟨trivial, trivial⟩)
  refine FlowAll.cons ?_ ?_
  ·
   intro xF w2 hR hd K hK
   have dd4 : ((xF 4) = .pointer (some ⟨w.heap.size, 0, none⟩)) := hd 4 (by kernel_rfl)
   clear hd
   simp only [← hAF, Act.put, List.setIfInBounds_toArray, List.set_cons_zero, List.set_cons_succ] at hK ⊢
   clear hAF
   try simp only [Nat.zero_add] at hK ⊢
   try simp only [Nat.reduceAdd] at hK ⊢
   try generalize xF 4 = yy4 at *
   obtain rfl := dd4
   obtain hbR := id hR
   obtain ⟨⟨k0, k1, k2⟩, _⟩ := HBX.out _ hR
   rw [if_pos (by rfl)]
   go_simp
   exact hK.out _ _ (Below.refl _ _) (rfl) (fun _ _ _ => ⟨trivial, trivial⟩)
  refine FlowAll.cons ?_ ?_
  ·
   intro xF w2 hR hd K hK
   clear hd
   simp only [← hAF, Act.put, List.setIfInBounds_toArray, List.set_cons_zero, List.set_cons_succ] at hK ⊢
   clear hAF
   try simp only [Nat.zero_add] at hK ⊢
   try simp only [Nat.reduceAdd] at hK ⊢
   obtain hbR := id hR
   rw [if_pos (by rfl)]
   go_simp
   exact hK.out _ _ ((Below.refl _ _).alloc (Nat.le_refl _) _) (⟨_, rfl, hR.size, heap_new _ _ _⟩) (fun _ _ _ => ⟨trivial, trivial⟩)
  refine FlowAll.cons ?_ ?_
  ·
   intro xF w2 hR hd K hK
   have dd3 : (∃ g n, (xF 3) = .slice (some ⟨g, 0, none⟩) n n ∧ Hid (n = R.length) ∧ OwnR w2 w1.heap.size g n S R) := hd 3 (by kernel_rfl)
   clear hd
   simp only [← hAF, Act.put, List.setIfInBounds_toArray, List.set_cons_zero, List.set_cons_succ] at hK ⊢
   clear hAF
   try simp only [Nat.zero_add] at hK ⊢
   try simp only [Nat.reduceAdd] at hK ⊢
   try generalize xF 3 = yy3 at *
   obtain ⟨g3, n3, rfl, hn3, ho3⟩ := dd3
   obtain hbR := id hR
   rw [if_pos (by rfl)]
   go_simp
   exact hK.out _ _ (Below.refl _ _) (⟨_, _, rfl, hn3, ho3⟩) (fun _ _ _ => ⟨trivial, trivial⟩)
  exact FlowAll.nil
 intro xF w2 hR hF hP
 clear hP
 have dd0 : ((xF 0) = .pointer (some ⟨w.heap.size, 2, none⟩)) := hF 0 (by omega) (by decide)
 have dd1 : ((xF 1) = .slice ra q0 rc) := hF 1 (by omega) (by decide)
 have dd2 : ((xF 2) = .int .i64 (k : Int)) := hF 2 (by omega) (by decide)
 have dd3 : (∃ g n, (xF 3) = .slice (some ⟨g, 0, none⟩) n n ∧ Hid (n = R.length) ∧ OwnR w2 w1.heap.size g n S R) := hF 3 (by omega) (by decide)
 have dd4 : ((xF 4) = .pointer (some ⟨w.heap.size, 0, none⟩)) := hF 4 (by omega) (by decide)
 have dd5 : ((xF 5) = .agg #[.slice sa sn sc, .int .i64 24000]) := hF 5 (by omega) (by decide)
 have dd6 : (∃ g7, (xF 6) = .pointer (some ⟨g7, 0, none⟩) ∧ w1.heap.size ≤ g7 ∧ w2.heap[g7]? = some (.cells #[.slice none 0 0, .int .i64 0] 25 (0, 0))) := hF 6 (by omega) (by decide)
 have dd7 : (∃ g n, (xF 7) = .slice (some ⟨g, 0, none⟩) n n ∧ Hid (n = R.length) ∧ OwnR w2 w1.heap.size g n S R) := hF 7 (by omega) (by decide)
 clear hF
 simp only [List.take_succ_cons, List.take_zero, List.drop_succ_cons, List.drop_zero, fillOf, Act.put, List.setIfInBounds_toArray, List.set_cons_zero, List.set_cons_succ, Nat.reduceAdd, Nat.zero_add]
 try generalize xF 0 = yy0 at *
 try generalize xF 1 = yy1 at *
 try generalize xF 2 = yy2 at *
 try generalize xF 3 = yy3 at *
 try generalize xF 4 = yy4 at *
 try generalize xF 5 = yy5 at *
 try generalize xF 6 = yy6 at *
 try generalize xF 7 = yy7 at *
 clear xF
 obtain rfl := dd0
 obtain rfl := dd1
 obtain rfl := dd2
 obtain ⟨g3, n3, rfl, hn3, ho3⟩ := dd3
 obtain rfl := dd4
 obtain rfl := dd5
 obtain ⟨h6, rfl, hl6, hh6⟩ := dd6
 obtain ⟨g7, n7, rfl, hn7, ho7⟩ := dd7
 have hRE := Lib.hid hR
 clear hR
 have D2 := hRE.out
 clear hRE
 have hkn : k < n7 := by rw [hn7.out]; exact HKR.out
 have hknI : (k : Int) < (n7 : Int) := by omega
 have H6 : Hid (Ob w2 h6 25) := ⟨_, hh6⟩
 have HG7 := Lib.hid (own_ob ho7.choose_spec.2.2.2)
 have H4 : Hid (Ob w2 (w.heap.size + 1) 28) := HO4.out w2 (HB1.out.trans (D2.mono HB1.out.size))
 have n1 : ¬ h6 = g7 := Ob.ne H6.out HG7.out (by decide)
 have n2 : ¬ g7 = h6 := fun e => n1 e.symm
 have n3 : ¬ w.heap.size + 1 = g7 := Ob.ne H4.out HG7.out (by decide)
 have n4 : ¬ g7 = w.heap.size + 1 := fun e => n3 e.symm
 have n5 : ¬ w.heap.size + 1 = h6 := by omega
 have n6 : ¬ h6 = w.heap.size + 1 := by omega
 have n8 : ¬ w.heap.size = h6 := by omega
 have n9 : ¬ w.heap.size = g7 := by have := ((ho7.spot hkn).2.2.2.2.1); omega
 have n10 : ¬ h6 = w.heap.size := fun e => n8 e.symm
 have n11 : ¬ g7 = w.heap.size := fun e => n9 e.symm
 have c60 : w2.cell? ⟨h6, 0, none⟩ = some (.slice none 0 0) := by simp [World.cell?, hh6]
 have c61 : w2.cell? ⟨h6, 1, none⟩ = some (.int .i64 0) := by simp [World.cell?, hh6]
 have f60 : w2.frozen? ⟨h6, 0, none⟩ = false := by simp [World.frozen?, hh6]
 have f61 : w2.frozen? ⟨h6, 1, none⟩ = false := by simp [World.frozen?, hh6]
 obtain ⟨⟨v0, s0⟩, s1, fz0, fz1, hbg, hg1⟩ := ho7.spot hkn
 obtain ⟨⟨a0, a1, a2⟩, ⟨b0, b1, b2⟩, ⟨f0, f1, f2⟩, hb2⟩ := HBX.out w2 D2
 have HO7 := Lib.hid ho7
 have HROW := Lib.hid (HOK.out.row k HKR.out)
 obtain ⟨r, hr⟩ : ∃ r, r = (se.at_ R k).2 := ⟨_, rfl⟩
 rw [← hr] at s1 HROW HDR hus
 have hr40 : r ≤ 1099511627776 := HROW.out.2.1
 have hr1 : 1 ≤ r := hus.2.2
 obtain ⟨y, hy⟩ : ∃ y, r - 1 = y := ⟨_, rfl⟩
 have hwy : wrap64 y = y := IntWalk.wrap64_in _ (by omega)
 have hwy2 : IntKind.i64.wrap y = y := IntWalk.i64_in _ (by omega)
 clear hh6 ho7 s0 hus hn3 ho3
 by_cases hr2 : r = 1
 rotate_left
 ·
  have hy0 : 0 < y := by omega
  have HRET : Hid (SDropQ RES S R (.slice ra q0 rc) w (.returned (.tuple #[tval (.slice sa sn sc) (.slice (some ⟨g7, 0, none⟩) n7 n7), .int .i64 0])) ((((((w2.setCell ⟨h6, 0, none⟩ (.slice sa sn sc)).setCell ⟨h6, 1, none⟩ (.int .i64 24000)).setCell ⟨g7, k * 2 + 1, none⟩ (.int .i64 y)).setCell ⟨w.heap.size + 1, 0, none⟩ (.slice sa sn sc)).setCell ⟨w.heap.size + 1, 1, none⟩ (.int .i64 24000)).setCell ⟨w.heap.size + 1, 2, none⟩ (.slice (some ⟨g7, 0, none⟩) n7 n7))) := by
   have e1 := HO7.out.far (j := 0) (u := .slice sa sn sc) H6.out (by decide) (by decide)
   have q1 : Ob (w2.setCell ⟨h6, 0, none⟩ (.slice sa sn sc)) h6 25 := H6.out.same
   have e2 := e1.far (j := 1) (u := .int .i64 24000) q1 (by decide) (by decide)
   have q2 : Ob ((w2.setCell ⟨h6, 0, none⟩ (.slice sa sn sc)).setCell ⟨h6, 1, none⟩ (.int .i64 24000)) (w.heap.size + 1) 28 := q1.other (H6.out.other H4.out n5) n5
   obtain ⟨e3, _⟩ := e2.refs hkn y
   have q3 : Ob (((w2.setCell ⟨h6, 0, none⟩ (.slice sa sn sc)).setCell ⟨h6, 1, none⟩ (.int .i64 24000)).setCell ⟨g7, k * 2 + 1, none⟩ (.int .i64 y)) (w.heap.size + 1) 28 := (own_ob e2.choose_spec.2.2.2).other q2 n3
   have e4 := e3.far (j := 0) (u := .slice sa sn sc) q3 (by decide) (by decide)
   have e5 := e4.far (j := 1) (u := .int .i64 24000) q3.same (by decide) (by decide)
   have e6 := e5.far (j := 2) (u := .slice (some ⟨g7, 0, none⟩) n7 n7) q3.same.same (by decide) (by decide)
   have hbA := hb2.setCell (p := ⟨h6, 0, none⟩) (show w.heap.size ≤ h6 by omega) (.slice sa sn sc)
   have hbB := hbA.setCell (p := ⟨h6, 1, none⟩) (show w.heap.size ≤ h6 by omega) (.int .i64 24000)
   have hbC := hbB.setCell (p := ⟨g7, k * 2 + 1, none⟩) (show w.heap.size ≤ g7 by omega) (.int .i64 y)
   have hbF := HSET.out _ (.slice sa sn sc) (.int .i64 24000) (.slice (some ⟨g7, 0, none⟩) n7 n7) hbC
   rw [HDR.out, if_neg hr2, hy]
   exact ⟨_, _, rfl, ⟨(HC.out.next hbF).1, e6.rows⟩, hbF, fun _ => RB.own e6, fun q hq _ => RX.own e6 (by omega)⟩
  clear HDR hr2 hr
  go_wp2
  refine bodyPost_ret (v := .tuple #[tval (.slice sa sn sc) (.slice (some ⟨g7, 0, none⟩) n7 n7), .int .i64 0]) (by simp [results, Try.results13, go_sem, b0, b1, b2, tval]) rfl ?_
  exact HRET.out
 subst hr2
 obtain rfl : y = 0 := by omega
 obtain ⟨l, hl⟩ : ∃ l, l = (se.at_ R k).1 := ⟨_, rfl⟩
 rw [← hl, if_pos rfl] at HDR
 rw [← hl] at HROW
 have HL := Lib.hid hl
 obtain ⟨hl0, hl6', hlz⟩ := canon_len (HROW.out.2.2.2 (by omega))
 obtain ⟨ai, m, ci, hm, hv0, hcI, haI⟩ := HO7.out.ids hkn
 rw [← hl] at hm hcI
 have HG0 : Hid (rowG S w1.heap.size w2 [.slice ai m ci, .int .i64 0] (l, 0)) := ⟨ai, m, ci, rfl, by show Cells _ _ _ (se.texts l).length 1 _; rw [← hm]; exact hcI, haI⟩
 have HM := Lib.hid hm
 have hm6 : m ≤ 12 := by rw [hm, se.texts_len]; omega
 have hm0 : 0 < m := by rw [hm, se.texts_len]; omega
 have HCI := Lib.hid hcI
 have HCNT : Hid (∀ x, (se.ct (se.texts l) x : Int) ≤ tb.cnt S x) := fun x => by rw [HL.out]; exact HOK.out.le HKR.out x
 have HRT : Hid (tb.Right 24000 S) := HOK.out.right
 obtain ⟨W3, hW3⟩ : ∃ W, W = (((w2.setCell ⟨h6, 0, none⟩ (.slice sa sn sc)).setCell ⟨h6, 1, none⟩ (.int .i64 24000)).setCell ⟨g7, k * 2 + 1, none⟩ (.int .i64 0)) := ⟨_, rfl⟩
 have hA3 : OwnR W3 w1.heap.size g7 n7 S (R.set k (l, 0)) ∧ rowG S w1.heap.size W3 [.slice ai m ci, .int .i64 0] (l, 0) ∧ Ob W3 h6 25 ∧ Below w1.heap.size w1 W3 := by
  have e1 := HO7.out.far (j := 0) (u := .slice sa sn sc) H6.out (by decide) (by decide)
  have q1 : Ob (w2.setCell ⟨h6, 0, none⟩ (.slice sa sn sc)) h6 25 := H6.out.same
  have e2 := e1.far (j := 1) (u := .int .i64 24000) q1 (by decide) (by decide)
  obtain ⟨e3, _⟩ := e2.refs hkn 0
  have hbA := D2.setCell (p := ⟨h6, 0, none⟩) hl6 (.slice sa sn sc)
  have hbB := hbA.setCell (p := ⟨h6, 1, none⟩) hl6 (.int .i64 24000)
  have hbC := hbB.setCell (p := ⟨g7, k * 2 + 1, none⟩) hbg (.int .i64 0)
  have hg2 := own_ob e2.choose_spec.2.2.2
  rw [hW3]
  refine ⟨by rw [hl]; exact e3, ((HG0.out.far H6.out (by decide)).far q1 (by decide)).far hg2 (by decide), hg2.other q1.same n1, hbC⟩
 obtain ⟨hA3a, hA3b, hA3c, hA3d⟩ := hA3
 have hz2 : h6 < w2.heap.size := (Array.getElem?_eq_some_iff.1 H6.out.choose_spec).1
 have hb0 : ∀ b off s, sa = some ⟨b, off, s⟩ → b < w.heap.size := fun b off s e => by
  have h8 : sn = S.length := by
   obtain ⟨_, _, e2, _⟩ := Cells.form HC.out.1
   simp only [Value.slice.injEq] at e2
   exact e2.2.1
  have h7 : tb.find S ((se.texts l)[0]'(by rw [← HM.out]; exact hm0)) < S.length := HOK.out.sym HKR.out (by rw [← HL.out]; exact List.getElem_mem _)
  obtain ⟨_, ao', c', e1, _, _, h4⟩ := HC.out.1
  simp only [Value.slice.injEq] at e1
  obtain ⟨b', off', e2, hB, _⟩ := h4 (by omega)
  rw [e1.1, e2] at e
  simp only [Option.some.injEq, Addr.mk.injEq] at e
  omega
 have HAP : Hid (∀ b off s, sa = some ⟨b, off, s⟩ → b ≠ g7 ∧ b ≠ w.heap.size + 1) := fun b off s e => by
  have := hb0 b off s e
  omega
 have HST : Hid (St w1 h6 24000 (se.drops S []) sa sn sc W3) := by
  have hT : Tabs W3 W3.heap.size (.slice sa sn sc) S := by
   have h1 := (HC.out.next (hbw.trans (hA3d.mono hbw.size))).1
   exact h1
  refine ⟨hT, fun b off e => ?_, ?_, ?_, ?_, ?_, hA3d, hl6, ?_⟩
  ·
   have := hb0 b off none e
   omega
  ·
   rw [hW3, World.cell?_setCell_far _ _ _ _ n2, World.cell?_setCell_other _ _ _ _ (by simp), World.cell?_setCell_same _ _ _ c60]
  ·
   rw [hW3, World.cell?_setCell_far _ _ _ _ n2, World.cell?_setCell_same _ _ _ (u := .int .i64 0) (by rw [World.cell?_setCell_other _ _ _ _ (by simp)]; exact c61)]
  ·
   rw [hW3]; simpa using f60
  ·
   rw [hW3]; simpa using f61
  ·
   rw [hW3]; simpa using hz2
 have HDS : Hid (∀ (j : Nat) t, (se.texts l)[j]? = some t → tb.drop (se.drops S ((se.texts l).take j)) (tb.find S t : Int) = (se.drops S ((se.texts l).take (j + 1)), 0)) := fun j t hj => drops_step HRT.out HCNT.out hj
 have HW3 := Lib.hid hW3
 have HA3a := Lib.hid hA3a; have HA3b := Lib.hid hA3b; have HA3c := Lib.hid hA3c
 clear hW3 hA3a hA3b hA3c hA3d hcI haI hm HCI HG0 hl hlz hr
 go_wp2
 rw [← HW3.out]
 clear c60 c61 f60 f61 s1 fz0 fz1 a0 a1 a2 b0 b1 b2 f0 f1 f2 hv0
 go_loopw [46] (fun i wr => ∃ (j : Nat) (xo : Option Addr) (xn xc : Nat), i = .int .i64 j ∧ j ≤ m ∧ Hid (St w1 h6 24000 (se.drops S ((se.texts l).take j)) xo xn xc wr) ∧ Hid (OwnR wr w1.heap.size g7 n7 S (R.set k (l, 0))) ∧ Hid (rowG S w1.heap.size wr [.slice ai m ci, .int .i64 0] (l, 0)) ∧ Hid (Ob wr h6 25) ∧ Hid (∀ b off s, xo = some ⟨b, off, s⟩ → b ≠ g7 ∧ b ≠ w.heap.size + 1)) (fun i _ => m - (intOf i).toNat)
 case atStart => exact ⟨0, sa, sn, sc, rfl, by omega, HST.out, HA3a.out, HA3b.out, HA3c.out, HAP.out⟩
 case round =>
  obtain ⟨j, xo, xn, xc, rfl, hj, HS, HO, HG, HH, HX⟩ := hrel
  by_cases hlt : j < m
  ·
   have hjI : (j : Int) < (m : Int) := by omega
   obtain ⟨t, ht⟩ : ∃ t, (se.texts l)[j]? = some t := ⟨_, List.getElem?_eq_getElem (by rw [← HM.out]; exact hlt)⟩
   obtain ⟨ai', m', ci', e1, e2, _⟩ := HG.out
   simp only [List.cons.injEq, Value.slice.injEq, and_true] at e1
   obtain ⟨rfl, rfl, rfl⟩ := e1
   obtain ⟨_, zo, zc, e3, _, _, h4⟩ := e2
   simp only [Value.slice.injEq] at e3
   obtain ⟨rfl, hmx, rfl⟩ := e3
   clear hmx
   obtain ⟨bi, oi, rfl, hbi, hcell⟩ := h4 (by rw [← HM.out]; exact hm0)
   have c0 := hcell j _ (nums_get ht)
   have HDC := Lib.hid (drop_right 24000 (tb.find S t : Int) (se.drops S ((se.texts l).take j)) (.slice xo xn xc) wr (se.drops_right HRT.out) HS.out.1)
   rw [HDS.out j t ht] at HDC
   obtain ⟨nt, hnt⟩ : ∃ x, x = tb.find S t := ⟨_, rfl⟩
   obtain ⟨L2, hL2⟩ : ∃ x, x = se.drops S ((se.texts l).take (j + 1)) := ⟨_, rfl⟩
   rw [← hnt] at HDC c0
   rw [← hL2] at HDC
   unfold DropP at HDC
   simp only at HDC
   obtain ⟨xn2, hxn2⟩ : ∃ x, x = L2.length := ⟨_, rfl⟩
   rw [← hxn2] at HDC
   have HL2 := Lib.hid hL2
   obtain ⟨_, _, q0c, q1c, qf0, qf1, _, _, _⟩ := HS.out
   clear hnt hL2 hxn2 h4 hcell ht
   go_wp2_with fail
   (with_reducible refine HDC.out.mono ?_)
   rintro e w4 ⟨ao, cap, rfl, hv, htb, hb4⟩
   have HS4 := Lib.hid (HS.out.step hb4)
   have HS5 := Lib.hid (St.store HS4.out htb (St.apart HS.out hv))
   have hO5 := ((HO.out.stay hb4).far (j := 0) (u := .slice ao xn2 cap) (HH.out.keep hb4) (by decide) (by decide)).far (j := 1) (u := .int .i64 24000) (HH.out.keep hb4).same (by decide) (by decide)
   have HX2 : Hid (∀ b off s, ao = some ⟨b, off, s⟩ → b ≠ g7 ∧ b ≠ w.heap.size + 1) := fun b off s e => by
    rcases hv with h1 | ⟨g, h1, h2⟩
    ·
     simp only [Value.slice.injEq] at h1
     exact HX.out b off s (by rw [h1.1]; exact e)
    ·
     rw [h1] at e
     simp only [Option.some.injEq, Addr.mk.injEq] at e
     have h3 := (HO.out.spot hkn).2.2.2.2.2
     have h4 := HS.out.2.2.2.2.2.2.1.size
     omega
   have hG4 : rowG S w1.heap.size w4 [.slice (some ⟨bi, oi, none⟩) m ci, .int .i64 0] (l, 0) := by
    obtain ⟨x1, x2, x3, y1, y2, y3⟩ := HG.out
    exact ⟨x1, x2, x3, y1, y2.next hb4, fun b off s e => ⟨(y3 b off s e).1, (y3 b off s e).2.keep hb4⟩⟩
   have HG5 := Lib.hid ((hG4.far (j := 0) (u := .slice ao xn2 cap) (HH.out.keep hb4) (by decide)).far (j := 1) (u := .int .i64 24000) (HH.out.keep hb4).same (by decide))
   have HO5 := Lib.hid hO5
   have HH5 : Hid (Ob ((w4.setCell ⟨h6, 0, none⟩ (.slice ao xn2 cap)).setCell ⟨h6, 1, none⟩ (.int .i64 24000)) h6 25) := (HH.out.keep hb4).same.same
   obtain ⟨_, _, p0c, p1c, pf0, pf1, _, _, _⟩ := HS4.out
   clear hO5 hG4 htb hv q0c q1c qf0 qf1 c0
   have hAl : Below ((w4.setCell ⟨h6, 0, none⟩ (.slice ao xn2 cap)).setCell ⟨h6, 1, none⟩ (.int .i64 24000)).heap.size ((w4.setCell ⟨h6, 0, none⟩ (.slice ao xn2 cap)).setCell ⟨h6, 1, none⟩ (.int .i64 24000)) (((w4.setCell ⟨h6, 0, none⟩ (.slice ao xn2 cap)).setCell ⟨h6, 1, none⟩ (.int .i64 24000)).alloc (.cells #[.slice ao xn2 cap, .int .i64 24000] 25)) := (Below.refl _ _).alloc (Nat.le_refl _) _
   have HS6 := Lib.hid (HS5.out.step hAl)
   rw [HL2.out] at HS6
   have HO6 := Lib.hid (HO5.out.stay hAl)
   have HG6 : Hid (rowG S w1.heap.size (((w4.setCell ⟨h6, 0, none⟩ (.slice ao xn2 cap)).setCell ⟨h6, 1, none⟩ (.int .i64 24000)).alloc (.cells #[.slice ao xn2 cap, .int .i64 24000] 25)) [.slice (some ⟨bi, oi, none⟩) m ci, .int .i64 0] (l, 0)) := by
    obtain ⟨x1, x2, x3, y1, y2, y3⟩ := HG5.out
    exact ⟨x1, x2, x3, y1, y2.next hAl, fun b off s e => ⟨(y3 b off s e).1, (y3 b off s e).2.keep hAl⟩⟩
   have HH6 := Lib.hid (HH5.out.keep hAl)
   clear hAl
   go_wp2
   go_roundw
   case rel => first | exact ⟨j + 1, _, _, _, by go_num, by omega, HS6.out, HO6.out, HG6.out, HH6.out, HX2.out⟩ | ((repeat apply Exists.intro); exact ⟨⟨j + 1, _, _, _, by go_num, by omega, HS6.out, HO6.out, HG6.out, HH6.out, HX2.out⟩, rfl⟩)
   case measure => simp [intOf]; omega
  ·
   have hjm : j = m := by omega
   obtain ⟨⟨v1, s0⟩, s1, fz0, fz1, hbgr, hg1r⟩ := HO.out.spot hkn
   obtain ⟨hTab, _, q0c, q1c, qf0, qf1, hbl, _, _⟩ := HS.out
   obtain ⟨_, ⟨b0, b1, b2⟩, ⟨f0, f1, f2⟩, hbwr⟩ := HBX.out wr hbl
   have hO4 := HO4.out wr (HB1.out.trans (hbl.mono HB1.out.size))
   have HRET : Hid (SDropQ RES S R (.slice ra q0 rc) w (.returned (.tuple #[tval (.slice xo xn xc) (.slice (some ⟨g7, 0, none⟩) n7 n7), .int .i64 0])) (((((wr.setCell ⟨g7, k * 2, none⟩ (.slice none 0 0)).setCell ⟨g7, k * 2 + 1, none⟩ (.int .i64 0)).setCell ⟨w.heap.size + 1, 0, none⟩ (.slice xo xn xc)).setCell ⟨w.heap.size + 1, 1, none⟩ (.int .i64 24000)).setCell ⟨w.heap.size + 1, 2, none⟩ (.slice (some ⟨g7, 0, none⟩) n7 n7))) := by
    obtain ⟨e1, _⟩ := HO.out.set (x := ([], 0)) (ai := none) (m := 0) (ci := 0) hkn (Cells.nil _ _ _) (fun b off s e => by cases e)
    have hgo := own_ob HO.out.choose_spec.2.2.2
    have q3 : Ob ((wr.setCell ⟨g7, k * 2, none⟩ (.slice none 0 0)).setCell ⟨g7, k * 2 + 1, none⟩ (.int .i64 0)) (w.heap.size + 1) 28 := hgo.same.other (hgo.other hO4 n3) n3
    rw [List.set_set] at e1
    have hfull : (se.texts l).take j = se.texts l := List.take_of_length_le (by rw [hjm, ← HM.out]; exact Nat.le_refl _)
    rw [hfull] at hTab
    have e2 : OwnR _ w1.heap.size g7 n7 (se.drops S (se.texts l)) (R.set k ([], 0)) := e1.sym (fun x hx t ht => by
     obtain ⟨i, hi, rfl⟩ := List.mem_iff_getElem.1 hx
     rw [se.at_get hi] at ht
     have a1 := se.all_at (x := t) hi
     have a2 := se.ct_pos ht
     have a3 := se.all_set t ([], 0) R k HKR.out
     have a4 := HOK.out.cnt t
     rw [← HL.out] at a3
     have a5 : se.ct (se.texts (([], 0) : se.Row).1) t = 0 := rfl
     exact (se.drops_find HRT.out HCNT.out (by omega)).1)
    have e4 := e2.far (j := 0) (u := .slice xo xn xc) q3 (by decide) (by decide)
    have e5 := e4.far (j := 1) (u := .int .i64 24000) q3.same (by decide) (by decide)
    have e6 := e5.far (j := 2) (u := .slice (some ⟨g7, 0, none⟩) n7 n7) q3.same.same (by decide) (by decide)
    have t1 := cells_far (j := k * 2) (u := .slice none 0 0) hTab (fun b off s e => (HX.out b off s e).1)
    have t2 := cells_far (j := k * 2 + 1) (u := .int .i64 0) t1 (fun b off s e => (HX.out b off s e).1)
    have t3 := cells_far (j := 0) (u := .slice xo xn xc) t2 (fun b off s e => (HX.out b off s e).2)
    have t4 := cells_far (j := 1) (u := .int .i64 24000) t3 (fun b off s e => (HX.out b off s e).2)
    have t5 := cells_far (j := 2) (u := .slice (some ⟨g7, 0, none⟩) n7 n7) t4 (fun b off s e => (HX.out b off s e).2)
    have hbA := hbwr.setCell (p := ⟨g7, k * 2, none⟩) (show w.heap.size ≤ g7 by omega) (.slice none 0 0)
    have hbB := hbA.setCell (p := ⟨g7, k * 2 + 1, none⟩) (show w.heap.size ≤ g7 by omega) (.int .i64 0)
    have hbF := HSET.out _ (.slice xo xn xc) (.int .i64 24000) (.slice (some ⟨g7, 0, none⟩) n7 n7) hbB
    rw [HDR.out]
    refine ⟨_, _, rfl, ⟨?_, e6.rows⟩, hbF, fun _ => RB.own e6, fun q hq _ => RX.own e6 (by omega)⟩
    show Cells _ _ _ _ _ _
    simp only [World.size_setCell]
    exact t5
   have hltI : ¬ (j : Int) < (m : Int) := by omega
   clear HDR hTab hjm
   go_wp2
   refine bodyPost_ret (v := .tuple #[tval (.slice xo xn xc) (.slice (some ⟨g7, 0, none⟩) n7 n7), .int .i64 0]) (by simp [results, Try.results13, go_sem, b0, b1, b2, tval]) rfl ?_
   exact HRET.out
theorem sdrop_any (id : Int) (S : List tb.Sym) (R : List se.Row) (vs vr : Value) (w : World) (hok : se.Ok S R) (h : SerAt w w.heap.size vs vr S R) :
  Calls Try.prog 13 #[tval vs vr, .int .i64 id] w (SDropP (se.drop S R id) vr w) :=
 (sdrop_full id S R vs vr w hok h).mono fun _ _ ⟨vs', vr', h1, h2, h3, h4, _⟩ => ⟨vs', vr', h1, h2, h3, h4⟩
end Go.Proofs.Ytegjpiggjcfoaaa
