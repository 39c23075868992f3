/- texts put together: SerOwn, SerAgn, SerOk. -/
import Derived.Test.YtegjpiggjcfoaaaPd02
import Derived.Test.YtegjpiggjcfoaaaPd04
import Derived.Test.YtegjpiggjcfoaaaPd09
import Derived.Deep.RegionHeld3
namespace Go.Proofs.Ytegjpiggjcfoaaa
open Go Go.RowKit Go.ChangeShapes cl Go.Sort
theorem cells_far {w : World} {B n k m ci g j : Nat} {ai : Option Addr} {vs : List Value} {u : Value} (h : Cells w B (.slice ai m ci) n k vs) (ha : ∀ b off s, ai = some ⟨b, off, s⟩ → b ≠ g) : Cells (w.setCell ⟨g, j, none⟩ u) B (.slice ai m ci) n k vs := by
 obtain ⟨h0, ao', c, e, h1, h3, h4⟩ := h
 refine ⟨h0, ao', c, e, h1, h3, fun hp => ?_⟩
 obtain ⟨b, off, e2, hB, hc⟩ := h4 hp
 simp only [Value.slice.injEq] at e
 have hne := ha b off none (by rw [e.1, e2])
 refine ⟨b, off, e2, hB, fun i v hi => ?_⟩
 rw [World.cell?_setCell_far _ _ _ _ (fun e => hne e.symm)]
 exact hc i v hi
theorem heap_keep {w w' : World} {g : Nat} {o : Obj} (hb : Below w.heap.size w w') (h : w.heap[g]? = some o) : w'.heap[g]? = some o := by
 have hg : g < w.heap.size := (Array.getElem?_eq_some_iff.1 h).1
 exact (hb.block g hg).trans h
def Ob (w : World) (b : Nat) (T : TypeId) : Prop := ∃ cur, w.heap[b]? = some (.cells cur T (0, 0))
theorem Ob.keep {w w' : World} {b : Nat} {T : TypeId} (hb : Below w.heap.size w w') (h : Ob w b T) : Ob w' b T := by
 obtain ⟨c, hc⟩ := h
 exact ⟨c, heap_keep hb hc⟩
theorem Ob.ne {w : World} {a b : Nat} {T U : TypeId} (h : Ob w a T) (h2 : Ob w b U) (hT : T ≠ U) : a ≠ b := by
 rintro rfl
 obtain ⟨c, hc⟩ := h
 obtain ⟨d, hd⟩ := h2
 rw [hc] at hd
 simp only [Option.some.injEq, Obj.cells.injEq] at hd
 exact hT hd.2.1
theorem Ob.other {w : World} {a b j : Nat} {T U : TypeId} {u : Value} (h : Ob w a T) (h2 : Ob w b U) (hne : b ≠ a) : Ob (w.setCell ⟨a, j, none⟩ u) b U := by
 obtain ⟨c, hc⟩ := h
 obtain ⟨d, hd⟩ := h2
 rw [setCell_eq_setRow w a j c T (0, 0) u hc]
 exact ⟨d, by rw [setRow_other w a b _ (by omega)]; exact hd⟩
theorem Ob.same {w : World} {a j : Nat} {T : TypeId} {u : Value} (h : Ob w a T) : Ob (w.setCell ⟨a, j, none⟩ u) a T := by
 obtain ⟨c, hc⟩ := h
 rw [setCell_eq_setRow w a j c T (0, 0) u hc]
 exact ⟨_, setRow_heap w a c _ T (0, 0) hc⟩
theorem own_ob {w : World} {base g n cap k : Nat} {e : TypeId} {xs : List Value} (h : w.ownsRow base e k (.slice (some ⟨g, 0, none⟩) n cap) n xs) : Ob w g e := by
 rcases h.2 with ⟨hv, _⟩ | ⟨g', cap', cur, hv, hbg, hg, _⟩
 ·
  cases hv
 ·
  simp only [Value.slice.injEq, Option.some.injEq, Addr.mk.injEq] at hv
  obtain ⟨⟨rfl, _, _⟩, _, _⟩ := hv
  exact ⟨cur, hg⟩
def rowG (S : List tb.Sym) (base : Nat) (w : World) (c : List Value) (r : se.Row) : Prop := ∃ (ai : Option Addr) (m ci : Nat), c = [.slice ai m ci, .int .i64 r.2] ∧ Cells w w.heap.size (.slice ai m ci) (se.texts r.1).length 1 (nums S (se.texts r.1)) ∧ ∀ b off s, ai = some ⟨b, off, s⟩ → base ≤ b ∧ Ob w b 3
theorem rowG.far {S : List tb.Sym} {w : World} {c : List Value} {r : se.Row} {base q j : Nat} {T : TypeId} {u : Value} (h : rowG S base w c r) (hq : Ob w q T) (hT : T ≠ 3) : rowG S base (w.setCell ⟨q, j, none⟩ u) c r := by
 obtain ⟨ai, m, ci, e1, e2, e3⟩ := h
 exact ⟨ai, m, ci, e1, by rw [World.size_setCell]; exact cells_far e2 (fun b off s e => (Ob.ne hq (e3 b off s e).2 hT).symm), fun b off s e => ⟨(e3 b off s e).1, hq.other (e3 b off s e).2 (Ob.ne hq (e3 b off s e).2 hT).symm⟩⟩
def OwnR (w : World) (base g n : Nat) (S : List tb.Sym) (R : List se.Row) : Prop :=
 ∃ cs : List (List Value), cs.length = R.length ∧ R.length = n ∧ (∀ (j : Nat) (c : List Value) (x : se.Row), cs[j]? = some c → R[j]? = some x → c.length = 2 ∧ rowG S base w c x) ∧ w.ownsRow base 45 2 (.slice (some ⟨g, 0, none⟩) n n) n cs.flatten
theorem OwnR.rows {w : World} {base g n : Nat} {S : List tb.Sym} {R : List se.Row} (h : OwnR w base g n S R) : RowsAt 2 (rowR S) w w.heap.size (.slice (some ⟨g, 0, none⟩) n n) R := by
 obtain ⟨cs, h0, h1, h2, h3⟩ := h
 refine ⟨cs, h0, fun j c x hc hx => ?_, by rw [h1]; exact Cells.own h3⟩
 obtain ⟨e, ai, m, ci, e1, e2, _⟩ := h2 j c x hc hx
 exact ⟨e, _, e1, e2⟩
theorem OwnR.stay {w w' : World} {base g n : Nat} {S : List tb.Sym} {R : List se.Row} (h : OwnR w base g n S R) (hb : Below w.heap.size w w') : OwnR w' base g n S R := by
 obtain ⟨cs, h0, h1, h2, h3⟩ := h
 refine ⟨cs, h0, h1, fun j c x hc hx => ?_, own_stay h3 hb⟩
 obtain ⟨e, ai, m, ci, e1, e2, e3⟩ := h2 j c x hc hx
 exact ⟨e, ai, m, ci, e1, e2.next hb, fun b off s e => ⟨(e3 b off s e).1, (e3 b off s e).2.keep hb⟩⟩
theorem flat_set : ∀ (cs : List (List Value)) (i : Nat) (a b : Value), (∀ c ∈ cs, c.length = 2) → i < cs.length → (cs.flatten.set (i * 2) a).set (i * 2 + 1) b = (cs.set i [a, b]).flatten := by
 intro cs
 induction cs with
 | nil => intro i a b _ h; simp at h
 | cons c cs ih =>
  intro i a b hc hi
  obtain ⟨p, q, rfl⟩ : ∃ p q, c = [p, q] := by
   have := hc c List.mem_cons_self
   match c, this with
   | [p, q], _ => exact ⟨p, q, rfl⟩
  cases i with
  | zero => rfl
  | succ i =>
   have := ih i a b (fun x hx => hc x (List.mem_cons_of_mem _ hx)) (by simpa using hi)
   rw [List.set_cons_succ, List.flatten_cons, List.flatten_cons, ← this, Nat.succ_mul]
   rfl
theorem OwnR.set {w : World} {base g n i m ci : Nat} {S : List tb.Sym} {R : List se.Row} {ai : Option Addr} {x : se.Row} (h : OwnR w base g n S R) (hi : i < n)
  (hc : Cells w w.heap.size (.slice ai m ci) (se.texts x.1).length 1 (nums S (se.texts x.1))) (ha : ∀ b off s, ai = some ⟨b, off, s⟩ → base ≤ b ∧ Ob w b 3) :
  OwnR ((w.setCell ⟨g, i * 2, none⟩ (.slice ai m ci)).setCell ⟨g, i * 2 + 1, none⟩ (.int .i64 x.2)) base g n S (R.set i x) ∧ Below base w ((w.setCell ⟨g, i * 2, none⟩ (.slice ai m ci)).setCell ⟨g, i * 2 + 1, none⟩ (.int .i64 x.2)) := by
 obtain ⟨cs, h0, h1, h2, h3⟩ := h
 obtain ⟨o1, b1⟩ := kit.own_set (j := i * 2) (u := .slice ai m ci) h3
 obtain ⟨o2, b2⟩ := kit.own_set (j := i * 2 + 1) (u := .int .i64 x.2) o1
 have hlen : ∀ c ∈ cs, c.length = 2 := fun c hcm => by
  obtain ⟨j, hj, rfl⟩ := List.mem_iff_getElem.1 hcm
  exact (h2 j _ R[j] (List.getElem?_eq_getElem hj) (List.getElem?_eq_getElem (by omega))).1
 rw [flat_set cs i _ _ hlen (by omega)] at o2
 have hg0 := own_ob h3
 have hg1 : Ob (w.setCell ⟨g, i * 2, none⟩ (.slice ai m ci)) g 45 := hg0.same
 refine ⟨⟨cs.set i [.slice ai m ci, .int .i64 x.2], by rw [List.length_set, List.length_set]; exact h0, by rw [List.length_set]; exact h1, fun j c y hcj hyj => ?_, o2⟩, b1.trans b2⟩
 rw [List.getElem?_set] at hcj hyj
 by_cases hij : i = j
 ·
  rw [if_pos hij, if_pos (by omega)] at hcj hyj
  obtain rfl := Option.some.inj hcj
  obtain rfl := Option.some.inj hyj
  have hx : rowG S base w [.slice ai m ci, .int .i64 x.2] x := ⟨ai, m, ci, rfl, hc, ha⟩
  exact ⟨rfl, (hx.far hg0 (by decide)).far hg1 (by decide)⟩
 ·
  rw [if_neg hij] at hcj hyj
  obtain ⟨e, k1⟩ := h2 j c y hcj hyj
  exact ⟨e, (k1.far hg0 (by decide)).far hg1 (by decide)⟩
theorem OwnR.far {w : World} {base g n q j : Nat} {S : List tb.Sym} {R : List se.Row} {T : TypeId} {u : Value} (h : OwnR w base g n S R) (hq : Ob w q T) (hT : T ≠ 3) (hT2 : T ≠ 45) : OwnR (w.setCell ⟨q, j, none⟩ u) base g n S R := by
 obtain ⟨cs, h0, h1, h2, h3⟩ := h
 have hne := Ob.ne hq (own_ob h3) hT2
 refine ⟨cs, h0, h1, fun i c x hc hx => ?_, h3.1, ?_⟩
 ·
  obtain ⟨e, k1⟩ := h2 i c x hc hx
  exact ⟨e, k1.far hq hT⟩
 ·
  obtain ⟨c, hc⟩ := hq
  rcases h3.2 with ⟨hv, _⟩ | ⟨g', cap', cur, hv, hbg, hg, hr⟩
  ·
   cases hv
  ·
   simp only [Value.slice.injEq, Option.some.injEq, Addr.mk.injEq] at hv
   obtain ⟨⟨rfl, _, _⟩, _, rfl⟩ := hv
   refine Or.inr ⟨g, n, cur, rfl, hbg, ?_, hr⟩
   rw [setCell_eq_setRow w q j c T (0, 0) u hc, setRow_other w q g _ (by omega)]
   exact hg
theorem OwnR.spot {w : World} {base g n i : Nat} {S : List tb.Sym} {R : List se.Row} (h : OwnR w base g n S R) (hi : i < n) : (∃ v, w.cell? ⟨g, i * 2, none⟩ = some v) ∧ (w.cell? ⟨g, i * 2 + 1, none⟩ = some (.int .i64 (se.at_ R i).2)) ∧ w.frozen? ⟨g, i * 2, none⟩ = false ∧ w.frozen? ⟨g, i * 2 + 1, none⟩ = false ∧ base ≤ g ∧ g < w.heap.size := by
 obtain ⟨cs, h0, h1, h2, h3⟩ := h
 have hlen : ∀ c ∈ cs, c.length = 2 := fun c hcm => by
  obtain ⟨j, hj, rfl⟩ := List.mem_iff_getElem.1 hcm
  exact (h2 j _ R[j] (List.getElem?_eq_getElem hj) (List.getElem?_eq_getElem (by omega))).1
 have hci : cs[i]? = some cs[i] := List.getElem?_eq_getElem (by omega)
 obtain ⟨_, ai, m, ci, e1, _⟩ := h2 i cs[i] R[i] hci (List.getElem?_eq_getElem (by omega))
 have g0 := flat_get cs hlen i cs[i] 0 hci (by decide)
 have g1 := flat_get cs hlen i cs[i] 1 hci (by decide)
 rw [e1] at g0 g1
 have c0 := h3.cells (g := g) rfl _ _ g0
 have c1 := h3.cells (g := g) rfl _ _ g1
 rw [Addr.add_lit, Nat.zero_add] at c0 c1
 have hR : R[i].2 = (se.at_ R i).2 := by rw [se.at_get]
 rcases h3.2 with ⟨hv, _⟩ | ⟨g', cap', cur, hv, hbg, hg, _⟩
 ·
  cases hv
 ·
  simp only [Value.slice.injEq, Option.some.injEq, Addr.mk.injEq] at hv
  obtain ⟨⟨rfl, _, _⟩, _, _⟩ := hv
  exact ⟨⟨_, c0⟩, by rw [← hR]; exact c1, by simp [World.frozen?, hg], by simp [World.frozen?, hg], hbg, (h3.lt g rfl).2⟩
theorem made_rows (a b : Value) (z : Array Value) (hz : z = #[a, b]) (n : Nat) : (madeCells z (n * 2)).toList = (List.replicate n [a, b]).flatten := by
 subst hz
 have hl : (madeCells #[a, b] (n * 2)).toList.length = n * 2 := by rw [Array.length_toList, size_madeCells]
 have hall : ∀ c ∈ List.replicate n [a, b], c.length = 2 := fun c hc => by rw [(List.mem_replicate.1 hc).2]; rfl
 have hl2 : (List.replicate n [a, b]).flatten.length = n * 2 := by rw [flat_len _ hall, List.length_replicate]
 refine List.ext_getElem (by rw [hl, hl2]) fun i h1 h2 => ?_
 have hi : i < n * 2 := by rw [hl] at h1; exact h1
 have hg := flat_get _ hall (i / 2) [a, b] (i % 2) (by rw [List.getElem?_replicate, if_pos (by omega)]) (Nat.mod_lt _ (by decide))
 rw [Nat.div_add_mod' i 2, List.getElem?_eq_getElem h2] at hg
 simp only [madeCells, Array.getElem_toList, Array.getElem_map, Array.getElem_range]
 rcases (by omega : i % 2 = 0 ∨ i % 2 = 1) with h | h
 ·
  rw [h] at hg
  rw [Option.some.inj hg]; simp [h]
 ·
  rw [h] at hg
  rw [Option.some.inj hg]; simp [h]
theorem OwnR.made {w : World} {base g n : Nat} {S : List tb.Sym} (h : w.ownsRow base 45 2 (.slice (some ⟨g, 0, none⟩) n n) n (madeCells (#[.slice none 0 0, .int .i64 0] : Array Value) (n * 2)).toList) : OwnR w base g n S (List.replicate n ([], 0)) := by
 rw [made_rows (.slice none 0 0) (.int .i64 0) _ rfl] at h
 refine ⟨List.replicate n [.slice none 0 0, .int .i64 0], by simp, by simp, fun j c x hc hx => ?_, h⟩
 rw [List.getElem?_replicate] at hc hx
 split at hc
 ·
  rename_i hj
  rw [if_pos hj] at hx
  obtain rfl := Option.some.inj hc
  obtain rfl := Option.some.inj hx
  exact ⟨rfl, none, 0, 0, rfl, Cells.nil _ _ _, fun b off s e => by cases e⟩
 ·
  cases hc
theorem clone_nums {S : List tb.Sym} {ts : List ByteArray} {ai : Option Addr} {m ci : Nat} (w : World) (hc : Cells w w.heap.size (.slice ai m ci) m 1 (nums S ts)) (hm : m = ts.length) (h6 : m ≤ 100000) :
  Calls Try.prog 35 #[.slice ai m ci] w fun e w' => ∃ (ao : Option Addr) (cp : Nat), e = .returned (.slice ao m cp) ∧ Cells w' w'.heap.size (.slice ao m cp) m 1 (nums S ts) ∧ (∀ b off s, ao = some ⟨b, off, s⟩ → w.heap.size ≤ b ∧ Ob w' b 3) ∧ Below w.heap.size w w' := by
 obtain ⟨hl, ai', ci', e, ⟨h1, h2⟩, h3, h4⟩ := hc
 simp only [Value.slice.injEq] at e
 obtain ⟨rfl, _, rfl⟩ := e
 cases ai with
 | none =>
  have hci := h1 rfl
  have hm0 : m = 0 := by omega
  subst hm0
  have hts : nums S ts = [] := List.eq_nil_of_length_eq_zero (by omega)
  refine (Try.slices_Clone_int_nil 0 ci w).mono ?_
  rintro e w' ⟨rfl, rfl⟩
  exact ⟨none, 0, rfl, by rw [hts]; exact Cells.nil _ _ _, (fun b off s e => by cases e), Below.refl _ _⟩
 | some a =>
  rcases Nat.eq_zero_or_pos m with hm0 | hp
  ·
   subst hm0
   have hts : nums S ts = [] := List.eq_nil_of_length_eq_zero (by omega)
   refine (Try.slices_Clone_int_zero a ci w).mono ?_
   rintro e w' ⟨v', rfl, hown, _, hb⟩
   rcases own_form hown with ⟨rfl, _⟩ | ⟨g, cap, rfl, hg⟩
   ·
    exact ⟨none, 0, rfl, by rw [hts]; exact Cells.nil _ _ _, (fun b off s e => by cases e), hb⟩
   ·
    refine ⟨some ⟨g, 0, none⟩, cap, rfl, by rw [hts]; exact Cells.own hown, fun b off s e => ?_, hb⟩
    simp only [Option.some.injEq, Addr.mk.injEq] at e
    obtain ⟨rfl, _⟩ := e
    exact ⟨(hown.lt _ rfl).1, own_ob hown⟩
  ·
   obtain ⟨b, off, ea, hB, hcell⟩ := h4 hp
   obtain rfl := Option.some.inj ea
   have hz : nums S ts = (ts.map fun t => (tb.find S t : Int)).map (Value.int .i64) := by simp [nums]
   refine (Try.slices_Clone_int b off m ci (ts.map fun t => (tb.find S t : Int)) w (by rw [List.length_map]; omega) (by omega) (fun j hj => ?_)).mono ?_
   ·
    refine hcell j _ ?_
    rw [hz, List.getElem?_map, List.getElem?_eq_getElem hj]
    simp only [Option.map_some, List.getD, List.getElem?_eq_getElem hj, Option.getD_some]
   ·
    rintro e w' ⟨v', rfl, hown, _, hb⟩
    rw [List.take_of_length_le (by rw [List.length_map]; omega), ← hz] at hown
    rcases own_form hown with ⟨rfl, h0⟩ | ⟨g, cap, rfl, hg⟩
    ·
     omega
    ·
     refine ⟨some ⟨g, 0, none⟩, cap, rfl, Cells.own hown, fun b off s e => ?_, hb⟩
     simp only [Option.some.injEq, Addr.mk.injEq] at e
     obtain ⟨rfl, _⟩ := e
     exact ⟨(hown.lt _ rfl).1, own_ob hown⟩
theorem infoRow : (Try.prog.info? 45).map (fun i => (i.zero, i.size, i.bytes)) = some (some (.agg #[.slice none 0 0, .int .i64 0]), 2, 32) := by kernel_rfl
end Go.Proofs.Ytegjpiggjcfoaaa
namespace Go.Proofs.Ytegjpiggjcfoaaa
open Go Go.RowKit Go.ChangeShapes cl Go.Sort
def more (R : List se.Row) (k : Nat) : List se.Row := R ++ List.replicate (k + 1 - R.length) ([], 0)
theorem more_len (R : List se.Row) (k : Nat) : (more R k).length = max R.length (k + 1) := by simp [more]; omega
theorem more_in {R : List se.Row} {k : Nat} (h : k < R.length) : more R k = R := by
 unfold more
 rw [show k + 1 - R.length = 0 by omega]; simp
theorem more_step {R : List se.Row} {j n : Nat} (hj : j < R.length) (hn : R.length ≤ n) : (R.take j ++ List.replicate (n - j) (([], 0) : se.Row)).set j (se.at_ R j) = R.take (j + 1) ++ List.replicate (n - (j + 1)) ([], 0) := by
 have hl : (R.take j).length = j := by rw [List.length_take]; omega
 rw [List.set_append_right _ _ (by omega), hl, Nat.sub_self, show n - j = (n - (j + 1)) + 1 by omega, List.replicate_succ, List.set_cons_zero, List.take_succ_eq_append_getElem hj, ← se.at_get hj, List.append_assoc]
 rfl
def Few (R : List se.Row) : Prop := ∀ r ∈ R, (se.texts r.1).length ≤ 100000
def AgainP (S : List tb.Sym) (R : List se.Row) (w : World) (e : Ending) (w' : World) : Prop := ∃ g n, e = .returned (.slice (some ⟨g, 0, none⟩) n n) ∧ n = R.length ∧ OwnR w' w.heap.size g n S R ∧ Below w.heap.size w w'
set_option maxHeartbeats 3200000 in
set_option maxRecDepth 100000 in
theorem again_any (k : Nat) (S : List tb.Sym) (R : List se.Row) (vr : Value) (w : World) (hf : Few R) (hR : R.length ≤ 4000) (hk : k ≤ 4000) (h : RowsAt 2 (rowR S) w w.heap.size vr R) :
  Calls Try.prog 24 #[vr, .int .i64 (k : Int)] w (AgainP S (more R k) w) := by
 obtain ⟨q0, hq0⟩ : ∃ q, q = R.length := ⟨_, rfl⟩
 obtain ⟨ra, rc, rfl, _, hqm⟩ := h.form' hq0
 have HQ := Lib.hid hq0
 have HC := Lib.hid h
 have HFW := Lib.hid hf
 obtain ⟨n, hn⟩ : ∃ n, n = max q0 (k + 1) := ⟨_, rfl⟩
 have HN := Lib.hid hn
 have hq4 : q0 ≤ 4000 := by omega
 have hnq : q0 ≤ n := by omega
 have hn1 : k + 1 ≤ n := by omega
 have hn2 : n ≤ 4001 := by omega
 have hn3 : n ≤ q0 ∨ n ≤ k + 1 := by omega
 have ik : IntKind.i64.wrap ((k : Int) + 1) = (k : Int) + 1 := IntWalk.i64_in _ (by omega)
 have iw : wrap64 ((k : Int) + 1) = (k : Int) + 1 := IntWalk.wrap64_in _ (by omega)
 obtain ⟨i0, hi, hz0, hz1, hz2⟩ := info_parts infoRow
 have HI := Lib.hid (And.intro hi (And.intro hz0 (And.intro hz1 hz2)))
 have HFIN : Hid (R ++ List.replicate (n - q0) ([], 0) = more R k ∧ n = (more R k).length) := by
  refine ⟨?_, by rw [more_len, ← hq0]; exact hn⟩
  unfold more
  rw [show n - q0 = k + 1 - R.length by omega]
 clear h hq0 hf hR hqm hn hi hz0 hz1 hz2
 go_enter Try.func24, Try.ntmps24
 go_wp2_with (at_make; refine wpList_make_full _ rfl _ _ 26 rfl w.heap.size 45 i0 (.agg #[.slice none 0 0, .int .i64 0]) 2 Try.underlying26 HI.out.1 HI.out.2.1 HI.out.2.2.1 .i64 .i64 _ _ n rfl rfl (by omega) (by omega) (by rw [HI.out.2.2.2]; omega) (by unfold maxLen; omega) (Nat.le_refl _) ?_)
 intro w3 hown3 hgrow3
 have HO3 := Lib.hid (OwnR.made (S := S) hown3)
 have hb3 : Below w.heap.size w w3 := (Below.refl _ _).grown hgrow3 (Nat.le_refl _) (fun j hj => by cases hj)
 obtain ⟨g, hg⟩ : ∃ g, g = w.heap.size := ⟨_, rfl⟩
 rw [← hg] at HO3 ⊢
 have HG := Lib.hid hg
 clear hown3 hgrow3 hg ik iw
 go_wp2
 go_loopw [16] (fun i wr => ∃ j : Nat, i = .int .i64 j ∧ j ≤ q0 ∧ Hid (OwnR wr g g n S (R.take j ++ List.replicate (n - j) ([], 0))) ∧ Hid (Below g w wr)) (fun i _ => q0 - (intOf i).toNat)
 case atStart => exact ⟨0, rfl, by omega, HO3.out, by rw [HG.out]; exact hb3⟩
 case round =>
  obtain ⟨j, rfl, hj, HO, HD⟩ := hrel
  by_cases hlt : j < q0
  ·
   have hjI : (j : Int) < (q0 : Int) := by omega
   have hjn : j < n := by omega
   have hjnI : (j : Int) < (n : Int) := by omega
   have D : Below w.heap.size w wr := by have := HD.out; rw [HG.out] at this; exact this
   obtain ⟨b, off, ai, m, ci, rfl, hB, hm, hmm, hci, p0, p1⟩ := row_at HC.out HQ.out hlt
   have e0 := (D.cell (p := ⟨b, off + j * 2, none⟩) hB).trans p0
   have e1 := (D.cell (p := ⟨b, off + j * 2 + 1, none⟩) hB).trans p1
   have hm6 : m ≤ 100000 := by
    rw [hm]
    refine HFW.out _ ?_
    have hjR : j < R.length := by rw [← HQ.out]; exact hlt
    rw [← se.at_get hjR]; exact List.getElem_mem hjR
   obtain ⟨wq, hwq⟩ : ∃ W, W = wr.alloc (.cells #[.slice ai m ci, .int .i64 (se.at_ R j).2] 45) := ⟨_, rfl⟩
   have Dq : Below wr.heap.size wr wq := by rw [hwq]; exact (Below.refl _ _).alloc (Nat.le_refl _) _
   have HBQ : Hid (∀ W, Below wq.heap.size wq W → W.cell? ⟨wr.heap.size, 0, none⟩ = some (.slice ai m ci) ∧ W.cell? ⟨wr.heap.size, 1, none⟩ = some (.int .i64 (se.at_ R j).2)) := fun W hW => by
    rw [hwq] at hW
    obtain ⟨z0, z1, _⟩ := two hW
    exact ⟨z0, z1⟩
   have hgq : g < wq.heap.size := by have := ((HO.out).spot hjn).2.2.2.2.2; have := Dq.size; omega
   have Dwq := D.trans (Dq.mono D.size)
   have HDW : Hid (∀ W, Below wq.heap.size wq W → g ≤ W.heap.size) := fun W hW => Nat.le_trans (Nat.le_of_lt hgq) hW.size
   have HCL : Hid (∀ W, Below wq.heap.size wq W → Calls Try.prog 35 #[.slice ai m ci] W fun e w' => ∃ (ao : Option Addr) (cp : Nat), e = .returned (.slice ao m cp) ∧ Cells w' w'.heap.size (.slice ao m cp) m 1 (nums S (se.texts (se.at_ R j).1)) ∧ (∀ b off s, ao = some ⟨b, off, s⟩ → W.heap.size ≤ b ∧ Ob w' b 3) ∧ Below W.heap.size W w') := fun W hW => by
    have hD := Dwq.trans (hW.mono Dwq.size)
    have hc2 : Cells W W.heap.size (.slice ai m ci) m 1 (nums S (se.texts (se.at_ R j).1)) := by
     have := (hci.below hD).mono hD.size
     exact this
    refine (clone_nums W hc2 hm hm6).mono ?_
    rintro e w' ⟨ao, cp, rfl, h1, h2, h3⟩
    exact ⟨ao, cp, rfl, h1, h2, h3⟩
   have HOq := Lib.hid (HO.out.stay Dq)
   have HMS : Hid (m = (se.texts (se.at_ R j).1).length) := hm
   have HSTEP : Hid ((R.take j ++ List.replicate (n - j) (([], 0) : se.Row)).set j (se.at_ R j) = R.take (j + 1) ++ List.replicate (n - (j + 1)) ([], 0)) := more_step (by rw [← HQ.out]; exact hlt) (by rw [← HQ.out]; exact hnq)
   obtain ⟨r, hr⟩ : ∃ r, r = (se.at_ R j).2 := ⟨_, rfl⟩
   rw [← hr] at HBQ e1 hwq
   have HRR := Lib.hid hr
   have HWQ := Lib.hid hwq
   have HDq : Hid (Below g w wq) := by rw [HG.out]; exact Dwq
   clear p0 p1 hm hci hr hwq hmm
   go_wp2_with fail
   rw [← HWQ.out]
   clear e0 e1
   refine wp_flow 9 (fun _ => 1000) (fun ww => RowKit.Below wq.heap.size wq ww) (fun _ w w' => (fun (w w' : World) => RowKit.Below w.heap.size w w') w w') (fun kF vF wF => match kF with | 0 => (vF = .slice (some ⟨g, 0, none⟩) n n) | 1 => (vF = .int .i64 (j : Int)) | 2 => (vF = .pointer (some ⟨wr.heap.size, 0, none⟩)) | 3 => (vF = .slice ai m ci) | 4 => (∃ (ao : Option Addr) (cp : Nat), vF = .slice ao m cp ∧ cl.Cells wF wF.heap.size (.slice ao m cp) m 1 (nums S (se.texts (se.at_ R j).1)) ∧ (∀ b off s, ao = some ⟨b, off, s⟩ → g ≤ b ∧ Ob wF b 3)) | 5 => (vF = .pointer (some ⟨wr.heap.size, 1, none⟩)) | 6 => (vF = .int .i64 r) | 7 => (∃ (ao : Option Addr) (cp : Nat), vF = .agg #[.slice ao m cp, .int .i64 r] ∧ cl.Cells wF wF.heap.size (.slice ao m cp) m 1 (nums S (se.texts (se.at_ R j).1)) ∧ (∀ b off s, ao = some ⟨b, off, s⟩ → g ≤ b ∧ Ob wF b 3)) | 8 => (vF = .pointer (some ⟨g, j * 2, none⟩)) | _ => True) (fun _ _ _ _ => True) (by kernel_rfl) (by kernel_rfl) ?_ ?_ ?_ ?_ ?_
   ·
    exact (Below.refl _ _).drew
   ·
    intro iF wF1 wF2 hR hT; exact hR.trans (hT.mono hR.size)
   ·
    intro kF hkF iF hiF hne hdd hanc hdan vF wF1 wF2 h hT
    rcases (by omega : kF = 0 ∨ kF = 1 ∨ kF = 2 ∨ kF = 3 ∨ kF = 4 ∨ kF = 5 ∨ kF = 6 ∨ kF = 7 ∨ kF = 8) with rfl | rfl | rfl | rfl | rfl | rfl | rfl | rfl | rfl
    ·
     exact h
    ·
     exact h
    ·
     exact h
    ·
     exact h
    ·
     have h : (∃ (ao : Option Addr) (cp : Nat), vF = .slice ao m cp ∧ cl.Cells wF1 wF1.heap.size (.slice ao m cp) m 1 (nums S (se.texts (se.at_ R j).1)) ∧ (∀ b off s, ao = some ⟨b, off, s⟩ → g ≤ b ∧ Ob wF1 b 3)) := h
     show (∃ (ao : Option Addr) (cp : Nat), vF = .slice ao m cp ∧ cl.Cells wF2 wF2.heap.size (.slice ao m cp) m 1 (nums S (se.texts (se.at_ R j).1)) ∧ (∀ b off s, ao = some ⟨b, off, s⟩ → g ≤ b ∧ Ob wF2 b 3))
     have hT : (fun (w w' : World) => RowKit.Below w.heap.size w w') wF1 wF2 := hT
     simp only at hT
     obtain ⟨ao, cp, e, h1, h2⟩ := h
     exact ⟨ao, cp, e, h1.next hT, fun b off s e => ⟨(h2 b off s e).1, (h2 b off s e).2.keep hT⟩⟩
    ·
     exact h
    ·
     exact h
    ·
     have h : (∃ (ao : Option Addr) (cp : Nat), vF = .agg #[.slice ao m cp, .int .i64 r] ∧ cl.Cells wF1 wF1.heap.size (.slice ao m cp) m 1 (nums S (se.texts (se.at_ R j).1)) ∧ (∀ b off s, ao = some ⟨b, off, s⟩ → g ≤ b ∧ Ob wF1 b 3)) := h
     show (∃ (ao : Option Addr) (cp : Nat), vF = .agg #[.slice ao m cp, .int .i64 r] ∧ cl.Cells wF2 wF2.heap.size (.slice ao m cp) m 1 (nums S (se.texts (se.at_ R j).1)) ∧ (∀ b off s, ao = some ⟨b, off, s⟩ → g ≤ b ∧ Ob wF2 b 3))
     have hT : (fun (w w' : World) => RowKit.Below w.heap.size w w') wF1 wF2 := hT
     simp only at hT
     obtain ⟨ao, cp, e, h1, h2⟩ := h
     exact ⟨ao, cp, e, h1.next hT, fun b off s e => ⟨(h2 b off s e).1, (h2 b off s e).2.keep hT⟩⟩
    ·
     exact h
   ·
    generalize hAF : fillOf _ _ _ = AF
    replace hAF := fun x => congrFun hAF x
    simp only [List.take_succ_cons, List.take_zero, fillOf, Act.put, List.setIfInBounds_toArray, List.set_cons_zero, List.set_cons_succ, Nat.reduceAdd, Nat.zero_add] at hAF
    refine FlowAll.cons ?_ ?_
    ·
     intro xF w1 hR hd K hK
     clear hd
     simp only [← hAF, Act.put, List.setIfInBounds_toArray, List.set_cons_zero, List.set_cons_succ] at hK ⊢
     clear hAF
     try simp only [Nat.zero_add] at hK ⊢
     try simp only [Nat.reduceAdd] at hK ⊢
     obtain hbR := id hR
     rw [if_pos (by rfl)]
     go_simp
     exact hK.out _ _ (Below.refl _ _) (rfl) (fun _ _ _ => ⟨trivial, trivial⟩)
    refine FlowAll.cons ?_ ?_
    ·
     intro xF w1 hR hd K hK
     clear hd
     simp only [← hAF, Act.put, List.setIfInBounds_toArray, List.set_cons_zero, List.set_cons_succ] at hK ⊢
     clear hAF
     try simp only [Nat.zero_add] at hK ⊢
     try simp only [Nat.reduceAdd] at hK ⊢
     obtain hbR := id hR
     rw [if_pos (by rfl)]
     go_simp
     exact hK.out _ _ (Below.refl _ _) (rfl) (fun _ _ _ => ⟨trivial, trivial⟩)
    refine FlowAll.cons ?_ ?_
    ·
     intro xF w1 hR hd K hK
     clear hd
     simp only [← hAF, Act.put, List.setIfInBounds_toArray, List.set_cons_zero, List.set_cons_succ] at hK ⊢
     clear hAF
     try simp only [Nat.zero_add] at hK ⊢
     try simp only [Nat.reduceAdd] at hK ⊢
     obtain hbR := id hR
     rw [if_pos (by rfl)]
     go_simp
     exact hK.out _ _ (Below.refl _ _) (rfl) (fun _ _ _ => ⟨trivial, trivial⟩)
    refine FlowAll.cons ?_ ?_
    ·
     intro xF w1 hR hd K hK
     have dd2 : ((xF 2) = .pointer (some ⟨wr.heap.size, 0, none⟩)) := hd 2 (by kernel_rfl)
     clear hd
     simp only [← hAF, Act.put, List.setIfInBounds_toArray, List.set_cons_zero, List.set_cons_succ] at hK ⊢
     clear hAF
     try simp only [Nat.zero_add] at hK ⊢
     try simp only [Nat.reduceAdd] at hK ⊢
     try generalize xF 2 = yy2 at *
     obtain rfl := dd2
     obtain hbR := id hR
     obtain ⟨k0, k1⟩ := HBQ.out _ hR
     rw [if_pos (by rfl)]
     go_simp
     exact hK.out _ _ (Below.refl _ _) (rfl) (fun _ _ _ => ⟨trivial, trivial⟩)
    refine FlowAll.cons ?_ ?_
    ·
     intro xF w1 hR hd K hK
     have dd3 : ((xF 3) = .slice ai m ci) := hd 3 (by kernel_rfl)
     clear hd
     simp only [← hAF, Act.put, List.setIfInBounds_toArray, List.set_cons_zero, List.set_cons_succ] at hK ⊢
     clear hAF
     try simp only [Nat.zero_add] at hK ⊢
     try simp only [Nat.reduceAdd] at hK ⊢
     try generalize xF 3 = yy3 at *
     obtain rfl := dd3
     obtain hbR := id hR
     rw [if_pos (by rfl)]
     go_simp
     (go_at_call 35; (with_reducible refine (HCL.out _ hR).mono ?_); rintro e wK ⟨ao, cp, rfl, hc, ha, hbK⟩)
     try go_wp2_with fail
     exact hK.out _ _ (hbK) (⟨_, _, rfl, hc, fun b off s e => ⟨Nat.le_trans (HDW.out w1 hR) (ha b off s e).1, (ha b off s e).2⟩⟩) (fun _ _ _ => ⟨trivial, trivial⟩)
    refine FlowAll.cons ?_ ?_
    ·
     intro xF w1 hR hd K hK
     clear hd
     simp only [← hAF, Act.put, List.setIfInBounds_toArray, List.set_cons_zero, List.set_cons_succ] at hK ⊢
     clear hAF
     try simp only [Nat.zero_add] at hK ⊢
     try simp only [Nat.reduceAdd] at hK ⊢
     obtain hbR := id hR
     rw [if_pos (by rfl)]
     go_simp
     exact hK.out _ _ (Below.refl _ _) (rfl) (fun _ _ _ => ⟨trivial, trivial⟩)
    refine FlowAll.cons ?_ ?_
    ·
     intro xF w1 hR hd K hK
     have dd5 : ((xF 5) = .pointer (some ⟨wr.heap.size, 1, none⟩)) := hd 5 (by kernel_rfl)
     clear hd
     simp only [← hAF, Act.put, List.setIfInBounds_toArray, List.set_cons_zero, List.set_cons_succ] at hK ⊢
     clear hAF
     try simp only [Nat.zero_add] at hK ⊢
     try simp only [Nat.reduceAdd] at hK ⊢
     try generalize xF 5 = yy5 at *
     obtain rfl := dd5
     obtain hbR := id hR
     obtain ⟨k0, k1⟩ := HBQ.out _ hR
     rw [if_pos (by rfl)]
     go_simp
     exact hK.out _ _ (Below.refl _ _) (rfl) (fun _ _ _ => ⟨trivial, trivial⟩)
    refine FlowAll.cons ?_ ?_
    ·
     intro xF w1 hR hd K hK
     have dd4 : (∃ (ao : Option Addr) (cp : Nat), (xF 4) = .slice ao m cp ∧ cl.Cells w1 w1.heap.size (.slice ao m cp) m 1 (nums S (se.texts (se.at_ R j).1)) ∧ (∀ b off s, ao = some ⟨b, off, s⟩ → g ≤ b ∧ Ob w1 b 3)) := hd 4 (by kernel_rfl)
     have dd6 : ((xF 6) = .int .i64 r) := hd 6 (by kernel_rfl)
     clear hd
     simp only [← hAF, Act.put, List.setIfInBounds_toArray, List.set_cons_zero, List.set_cons_succ] at hK ⊢
     clear hAF
     try simp only [Nat.zero_add] at hK ⊢
     try simp only [Nat.reduceAdd] at hK ⊢
     try generalize xF 4 = yy4 at *
     try generalize xF 6 = yy6 at *
     obtain ⟨ao4, cp4, rfl, hc4, ha4⟩ := dd4
     obtain rfl := dd6
     obtain hbR := id hR
     rw [if_pos (by rfl)]
     go_simp
     exact hK.out _ _ (Below.refl _ _) (⟨_, _, rfl, hc4, ha4⟩) (fun _ _ _ => ⟨trivial, trivial⟩)
    refine FlowAll.cons ?_ ?_
    ·
     intro xF w1 hR hd K hK
     have dd0 : ((xF 0) = .slice (some ⟨g, 0, none⟩) n n) := hd 0 (by kernel_rfl)
     have dd1 : ((xF 1) = .int .i64 (j : Int)) := hd 1 (by kernel_rfl)
     clear hd
     simp only [← hAF, Act.put, List.setIfInBounds_toArray, List.set_cons_zero, List.set_cons_succ] at hK ⊢
     clear hAF
     try simp only [Nat.zero_add] at hK ⊢
     try simp only [Nat.reduceAdd] at hK ⊢
     try generalize xF 0 = yy0 at *
     try generalize xF 1 = yy1 at *
     obtain rfl := dd0
     obtain rfl := dd1
     obtain hbR := id hR
     rw [if_pos (by rfl)]
     go_simp
     exact hK.out _ _ (Below.refl _ _) (rfl) (fun _ _ _ => ⟨trivial, trivial⟩)
    exact FlowAll.nil
   intro xF w1 hR hF hP
   clear hP
   have dd0 : ((xF 0) = .slice (some ⟨g, 0, none⟩) n n) := hF 0 (by omega) (by decide)
   have dd1 : ((xF 1) = .int .i64 (j : Int)) := hF 1 (by omega) (by decide)
   have dd2 : ((xF 2) = .pointer (some ⟨wr.heap.size, 0, none⟩)) := hF 2 (by omega) (by decide)
   have dd3 : ((xF 3) = .slice ai m ci) := hF 3 (by omega) (by decide)
   have dd4 : (∃ (ao : Option Addr) (cp : Nat), (xF 4) = .slice ao m cp ∧ cl.Cells w1 w1.heap.size (.slice ao m cp) m 1 (nums S (se.texts (se.at_ R j).1)) ∧ (∀ b off s, ao = some ⟨b, off, s⟩ → g ≤ b ∧ Ob w1 b 3)) := hF 4 (by omega) (by decide)
   have dd5 : ((xF 5) = .pointer (some ⟨wr.heap.size, 1, none⟩)) := hF 5 (by omega) (by decide)
   have dd6 : ((xF 6) = .int .i64 r) := hF 6 (by omega) (by decide)
   have dd7 : (∃ (ao : Option Addr) (cp : Nat), (xF 7) = .agg #[.slice ao m cp, .int .i64 r] ∧ cl.Cells w1 w1.heap.size (.slice ao m cp) m 1 (nums S (se.texts (se.at_ R j).1)) ∧ (∀ b off s, ao = some ⟨b, off, s⟩ → g ≤ b ∧ Ob w1 b 3)) := hF 7 (by omega) (by decide)
   have dd8 : ((xF 8) = .pointer (some ⟨g, j * 2, none⟩)) := hF 8 (by omega) (by decide)
   clear hF
   simp only [List.take_succ_cons, List.take_zero, List.drop_succ_cons, List.drop_zero, fillOf, Act.put, List.setIfInBounds_toArray, List.set_cons_zero, List.set_cons_succ, Nat.reduceAdd, Nat.zero_add]
   try generalize xF 0 = yy0 at *
   try generalize xF 1 = yy1 at *
   try generalize xF 2 = yy2 at *
   try generalize xF 3 = yy3 at *
   try generalize xF 4 = yy4 at *
   try generalize xF 5 = yy5 at *
   try generalize xF 6 = yy6 at *
   try generalize xF 7 = yy7 at *
   try generalize xF 8 = yy8 at *
   clear xF
   obtain rfl := dd0
   obtain rfl := dd1
   obtain rfl := dd2
   obtain rfl := dd3
   obtain ⟨ao4, cp4, rfl, hc4, ha4⟩ := dd4
   obtain rfl := dd5
   obtain rfl := dd6
   obtain ⟨ao7, cp7, rfl, hc7, ha7⟩ := dd7
   obtain rfl := dd8
   have hRE := Lib.hid hR
   clear hR
   have D1 := hRE.out
   clear hRE
   have HO1 := Lib.hid (HOq.out.stay D1)
   obtain ⟨⟨v0, s0⟩, s1, f0, f1, hbg, hg1⟩ := HO1.out.spot hjn
   have hDg : Hid (Below g w w1) := HDq.out.trans (D1.mono (by omega))
   obtain ⟨hO2, hB2⟩ := OwnR.set (x := se.at_ R j) HO1.out hjn (by rw [← HMS.out]; exact hc7) ha7
   rw [HSTEP.out, ← HRR.out] at hO2
   rw [← HRR.out] at hB2
   have HO2 := Lib.hid hO2
   have HB2 := Lib.hid (hDg.out.trans hB2)
   clear hO2 hB2 hc7 ha7 hc4 ha4
   go_wp2
   go_roundw
   case rel => exact ⟨j + 1, by go_num, by omega, HO2.out, HB2.out⟩
   case measure => simp [intOf]; omega
  ·
   have hjq : j = q0 := by omega
   have HRET : Hid (AgainP S (more R k) w (.returned (.slice (some ⟨g, 0, none⟩) n n)) wr) := by
    have h1 := HO.out
    rw [hjq, List.take_of_length_le (by rw [← HQ.out]; exact Nat.le_refl _), HFIN.out.1] at h1
    have h2 := HD.out
    rw [HG.out] at h1 h2
    rw [HG.out]
    exact ⟨_, n, rfl, HFIN.out.2, h1, h2⟩
   go_wp2
   go_ret
   exact HRET.out
end Go.Proofs.Ytegjpiggjcfoaaa
namespace Go.Proofs.Ytegjpiggjcfoaaa.se
open Go.RowKit
def room (R : List Row) (k : Nat) : List Row := R ++ List.replicate (k + 1 - R.length) ([], 0)
theorem room_in {R : List Row} {k : Nat} (h : k < R.length) : room R k = R := by
 unfold room
 rw [show k + 1 - R.length = 0 by omega]; simp
theorem room_at {R : List Row} {k : Nat} (h : k = R.length) : room R k = R ++ [([], 0)] := by
 unfold room
 rw [show k + 1 - R.length = 1 by omega]; rfl
def put (S : List tb.Sym) (R : List Row) (r : Int × List Lab) : List tb.Sym × List Row × Int × Int :=
 if r.1 ≠ 0 then (S, R, 0, 8)
 else if find R r.2 < R.length then (if 1099511627776 ≤ (at_ R (find R r.2)).2 then (S, R, 0, 7) else (S, R.set (find R r.2) (r.2, (at_ R (find R r.2)).2 + 1), (find R r.2 : Int), 0))
 else if free R = 4000 then (S, R, 0, 7)
 else if (puts S (texts r.2)).2 ≠ 0 then (S, R, 0, (puts S (texts r.2)).2)
 else ((puts S (texts r.2)).1, (room R (free R)).set (free R) (r.2, 1), (free R : Int), 0)
def drop (S : List tb.Sym) (R : List Row) (id : Int) : List tb.Sym × List Row × Int :=
 if used R id = true then (if (at_ R id.toNat).2 = 1 then (drops S (texts (at_ R id.toNat).1), R.set id.toNat ([], 0), 0) else (S, R.set id.toNat ((at_ R id.toNat).1, (at_ R id.toNat).2 - 1), 0))
 else (S, R, 5)
theorem ok_nil : Ok [] [] := ⟨tb.right_nil (by decide) (by decide), by decide, fun k h => absurd h (Nat.not_lt_zero _), fun x => by rw [tb.cnt_no (fun i h => absurd h (Nat.not_lt_zero _))]; rfl, fun i j _ h => absurd h (Nat.not_lt_zero _)⟩
theorem ok_set {S S' : List tb.Sym} {R : List Row} {k : Nat} {x : Row} (h : Ok S R) (hk : k < R.length) (hr : tb.Right 24000 S') (h0 : 0 ≤ x.2) (h1 : x.2 ≤ 1099511627776) (h2 : x.2 = 0 → x.1 = []) (h3 : 0 < x.2 → lm.canonF x.1 = (0, x.1))
  (h4 : ∀ y, tb.cnt S' y + (ct (texts (at_ R k).1) y : Int) = tb.cnt S y + (ct (texts x.1) y : Int)) (h5 : 0 < x.2 → ∀ j, j < R.length → j ≠ k → 0 < (at_ R j).2 → (at_ R j).1 ≠ x.1) : Ok S' (R.set k x) := by
 refine ⟨hr, by rw [List.length_set]; exact h.len, fun i hi => ?_, fun y => ?_, fun i j hij hj hi0 hj0 => ?_⟩
 ·
  rw [List.length_set] at hi
  rw [at_set hk]
  split
  ·
   exact ⟨h0, h1, h2, h3⟩
  ·
   exact h.row i hi
 ·
  have e1 := all_set y x R k hk
  have e2 := h4 y
  have e3 := h.cnt y
  omega
 ·
  rw [List.length_set] at hj
  rw [at_set hk] at hi0 hj0
  rw [at_set hk, at_set hk]
  by_cases hi : k = i
  ·
   rw [if_pos hi] at hi0 ⊢
   rw [if_neg (by omega)] at hj0 ⊢
   exact (h5 hi0 j hj (by omega) hj0).symm
  ·
   rw [if_neg hi] at hi0 ⊢
   by_cases hkj : k = j
   ·
    rw [if_pos hkj] at hj0 ⊢
    exact h5 hj0 i (by omega) (by omega) hi0
   ·
    rw [if_neg hkj] at hj0 ⊢
    exact h.one i j hij hj hi0 hj0
theorem ok_snoc {S : List tb.Sym} {R : List Row} (h : Ok S R) (hl : R.length < 4000) : Ok S (R ++ [([], 0)]) := by
 have hlen : (R ++ [(([], 0) : Row)]).length = R.length + 1 := by rw [List.length_append]; rfl
 have hlow : ∀ j, j < R.length → at_ (R ++ [(([], 0) : Row)]) j = at_ R j := fun j hj => by rw [at_snoc, if_pos hj]
 have hnew : ∀ j, ¬ j < R.length → (at_ (R ++ [(([], 0) : Row)]) j) = ([], 0) := fun j hj => by
  rw [at_snoc, if_neg hj]
  split <;> rfl
 refine ⟨h.right, by rw [hlen]; omega, fun i hi => ?_, fun y => ?_, fun i j hij hj hi0 hj0 => ?_⟩
 ·
  by_cases hi2 : i < R.length
  ·
   rw [hlow i hi2]; exact h.row i hi2
  ·
   rw [hnew i hi2]
   exact ⟨by decide, by decide, fun _ => rfl, fun h0 => absurd h0 (by decide)⟩
 ·
  rw [all_snoc, h.cnt y]
  simp [texts, ct]
 ·
  by_cases hj2 : j < R.length
  ·
   rw [hlow j hj2] at hj0 ⊢
   rw [hlow i (by omega)] at hi0 ⊢
   exact h.one i j hij hj2 hi0 hj0
  ·
   rw [hnew j hj2] at hj0
   exact absurd hj0 (by decide)
theorem ok_room {S : List tb.Sym} {R : List Row} {k : Nat} (h : Ok S R) (hk : k ≤ R.length) (h4 : k ≠ 4000) : Ok S (room R k) ∧ k < (room R k).length ∧ (∀ j, j < R.length → at_ (room R k) j = at_ R j) ∧ (¬ k < R.length → at_ (room R k) k = ([], 0)) ∧ (∀ j, j < (room R k).length → j < R.length ∨ j = k) := by
 by_cases hlt : k < R.length
 ·
  rw [room_in hlt]
  exact ⟨h, hlt, fun _ _ => rfl, fun hh => absurd hlt hh, fun j hj => Or.inl hj⟩
 ·
  have e : k = R.length := by omega
  have hlen : (R ++ [(([], 0) : Row)]).length = R.length + 1 := by rw [List.length_append]; rfl
  rw [room_at e]
  have := h.len
  exact ⟨ok_snoc h (by omega), by rw [hlen]; omega, fun j hj => by rw [at_snoc, if_pos hj], fun _ => by rw [at_snoc, if_neg hlt, if_pos e], fun j hj => by rw [hlen] at hj; omega⟩
theorem Ok.le {S : List tb.Sym} {R : List Row} (h : Ok S R) {k : Nat} (hk : k < R.length) (x : ByteArray) : (ct (texts (at_ R k).1) x : Int) ≤ tb.cnt S x := by
 have h1 := all_at (x := x) hk
 have h2 := h.cnt x
 omega
theorem ok_put {S : List tb.Sym} {R : List Row} {r : Int × List Lab} (h : Ok S R) (hr : r.1 = 0 → lm.canonF r.2 = (0, r.2)) : Ok (put S R r).1 (put S R r).2.1 := by
 obtain ⟨f, l⟩ := r
 simp only at hr
 unfold put
 simp only
 by_cases h8 : f ≠ 0
 ·
  rw [if_pos h8]; exact h
 rw [if_neg h8]
 have hcan := hr (by simpa using h8)
 by_cases hf : find R l < R.length
 ·
  rw [if_pos hf]
  obtain ⟨g1, g2⟩ := find_yes hf
  have hb := h.row _ hf
  by_cases hm : 1099511627776 ≤ (at_ R (find R l)).2
  ·
   rw [if_pos hm]; exact h
  ·
   rw [if_neg hm]
   refine ok_set h hf h.right (by show 0 ≤ _ + 1; omega) (by show _ + 1 ≤ _; omega) (fun e => by have : (at_ R (find R l)).2 + 1 = 0 := e; omega) (fun _ => hcan) (fun y => by rw [g2]) fun _ j hj hjk hj0 he => ?_
   have h1 : (at_ R j).1 = l := he
   rcases Nat.lt_trichotomy j (find R l) with hlt | heq | hgt
   ·
    exact h.one j _ hlt hf hj0 g1 (by rw [h1, g2])
   ·
    exact hjk heq
   ·
    exact h.one _ j hgt hj g1 hj0 (by rw [h1, g2])
 rw [if_neg hf]
 by_cases h4 : free R = 4000
 ·
  rw [if_pos h4]; exact h
 rw [if_neg h4]
 by_cases hp : (puts S (texts l)).2 ≠ 0
 ·
  rw [if_pos hp]; exact h
 rw [if_neg hp]
 obtain ⟨o1, o2, o3, o4, o5⟩ := ok_room h (free_le R) h4
 have hz : (at_ (room R (free R)) (free R)).1 = [] := by
  by_cases hlt : free R < R.length
  ·
   have h1 := free_yes hlt
   have h2 := h.row _ hlt
   rw [o3 _ hlt]
   exact h2.2.2.1 (by omega)
  ·
   rw [o4 hlt]
 refine ok_set o1 o2 (puts_right h.right) (by show (0 : Int) ≤ 1; omega) (by show (1 : Int) ≤ _; omega) (fun e => by cases e) (fun _ => hcan) (fun y => ?_) fun _ j hj hjk hj0 he => ?_
 ·
  rw [puts_cnt h.right (by simpa using hp), hz]
  simp [texts, ct]
 ·
  rcases o5 j hj with hjl | hjl
  ·
   rw [o3 j hjl] at hj0 he
   exact find_no (by have := find_le R l; omega : j < find R l) ⟨hj0, he⟩
  ·
   exact hjk hjl
theorem ok_drop {S : List tb.Sym} {R : List Row} {id : Int} (h : Ok S R) : Ok (drop S R id).1 (drop S R id).2.1 := by
 unfold drop
 by_cases hu : used R id = true
 ·
  rw [if_pos hu]
  unfold used at hu
  obtain ⟨u0, u1, u2⟩ := of_decide_eq_true hu
  have hk : id.toNat < R.length := by omega
  have hb := h.row _ hk
  by_cases h1 : (at_ R id.toNat).2 = 1
  ·
   rw [if_pos h1]
   refine ok_set h hk (drops_right h.right) (by decide) (by decide) (fun _ => rfl) (fun h0 => absurd h0 (by decide)) (fun y => ?_) (fun h0 => absurd h0 (by decide))
   rw [drops_cnt h.right (fun x => h.le hk x)]
   simp [texts, ct]
  ·
   rw [if_neg h1]
   refine ok_set h hk h.right (by show 0 ≤ _ - 1; omega) (by show _ - 1 ≤ _; omega) (fun e => by have : (at_ R id.toNat).2 - 1 = 0 := e; omega) (fun _ => hb.2.2.2 (by omega)) (fun y => rfl) fun _ j hj hjk hj0 he => ?_
   have he1 : (at_ R j).1 = (at_ R id.toNat).1 := he
   rcases Nat.lt_trichotomy j id.toNat with hlt | heq | hgt
   ·
    exact h.one j _ hlt hk hj0 (by omega) he1
   ·
    exact hjk heq
   ·
    exact h.one _ j hgt hj (by omega) hj0 he1.symm
 ·
  rw [if_neg hu]; exact h
def Is (R : List Row) (k : Nat) (l : List Lab) : Prop := k < R.length ∧ 0 < (at_ R k).2 ∧ (at_ R k).1 = l
theorem Is.find {S : List tb.Sym} {R : List Row} {k : Nat} {l : List Lab} (h : Ok S R) (hi : Is R k l) : find R l = k ∧ find R l < R.length := by
 have e := find_ok h hi.1 hi.2.1 hi.2.2
 exact ⟨e, by rw [e]; exact hi.1⟩
theorem Is.put {S : List tb.Sym} {R : List Row} {k : Nat} {l : List Lab} {r : Int × List Lab} (h : Ok S R) (hi : Is R k l) : Is (put S R r).2.1 k l := by
 obtain ⟨i1, i2, i3⟩ := hi
 obtain ⟨f, m⟩ := r
 unfold se.put
 simp only
 by_cases h8 : f ≠ 0
 ·
  rw [if_pos h8]; exact ⟨i1, i2, i3⟩
 rw [if_neg h8]
 by_cases hf : se.find R m < R.length
 ·
  rw [if_pos hf]
  obtain ⟨g1, g2⟩ := find_yes hf
  by_cases hm : 1099511627776 ≤ (at_ R (se.find R m)).2
  ·
   rw [if_pos hm]; exact ⟨i1, i2, i3⟩
  ·
   rw [if_neg hm]
   refine ⟨by show k < (R.set _ _).length; rw [List.length_set]; exact i1, ?_, ?_⟩
   ·
    show 0 < (at_ (R.set _ _) k).2
    rw [at_set hf]
    split
    ·
     show 0 < _ + 1; omega
    ·
     exact i2
   ·
    show (at_ (R.set _ _) k).1 = l
    rw [at_set hf]
    split
    ·
     rename_i e; show m = l; rw [← g2, e]; exact i3
    ·
     exact i3
 rw [if_neg hf]
 by_cases h4 : free R = 4000
 ·
  rw [if_pos h4]; exact ⟨i1, i2, i3⟩
 rw [if_neg h4]
 by_cases hp : (puts S (texts m)).2 ≠ 0
 ·
  rw [if_pos hp]; exact ⟨i1, i2, i3⟩
 rw [if_neg hp]
 obtain ⟨o1, o2, o3, o4, o5⟩ := ok_room h (free_le R) h4
 have hne : ¬ free R = k := fun e => by
  have := free_yes (R := R) (by rw [e]; exact i1)
  rw [e] at this; omega
 have hlen : k < (room R (free R)).length := by unfold room; rw [List.length_append]; omega
 refine ⟨by show k < ((room R (free R)).set _ _).length; rw [List.length_set]; exact hlen, ?_, ?_⟩
 ·
  show 0 < (at_ ((room R (free R)).set _ _) k).2
  rw [at_set o2, if_neg hne, o3 k i1]; exact i2
 ·
  show (at_ ((room R (free R)).set _ _) k).1 = l
  rw [at_set o2, if_neg hne, o3 k i1]; exact i3
theorem Is.drop {S : List tb.Sym} {R : List Row} {k : Nat} {l : List Lab} {id : Int} (hi : Is R k l) (hne : id ≠ (k : Int)) : Is (drop S R id).2.1 k l := by
 obtain ⟨i1, i2, i3⟩ := hi
 unfold se.drop
 by_cases hu : used R id = true
 ·
  rw [if_pos hu]
  unfold used at hu
  obtain ⟨u0, u1, u2⟩ := of_decide_eq_true hu
  have hk : id.toNat < R.length := by omega
  have hnk : ¬ id.toNat = k := by omega
  by_cases h1 : (at_ R id.toNat).2 = 1
  ·
   rw [if_pos h1]
   exact ⟨by show k < (R.set _ _).length; rw [List.length_set]; exact i1, by show 0 < (at_ (R.set _ _) k).2; rw [at_set hk, if_neg hnk]; exact i2, by show (at_ (R.set _ _) k).1 = l; rw [at_set hk, if_neg hnk]; exact i3⟩
  ·
   rw [if_neg h1]
   exact ⟨by show k < (R.set _ _).length; rw [List.length_set]; exact i1, by show 0 < (at_ (R.set _ _) k).2; rw [at_set hk, if_neg hnk]; exact i2, by show (at_ (R.set _ _) k).1 = l; rw [at_set hk, if_neg hnk]; exact i3⟩
 ·
  rw [if_neg hu]; exact ⟨i1, i2, i3⟩
end Go.Proofs.Ytegjpiggjcfoaaa.se
