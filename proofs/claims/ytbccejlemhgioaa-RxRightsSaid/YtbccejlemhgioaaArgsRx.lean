/- a pattern as an argument. -/
import Derived.Test.YtbccejlemhgioaaRxArgs
import Derived.Test.YtbccejlemhgioaaRxBase
import Derived.WideShapes
import Derived.ChangeArms
import Derived.Deep.Slices
namespace Go.Proofs.Ytbccejlemhgioaa
open Go Go.RowKit Go.WideShapes Go.ChangeShapes cl rx
section
variable {H : Type} {enc : TypeId × Value → H} {W : World}
theorem rx_ci : Try.prog.cellsOf 3 = 1 := by kernel_rfl
theorem rx_cs : Try.prog.cellsOf 26 = 1 := by kernel_rfl
theorem rx_cr : Try.prog.cellsOf 28 = 8 := by kernel_rfl
/-- eight cells stand for some pattern -/
def rxE : Rel Pat := fun w B c x => ∃ d, rxR d w B c x
theorem rxrows_sup {w : World} {B : Nat} {v : Value} {l : List Pat} (h : RowsAt 8 rxE w B v l) : ∃ d, RowsAt 8 (rxR d) w B v l := by
  obtain ⟨cs, h0, h1, h2⟩ := h
  have key : ∀ n, ∃ d, ∀ (j : Nat) (c : List Value) (x : Pat), j < n → cs[j]? = some c → l[j]? = some x → rxR d w B c x := by
    intro n
    induction n with
    | zero => exact ⟨0, fun j c x hj => absurd hj (Nat.not_lt_zero _)⟩
    | succ n ih =>
      obtain ⟨d, hd⟩ := ih
      by_cases hn : n < cs.length
      · have hn2 : n < l.length := by omega
        obtain ⟨_, e, he⟩ := h1 n cs[n] l[n] (List.getElem?_eq_getElem hn) (List.getElem?_eq_getElem hn2)
        refine ⟨max d e, fun j c x hj hc hx => ?_⟩
        by_cases hjn : j = n
        · subst hjn
          rw [List.getElem?_eq_getElem hn] at hc
          rw [List.getElem?_eq_getElem hn2] at hx
          cases hc; cases hx
          exact rxR_le (Nat.le_max_right _ _) he
        · exact rxR_le (Nat.le_max_left _ _) (hd j c x (by omega) hc hx)
      · refine ⟨d, fun j c x hj hc hx => hd j c x ?_ hc hx⟩
        have := (List.getElem?_eq_some_iff.1 hc).1
        omega
  obtain ⟨d, hd⟩ := key cs.length
  exact ⟨d, cs, h0, fun j c x hc hx => ⟨(h1 j c x hc hx).1, hd j c x (List.getElem?_eq_some_iff.1 hc).1 hc hx⟩, h2⟩
/-- a slice of patterns, where patterns of less fuel are opened -/
theorem rxkids_open {n : Nat} {v : Value} {x : DataW H × List MemPlace}
    (hel : ∀ (f : Nat) (cs : List Value) (y : DataW H × List MemPlace), f < n → cs.length = 8 → DataW.trod enc Try.prog W 0 (fun _ => true) true f 28 cs = some y → ∃ a : Pat, rxE W W.heap.size cs a)
    (h : DataW.trod enc Try.prog W 0 (fun _ => true) true n 26 [v] = some x) : ∃ l : List Pat, RowsAt 8 rxE W W.heap.size v l := by
  rcases DataW.trod_slice Try.underlying26 h with ⟨hcs, _⟩ | ⟨a, len, cap, elems, rest, f, hf, hcs, _, _, hle, hmax, hel2, hcell, _, _⟩
  · obtain rfl := (List.cons.inj hcs).1
    exact ⟨[], RowsAt.nil _ _⟩
  · obtain rfl := (List.cons.inj hcs).1
    rw [rx_cr] at hcell
    have each : ∀ i, i < len → ∃ z : List Value × Pat, z.1.length = 8 ∧ (∀ j, j < 8 → W.cell? (a.add (i * 8 + j)) = z.1[j]?) ∧ rxE W W.heap.size z.1 z.2 := fun i hi => by
      have hc := hcell i hi
      rw [List.getElem?_eq_getElem (by omega)] at hc
      obtain ⟨cs', h1, h2⟩ := Option.bind_eq_some_iff.1 hc
      obtain ⟨_, hlen, hcc⟩ := World.cells?_some h1
      obtain ⟨y, hy⟩ := hel f cs' _ (by omega) hlen h2
      refine ⟨(cs', y), hlen, fun j hj => ?_, hy⟩
      have := hcc j (by omega)
      rwa [Deep.add_add] at this
    obtain ⟨f2, hf2⟩ := Deep.choose_lt each
    have hl : ((List.range len).map fun i => (f2 i).2).length = len := by simp
    have hl1 : ((List.range len).map fun i => (f2 i).1).length = len := by simp
    have hall : ∀ c ∈ (List.range len).map (fun i => (f2 i).1), c.length = 8 := by
      intro c hc
      obtain ⟨i, hi, rfl⟩ := List.mem_map.1 hc
      exact (hf2 i (List.mem_range.1 hi)).1
    refine ⟨(List.range len).map fun i => (f2 i).2, (List.range len).map fun i => (f2 i).1, by rw [hl, hl1], fun j c y hc hy => ?_, ⟨by rw [flat_len _ hall, hl1, hl], some a, cap, by rw [hl], ⟨(fun e => by cases e), by rw [hl]; exact hle⟩, by rw [hl]; omega, fun hp => ?_⟩⟩
    · have hj : j < len := by have := (List.getElem?_eq_some_iff.1 hc).1; omega
      simp only [List.getElem?_map, List.getElem?_range hj, Option.map_some, Option.some.injEq] at hc hy
      subst hc
      subst hy
      exact ⟨(hf2 j hj).1, (hf2 j hj).2.2⟩
    · rw [hl] at hp
      obtain ⟨b, off, spot⟩ := a
      have hcell2 : ∀ (j : Nat) u, ((List.range len).map fun i => (f2 i).1).flatten[j]? = some u → W.cell? ((⟨b, off, spot⟩ : Addr).add j) = some u := by
        intro j u hu
        have hjl : j < len * 8 := by
          have := (List.getElem?_eq_some_iff.1 hu).1
          rw [flat_len _ hall, hl1] at this; exact this
        have hq : j / 8 < len := by omega
        have := (hf2 (j / 8) hq).2.1 (j % 8) (by omega)
        rw [show j / 8 * 8 + j % 8 = j by omega] at this
        rw [this]
        have hfg := flat_get _ hall (j / 8) (f2 (j / 8)).1 (j % 8) (by simp [hq]) (by omega)
        rw [show j / 8 * 8 + j % 8 = j by omega] at hfg
        rw [← hfg]; exact hu
      have h0 : (((List.range len).map fun i => (f2 i).1).flatten)[0]? = some ((((List.range len).map fun i => (f2 i).1).flatten)[0]'(by rw [flat_len _ hall, hl1]; omega)) := List.getElem?_eq_getElem _
      have hz := hcell2 0 _ h0
      have hspot : spot = none := by simpa [Addr.add] using World.cell?_spot hz
      subst hspot
      refine ⟨b, off, rfl, ?_, fun j u hu => ?_⟩
      · have hz := hz
        rw [Addr.add_lit] at hz
        exact World.block_lt_of_cell? _ _ hz
      · have := hcell2 j u hu
        rwa [Addr.add_lit] at this
theorem rx_open : ∀ (fuel : Nat) (cs : List Value) (x : DataW H × List MemPlace), cs.length = 8 → DataW.trod enc Try.prog W 0 (fun _ => true) true fuel 28 cs = some x → ∃ a : Pat, rxE W W.heap.size cs a := by
  intro fuel
  induction fuel using Nat.strongRecOn with
  | _ fuel ih =>
    intro cs x hl h
    obtain ⟨xs, n, hn, _, _, hxl, hp⟩ := DataW.trod_struct Try.underlying28 h
    match cs, hl with
    | [c0, c1, c2, c3, c4, c5, c6, c7], _ =>
      have g0 := hp 0 _ rfl
      have g1 := hp 1 _ rfl
      have g2 := hp 2 _ rfl
      have g3 := hp 3 _ rfl
      have g4 := hp 4 _ rfl
      have hx : ∀ i, i < 5 → ∃ y, xs[i]? = some y := fun i hi => ⟨_, List.getElem?_eq_getElem (by rw [hxl]; exact hi)⟩
      obtain ⟨y0, e0⟩ := hx 0 (by omega)
      obtain ⟨y1, e1⟩ := hx 1 (by omega)
      obtain ⟨y2, e2⟩ := hx 2 (by omega)
      obtain ⟨y3, e3⟩ := hx 3 (by omega)
      obtain ⟨y4, e4⟩ := hx 4 (by omega)
      rw [e0] at g0
      rw [e1] at g1
      rw [e2] at g2
      rw [e3] at g3
      rw [e4] at g4
      simp [rx_ci, rx_cs, cls_cells] at g0 g1 g2 g3 g4
      obtain ⟨k, ek, _, _⟩ := DataW.trod_int Try.underlying3 g0
      obtain ⟨mn, em, _, _⟩ := DataW.trod_int Try.underlying3 g3
      obtain ⟨mx, ex, _, _⟩ := DataW.trod_int Try.underlying3 g4
      simp only [List.cons.injEq, and_true] at ek em ex
      subst ek; subst em; subst ex
      obtain ⟨z0, z1, z2, z3, m, hx, hy0, hy1, hy2, hy3⟩ := trod_array4 Try.underlying25 wrd_cells g1
      obtain ⟨x0, f0, rfl, w0⟩ := DataW.trod_int Try.underlying23 hy0
      obtain ⟨x1, f1, rfl, w1⟩ := DataW.trod_int Try.underlying23 hy1
      obtain ⟨x2, f2, rfl, w2⟩ := DataW.trod_int Try.underlying23 hy2
      obtain ⟨x3, f3, rfl, w3⟩ := DataW.trod_int Try.underlying23 hy3
      simp at f0 f1 f2 f3
      subst f0 f1 f2 f3
      have v0 := wf_u64 w0
      have v1 := wf_u64 w1
      have v2 := wf_u64 w2
      have v3 := wf_u64 w3
      obtain ⟨ks, hK⟩ := rxkids_open (n := n) (fun f cs y hf hl hy => ih f (by omega) cs y hl hy) g2
      obtain ⟨d, hK⟩ := rxrows_sup hK
      obtain ⟨ko, kc, rfl, _⟩ := hK.form
      refine ⟨.mk k ⟨x0.toNat, x1.toNat, x2.toNat, x3.toNat⟩ ks mn mx, d + 1, ko, _, kc, ?_, hK⟩
      simp only [Pat.k, Pat.cl, Pat.mn, Pat.mx, Int.toNat_of_nonneg v0.1, Int.toNat_of_nonneg v1.1, Int.toNat_of_nonneg v2.1, Int.toNat_of_nonneg v3.1]
/-- the argument opened -/
theorem open_rx {r : Reach} {b0 : Nat} {v : Value} {d : DataW H} {ps : List MemPlace} (hval : Value.okWide Try.prog W r b0 28 v) (hd : DataW.Trod enc Try.prog W 0 (fun _ => true) true 28 v d ps) : ∃ (e : Nat) (c : List Value) (x : Pat), v = .agg c.toArray ∧ rxR e W W.heap.size c x := by
  obtain ⟨cs, rfl, hsz⟩ := okWide_struct Try.underlying28 hval
  rw [rx_cr] at hsz
  obtain ⟨fuel, hf⟩ := hd
  obtain ⟨x, e, hx⟩ := rx_open fuel cs.toList _ (by rw [Array.length_toList]; exact hsz) hf
  exact ⟨e, cs.toList, x, by rw [Array.toArray_toList], hx⟩
end
end Go.Proofs.Ytbccejlemhgioaa
