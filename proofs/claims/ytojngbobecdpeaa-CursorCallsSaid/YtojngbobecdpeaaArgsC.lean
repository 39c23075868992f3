/- a cursor as an argument. -/
import Derived.Test.YtojngbobecdpeaaCurLaw0
import Derived.Test.YtojngbobecdpeaaArgs
import Derived.WideShapes
import Derived.ChangeArms
import Derived.Deep.Slices
namespace Go.Proofs.Ytojngbobecdpeaa
open Go Go.RowKit Go.WideShapes Go.ChangeShapes at_ pm cl
section
variable {H : Type} {enc : TypeId × Value → H} {W : World}
theorem ci7 : Try.prog.cellsOf 3 = 1 := by kernel_rfl
theorem csi7 : Try.prog.cellsOf 22 = 1 := by kernel_rfl
theorem csc7 : Try.prog.cellsOf 23 = 1 := by kernel_rfl
theorem ccu7 : Try.prog.cellsOf 25 = 4 := by kernel_rfl
/-- four cells stand for some cursor -/
def curE : Rel Cur := fun w B c x => ∃ d, curR d w B c x
theorem rows_sup {w : World} {B : Nat} {v : Value} {l : List Cur} (h : RowsAt 4 curE w B v l) : ∃ d, RowsAt 4 (curR d) w B v l := by
  obtain ⟨cs, h0, h1, h2⟩ := h
  have key : ∀ n, ∃ d, ∀ (j : Nat) (c : List Value) (x : Cur), j < n → cs[j]? = some c → l[j]? = some x → curR d w B c x := by
    intro n
    induction n with
    | zero => exact ⟨0, fun j c x hj => absurd hj (Nat.not_lt_zero _)⟩
    | succ n ih =>
      obtain ⟨d, hd⟩ := ih
      by_cases hn : n < cs.length
      · have hn2 : n < l.length := by omega
        obtain ⟨_, e, he⟩ := h1 n cs[n] l[n] (List.getElem?_eq_getElem hn) (List.getElem?_eq_getElem hn2)
        refine ⟨max d e, fun j c x hj hc hx => ?_⟩
        by_cases hjn : j = n
        · subst hjn
          rw [List.getElem?_eq_getElem hn] at hc
          rw [List.getElem?_eq_getElem hn2] at hx
          cases hc; cases hx
          exact curR_le (Nat.le_max_right _ _) he
        · exact curR_le (Nat.le_max_left _ _) (hd j c x (by omega) hc hx)
      · refine ⟨d, fun j c x hj hc hx => hd j c x ?_ hc hx⟩
        have := (List.getElem?_eq_some_iff.1 hc).1
        omega
  obtain ⟨d, hd⟩ := key cs.length
  exact ⟨d, cs, h0, fun j c x hc hx => ⟨(h1 j c x hc hx).1, hd j c x (List.getElem?_eq_some_iff.1 hc).1 hc hx⟩, h2⟩
/-- a slice of cursors, where cursors of less fuel are opened -/
theorem kids_open {n : Nat} {v : Value} {x : DataW H × List MemPlace}
    (hel : ∀ (f : Nat) (cs : List Value) (y : DataW H × List MemPlace), f < n → cs.length = 4 → DataW.trod enc Try.prog W 0 (fun _ => true) true f 25 cs = some y → ∃ a : Cur, curE W W.heap.size cs a)
    (h : DataW.trod enc Try.prog W 0 (fun _ => true) true n 23 [v] = some x) : ∃ l : List Cur, RowsAt 4 curE W W.heap.size v l := by
  rcases DataW.trod_slice Try.underlying23 h with ⟨hcs, _⟩ | ⟨a, len, cap, elems, rest, f, hf, hcs, _, _, hle, hmax, hel2, hcell, _, _⟩
  · obtain rfl := (List.cons.inj hcs).1
    exact ⟨[], RowsAt.nil _ _⟩
  · obtain rfl := (List.cons.inj hcs).1
    rw [ccu7] at hcell
    have each : ∀ i, i < len → ∃ z : List Value × Cur, z.1.length = 4 ∧ (∀ j, j < 4 → W.cell? (a.add (i * 4 + j)) = z.1[j]?) ∧ curE W W.heap.size z.1 z.2 := fun i hi => by
      have hc := hcell i hi
      rw [List.getElem?_eq_getElem (by omega)] at hc
      obtain ⟨cs', h1, h2⟩ := Option.bind_eq_some_iff.1 hc
      obtain ⟨_, hlen, hcc⟩ := World.cells?_some h1
      obtain ⟨y, hy⟩ := hel f cs' _ (by omega) hlen h2
      refine ⟨(cs', y), hlen, fun j hj => ?_, hy⟩
      have := hcc j (by omega)
      rwa [Deep.add_add] at this
    obtain ⟨f2, hf2⟩ := Deep.choose_lt each
    have hl : ((List.range len).map fun i => (f2 i).2).length = len := by simp
    have hl1 : ((List.range len).map fun i => (f2 i).1).length = len := by simp
    have hall : ∀ c ∈ (List.range len).map (fun i => (f2 i).1), c.length = 4 := by
      intro c hc
      obtain ⟨i, hi, rfl⟩ := List.mem_map.1 hc
      exact (hf2 i (List.mem_range.1 hi)).1
    refine ⟨(List.range len).map fun i => (f2 i).2, (List.range len).map fun i => (f2 i).1, by rw [hl, hl1], fun j c y hc hy => ?_, ⟨by rw [flat_len _ hall, hl1, hl], some a, cap, by rw [hl], ⟨(fun e => by cases e), by rw [hl]; exact hle⟩, by rw [hl]; omega, fun hp => ?_⟩⟩
    · have hj : j < len := by have := (List.getElem?_eq_some_iff.1 hc).1; omega
      simp only [List.getElem?_map, List.getElem?_range hj, Option.map_some, Option.some.injEq] at hc hy
      subst hc
      subst hy
      exact ⟨(hf2 j hj).1, (hf2 j hj).2.2⟩
    · rw [hl] at hp
      obtain ⟨b, off, spot⟩ := a
      have hcell2 : ∀ (j : Nat) u, ((List.range len).map fun i => (f2 i).1).flatten[j]? = some u → W.cell? ((⟨b, off, spot⟩ : Addr).add j) = some u := by
        intro j u hu
        have hjl : j < len * 4 := by
          have := (List.getElem?_eq_some_iff.1 hu).1
          rw [flat_len _ hall, hl1] at this; exact this
        have hq : j / 4 < len := by omega
        have := (hf2 (j / 4) hq).2.1 (j % 4) (by omega)
        rw [show j / 4 * 4 + j % 4 = j by omega] at this
        rw [this]
        have hfg := flat_get _ hall (j / 4) (f2 (j / 4)).1 (j % 4) (by simp [hq]) (by omega)
        rw [show j / 4 * 4 + j % 4 = j by omega] at hfg
        rw [← hfg]; exact hu
      have h0 : (((List.range len).map fun i => (f2 i).1).flatten)[0]? = some ((((List.range len).map fun i => (f2 i).1).flatten)[0]'(by rw [flat_len _ hall, hl1]; omega)) := List.getElem?_eq_getElem _
      have hz := hcell2 0 _ h0
      have hspot : spot = none := by simpa [Addr.add] using World.cell?_spot hz
      subst hspot
      refine ⟨b, off, rfl, ?_, fun j u hu => ?_⟩
      · have := cell_lt hz
        simpa [Addr.add_lit] using this
      · have := hcell2 j u hu
        rwa [Addr.add_lit] at this
theorem ints_open {n : Nat} {v : Value} {x : DataW H × List MemPlace} (h : DataW.trod enc Try.prog W 0 (fun _ => true) true n 22 [v] = some x) : ∃ l : List Int, At W W.heap.size v l := by
  rcases open_ints Try.underlying22 Try.underlying3 ci7 h with ⟨hcs, _⟩ | ⟨a, len, cap, zs, hcs, _, hle, hmax, hall, _, hcell, _⟩
  · obtain rfl := (List.cons.inj hcs).1
    exact ⟨[], at_.nil _ _⟩
  · obtain rfl := (List.cons.inj hcs).1
    simp only [if_true] at hall
    have hlen : (zs.take len).length = len := by rw [List.length_take]; omega
    refine ⟨zs.take len, ⟨some a, cap, by rw [hlen], ⟨(fun e => by cases e), by omega⟩, by omega, fun hp => ?_⟩⟩
    obtain ⟨b, off, rfl, hat⟩ := Go.ints_at hcell (by omega)
    refine ⟨b, off, rfl, by simpa using cell_lt (hat 0 (by omega)), fun j hj => ?_⟩
    have := hat j (by omega)
    rw [this]
    simp [List.getD, show j < len by omega]
theorem cur_open : ∀ (fuel : Nat) (cs : List Value) (x : DataW H × List MemPlace), cs.length = 4 → DataW.trod enc Try.prog W 0 (fun _ => true) true fuel 25 cs = some x → ∃ a : Cur, curE W W.heap.size cs a := by
  intro fuel
  induction fuel using Nat.strongRecOn with
  | _ fuel ih =>
    intro cs x hl h
    obtain ⟨xs, n, hn, _, _, hxl, hp⟩ := DataW.trod_struct Try.underlying25 h
    match cs, hl with
    | [c0, c1, c2, c3], _ =>
      have g0 := hp 0 _ rfl
      have g1 := hp 1 _ rfl
      have g2 := hp 2 _ rfl
      have g3 := hp 3 _ rfl
      have hx : ∀ i, i < 4 → ∃ y, xs[i]? = some y := fun i hi => ⟨_, List.getElem?_eq_getElem (by rw [hxl]; exact hi)⟩
      obtain ⟨y0, e0⟩ := hx 0 (by omega)
      obtain ⟨y1, e1⟩ := hx 1 (by omega)
      obtain ⟨y2, e2⟩ := hx 2 (by omega)
      obtain ⟨y3, e3⟩ := hx 3 (by omega)
      rw [e0] at g0
      rw [e1] at g1
      rw [e2] at g2
      rw [e3] at g3
      simp [ci7, csi7, csc7] at g0 g1 g2 g3
      obtain ⟨k, ek, _, _⟩ := DataW.trod_int Try.underlying3 g0
      obtain ⟨a, ea, _, _⟩ := DataW.trod_int Try.underlying3 g2
      simp only [List.cons.injEq, and_true] at ek ea
      subst ek; subst ea
      obtain ⟨l, hA⟩ := ints_open g1
      obtain ⟨ks, hK⟩ := kids_open (n := n) (fun f cs y hf hl hy => ih f (by omega) cs y hl hy) g3
      obtain ⟨d, hK⟩ := rows_sup hK
      obtain ⟨ko, kc, rfl, _⟩ := hK.form
      obtain ⟨lo, lc, rfl, _⟩ := id hA
      exact ⟨.mk k l a ks, d + 1, _, _, _, _, _, _, rfl, hA, hK⟩
/-- the argument opened -/
theorem open_cur {r : Reach} {b0 : Nat} {v : Value} {d : DataW H} {ps : List MemPlace} (hval : Value.okWide Try.prog W r b0 25 v) (hd : DataW.Trod enc Try.prog W 0 (fun _ => true) true 25 v d ps) : ∃ (e : Nat) (c : List Value) (x : Cur), v = .agg c.toArray ∧ curR e W W.heap.size c x := by
  obtain ⟨cs, rfl, hsz⟩ := okWide_struct Try.underlying25 hval
  rw [ccu7] at hsz
  obtain ⟨fuel, hf⟩ := hd
  obtain ⟨x, e, hx⟩ := cur_open fuel cs.toList _ (by rw [Array.length_toList]; exact hsz) hf
  exact ⟨e, cs.toList, x, by rw [Array.toArray_toList], hx⟩
end
end Go.Proofs.Ytojngbobecdpeaa
