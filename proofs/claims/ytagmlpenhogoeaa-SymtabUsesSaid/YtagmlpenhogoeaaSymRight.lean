/- symtab.Right on a table as the calls make it; Find, free, used, Text, New. -/
import Derived.Test.YtagmlpenhogoeaaRows
import Derived.Test.YtagmlpenhogoeaaTab
import Derived.Maps.OwnSet
namespace Go.Proofs.Ytagmlpenhogoeaa
open Go.RowKit Go.ChangeShapes Go.Maps Go.WideMaps cl

def Said (x : Bool) (w : World) (e : Ending) (w' : World) : Prop := e = .returned (.bool x) ∧ Below w.heap.size w w'
theorem below_drewN {B : Nat} {w w' : World} (h : Below B w w') (n : Nat) : Below B w (w'.drewN n) := by
  induction n with
  | zero => exact h
  | succ n ih => exact ih.drew
theorem two {w w2 : World} {x y : Value} {t : TypeId} (hb : Below (w.alloc (.cells #[x, y] t)).heap.size (w.alloc (.cells #[x, y] t)) w2) :
    w2.cell? ⟨w.heap.size, 0, none⟩ = some x ∧ w2.cell? ⟨w.heap.size, 1, none⟩ = some y ∧ w2.frozen? ⟨w.heap.size, 0, none⟩ = false ∧ w2.frozen? ⟨w.heap.size, 1, none⟩ = false ∧ w.heap.size < w2.heap.size := by
  have hs : w.heap.size < (w.alloc (.cells #[x, y] t)).heap.size := by simp
  have c : ∀ (k : Nat) (u : Value), (#[x, y] : Array Value)[k]? = some u → w2.cell? ⟨w.heap.size, k, none⟩ = some u := fun k u hu =>
    (hb.cell (p := ⟨w.heap.size, k, none⟩) hs).trans (by rw [World.cell?_alloc_at _ _ _ _ rfl]; exact hu)
  have f : ∀ k : Nat, w2.frozen? ⟨w.heap.size, k, none⟩ = false := fun k => (hb.frozen (p := ⟨w.heap.size, k, none⟩) hs).trans (World.frozen?_alloc_at _ _ _ _ rfl)
  exact ⟨c 0 x rfl, c 1 y rfl, f 0, f 1, by have := hb.size; simp at this; omega⟩
theorem run_makeMap_hint {P : Program} {t k e : TypeId} (ht : P.underlying t = some (.map k e)) (n : Int) (w : World) : (Instr.makeMap t (some (.int .i64 n))).run P w = .ok (.map (some w.heap.size)) (w.alloc (.map #[] 0)) := by
  simp [Instr.makeMap, run_underlying ht, asInt]
  rfl
theorem mlaw : Keyed Try.prog 9 := string_keyed Try.underlying9
/-- a set of texts that a map keeps -/
def MapIs (D : DataW Unit) (U : List ByteArray) : Prop := Maps.size D = U.length ∧ ∀ s, s ∉ U → Maps.has D (.string s.data.toList) = false
theorem mapIs_nil : MapIs (.map []) [] := ⟨rfl, fun _ _ => rfl⟩
theorem mapIs_put {D : DataW Unit} {U : List ByteArray} {s : ByteArray} (h : MapIs D U) (ht : Tidy D) (hs : s ∉ U) (d : DataW Unit) : MapIs (D.put (.string s.data.toList) d) (U ++ [s]) := by
  refine ⟨by rw [size_put ht, h.2 s hs, List.length_append, h.1]; rfl, fun s' hs' => ?_⟩
  have hne : s' ≠ s := fun e => hs' (by rw [e]; simp)
  rw [has_put_other (fun e => hne (ByteArray.ext (Array.ext' (by simpa using e))))]
  exact h.2 s' (fun h2 => hs' (by simp [h2]))
/-- the used texts of the first k -/
def utexts (L : List tb.Sym) : Nat → List ByteArray
  | 0 => []
  | k + 1 => if 0 < (tb.at_ L k).2 then utexts L k ++ [(tb.at_ L k).1] else utexts L k
theorem utexts_len (L : List tb.Sym) : ∀ k, (utexts L k).length ≤ k := by
  intro k
  induction k with
  | zero => exact Nat.le_refl _
  | succ k ih =>
    unfold utexts
    split
    · rw [List.length_append]; show _ + 1 ≤ _; omega
    · omega
theorem utexts_mem {L : List tb.Sym} {s : ByteArray} : ∀ {k : Nat}, s ∈ utexts L k → ∃ j, j < k ∧ 0 < (tb.at_ L j).2 ∧ (tb.at_ L j).1 = s := by
  intro k
  induction k with
  | zero => intro h; cases h
  | succ k ih =>
    intro h
    unfold utexts at h
    split at h
    · rename_i hp
      rcases List.mem_append.1 h with h | h
      · obtain ⟨j, a, b⟩ := ih h; exact ⟨j, by omega, b⟩
      · simp only [List.mem_cons, List.not_mem_nil, or_false] at h
        exact ⟨k, by omega, hp, h.symm⟩
    · obtain ⟨j, a, b⟩ := ih h; exact ⟨j, by omega, b⟩

set_option maxHeartbeats 3200000 in
set_option maxRecDepth 100000 in
theorem symright_true (c : Int) (L : List tb.Sym) (vs : Value) (w : World) (hr : tb.Right c L) (h : Tabs w w.heap.size vs L) :
    Calls Try.prog 20 #[.agg #[vs, .int .i64 c]] w (Said true w) := by
  have hmm := fun (n : Int) (w : World) => run_makeMap_hint (P := Try.prog) Try.underlying45 n w
  obtain ⟨q0, hq0⟩ : ∃ q, q = L.length := ⟨_, rfl⟩
  obtain ⟨ao, cap, rfl⟩ : ∃ ao cap, vs = .slice ao q0 cap := by
    obtain ⟨ao, cap, e, _⟩ := h.form
    exact ⟨ao, cap, by rw [hq0]; exact e⟩
  have HC := Lib.hid h
  have HQ := Lib.hid hq0
  have HR := Lib.hid hr
  obtain ⟨hc0, hc1, hlc, _, _⟩ := hr
  rw [← hq0] at hlc
  have hn0 : ¬ c < 0 := by omega
  have hn1 : ¬ 24000 < c := by omega
  have hn2 : ¬ c < (q0 : Int) := by omega
  have hq4 : q0 ≤ 24000 := by omega
  have hA : Below w.heap.size w (w.alloc (.cells #[.slice ao q0 cap, .int .i64 c] 24)) := (Below.refl _ _).alloc (Nat.le_refl _) _
  clear h hq0
  go_enter Try.func20, Try.ntmps20
  go_wp2
  go_loopw [4, 5, 6, 30] (fun u4 _ _ i wr => ∃ (k : Nat) (D : DataW Unit), i = .int .i64 k ∧ k ≤ q0 ∧ u4 = .int .i64 (utexts L k).length ∧ Hid (MapIs D (utexts L k)) ∧ Hid (wr.ownsMap Try.prog 9 (plainElem Try.prog 3) (w.heap.size + 1) k D) ∧ Below (w.heap.size + 1) (w.alloc (.cells #[.slice ao q0 cap, .int .i64 c] 24)) wr) (fun _ _ _ i _ => q0 - (intOf i).toNat)
  case atStart =>
    refine ⟨0, .map [], rfl, by omega, rfl, mapIs_nil, ?_, ?_⟩
    · have := World.ownsMap_made (H := Unit) (w.alloc (.cells #[.slice ao q0 cap, .int .i64 c] 24)) (P := Try.prog) (k := 9) (plainElem Try.prog 3)
      rw [World.size_alloc] at this
      exact this
    · exact (Below.refl _ _).alloc (by rw [World.size_alloc]; exact Nat.le_refl _) _
  case round =>
    obtain ⟨k, D, rfl, hk, rfl, HM, HO, hbl⟩ := hrel
    have hb0 : Below w.heap.size w wr := hA.trans (hbl.mono (by omega))
    obtain ⟨d0, d1, f0, f1, hz⟩ := two (w := w) (w2 := wr) (t := 24) (by rw [World.size_alloc]; exact hbl)
    have hul := utexts_len L k
    by_cases hlt : k < q0
    · have hkI : (k : Int) < (q0 : Int) := by omega
      obtain ⟨b, off, rfl, hB, p0, p1⟩ := Tabs.get HC.out HQ.out hlt
      have e0 := (hb0.cell (p := ⟨b, off + k * 2, none⟩) hB).trans p0
      have e1 := (hb0.cell (p := ⟨b, off + k * 2 + 1, none⟩) hB).trans p1
      have hri := HR.out.2.2.2.1 k (by rw [← HQ.out]; exact hlt)
      have HUT : Hid (utexts L (k + 1) = if 0 < (tb.at_ L k).2 then utexts L k ++ [(tb.at_ L k).1] else utexts L k) := rfl
      have HNM : Hid (0 < (tb.at_ L k).2 → (tb.at_ L k).1 ∉ utexts L k) := fun hp hm => by
        obtain ⟨j, h1, h2, h3⟩ := utexts_mem hm
        exact HR.out.2.2.2.2 j k h1 (by rw [← HQ.out]; exact hlt) h2 hp h3
      obtain ⟨⟨s, r⟩, hx⟩ : ∃ x, x = tb.at_ L k := ⟨_, rfl⟩
      rw [← hx] at e0 e1 hri HUT HNM
      simp only at e0 e1 hri HUT HNM
      obtain ⟨hr0, hr1, hs6, hre⟩ := hri
      clear p0 p1 hx
      by_cases hp : 0 < r
      · have hre0 : (r == 0) = false := by simp; omega
        have hrn0 : ¬ r < 0 := by omega
        have hrn1 : ¬ 1099511627776 < r := by omega
        have hsz : ¬ (600 : Int) < (s.size : Int) := by omega
        have hsz1 : (s.size : Int) ≤ 9223372036854775807 := by omega
        have hkey : keyOf Try.prog 9 (.string s) = some (.string s.data.toList) := keyOf_string_mk Try.underlying9 (by unfold maxLen; omega)
        have HKEY := Lib.hid hkey
        have HUT2 : Hid (utexts L (k + 1) = utexts L k ++ [s]) := by show _ = _; rw [HUT.out, if_pos hp]
        have HUL : Hid ((utexts L (k + 1)).length = (utexts L k).length + 1) := by show _ = _; rw [HUT2.out, List.length_append]; rfl
        have HMP : Hid (MapIs (D.put (.string s.data.toList) (.lit (.int .i64 k))) (utexts L (k + 1))) := by
          show MapIs _ _
          rw [HUT2.out]; exact mapIs_put HM.out (HO.out.tidy mlaw) (HNM.out hp) _
        obtain ⟨u, hu⟩ : ∃ u, u = (utexts L k).length := ⟨_, rfl⟩
        rw [← hu] at HUL hul ⊢
        clear hkey hre hu
        go_wp2_with (at_mapUpdate; refine wpList_mapUpdate_own _ rfl _ _ _ 45 rfl 9 3 mlaw Try.underlying45 _ (w.heap.size + 1) k _ rfl (HO.out.alloc _) (by unfold maxLen; omega) _ _ _ rfl rfl HKEY.out _ [] (plainElem_int Try.underlying3 (WalkArith.wf_i64 (by omega))) ?_)
        intro w1 hown1 hgrow1
        have HO1 := Lib.hid hown1
        have hbl1 : Below (w.heap.size + 1) (w.alloc (.cells #[.slice (some ⟨b, off, none⟩) q0 cap, .int .i64 c] 24)) w1 := (hbl.alloc (by have : w.heap.size < wr.heap.size := hz; omega) _).grown hgrow1 (by have : w.heap.size < wr.heap.size := hz; simp; omega) (fun j hj => by cases hj; exact Nat.le_refl _)
        clear hown1 hgrow1
        go_wp2
        go_roundw
        case rel => exact ⟨k + 1, _, by go_num, by omega, by rw [HUL.out]; go_num, HMP.out, HO1.out, hbl1⟩
        case measure => simp [intOf]; omega
      · obtain rfl : r = 0 := by omega
        obtain rfl := hre rfl
        have HUT2 : Hid (utexts L (k + 1) = utexts L k) := by show _ = _; rw [HUT.out, if_neg hp]
        have HM2 : Hid (MapIs D (utexts L (k + 1))) := by show MapIs _ _; rw [HUT2.out]; exact HM.out
        have HUL : Hid ((utexts L (k + 1)).length = (utexts L k).length) := by show _ = _; rw [HUT2.out]
        obtain ⟨u, hu⟩ : ∃ u, u = (utexts L k).length := ⟨_, rfl⟩
        rw [← hu] at HUL hul ⊢
        have HO1 := Lib.hid (HO.out.alloc (.cells #[.string .empty, .int .i64 0] 51))
        have hbl1 := hbl.alloc (by have : w.heap.size < wr.heap.size := hz; omega) (.cells #[.string .empty, .int .i64 0] 51)
        clear hre hu hp
        go_wp2
        go_roundw
        case rel => exact ⟨k + 1, D, by go_num, by omega, by rw [HUL.out], HM2.out, HO1.out.mono (Nat.le_succ k), hbl1⟩
        case measure => simp [intOf]; omega
    · obtain rfl : k = q0 := by omega
      have HS : Hid (Maps.size D = (utexts L k).length) := HM.out.1
      obtain ⟨u, hu⟩ : ∃ u, u = (utexts L k).length := ⟨_, rfl⟩
      rw [← hu] at HS hul ⊢
      clear hu
      have hs := HS.out
      go_wp2_with (at_len; refine wpList_len_own _ rfl _ 45 rfl 9 3 Try.underlying45 _ (w.heap.size + 1) k D rfl HO.out ?_)
      go_ret
      exact ⟨rfl, hb0⟩
end Go.Proofs.Ytagmlpenhogoeaa
