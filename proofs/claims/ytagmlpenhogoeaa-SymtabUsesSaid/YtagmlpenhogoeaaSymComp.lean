/- symtab.Compact on a table as the calls make it. -/
import Derived.Test.YtagmlpenhogoeaaSymLaw
import Derived.Test.YtagmlpenhogoeaaApp
import Derived.Test.YtagmlpenhogoeaaAt
namespace Go.Proofs.Ytagmlpenhogoeaa.tb
/-- what stays of the first k -/
def keep (L : List Sym) : Nat → List Sym
  | 0 => []
  | k + 1 => if (at_ L k).2 = 0 then keep L k else keep L k ++ [at_ L k]
/-- where place j goes -/
def mov (L : List Sym) (j : Nat) : Int := if (at_ L j).2 = 0 then -1 else ((keep L j).length : Int)
def movs (L : List Sym) (n k : Nat) : List Int := (List.range n).map fun j => if j < k then mov L j else 0
theorem keep_len (L : List Sym) : ∀ k, (keep L k).length ≤ k := by
  intro k
  induction k with
  | zero => exact Nat.le_refl _
  | succ k ih =>
    unfold keep
    split
    · omega
    · rw [List.length_append]; show _ + 1 ≤ _; omega
theorem movs_len (L : List Sym) (n k : Nat) : (movs L n k).length = n := by simp [movs]
theorem movs_zero (L : List Sym) (n : Nat) : movs L n 0 = List.replicate n 0 := by
  refine List.ext_getElem (by simp [movs]) fun i h1 h2 => ?_
  simp [movs]
theorem movs_set (L : List Sym) {n k : Nat} (_ : k < n) : (movs L n k).set k (mov L k) = movs L n (k + 1) := by
  refine List.ext_getElem (by simp [movs]) fun i h1 h2 => ?_
  simp only [movs, List.getElem_set, List.getElem_map, List.getElem_range]
  by_cases e : k = i
  · subst e; rw [if_pos rfl, if_pos (by omega)]
  · rw [if_neg e]
    by_cases e2 : i < k
    · rw [if_pos e2, if_pos (by omega)]
    · rw [if_neg e2, if_neg (by omega)]
/-- what stays comes, one by one, from the places in their order -/
theorem keep_from (L : List Sym) : ∀ k i, i < (keep L k).length → ∃ j, j < k ∧ ¬ (at_ L j).2 = 0 ∧ (keep L j).length = i ∧ at_ (keep L k) i = at_ L j := by
  intro k
  induction k with
  | zero => intro i h; exact absurd h (Nat.not_lt_zero _)
  | succ k ih =>
    intro i h
    by_cases e : (at_ L k).2 = 0
    · have hk : keep L (k + 1) = keep L k := by rw [keep, if_pos e]
      rw [hk] at h ⊢
      obtain ⟨j, h1, h2⟩ := ih i h
      exact ⟨j, by omega, h2⟩
    · have hk : keep L (k + 1) = keep L k ++ [at_ L k] := by rw [keep, if_neg e]
      rw [hk] at h ⊢
      rw [List.length_append] at h
      by_cases hi : i < (keep L k).length
      · obtain ⟨j, h1, h2, h3, h4⟩ := ih i hi
        exact ⟨j, by omega, h2, h3, by rw [at_snoc, if_pos hi]; exact h4⟩
      · have hi2 : i = (keep L k).length := by have : i < (keep L k).length + 1 := h; omega
        exact ⟨k, by omega, e, hi2.symm, by rw [at_snoc, if_neg hi, if_pos hi2]⟩
theorem keep_mono (L : List Sym) {i j : Nat} (h : i ≤ j) : (keep L i).length ≤ (keep L j).length := by
  induction j with
  | zero => obtain rfl : i = 0 := by omega
            exact Nat.le_refl _
  | succ j ih =>
    by_cases e : i = j + 1
    · subst e; exact Nat.le_refl _
    · have h1 := ih (by omega)
      rw [keep]
      split
      · exact h1
      · rw [List.length_append]; omega
theorem keep_to (L : List Sym) {k j : Nat} (hj : j < k) (h0 : ¬ (at_ L j).2 = 0) : (keep L j).length < (keep L k).length ∧ at_ (keep L k) (keep L j).length = at_ L j := by
  induction k with
  | zero => omega
  | succ k ih =>
    by_cases e : j = k
    · subst e
      rw [keep, if_neg h0, List.length_append]
      exact ⟨by show _ < _ + 1; omega, by rw [at_snoc, if_neg (Nat.lt_irrefl _), if_pos rfl]⟩
    · obtain ⟨h1, h2⟩ := ih (by omega)
      rw [keep]
      split
      · exact ⟨h1, h2⟩
      · rw [List.length_append]
        exact ⟨by omega, by rw [at_snoc, if_pos h1]; exact h2⟩
theorem right_keep {c : Int} {L : List Sym} (h : Right c L) : Right c (keep L L.length) := by
  have hl := keep_len L L.length
  obtain ⟨a, b, d, e, f⟩ := h
  refine ⟨a, b, by omega, fun i hi => ?_, fun i j hij hj hi0 hj0 => ?_⟩
  · obtain ⟨j, h1, _, _, h4⟩ := keep_from L _ i hi
    rw [h4]; exact e j h1
  · obtain ⟨p, h1, _, h3, h4⟩ := keep_from L _ i (Nat.lt_trans hij hj)
    obtain ⟨r, g1, _, g3, g4⟩ := keep_from L _ j hj
    rw [h4] at hi0 ⊢
    rw [g4] at hj0 ⊢
    have hpr : p < r := by
      rcases Nat.lt_or_ge p r with h | h
      · exact h
      · have := keep_mono L (i := r) (j := p) h
        rw [g3, h3] at this
        omega
    exact f p r hpr g1 hi0 hj0
end Go.Proofs.Ytagmlpenhogoeaa.tb
namespace Go.Proofs.Ytagmlpenhogoeaa
open Go.RowKit Go.ChangeShapes cl at_

theorem infoInt : (Try.prog.info? 3).map (fun i => (i.zero, i.size, i.bytes)) = some (some (.int .i64 0), 1, 8) := by kernel_rfl
theorem made_ints (n : Nat) : (madeCells #[Value.int .i64 0] n).toList = i64s (List.replicate n 0) := by
  refine List.ext_getElem (by simp [i64s, madeCells]) fun i h1 h2 => ?_
  simp [madeCells, i64s, Nat.mod_one]
theorem i64s_set (l : List Int) (k : Nat) (x : Int) : (i64s l).set k (.int .i64 x) = i64s (l.set k x) := by simp [i64s, List.map_set]
theorem own_slice {w : World} {B e k n : Nat} {v : Value} {xs : List Value} (h : w.ownsRow B e k v n xs) : ∃ a c, v = .slice a n c := by
  rcases h.2 with ⟨rfl, rfl⟩ | ⟨g, cap, _, rfl, _⟩
  · exact ⟨_, _, rfl⟩
  · exact ⟨_, _, rfl⟩
def CompP (c : Int) (L : List tb.Sym) (w : World) (e : Ending) (w' : World) : Prop :=
  ∃ (a1 : Option Addr) (c1 : Nat) (a2 : Option Addr) (c2 : Nat), e = .returned (.tuple #[.agg #[.slice a1 (tb.keep L L.length).length c1, .int .i64 c], .slice a2 L.length c2]) ∧ (∀ b off, a1 = some ⟨b, off, none⟩ → w.heap.size ≤ b) ∧
    Tabs w' w'.heap.size (.slice a1 (tb.keep L L.length).length c1) (tb.keep L L.length) ∧ At w' w'.heap.size (.slice a2 L.length c2) (tb.movs L L.length L.length) ∧ Below w.heap.size w w'

set_option maxHeartbeats 6400000 in
set_option maxRecDepth 100000 in
theorem compact_right (c : Int) (L : List tb.Sym) (vs : Value) (w : World) (hr : tb.Right c L) (h : Tabs w w.heap.size vs L) :
    Calls Try.prog 14 #[.agg #[vs, .int .i64 c]] w (CompP c L w) := by
  have HRT : Hid (∀ W, Below w.heap.size w W → Calls Try.prog 20 #[.agg #[vs, .int .i64 c]] W (Said true W)) := fun W hW => symright_true c L vs W hr ((h.below hW).mono hW.size)
  have HCP : Hid (∀ e w', (∃ (a1 : Option Addr) (c1 : Nat) (a2 : Option Addr) (c2 : Nat), e = .returned (.tuple #[.agg #[.slice a1 (tb.keep L L.length).length c1, .int .i64 c], .slice a2 L.length c2]) ∧ (∀ b off, a1 = some ⟨b, off, none⟩ → w.heap.size ≤ b) ∧
    Tabs w' w'.heap.size (.slice a1 (tb.keep L L.length).length c1) (tb.keep L L.length) ∧ At w' w'.heap.size (.slice a2 L.length c2) (tb.movs L L.length L.length) ∧ Below w.heap.size w w') → CompP c L w e w') := fun _ _ h => h
  obtain ⟨n, hn⟩ : ∃ n, n = L.length := ⟨_, rfl⟩
  obtain ⟨ao, cap, rfl⟩ : ∃ ao cap, vs = .slice ao n cap := by
    obtain ⟨ao, cap, e, _⟩ := h.form
    exact ⟨ao, cap, by rw [hn]; exact e⟩
  have HC := Lib.hid h
  have HQ := Lib.hid hn
  have HR := Lib.hid hr
  obtain ⟨hc0, hc1, hlc, _, _⟩ := hr
  rw [← hn] at hlc HCP
  have hn4 : n ≤ 24000 := by omega
  have hA0 : Below (w.heap.size + 2) ((w.alloc (.cells #[.slice ao n cap, .int .i64 c] 24)).alloc (.cells #[.slice none 0 0, .int .i64 0] 24)) ((w.alloc (.cells #[.slice ao n cap, .int .i64 c] 24)).alloc (.cells #[.slice none 0 0, .int .i64 0] 24)) := Below.refl _ _
  obtain ⟨_, _, _, _, _, _, _, hA⟩ := boxes2 hA0
  have HR1 := Lib.hid (HRT.out _ hA)
  obtain ⟨i0, hi, hz0, hz1, hz2⟩ := info_parts infoSym
  have HI := Lib.hid (And.intro hi (And.intro hz0 (And.intro hz1 hz2)))
  obtain ⟨j0, gi, gz0, gz1, gz2⟩ := info_parts infoInt
  have HJ := Lib.hid (And.intro gi (And.intro gz0 (And.intro gz1 gz2)))
  clear h hn hA0 HRT hi hz0 hz1 hz2 gi gz0 gz1 gz2
  go_enter Try.func14, Try.ntmps14
  go_wp2
  go_step3
  go_wp2_with fail
  (with_reducible refine HR1.out.mono ?_)
  rintro e w1 ⟨rfl, hb1⟩
  have hbW1 : Below (w.heap.size + 2) ((w.alloc (.cells #[.slice ao n cap, .int .i64 c] 24)).alloc (.cells #[.slice none 0 0, .int .i64 0] 24)) w1 := hb1.mono (by simp)
  obtain ⟨a0, a1, b0, b1, f0, f1, hz, hbl1⟩ := boxes2 hbW1
  go_wp2_with (at_make; refine wpList_make_own _ rfl _ _ 22 rfl (w.heap.size + 2) 51 i0 (.agg #[.string ⟨#[]⟩, .int .i64 0]) 2 Try.underlying22 HI.out.1 HI.out.2.1 HI.out.2.2.1 .i64 .i64 _ n rfl rfl rfl (by rw [HI.out.2.2.2]; omega) (by unfold maxLen; omega) (by omega) ?_)
  intro w2 hown2 hgrow2
  have HO2 := Lib.hid hown2
  have hb2 : Below (w.heap.size + 2) w1 w2 := (Below.refl _ _).grown hgrow2 (by omega) (fun j hj => by cases hj)
  have hbW2 := hbW1.trans hb2
  clear a0 a1 b0 b1 f0 f1
  obtain ⟨a0, a1, b0, b1, f0, f1, hz, hbl2⟩ := boxes2 hbW2
  obtain ⟨gl, hgl⟩ : ∃ g, g = w1.heap.size := ⟨_, rfl⟩
  rw [← hgl] at HO2 ⊢
  clear hown2 hgrow2 hgl hb2
  go_wp2_with (at_make; refine wpList_make_full _ rfl _ _ 32 rfl (w.heap.size + 2) 3 j0 (.int .i64 0) 1 Try.underlying32 HJ.out.1 HJ.out.2.1 HJ.out.2.2.1 .i64 .i64 _ _ n rfl rfl rfl rfl (by rw [HJ.out.2.2.2]; omega) (by unfold maxLen; omega) (by omega) ?_)
  intro w3 hown3 hgrow3
  have HO3 : Hid (w3.ownsRow (w.heap.size + 2) 3 1 (.slice (some ⟨w2.heap.size, 0, none⟩) n n) n (i64s (tb.movs L n 0))) := by
    show World.ownsRow _ _ _ _ _ _ _
    rw [tb.movs_zero, ← made_ints]; exact hown3
  have HL3 : Hid (w3.ownsRow (w.heap.size + 2) 51 2 (.slice (some ⟨gl, 0, none⟩) 0 n) 0 (tcells [])) := HO2.out.kept hgrow3 (Or.inr (fun e => by cases e))
  have hb3 : Below (w.heap.size + 2) w2 w3 := (Below.refl _ _).grown hgrow3 (by omega) (fun j hj => by cases hj)
  have hbW3 := hbW2.trans hb3
  obtain ⟨gn, hgn⟩ : ∃ g, g = w2.heap.size := ⟨_, rfl⟩
  rw [← hgn] at HO3 ⊢
  clear hown3 hgrow3 hgn hb3 HO2 a0 a1 b0 b1 f0 f1
  obtain ⟨a0, a1, b0, b1, f0, f1, hz, hbl3⟩ := boxes2 hbW3
  go_wp2
  go_step3
  go_wp2
  go_loopw [4, 6, 7, 23] (fun u4 _ _ u wr => ∃ (k : Nat) (la : Option Addr) (m lc : Nat), u = .int .i64 k ∧ k ≤ n ∧ u4 = .slice la m lc ∧ Hid (m = (tb.keep L k).length) ∧ Hid (wr.ownsRow (w.heap.size + 2) 51 2 (.slice la m lc) m (tcells (tb.keep L k))) ∧ Hid (wr.ownsRow (w.heap.size + 2) 3 1 (.slice (some ⟨gn, 0, none⟩) n n) n (i64s (tb.movs L n k))) ∧ Below (w.heap.size + 2) ((w.alloc (.cells #[.slice ao n cap, .int .i64 c] 24)).alloc (.cells #[.slice none 0 0, .int .i64 0] 24)) wr) (fun _ _ _ u _ => n - (intOf u).toNat)
  case atStart => exact ⟨0, some ⟨gl, 0, none⟩, 0, n, rfl, by omega, rfl, rfl, HL3.out, HO3.out, hbW3⟩
  case round =>
    clear a0 a1 b0 b1 f0 f1
    obtain ⟨k, la, m, lc, rfl, hk, rfl, HM, HOL, HON, hbW⟩ := hrel
    obtain ⟨a0, a1, b0, b1, f0, f1, hz, hbl⟩ := boxes2 hbW
    have hml : m ≤ k := by rw [HM.out]; exact tb.keep_len L k
    by_cases hlt : k < n
    · have hkI : (k : Int) < (n : Int) := by omega
      obtain ⟨b, off, rfl, hB, p0, p1⟩ := Tabs.get HC.out HQ.out hlt
      have e0 := (hbl.cell (p := ⟨b, off + k * 2, none⟩) hB).trans p0
      have e1 := (hbl.cell (p := ⟨b, off + k * 2 + 1, none⟩) hB).trans p1
      have HKP : Hid (tb.keep L (k + 1) = if (tb.at_ L k).2 = 0 then tb.keep L k else tb.keep L k ++ [tb.at_ L k]) := rfl
      have HMV : Hid (tb.mov L k = if (tb.at_ L k).2 = 0 then -1 else ((tb.keep L k).length : Int)) := rfl
      have HMS := Lib.hid (tb.movs_set L hlt)
      obtain ⟨⟨x, r⟩, hx⟩ : ∃ x, x = tb.at_ L k := ⟨_, rfl⟩
      rw [← hx] at e0 e1 HKP HMV
      simp only at e0 e1 HKP HMV
      clear p0 p1 hx
      obtain ⟨hcl, hbg⟩ : (∃ u, wr.cell? ⟨gn, k, none⟩ = some u ∧ wr.frozen? ⟨gn, k, none⟩ = false) ∧ w.heap.size + 2 ≤ gn := by
        have hlen : (i64s (tb.movs L n k)).length = n := by rw [i64s_len, tb.movs_len]
        have hc := HON.out.cells (g := gn) rfl k _ (List.getElem?_eq_getElem (by omega))
        rw [Addr.add_lit, Nat.zero_add] at hc
        rcases HON.out.2 with ⟨hv, _⟩ | ⟨g', cap', cur, hv, hbg, hg, _⟩
        · cases hv
        · simp only [Value.slice.injEq, Option.some.injEq, Addr.mk.injEq] at hv
          obtain ⟨⟨rfl, _, _⟩, _, _⟩ := hv
          exact ⟨⟨_, hc, by simp [World.frozen?, hg]⟩, hbg⟩
      obtain ⟨u0, c0, t0⟩ := hcl
      have hgnz : gn < wr.heap.size := World.block_lt_of_cell? _ _ c0
      have hne : ¬ gn = wr.heap.size := by omega
      by_cases hr : r = 0
      · subst hr
        have HK2 : Hid (tb.keep L (k + 1) = tb.keep L k) := by show _ = _; rw [HKP.out, if_pos rfl]
        obtain ⟨ON, hbo⟩ := kit.own_set (j := k) (u := .int .i64 (-1)) HON.out
        have HON2 : Hid ((wr.setCell ⟨gn, k, none⟩ (.int .i64 (-1))).ownsRow (w.heap.size + 2) 3 1 (.slice (some ⟨gn, 0, none⟩) n n) n (i64s (tb.movs L n (k + 1)))) := by
          show World.ownsRow _ _ _ _ _ _ _
          rw [i64s_set, show (-1 : Int) = tb.mov L k by rw [HMV.out, if_pos rfl], HMS.out] at ON
          rw [← show tb.mov L k = (-1 : Int) by rw [HMV.out, if_pos rfl]]
          exact ON
        have HOL2 : Hid ((wr.setCell ⟨gn, k, none⟩ (.int .i64 (-1))).ownsRow (w.heap.size + 2) 51 2 (.slice la m lc) m (tcells (tb.keep L (k + 1)))) := by
          show World.ownsRow _ _ _ _ _ _ _
          rw [HK2.out]
          refine ownsRow_setCell_other HOL.out ?_ _
          rcases own_apart HOL.out HON.out (by decide) with h | h
          · rw [h]; exact fun e => by cases e
          · exact h
        have hbW2 := hbW.trans hbo
        have hB5 : Below (wr.setCell ⟨gn, k, none⟩ (.int .i64 (-1))).heap.size (wr.setCell ⟨gn, k, none⟩ (.int .i64 (-1))) ((wr.setCell ⟨gn, k, none⟩ (.int .i64 (-1))).alloc (.cells #[.string x, .int .i64 0] 51)) := (Below.refl _ _).alloc (Nat.le_refl _) _
        have HON3 := Lib.hid (own_stay HON2.out hB5)
        have HOL3 := Lib.hid (own_stay HOL2.out hB5)
        have hbW3' := hbW2.trans (hB5.mono (by rw [World.size_setCell]; omega))
        have HM2 : Hid (m = (tb.keep L (k + 1)).length) := by show _ = _; rw [HK2.out]; exact HM.out
        clear ON hbo hB5
        go_wp2
        go_roundw
        case rel => exact ⟨k + 1, la, m, lc, by go_num, by omega, rfl, HM2.out, HOL3.out, HON3.out, hbW3'⟩
        case measure => simp [intOf]; omega
      · have hrb : (r == 0) = false := by simpa using hr
        have HK2 : Hid (tb.keep L (k + 1) = tb.keep L k ++ [(x, r)]) := by show _ = _; rw [HKP.out, if_neg hr]
        obtain ⟨ON, hbo⟩ := kit.own_set (j := k) (u := .int .i64 (m : Int)) HON.out
        have HON2 : Hid ((wr.setCell ⟨gn, k, none⟩ (.int .i64 (m : Int))).ownsRow (w.heap.size + 2) 3 1 (.slice (some ⟨gn, 0, none⟩) n n) n (i64s (tb.movs L n (k + 1)))) := by
          show World.ownsRow _ _ _ _ _ _ _
          have e : tb.mov L k = (m : Int) := by rw [HMV.out, if_neg hr, HM.out]
          rw [i64s_set, ← e, HMS.out, e] at ON
          exact ON
        have HOL2 : Hid ((wr.setCell ⟨gn, k, none⟩ (.int .i64 (m : Int))).ownsRow (w.heap.size + 2) 51 2 (.slice la m lc) m (tcells (tb.keep L k))) := by
          show World.ownsRow _ _ _ _ _ _ _
          refine ownsRow_setCell_other HOL.out ?_ _
          rcases own_apart HOL.out HON.out (by decide) with h | h
          · rw [h]; exact fun e => by cases e
          · exact h
        have hbW2 := hbW.trans hbo
        have hB5 : Below (wr.setCell ⟨gn, k, none⟩ (.int .i64 (m : Int))).heap.size (wr.setCell ⟨gn, k, none⟩ (.int .i64 (m : Int))) ((wr.setCell ⟨gn, k, none⟩ (.int .i64 (m : Int))).alloc (.cells #[.string x, .int .i64 r] 51)) := (Below.refl _ _).alloc (Nat.le_refl _) _
        have HON3 := Lib.hid (own_stay HON2.out hB5)
        have HOL3 := Lib.hid (own_stay HOL2.out hB5)
        have hbW3' := hbW2.trans (hB5.mono (by rw [World.size_setCell]; omega))
        clear ON hbo hB5
        go_wp2_with (at_builtin; refine app1g (.tmp 39) (.tmp 41) 22 rfl rfl (w.heap.size + 2) Try.underlying22 infoSym rfl (by decide) (by decide) (c := 1) HOL3.out rfl (by show Value.slice (some ⟨wr.heap.size + 1, 0, none⟩) 1 1 = _; rw [World.size_alloc, World.size_setCell]) rfl (by intro u hu; simp at hu; rcases hu with rfl | rfl <;> rfl) (by omega) (by simp; omega) ?_)
        intro v' w5 hown' hg
        have HON5 : Hid (w5.ownsRow (w.heap.size + 2) 3 1 (.slice (some ⟨gn, 0, none⟩) n n) n (i64s (tb.movs L n (k + 1)))) := by
          show World.ownsRow _ _ _ _ _ _ _
          exact (HON3.out.alloc _).kept hg (own_apart HON3.out HOL3.out (by decide))
        have HOL5 : Hid (w5.ownsRow (w.heap.size + 2) 51 2 v' (m + 1) (tcells (tb.keep L (k + 1)))) := by
          show World.ownsRow _ _ _ _ _ _ _
          rw [HK2.out, tcells_app]; exact hown'
        have hbW5 := (hbW3'.alloc (by rw [World.size_alloc, World.size_setCell]; omega) _).trans (grown_below (HOL3.out.alloc _) (by simp; omega) hg)
        have HM2 : Hid (m + 1 = (tb.keep L (k + 1)).length) := by show _ = _; rw [HK2.out, List.length_append, ← HM.out]; rfl
        obtain ⟨a5, c5, rfl⟩ := own_slice hown'
        clear hown' hg
        go_wp2
        go_roundw
        case rel => exact ⟨k + 1, a5, m + 1, c5, by go_num, by omega, rfl, HM2.out, HOL5.out, HON5.out, hbW5⟩
        case measure => simp [intOf]; omega
    · obtain rfl : k = n := by omega
      have hgb : ∀ b off, la = some ⟨b, off, none⟩ → w.heap.size ≤ b := fun b off e => by
        rcases HOL.out.2 with ⟨hv, _⟩ | ⟨g', cap', cur, hv, hbg, _⟩
        · simp only [Value.slice.injEq] at hv; rw [hv.1] at e; cases e
        · simp only [Value.slice.injEq] at hv
          rw [hv.1] at e
          simp only [Option.some.injEq, Addr.mk.injEq] at e
          omega
      have HGB := Lib.hid hgb
      have o1 := ownsRow_setCell_below (ownsRow_setCell_below HOL.out (a := ⟨w.heap.size + 1, 0, none⟩) (show w.heap.size + 1 < w.heap.size + 2 by omega) (.slice la m lc)) (a := ⟨w.heap.size + 1, 1, none⟩) (show w.heap.size + 1 < w.heap.size + 2 by omega) (.int .i64 c)
      have o2 := ownsRow_setCell_below (ownsRow_setCell_below HON.out (a := ⟨w.heap.size + 1, 0, none⟩) (show w.heap.size + 1 < w.heap.size + 2 by omega) (.slice la m lc)) (a := ⟨w.heap.size + 1, 1, none⟩) (show w.heap.size + 1 < w.heap.size + 2 by omega) (.int .i64 c)
      have HB := Lib.hid (set2 hbl (.slice la m lc) (.int .i64 c))
      have HT1 : Hid (Tabs ((wr.setCell ⟨w.heap.size + 1, 0, none⟩ (.slice la m lc)).setCell ⟨w.heap.size + 1, 1, none⟩ (.int .i64 c)) ((wr.setCell ⟨w.heap.size + 1, 0, none⟩ (.slice la m lc)).setCell ⟨w.heap.size + 1, 1, none⟩ (.int .i64 c)).heap.size (.slice la m lc) (tb.keep L k)) := by
        show Cells _ _ _ _ _ _
        rw [← HM.out]; exact Cells.own o1
      have HT2 : Hid (At ((wr.setCell ⟨w.heap.size + 1, 0, none⟩ (.slice la m lc)).setCell ⟨w.heap.size + 1, 1, none⟩ (.int .i64 c)) ((wr.setCell ⟨w.heap.size + 1, 0, none⟩ (.slice la m lc)).setCell ⟨w.heap.size + 1, 1, none⟩ (.int .i64 c)).heap.size (.slice (some ⟨gn, 0, none⟩) k k) (tb.movs L k k)) := by
        have h := at_.own (zs := tb.movs L k k) (by rw [tb.movs_len]; exact o2)
        exact h
      clear hgb o1 o2
      go_wp2
      refine bodyPost_ret (v := .tuple #[.agg #[.slice la m lc, .int .i64 c], .slice (some ⟨gn, 0, none⟩) k k]) (by simp [results, Try.results14, go_sem, b0, b1]) rfl (HCP.out _ _ ⟨la, lc, some ⟨gn, 0, none⟩, k, by rw [← HM.out], HGB.out, by rw [← HM.out]; exact HT1.out, HT2.out, HB.out⟩)
end Go.Proofs.Ytagmlpenhogoeaa
