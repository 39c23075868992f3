/- texts put together: OrsApl, OrsNam, OrsSame, OrsStp. -/
import Derived.Test.YthpdmfkpiekonaaGreatOh14
import Derived.Test.YthpdmfkpiekonaaGreatOh16
import Derived.Test.YthpdmfkpiekonaaGreatOh19
import Derived.Test.YthpdmfkpiekonaaGreatOh21
import Derived.Test.YthpdmfkpiekonaaGreatOh22
open List (setIfInBounds_toArray set_cons_zero set_cons_succ take_succ_cons take_zero drop_succ_cons drop_zero)
namespace Go.Proofs.YthpdmfkpiekonaaGreat
open Go Go.RowKit Go.ChangeShapes cl
def extF (k nh : Nat) (has : Nat → List Bool) (m : Nat) : List Bool := if k < nh then has m else has m ++ [false]
def midF (k nh : Nat) (has : Nat → List Bool) (j m : Nat) : List Bool := if m < j then extF k nh has m else has m
theorem midF_upd (k nh : Nat) (has : Nat → List Bool) (j : Nat) : upd (midF k nh has j) j (extF k nh has j) = midF k nh has (j + 1) := by
 funext m
 unfold upd midF
 by_cases e : m = j
 ·
  subst e; rw [if_pos rfl, if_pos (Nat.lt_succ_self _)]
 ·
  rw [if_neg e]
  by_cases h : m < j
  ·
   rw [if_pos h, if_pos (by omega)]
  ·
   rw [if_neg h, if_neg (by omega)]
theorem midF_here (k nh : Nat) (has : Nat → List Bool) (j : Nat) : upd (midF k nh has j) j (has j) = midF k nh has j := by
 funext m
 unfold upd midF
 by_cases e : m = j
 ·
  subst e; rw [if_pos rfl, if_neg (Nat.lt_irrefl _)]
 ·
  rw [if_neg e]
theorem upd_upd {α : Type} (f : Nat → α) (i : Nat) (x y : α) : upd (upd f i x) i y = upd f i y := by
 funext m
 unfold upd
 split <;> rfl
theorem box_no {w : World} {q B k n : Nat} {g : Nat → Value} {v : Value} {xs : List Value} (h : Box16 w q g) (ho : w.ownsRow B 4 k v n xs) : some q ≠ v.ownBlock := by
 intro e
 obtain ⟨arr, h1, _⟩ := h
 rcases ho.2 with ⟨rfl, _⟩ | ⟨b, cap, cur, rfl, _, hg, _⟩
 ·
  cases e
 ·
  cases e
  rw [h1] at hg
  simp only [Option.some.injEq, Obj.cells.injEq] at hg
  exact absurd hg.2.1 (by decide)
def hasN (k nh i : Nat) (has : Nat → List Bool) : Nat → List Bool := upd (extF k nh has) i ((extF k nh has i).set k true)
def AppliesP (B q nh i k : Nat) (g : Nat → Value) (has : Nat → List Bool) (w : World) (e : Ending) (w' : World) : Prop :=
 e = .returned (.tuple #[]) ∧ ∃ g', Box16 w' q g' ∧ (∀ m, m < 13 → g' m = g m) ∧ HIn B w' g' (hasN k nh i has) ∧ Kb w w' ∧ Below B w w'
theorem own_set1 {w : World} {B T n cap r k : Nat} {vs : List Value} {u : Value} (h : w.ownsRow B T 1 (.slice (some ⟨r, 0, none⟩) n cap) n vs) : (w.setCell ⟨r, k, none⟩ u).ownsRow B T 1 (.slice (some ⟨r, 0, none⟩) n cap) n (vs.set k u) := by
 refine ⟨by rw [List.length_set]; exact h.1, ?_⟩
 rcases h.2 with ⟨e, _⟩ | ⟨g, cap', cur, e, hb, hg, h1, h2, h3, h4⟩
 ·
  cases e
 ·
  simp only [Value.slice.injEq, Option.some.injEq, Addr.mk.injEq, and_true, true_and] at e
  obtain ⟨rfl, rfl⟩ := e
  refine Or.inr ⟨r, cap, cur.setIfInBounds k u, rfl, hb, heap_setCell_same _ r k _ _ _ hg, h1, h2, by rw [Array.size_setIfInBounds]; exact h3, ?_⟩
  rw [Array.toList_setIfInBounds, List.take_set, h4]
theorem own_at {w : World} {B T n cap k : Nat} {a : Option Addr} {vs : List Value} {u : Value} (h : w.ownsRow B T 1 (.slice a n cap) n vs) (hk : vs[k]? = some u) : ∃ r, a = some ⟨r, 0, none⟩ ∧ B ≤ r ∧ r < w.heap.size ∧ w.cell? ⟨r, k, none⟩ = some u ∧ w.frozen? ⟨r, k, none⟩ = false ∧ ∃ cur, w.heap[r]? = some (.cells cur T (0, 0)) := by
 rcases h.2 with ⟨e, e2⟩ | ⟨g, cap', cur, e, hb, hg, h1, h2, h3, h4⟩
 ·
  have := h.1
  have := (List.getElem?_eq_some_iff.1 hk).1
  omega
 ·
  simp only [Value.slice.injEq] at e
  obtain ⟨rfl, _, rfl⟩ := e
  have := h.cells (g := g) rfl k u hk
  rw [Addr.add_lit, Nat.zero_add] at this
  exact ⟨g, rfl, hb, lt_of_block hg, this, boxf hg k, cur, hg⟩
theorem HIn.congr {B : Nat} {w : World} {g : Nat → Value} {has has' : Nat → List Bool} (h : HIn B w g has) (e : ∀ i, i < 3 → has i = has' i) : HIn B w g has' := ⟨fun i hi => by rw [← e i hi]; exact h.has i hi, h.apart⟩
set_option maxHeartbeats 6400000 in
set_option maxRecDepth 100000 in
theorem applies_any (B q nh i k : Nat) (g : Nat → Value) (has : Nat → List Bool) (w : World) (hb : Box16 w q g) (hh : HIn B w g has) (hl : ∀ j, j < 3 → (has j).length = nh) (hi : i < 3) (_hk : k ≤ nh) (_hn : nh ≤ 1000) (hB : B ≤ q) :
  Calls Tryz.prog 50 #[.pointer (some ⟨q, 0, none⟩), .int .i64 i, .int .i64 k] w (AppliesP B q nh i k g has w) := by
 have HBX := Lib.hid hb
 have HHH := Lib.hid hh
 have HLN := Lib.hid hl
 clear hb hh hl
 go_enter Tryz.func50, Tryz.ntmps50
 go_wp2
 go_loopw [6, 7] (fun a v wr => ∃ (j : Nat) (g' : Nat → Value), v = .int .i64 (j : Int) ∧ j ≤ 3 ∧ Hid (Box16 wr q g') ∧ Hid (∀ m, m < 13 → g' m = g m) ∧ Hid (HIn B wr g' (midF k nh has j)) ∧ Hid (Kb w wr) ∧ Hid (Below B w wr)) (fun _ v _ => 3 - (intOf v).toNat)
 case atStart => exact ⟨0, g, rfl, by omega, HBX, fun _ _ => rfl, HHH, Kb.refl _, Below.refl _ _⟩
 case round =>
  obtain ⟨j, g1, rfl, hj, HB1, HG1, HH1, HK1, HL1⟩ := hrel
  by_cases hlt : j < 3
  ·
   have hlI : (j : Int) < 3 := by omega
   have hj0 : 0 ≤ (j : Int) := by omega
   go_wp2_with fail
   go_loopg [] 1 (fun gk w2 => ∃ (g2 : Nat → Value) (R : List Bool), Hid (Box16 w2 q g2) ∧ Hid (∀ m, m < 13 → g2 m = g m) ∧ Hid (HIn B w2 g2 (upd (midF k nh has j) j R)) ∧ Hid (Kb w w2) ∧ Hid (Below B w w2) ∧ ((Hid (R = has j) ∧ 1 ≤ gk) ∨ (Hid (R = has j ++ [false]) ∧ nh ≤ k)))
   case atStart => exact ⟨g1, has j, HB1, HG1, by show HIn _ _ _ _; rw [midF_here]; exact HH1.out, HK1, HL1, Or.inl ⟨rfl, Nat.le_refl _⟩⟩
   case round =>
    obtain ⟨g2, R, HB2, HG2, HH2, HK2, HL2, HR⟩ := hrel
    obtain ⟨n, hn2⟩ : ∃ n, n = R.length := ⟨_, rfl⟩
    have ho : HasO B wr (g2 (13 + j)) R := by have := HH2.out.has j hlt; rwa [upd_same] at this
    have hnb : n ≤ 1001 := by
     rcases HR with ⟨h, _⟩ | ⟨h, _⟩
     ·
      rw [hn2, h.out, HLN.out j hlt]; omega
     ·
      rw [hn2, h.out, List.length_append, HLN.out j hlt]; simp; omega
    obtain ⟨a, cap, hv⟩ := own_slice ho
    have c0 := HB2.out.cell (j := 13 + j) (by omega)
    rw [← hn2] at hv
    rw [hv] at c0
    have HN := Lib.hid hn2
    have HV := Lib.hid hv
    have HO : Hid (wr.ownsRow B 4 1 (.slice a n cap) n (R.map Value.bool)) := by
     show World.ownsRow _ _ _ _ _ _ _
     rw [← hv, hn2]; exact ho
    have HGK : Hid (∀ b, (Value.slice a n cap).ownBlock = some b → B ≤ b ∧ b < wr.heap.size) := fun b hb => HO.out.lt b hb
    have HBR : Hid (B ≤ wr.heap.size) := Nat.le_trans hB (Nat.le_of_lt HB2.out.lt)
    have HCQ : Hid (∀ ww, wr.grownBy ww (Value.slice a n cap).ownBlock → Box16 ww q g2) := fun ww hw => HB2.out.far hw (box_no HB2.out HO.out)
    clear hn2 hv ho
    by_cases hle : n ≤ k
    ·
     have HRJ : Hid (R = has j ∧ 1 ≤ gk ∧ k = nh) := by
      rcases HR with ⟨h1, h2⟩ | ⟨h1, h2⟩
      ·
       refine ⟨h1.out, h2, ?_⟩
       have h3 := HLN.out j hlt
       have h4 := HN.out
       rw [h1.out, h3] at h4
       omega
      ·
       have h3 := HLN.out j hlt
       have h4 := HN.out
       rw [h1.out, List.length_append, h3] at h4
       simp at h4
       omega
     clear HR
     go_wp2_with fail
     refine wp_flowG 13 (fun kF => match kF with | 8 => 9 | _ => 1000) (fun ww => wr.grownBy ww (Value.slice a n cap).ownBlock) (fun i w w' => if i = 9 then (fun (w w' : World) => w.grownBy w' (Value.slice a n cap).ownBlock) w w' else (fun (w w' : World) => RowKit.Below w.heap.size w w') w w') (fun sF wF => match sF with | 9 => (wF.ownsRow B 4 1 (.slice a n cap) n (R.map Value.bool)) | _ => True) (fun kF vF wF => match kF with | 0 => (vF = .pointer (some ⟨q, 0, none⟩)) | 1 => (vF = .int .i64 (j : Int)) | 2 => (vF = .pointer (some ⟨q, 0, none⟩)) | 3 => (vF = .int .i64 (j : Int)) | 4 => (vF = .pointer (some ⟨q, 0, none⟩)) | 5 => (vF = .pointer (some ⟨q, 13, none⟩)) | 6 => (vF = .pointer (some ⟨q, 13 + j, none⟩)) | 7 => (vF = .slice a n cap) | 8 => (∃ g, vF = .slice (some ⟨g, 0, none⟩) 1 1 ∧ wF.heap[g]? = some (.cells #[.bool false] 4 (0, 0)) ∧ wr.heap.size ≤ g) | 9 => (∃ v, vF = v ∧ wF.ownsRow B 4 1 v (n + 1) ((R ++ [false]).map Value.bool) ∧ (v.ownBlock = (Value.slice a n cap).ownBlock ∨ ∀ b, v.ownBlock = some b → wr.heap.size ≤ b)) | 10 => (vF = .pointer (some ⟨q, 0, none⟩)) | 11 => (vF = .pointer (some ⟨q, 13, none⟩)) | 12 => (vF = .pointer (some ⟨q, 13 + j, none⟩)) | _ => True) (fun _ _ _ _ => True) (by kernel_rfl) (by kernel_rfl) ?_ ?_ ?_ ?_ ?_ ?_ ?_
     ·
      exact grown_below' ((Below.refl _ _).drew)
     ·
      intro sF hsF
      rcases (by omega : sF = 0 ∨ sF = 1 ∨ sF = 2 ∨ sF = 3 ∨ sF = 4 ∨ sF = 5 ∨ sF = 6 ∨ sF = 7 ∨ sF = 8 ∨ sF = 9 ∨ sF = 10 ∨ sF = 11 ∨ sF = 12) with rfl | rfl | rfl | rfl | rfl | rfl | rfl | rfl | rfl | rfl | rfl | rfl | rfl
      iterate 9 exact trivial
      ·
       exact own_stay HO.out ((Below.refl _ _).drew)
      iterate 3 exact trivial
     ·
      intro iF wF1 wF2 hR hT
      have hT : (fun i w w' => if i = 9 then (fun (w w' : World) => w.grownBy w' (Value.slice a n cap).ownBlock) w w' else (fun (w w' : World) => RowKit.Below w.heap.size w w') w w') iF wF1 wF2 := hT
      simp only at hT
      by_cases hi9 : iF = 9
      ·
       rw [if_pos hi9] at hT; exact grown_trans hR hT
      rw [if_neg hi9] at hT
      exact grown_trans hR (grown_below' hT)
     ·
      intro sF hsF iF hiF hne hanc wF1 wF2 hRF hgF hT
      rcases (by omega : sF = 0 ∨ sF = 1 ∨ sF = 2 ∨ sF = 3 ∨ sF = 4 ∨ sF = 5 ∨ sF = 6 ∨ sF = 7 ∨ sF = 8 ∨ sF = 9 ∨ sF = 10 ∨ sF = 11 ∨ sF = 12) with rfl | rfl | rfl | rfl | rfl | rfl | rfl | rfl | rfl | rfl | rfl | rfl | rfl
      iterate 9 exact trivial
      ·
       have hg : (wF1.ownsRow B 4 1 (.slice a n cap) n (R.map Value.bool)) := hgF
       show (wF2.ownsRow B 4 1 (.slice a n cap) n (R.map Value.bool))
       have hT : (fun i w w' => if i = 9 then (fun (w w' : World) => w.grownBy w' (Value.slice a n cap).ownBlock) w w' else (fun (w w' : World) => RowKit.Below w.heap.size w w') w w') iF wF1 wF2 := hT
       simp only at hT
       by_cases hi9 : iF = 9
       ·
        exact absurd hi9.symm hne
       rw [if_neg hi9] at hT
       exact own_stay hg hT
      iterate 3 exact trivial
     ·
      intro kF hkF iF hiF hne hdd hanc hdan vF wF1 wF2 h hT
      rcases (by omega : kF = 0 ∨ kF = 1 ∨ kF = 2 ∨ kF = 3 ∨ kF = 4 ∨ kF = 5 ∨ kF = 6 ∨ kF = 7 ∨ kF = 8 ∨ kF = 9 ∨ kF = 10 ∨ kF = 11 ∨ kF = 12) with rfl | rfl | rfl | rfl | rfl | rfl | rfl | rfl | rfl | rfl | rfl | rfl | rfl
      iterate 8 exact h
      ·
       have h : (∃ g, vF = .slice (some ⟨g, 0, none⟩) 1 1 ∧ wF1.heap[g]? = some (.cells #[.bool false] 4 (0, 0)) ∧ wr.heap.size ≤ g) := h
       show (∃ g, vF = .slice (some ⟨g, 0, none⟩) 1 1 ∧ wF2.heap[g]? = some (.cells #[.bool false] 4 (0, 0)) ∧ wr.heap.size ≤ g)
       have hT : (fun i w w' => if i = 9 then (fun (w w' : World) => w.grownBy w' (Value.slice a n cap).ownBlock) w w' else (fun (w w' : World) => RowKit.Below w.heap.size w w') w w') iF wF1 wF2 := hT
       simp only at hT
       by_cases hi9 : iF = 9
       ·
        exact absurd hi9.symm hdd
       rw [if_neg hi9] at hT
       obtain ⟨g, e, h1, h2⟩ := h
       exact ⟨g, e, (hT.block _ (lt_of_block h1)).trans h1, h2⟩
      ·
       have h : (∃ v, vF = v ∧ wF1.ownsRow B 4 1 v (n + 1) ((R ++ [false]).map Value.bool) ∧ (v.ownBlock = (Value.slice a n cap).ownBlock ∨ ∀ b, v.ownBlock = some b → wr.heap.size ≤ b)) := h
       show (∃ v, vF = v ∧ wF2.ownsRow B 4 1 v (n + 1) ((R ++ [false]).map Value.bool) ∧ (v.ownBlock = (Value.slice a n cap).ownBlock ∨ ∀ b, v.ownBlock = some b → wr.heap.size ≤ b))
       have hT : (fun i w w' => if i = 9 then (fun (w w' : World) => w.grownBy w' (Value.slice a n cap).ownBlock) w w' else (fun (w w' : World) => RowKit.Below w.heap.size w w') w w') iF wF1 wF2 := hT
       simp only at hT
       by_cases hi9 : iF = 9
       ·
        exact absurd hi9.symm hne
       rw [if_neg hi9] at hT
       obtain ⟨v, e, h1, h2⟩ := h
       exact ⟨v, e, own_stay h1 hT, h2⟩
      iterate 3 exact h
     ·
      generalize hAF : fillOf _ _ _ = AF
      replace hAF := fun x => congrFun hAF x
      simp only [take_succ_cons, take_zero, fillOf, Act.put, setIfInBounds_toArray, set_cons_zero, set_cons_succ, Nat.reduceAdd, Nat.zero_add] at hAF
      refine .cons ?_ (.cons ?_ (.cons ?_ (.cons ?_ (.cons ?_ (.cons ?_ (.cons ?_ (.cons ?_ (.cons ?_ (.cons ?_ (.cons ?_ (.cons ?_ (.cons ?_ (.nil)))))))))))))
      all_goals
       intro xF w3 hR hg hd K hK
       first | simp only [← hAF, Act.put, setIfInBounds_toArray, set_cons_zero, set_cons_succ] at hK ⊢ | simp only [← hAF, Act.put] at hK ⊢
       clear hAF
       try simp only [Nat.zero_add, Nat.reduceAdd] at hK ⊢
      ·
       clear hg hd
       rw [if_pos (by rfl)]
       go_simp
       exact hK.out _ _ (Below.refl _ _) (rfl) (fun _ _ _ => ⟨trivial, trivial⟩)
      ·
       clear hg hd
       rw [if_pos (by rfl)]
       go_simp
       exact hK.out _ _ (Below.refl _ _) (rfl) (fun _ _ _ => ⟨trivial, trivial⟩)
      ·
       clear hg hd
       rw [if_pos (by rfl)]
       go_simp
       exact hK.out _ _ (Below.refl _ _) (rfl) (fun _ _ _ => ⟨trivial, trivial⟩)
      ·
       clear hg hd
       rw [if_pos (by rfl)]
       go_simp
       exact hK.out _ _ (Below.refl _ _) (rfl) (fun _ _ _ => ⟨trivial, trivial⟩)
      ·
       clear hg
       have dd2 := hd 2 (by kernel_rfl)
       clear hd
       try generalize xF 2 = yy2 at *
       obtain rfl := dd2
       rw [if_pos (by rfl)]
       go_simp
       exact hK.out _ _ (Below.refl _ _) (rfl) (fun _ _ _ => ⟨trivial, trivial⟩)
      ·
       clear hg
       have dd4 := hd 4 (by kernel_rfl)
       clear hd
       try generalize xF 4 = yy4 at *
       obtain rfl := dd4
       rw [if_pos (by rfl)]
       go_simp
       exact hK.out _ _ (Below.refl _ _) (rfl) (fun _ _ _ => ⟨trivial, trivial⟩)
      ·
       clear hg
       have dd3 := hd 3 (by kernel_rfl)
       have dd5 := hd 5 (by kernel_rfl)
       clear hd
       try generalize xF 3 = yy3 at *
       try generalize xF 5 = yy5 at *
       obtain rfl := dd3
       obtain rfl := dd5
       rw [if_pos (by rfl)]
       go_simp
       exact hK.out _ _ (Below.refl _ _) (rfl) (fun _ _ _ => ⟨trivial, trivial⟩)
      ·
       clear hg
       have dd6 := hd 6 (by kernel_rfl)
       clear hd
       try generalize xF 6 = yy6 at *
       obtain rfl := dd6
       have cq := (HCQ.out _ hR).cell (j := 13 + j) (by omega)
       rw [HV.out] at cq
       rw [if_pos (by rfl)]
       go_simp
       exact hK.out _ _ (Below.refl _ _) (rfl) (fun _ _ _ => ⟨trivial, trivial⟩)
      ·
       clear hg hd
       rw [if_pos (by rfl)]
       go_simp
       exact hK.out _ _ (below1) (⟨_, rfl, heap_alloc_new _ _, hR.size⟩) (fun _ _ _ => ⟨trivial, trivial⟩)
      ·
       have gg9 : (w3.ownsRow B 4 1 (.slice a n cap) n (R.map Value.bool)) := hg 9 (by omega) (by decide)
       clear hg
       have dd7 := hd 7 (by kernel_rfl)
       have dd8 := hd 8 (by kernel_rfl)
       clear hd
       try generalize xF 7 = yy7 at *
       try generalize xF 8 = yy8 at *
       obtain rfl := dd7
       obtain ⟨g8, rfl, hg8, hl8⟩ := dd8
       rw [if_pos (by rfl)]
       refine wp_of_list1 (fun Q' hQ' => ?_)
       refine appNk (.tmp 26) (.tmp 27) 40 rfl rfl B Tryz.underlying40 infoBool rfl (by decide) (by decide) gg9 rfl rfl [.bool false] rfl (fun j u hu => by rw [Addr.add_lit, Nat.zero_add]; exact boxc' hg8 j u (by simpa using hu)) (by intro u hu; simp at hu; subst hu; rfl) (by omega) (Nat.le_trans HBR.out hR.size) ?_
       intro vN wN hownN hgN hbN
       refine hQ' _ _ ?_
       simp only [Act.put, setIfInBounds_toArray, set_cons_zero, set_cons_succ]
       exact hK.out _ _ (hgN) (⟨vN, rfl, by rw [List.map_append]; exact hownN, hbN.imp id (fun h b e => Nat.le_trans hR.size (h b e))⟩) (fun _ _ _ => ⟨trivial, trivial⟩)
      ·
       clear hg
       have dd0 := hd 0 (by kernel_rfl)
       clear hd
       try generalize xF 0 = yy0 at *
       obtain rfl := dd0
       rw [if_pos (by rfl)]
       go_simp
       exact hK.out _ _ (Below.refl _ _) (rfl) (fun _ _ _ => ⟨trivial, trivial⟩)
      ·
       clear hg
       have dd10 := hd 10 (by kernel_rfl)
       clear hd
       try generalize xF 10 = yy10 at *
       obtain rfl := dd10
       rw [if_pos (by rfl)]
       go_simp
       exact hK.out _ _ (Below.refl _ _) (rfl) (fun _ _ _ => ⟨trivial, trivial⟩)
      ·
       clear hg
       have dd1 := hd 1 (by kernel_rfl)
       have dd11 := hd 11 (by kernel_rfl)
       clear hd
       try generalize xF 1 = yy1 at *
       try generalize xF 11 = yy11 at *
       obtain rfl := dd1
       obtain rfl := dd11
       rw [if_pos (by rfl)]
       go_simp
       exact hK.out _ _ (Below.refl _ _) (rfl) (fun _ _ _ => ⟨trivial, trivial⟩)
     intro xF w3 hR hF hP
     clear hP
     have dd0 := hF 0 (by omega) (by decide)
     have dd1 := hF 1 (by omega) (by decide)
     have dd2 := hF 2 (by omega) (by decide)
     have dd3 := hF 3 (by omega) (by decide)
     have dd4 := hF 4 (by omega) (by decide)
     have dd5 := hF 5 (by omega) (by decide)
     have dd6 := hF 6 (by omega) (by decide)
     have dd7 := hF 7 (by omega) (by decide)
     have dd9 := hF 9 (by omega) (by decide)
     have dd10 := hF 10 (by omega) (by decide)
     have dd11 := hF 11 (by omega) (by decide)
     have dd12 := hF 12 (by omega) (by decide)
     clear hF
     simp only [take_succ_cons, take_zero, drop_succ_cons, drop_zero, fillOf, Act.put, setIfInBounds_toArray, set_cons_zero, set_cons_succ, Nat.reduceAdd, Nat.zero_add]
     try generalize xF 0 = yy0 at *
     try generalize xF 1 = yy1 at *
     try generalize xF 2 = yy2 at *
     try generalize xF 3 = yy3 at *
     try generalize xF 4 = yy4 at *
     try generalize xF 5 = yy5 at *
     try generalize xF 6 = yy6 at *
     try generalize xF 7 = yy7 at *
     try generalize xF 8 = yy8 at *
     try generalize xF 9 = yy9 at *
     try generalize xF 10 = yy10 at *
     try generalize xF 11 = yy11 at *
     try generalize xF 12 = yy12 at *
     clear xF
     obtain rfl := dd0
     obtain rfl := dd1
     obtain rfl := dd2
     obtain rfl := dd3
     obtain rfl := dd4
     obtain rfl := dd5
     obtain rfl := dd6
     obtain rfl := dd7
     obtain ⟨v9, rfl, ho9, hb9⟩ := dd9
     obtain rfl := dd10
     obtain rfl := dd11
     obtain rfl := dd12
     have hRE := Lib.hid hR
     clear hR
     have hb3 := HCQ.out _ hRE
     obtain ⟨a9, c9, rfl⟩ := own_slice ho9
     have c3 := hb3.cell (j := 13 + j) (by omega)
     have f3 := hb3.fro (13 + j)
     have HB3 := Lib.hid hb3
     have HO9 := Lib.hid ho9
     have HB9 := Lib.hid hb9
     have HRE := Lib.hid hRE
     clear hb3 ho9 hb9 hRE
     go_wp2_with fail
     go_roundg 0
     case measure => have := HRJ.out.2.1; omega
     case rel =>
      have hk3 := HB3.out.kt (13 + j) (.slice a9 (n + 1) c9)
      refine ⟨_, R ++ [false], HB3.out.set (by omega) _, fun m hm => by show upd _ _ _ _ = _; rw [upd_other _ _ (by omega)]; exact HG2.out m hm, ?_, (HK2.out.trans (Kb.of_bool (Kt.append HO.out HRE.out))).trans (Kb.of_box hk3), (HL2.out.trans (grown_below HO.out HBR.out HRE.out)).setCell hB _, Or.inr ⟨by show _ = _; rw [HRJ.out.1], by have := HRJ.out.2.2; omega⟩⟩
      have hp := (HH2.out.put (v := .slice a9 (n + 1) c9) (R := R ++ [false]) hlt (by rw [HV.out]; exact HRE.out) (by
       show World.ownsRow _ _ _ _ _ _ _
       rw [List.length_append, ← HN.out]; exact HO9.out) (by rw [HV.out]; exact HB9.out)).box hk3
      rw [upd_upd] at hp
      exact hp
    ·
     have HRX : Hid (R = extF k nh has j) := by
      show _ = _
      unfold extF
      rcases HR with ⟨h1, h2⟩ | ⟨h1, h2⟩
      ·
       have h3 := HLN.out j hlt
       have h4 := HN.out
       rw [h1.out, h3] at h4
       rw [if_pos (by omega)]; exact h1.out
      ·
       rw [if_neg (by omega)]; exact h1.out
     have HH4 : Hid (HIn B wr g2 (midF k nh has (j + 1))) := by
      show HIn _ _ _ _
      have := HH2.out
      rw [HRX.out, midF_upd] at this
      exact this
     clear HR
     go_wp2_with fail
     go_roundw
     case rel => exact ⟨j + 1, g2, by go_num, by omega, HB2, HG2, HH4, HK2, HL2⟩
     case measure => simp [intOf]; omega
  ·
   have hj3 : j = 3 := by omega
   subst hj3
   have ho : HasO B wr (g1 (13 + i)) (extF k nh has i) := by
    have := HH1.out.has i hi
    unfold midF at this
    rwa [if_pos hi] at this
   have hli := HLN.out i hi
   have hlx : k < (extF k nh has i).length := by
    unfold extF
    split
    ·
     omega
    ·
     rw [List.length_append, hli]; simp; omega
   obtain ⟨n, hn2⟩ : ∃ n, n = (extF k nh has i).length := ⟨_, rfl⟩
   obtain ⟨a, cap, hv⟩ := own_slice ho
   rw [← hn2] at hv hlx
   have c0 := HB1.out.cell (j := 13 + i) (by omega)
   rw [hv] at c0
   have ho2 : wr.ownsRow B 4 1 (.slice a n cap) n ((extF k nh has i).map Value.bool) := by rw [← hv, hn2]; exact ho
   obtain ⟨u, hu⟩ : ∃ u, ((extF k nh has i).map Value.bool)[k]? = some u := ⟨_, List.getElem?_eq_getElem (by rw [List.length_map, ← hn2]; exact hlx)⟩
   obtain ⟨r, rfl, hBr, hrw, cr, fr, cur, hcur⟩ := own_at ho2 hu
   have hne : some q ≠ some r := box_no HB1.out ho2
   have HO2 := Lib.hid ho2
   have HN := Lib.hid hn2
   have HV := Lib.hid hv
   have HCU := Lib.hid hcur
   have HNE := Lib.hid hne
   clear ho hli hn2 hv ho2 hu hcur hne
   go_wp2_with fail
   refine bodyPost_ret (v := .tuple #[]) (by simp [results, Tryz.results50, go_sem]) rfl ?_
   have hs1 : wr.grownBy (wr.setCell ⟨r, k, none⟩ (.bool true)) (some r) := set1_grown _
   have hk1 : Kt 4 wr (wr.setCell ⟨r, k, none⟩ (.bool true)) := Kt.of_grown hs1 HCU.out
   refine ⟨rfl, g1, HB1.out.far hs1 HNE.out, HG1.out, ?_, HK1.out.trans (Kb.of_bool hk1), HL1.out.setCell hBr _⟩
   have hp := HH1.out.put (w' := wr.setCell ⟨r, k, none⟩ (.bool true)) (v := g1 (13 + i)) (R := (extF k nh has i).set k true) hi (by rw [HV.out]; exact hs1) (by
    show World.ownsRow _ _ _ _ _ _ _
    rw [HV.out, List.length_set, ← HN.out, List.map_set]
    exact own_set1 HO2.out) (Or.inl rfl)
   have e : upd g1 (13 + i) (g1 (13 + i)) = g1 := by
    funext m
    unfold upd
    split
    ·
     rename_i h; rw [h]
    ·
     rfl
   rw [e] at hp
   refine hp.congr fun m hm => ?_
   unfold hasN upd midF
   rw [if_pos hm]
end Go.Proofs.YthpdmfkpiekonaaGreat
namespace Go.Proofs.YthpdmfkpiekonaaGreat
open Go Go.RowKit Go.ChangeShapes cl
def nam : Nat → ByteArray
 | 0 => ⟨#[123, 97, 61, 34, 49, 34, 125]⟩
 | 1 => ⟨#[123, 97, 61, 34, 50, 34, 125]⟩
 | 2 => ⟨#[123, 98, 61, 34, 49, 34, 125]⟩
 | _ => ⟨#[123, 97, 61, 34, 49, 34, 44, 98, 61, 34, 50, 34, 125]⟩
def NM : List ByteArray := [nam 0, nam 1, nam 2, nam 3]
def nlab : Nat → List Lab
 | 0 => [(⟨#[97]⟩, ⟨#[49]⟩)]
 | 1 => [(⟨#[97]⟩, ⟨#[50]⟩)]
 | 2 => [(⟨#[98]⟩, ⟨#[49]⟩)]
 | _ => [(⟨#[97]⟩, ⟨#[49]⟩), (⟨#[98]⟩, ⟨#[50]⟩)]
theorem names_any (w : World) : Calls Tryz.prog 19 #[] w fun e w' => ∃ b, e = .returned (.slice (some ⟨b, 0, none⟩) 4 4) ∧ Strs w' w'.heap.size (.slice (some ⟨b, 0, none⟩) 4 4) NM ∧ Below w.heap.size w w' := by
 go_enter Tryz.func19, Tryz.ntmps19
 go_wp2
 go_ret
 refine ⟨_, rfl, ?_, (Below.refl _ _).alloc (Nat.le_refl _) _⟩
 exact cells_lit w 4 1 (strs NM) _ _ rfl rfl (by decide)
theorem nlab_text : ∀ i, lm.textF (nlab i) = (0, nam i)
 | 0 => by decide +kernel
 | 1 => by decide +kernel
 | 2 => by decide +kernel
 | _ + 3 => (by decide +kernel : lm.textF (nlab 3) = (0, nam 3))
theorem nam_size : ∀ i, (nam i).size ≤ 600
 | 0 => by decide
 | 1 => by decide
 | 2 => by decide
 | _ + 3 => (by decide : (nam 3).size ≤ 600)
theorem nam_fits (i : Nat) : os.Fits (nam i) := ⟨nam_size i, _, nlab_text i⟩
theorem nam_fine {i : Nat} {d : Dot} {t : Int} (hd : valid d = true) (h0 : 0 ≤ t) (h1 : t ≤ 1000000) : os.Fine ⟨nam i, d, t⟩ := ⟨nam_fits i, hd, h0, h1⟩
end Go.Proofs.YthpdmfkpiekonaaGreat
namespace Go.Proofs.YthpdmfkpiekonaaGreat
open Go Go.RowKit Go.ChangeShapes cl
set_option maxHeartbeats 800000 in
set_option maxRecDepth 100000 in
theorem leq_nil (w : World) : Calls Tryz.prog 79 #[.slice none 0 0, .slice none 0 0] w fun e w' => e = .returned (.bool true) ∧ w' = w := by
 go_enter Tryz.func79, Tryz.ntmps79
 go_wp2
 refine wp_loop_rounds 1 ?_
 rw [rounds_succ]
 go_wp2
 go_ret
 simp
set_option maxHeartbeats 1600000 in
set_option maxRecDepth 100000 in
theorem sent_yes (x : Ent) (w : World) : Calls Tryz.prog 47 #[.agg #[.string x.s, .int .i64 x.d.1, .int .i64 x.d.2, .int .i64 x.t, .slice none 0 0], .agg #[.string x.s, .int .i64 x.d.1, .int .i64 x.d.2, .int .i64 x.t, .slice none 0 0]] w (Said true w) := by
 have HL : Hid (∀ w, Calls Tryz.prog 79 #[.slice none 0 0, .slice none 0 0] w fun e w' => e = .returned (.bool true) ∧ w' = w) := leq_nil
 have hb : Below w.heap.size w ((w.alloc (.cells #[.string x.s, .int .i64 x.d.1, .int .i64 x.d.2, .int .i64 x.t, .slice none 0 0] 53)).alloc (.cells #[.string x.s, .int .i64 x.d.1, .int .i64 x.d.2, .int .i64 x.t, .slice none 0 0] 53)) := below1.trans (below1.mono (by simp))
 have HB := Lib.hid hb
 clear hb
 go_enter Tryz.func47, Tryz.ntmps47
 go_wp2_with fail
 (with_reducible refine (HL.out _).mono ?_)
 rintro e w1 ⟨rfl, rfl⟩
 go_wp2
 go_ret
 exact ⟨rfl, HB.out⟩
set_option maxHeartbeats 3200000 in
set_option maxRecDepth 100000 in
theorem eqf_yes (l : List Ent) (va vb : Value) (w : World) (ha : Ents w w.heap.size va l) (hb : Ents w w.heap.size vb l) :
  Calls Tryz.prog 46 #[va, vb, .func (.func 47) #[] #[]] w (Said true w) := by
 obtain ⟨n, hn⟩ : ∃ n, n = l.length := ⟨_, rfl⟩
 have HN := Lib.hid hn
 obtain ⟨ao, ca, rfl, hnm⟩ : ∃ ao cap, va = .slice ao n cap ∧ n ≤ 9223372036854775807 := by
  obtain ⟨ao, cap, e, _, h9⟩ := ha.form
  unfold maxLen at h9
  exact ⟨ao, cap, by rw [hn]; exact e, by rw [hn]; exact h9⟩
 obtain ⟨bo, cb, rfl⟩ : ∃ ao cap, vb = .slice ao n cap := by
  obtain ⟨ao, cap, e, _⟩ := hb.form
  exact ⟨ao, cap, by rw [hn]; exact e⟩
 have HA := Lib.hid ha
 have HC := Lib.hid hb
 have HS : Hid (∀ (x : Ent) (W : World), Calls Tryz.prog 47 #[.agg #[.string x.s, .int .i64 x.d.1, .int .i64 x.d.2, .int .i64 x.t, .slice none 0 0], .agg #[.string x.s, .int .i64 x.d.1, .int .i64 x.d.2, .int .i64 x.t, .slice none 0 0]] W (Said true W)) := fun x W => sent_yes x W
 clear ha hb hn
 go_enter Tryz.func46, Tryz.ntmps46
 go_wp2
 go_loopw [17] (fun i wr => ∃ (k : Nat), i = .int .i64 k ∧ k ≤ n ∧ Hid (Below w.heap.size w wr)) (fun i _ => n - (intOf i).toNat)
 case atStart => exact ⟨0, rfl, by omega, Below.refl _ _⟩
 case round =>
  obtain ⟨k, rfl, hk, HB⟩ := hrel
  by_cases hlt : k < n
  ·
   have hkI : (k : Int) < (n : Int) := by omega
   obtain ⟨ba, oa, rfl, hbA, p0, p1, p2, p3, p4⟩ := Ents.get (Cells.next HA.out HB.out) HN.out hlt
   obtain ⟨bb, ob, rfl, hbB, q0, q1, q2, q3, q4⟩ := Ents.get (Cells.next HC.out HB.out) HN.out hlt
   obtain ⟨x, hx⟩ : ∃ x, x = l.getD k default := ⟨_, rfl⟩
   rw [← hx] at p0 p1 p2 p3 q0 q1 q2 q3
   have n1 : ¬ ba = wr.heap.size := by omega
   have n2 : ¬ bb = wr.heap.size := by omega
   have hb2 : Below wr.heap.size wr ((wr.alloc (.cells #[.string x.s, .int .i64 x.d.1, .int .i64 x.d.2, .int .i64 x.t, .slice none 0 0] 53)).alloc (.cells #[.string x.s, .int .i64 x.d.1, .int .i64 x.d.2, .int .i64 x.t, .slice none 0 0] 53)) := below1.trans (below1.mono (by simp))
   have b1 : Below wr.heap.size wr (wr.alloc (.cells #[.string x.s, .int .i64 x.d.1, .int .i64 x.d.2, .int .i64 x.t, .slice none 0 0] 53)) := below1
   have r0 := (b1.cell (p := ⟨bb, ob + k * 5, none⟩) hbB).trans q0
   have r1 := (b1.cell (p := ⟨bb, ob + k * 5 + 1, none⟩) hbB).trans q1
   have r2 := (b1.cell (p := ⟨bb, ob + k * 5 + 2, none⟩) hbB).trans q2
   have r3 := (b1.cell (p := ⟨bb, ob + k * 5 + 3, none⟩) hbB).trans q3
   have r4 := (b1.cell (p := ⟨bb, ob + k * 5 + 4, none⟩) hbB).trans q4
   have HB2 := Lib.hid (HB.out.trans (hb2.mono HB.out.size))
   clear hx hb2 b1
   go_wp2_with fail
   (with_reducible refine (HS.out x _).mono ?_)
   rintro e w2 ⟨rfl, hb3⟩
   have HB3 := Lib.hid (HB2.out.trans (hb3.mono HB2.out.size))
   clear hb3 HB2 r0 r1 r2 r3 r4 q0 q1 q2 q3 q4 p0 p1 p2 p3 p4 n1 n2
   go_wp2
   go_roundw
   case rel => exact ⟨k + 1, by go_num, by omega, HB3⟩
   case measure => simp [intOf]; omega
  ·
   go_wp2
   go_ret
   exact ⟨rfl, HB.out⟩
set_option maxHeartbeats 1600000 in
set_option maxRecDepth 100000 in
theorem osame_yes (l : List Ent) (c : dm.Ctx) (va a1 a2 vb b1 b2 : Value) (w : World) (ha : Ents w w.heap.size va l) (hca : CtxAt w w.heap.size (.agg #[a1, a2]) c) (hb : Ents w w.heap.size vb l) (hcb : CtxAt w w.heap.size (.agg #[b1, b2]) c) :
  Calls Tryz.prog 14 #[.agg #[va, a1, a2], .agg #[vb, b1, b2]] w (Said true w) := by
 obtain ⟨w2, hw2⟩ : ∃ W, W = (w.alloc (.cells #[va, a1, a2] 27)).alloc (.cells #[vb, b1, b2] 27) := ⟨_, rfl⟩
 have b1' : Below w.heap.size w (w.alloc (.cells #[va, a1, a2] 27)) := below1
 have b2' : Below (w.alloc (.cells #[va, a1, a2] 27)).heap.size (w.alloc (.cells #[va, a1, a2] 27)) w2 := by rw [hw2]; exact below1
 have E2 := b1'.trans (b2'.mono b1'.size)
 have x1 : w2.heap[w.heap.size]? = some (.cells #[va, a1, a2] 27) := (b2'.block _ (by simp)).trans (heap_alloc_new w _)
 have x2 : w2.heap[w.heap.size + 1]? = some (.cells #[vb, b1, b2] 27) := by
  have := heap_alloc_new (w.alloc (.cells #[va, a1, a2] 27)) (.cells #[vb, b1, b2] 27)
  rw [World.size_alloc] at this
  rw [hw2]; exact this
 have HE := Lib.hid (eqf_yes l va vb w2 (Cells.next ha E2) (Cells.next hb E2))
 have HC : Hid (∀ W, Below w2.heap.size w2 W → Calls Tryz.prog 48 #[.agg #[a1, a2], .agg #[b1, b2]] W (SaidD true W)) := fun W hW => by
  have := csame_any c c _ _ W (hca.next (E2.trans (hW.mono E2.size))) (hcb.next (E2.trans (hW.mono E2.size)))
  rwa [decide_eq_true rfl] at this
 have X1 := Lib.hid x1
 have X2 := Lib.hid x2
 have HB := Lib.hid E2
 have HW := Lib.hid hw2
 clear ha hb hca hcb b1' b2' E2 x1 x2 hw2
 go_enter Tryz.func14, Tryz.ntmps14
 go_wp2_with fail
 rw [← HW.out]
 (with_reducible refine HE.out.mono ?_)
 rintro e w3 ⟨rfl, hb3⟩
 have y1 := (hb3.block _ (lt_of_block X1.out)).trans X1.out
 have y2 := (hb3.block _ (lt_of_block X2.out)).trans X2.out
 have i1 := boxc y1 1 _ rfl
 have i2 := boxc y1 2 _ rfl
 have j1 := boxc y2 1 _ rfl
 have j2 := boxc y2 2 _ rfl
 have HC3 := Lib.hid (HC.out w3 hb3)
 have HB3 := Lib.hid (HB.out.trans (hb3.mono HB.out.size))
 clear y1 y2 hb3
 go_wp2_with fail
 (with_reducible refine HC3.out.mono ?_)
 rintro e w4 ⟨rfl, hb4⟩
 have HB4 := Lib.hid (HB3.out.trans (hb4.mono HB3.out.size))
 go_wp2
 go_ret
 exact ⟨rfl, HB4.out⟩
end Go.Proofs.YthpdmfkpiekonaaGreat
namespace Go.Proofs.YthpdmfkpiekonaaGreat
open Go Go.RowKit Go.ChangeShapes cl
theorem u64_rem (x : Int) (m : Nat) (hm : 0 < m) : ∃ J : Nat, (IntKind.u64.wrap x).tmod (m : Int) = (J : Int) ∧ J < m := by
 have h0 : 0 ≤ IntKind.u64.wrap x := by rw [IntKind.wrap_u64]; omega
 have h1 := Int.tmod_nonneg (m : Int) h0
 have h2 := Int.tmod_lt_of_pos (IntKind.u64.wrap x) (show (0 : Int) < m by omega)
 exact ⟨((IntKind.u64.wrap x).tmod (m : Int)).toNat, by omega, by omega⟩
theorem names_cell {W : World} {B b : Nat} (h : Strs W B (.slice (some ⟨b, 0, none⟩) 4 4) NM) (k : Nat) (hk : k < 4) : W.cell? ⟨b, k, none⟩ = some (.string (nam k)) := by
 obtain ⟨_, ao, c, e, _, _, h4⟩ := h
 simp only [Value.slice.injEq] at e
 obtain ⟨rfl, _, rfl⟩ := e
 obtain ⟨b', off, e2, _, hc⟩ := h4 (by decide)
 simp only [Option.some.injEq, Addr.mk.injEq, and_true] at e2
 obtain ⟨rfl, rfl⟩ := e2
 have h0 := hc k (.string (nam k)) (by
  rcases (by omega : k = 0 ∨ k = 1 ∨ k = 2 ∨ k = 3) with rfl | rfl | rfl | rfl <;> rfl)
 rwa [Nat.zero_add] at h0
theorem names_lt {W : World} {B b : Nat} (h : Strs W B (.slice (some ⟨b, 0, none⟩) 4 4) NM) : b < B := by
 obtain ⟨_, ao, c, e, _, _, h4⟩ := h
 simp only [Value.slice.injEq] at e
 obtain ⟨rfl, _, rfl⟩ := e
 obtain ⟨b', off, e2, hB, _⟩ := h4 (by decide)
 simp only [Option.some.injEq, Addr.mk.injEq, and_true] at e2
 obtain ⟨rfl, _⟩ := e2
 exact hB
theorem MX.b {w w' : World} {B : Nat} (h : MX w) (hb : Below B w w') (h0 : 0 < B) : MX w' := by
 obtain ⟨m, h⟩ := h
 exact ⟨m, (hb.cell (p := ⟨0, 0, none⟩) h0).trans h⟩
def SetV (B : Nat) (l : List Ent) (S : Dot → Prop) (v : Value) (w : World) : Prop := ∃ a0 n0 c0 a1 n1 c1 a2 n2 c2 cc, v = .agg #[.slice a0 n0 c0, .slice a1 n1 c1, .slice a2 n2 c2] ∧ EntO B w (.slice a0 n0 c0) l ∧ OwnC B w (.agg #[.slice a1 n1 c1, .slice a2 n2 c2]) cc ∧ ∃ m, dm.Is cc S m
def ChgV (B : Nat) (L : List Ent) (A : List Dot) (S : Dot → Prop) (v : Value) (w : World) : Prop := ∃ a0 n0 c0 a1 n1 c1 a2 n2 c2 a3 n3 c3 cc, v = .agg #[.slice a0 n0 c0, .slice a1 n1 c1, .slice a2 n2 c2, .slice a3 n3 c3] ∧ EntO B w (.slice a0 n0 c0) L ∧ DotO B w (.slice a1 n1 c1) A ∧ OwnC B w (.agg #[.slice a2 n2 c2, .slice a3 n3 c3]) cc ∧ ∃ m, dm.Is cc S m
structure Kept (P : Value → World → Prop) : Prop where
 on : ∀ {v : Value} {w w' : World}, P v w → Below w.heap.size w w' → P v w'
 kt : ∀ {v : Value} {w w' : World}, P v w → Kt 43 w w' → P v w'
theorem setV_kept (B : Nat) (l : List Ent) (S : Dot → Prop) : Kept (SetV B l S) :=
 ⟨fun ⟨a0, n0, c0, a1, n1, c1, a2, n2, c2, cc, e, h1, h2, h3⟩ hb => ⟨a0, n0, c0, a1, n1, c1, a2, n2, c2, cc, e, h1.on hb, h2.on hb, h3⟩, fun ⟨a0, n0, c0, a1, n1, c1, a2, n2, c2, cc, e, h1, h2, h3⟩ hk => ⟨a0, n0, c0, a1, n1, c1, a2, n2, c2, cc, e, h1.kt hk (by decide), h2.kt hk (by decide), h3⟩⟩
theorem chgV_kept (B : Nat) (L : List Ent) (A : List Dot) (S : Dot → Prop) : Kept (ChgV B L A S) :=
 ⟨fun ⟨a0, n0, c0, a1, n1, c1, a2, n2, c2, a3, n3, c3, cc, e, h1, h4, h2, h3⟩ hb => ⟨a0, n0, c0, a1, n1, c1, a2, n2, c2, a3, n3, c3, cc, e, h1.on hb, h4.on hb, h2.on hb, h3⟩, fun ⟨a0, n0, c0, a1, n1, c1, a2, n2, c2, a3, n3, c3, cc, e, h1, h4, h2, h3⟩ hk => ⟨a0, n0, c0, a1, n1, c1, a2, n2, c2, a3, n3, c3, cc, e, h1.kt hk (by decide), h4.kt hk (by decide), h2.kt hk (by decide), h3⟩⟩
def PairV (P Q : Value → World → Prop) (v : Value) (w : World) : Prop := ∃ s0 s1, v = .tuple #[s0, s1] ∧ P s0 w ∧ Q s1 w
theorem pair_kept {P Q : Value → World → Prop} (hP : Kept P) (hQ : Kept Q) : Kept (PairV P Q) :=
 ⟨fun ⟨s0, s1, e, h1, h2⟩ hb => ⟨s0, s1, e, hP.on h1 hb, hQ.on h2 hb⟩, fun ⟨s0, s1, e, h1, h2⟩ hk => ⟨s0, s1, e, hP.kt h1 hk, hQ.kt h2 hk⟩⟩
def StoA (B q i : Nat) (g : Nat → Value) (l : List Ent) (S : Dot → Prop) (w : World) : Prop := ∃ a0 n0 c0 a1 n1 c1 a2 n2 c2 cc, Box16 w q (upd (upd (upd g (i * 3) (.slice a0 n0 c0)) (i * 3 + 1) (.slice a1 n1 c1)) (i * 3 + 2) (.slice a2 n2 c2)) ∧ EntO B w (.slice a0 n0 c0) l ∧ OwnC B w (.agg #[.slice a1 n1 c1, .slice a2 n2 c2]) cc ∧ ∃ m, dm.Is cc S m
theorem StoA.on {B q i : Nat} {g : Nat → Value} {l : List Ent} {S : Dot → Prop} {w w' : World} (h : StoA B q i g l S w) (hb : Below w.heap.size w w') : StoA B q i g l S w' := by
 obtain ⟨a0, n0, c0, a1, n1, c1, a2, n2, c2, cc, h1, h2, h3, h4⟩ := h
 exact ⟨a0, n0, c0, a1, n1, c1, a2, n2, c2, cc, h1.on hb, h2.on hb, h3.on hb, h4⟩
theorem kt3 {w : World} {q : Nat} {g : Nat → Value} (h : Box16 w q g) (i j k : Nat) (a b c : Value) : Kt 43 w (((w.setCell ⟨q, i, none⟩ a).setCell ⟨q, j, none⟩ b).setCell ⟨q, k, none⟩ c) := by
 obtain ⟨arr, h1, _⟩ := h
 exact ((Kt.set h1 i a).trans (Kt.set (heap_setCell_same _ q i _ _ _ h1) j b)).trans (Kt.set (heap_setCell_same _ q j _ _ _ (heap_setCell_same _ q i _ _ _ h1)) k c)
theorem grown3 {w : World} {q : Nat} (i j k : Nat) (a b c : Value) : w.grownBy (((w.setCell ⟨q, i, none⟩ a).setCell ⟨q, j, none⟩ b).setCell ⟨q, k, none⟩ c) (some q) := grown_trans (grown_trans (set1_grown a) (set1_grown b)) (set1_grown c)
theorem upd3_same {g : Nat → Value} {a b c : Nat} {x y z : Value} (h1 : g a = x) (h2 : g b = y) (h3 : g c = z) : upd (upd (upd g a x) b y) c z = g := by
 funext k
 unfold upd
 split
 ·
  rename_i e; rw [e, h3]
 ·
  split
  ·
   rename_i e; rw [e, h2]
  ·
   split
   ·
    rename_i e; rw [e, h1]
   ·
    rfl
theorem dropN_eq {p : Ent → Bool} {l : List Ent} {c : dm.Ctx} {d : Dot} {va : Value} {w w' : World} {e : Ending} (h : DropR p l c d va w e w') (hg : goneOf p l = []) : e = .returned (.tuple #[va, .agg #[.slice none 0 0, .slice none 0 0, .slice none 0 0, .slice none 0 0]]) ∧ Below w.heap.size w w' := by
 rcases h with ⟨_, h⟩ | ⟨h, _⟩
 ·
  exact h
 ·
  exact absurd hg h
theorem dropY_pair {B : Nat} {p : Ent → Bool} {l : List Ent} {c : dm.Ctx} {d : Dot} {va : Value} {w w' : World} {e : Ending} (h : DropR p l c d va w e w') (hg : goneOf p l ≠ []) (hB : B ≤ w.heap.size) : ∃ v, e = .returned v ∧ PairV (SetV B (staysOf p l) (fun e => dm.Knows c e ∨ e = d)) (ChgV B [] [] (fun e => valid e = true ∧ e ∈ goneOf p l ++ [d])) v w' ∧ Below w.heap.size w w' := by
 rcases h with ⟨h, _⟩ | ⟨_, u0, u1, u2, t2, t3, c', dc, rfl, h1, h2, h3, h4, h5, h6⟩
 ·
  exact absurd h hg
 ·
  obtain ⟨a0, x0, rfl⟩ := own_slice h1
  obtain ⟨a1, n1, c1, a2, n2, c2, e1⟩ := h2.form
  obtain ⟨a3, n3, c3, a4, n4, c4, e2⟩ := h3.form
  simp only [Value.agg.injEq, Array.mk.injEq, List.cons.injEq, and_true] at e1 e2
  obtain ⟨rfl, rfl⟩ := e1
  obtain ⟨rfl, rfl⟩ := e2
  exact ⟨_, rfl, ⟨_, _, rfl, ⟨_, _, _, _, _, _, _, _, _, c', rfl, h1.low hB, h2.low hB, _, h4⟩, ⟨_, _, _, _, _, _, _, _, _, _, _, _, dc, rfl, World.ownsRow_nil _ _ _ _, World.ownsRow_nil _ _ _ _, h3.low hB, h5⟩⟩, h6⟩
theorem chg_some {B n1 n2 : Nat} {a1 a2 : Option Addr} {c1 c2 : Nat} {w : World} {c : dm.Ctx} {d : Dot} {G : List Dot} (h : OwnC B w (.agg #[.slice a1 n1 c1, .slice a2 n2 c2]) c) (hI : ∃ m, dm.Is c (fun e => valid e = true ∧ e ∈ G ++ [d]) m) (hv : valid d = true) (hG : G.length ≤ 900) : n1 + n2 ≠ 0 ∧ n1 ≤ 1000 ∧ n2 ≤ 1000 := by
 obtain ⟨b1, d1, b2, d2, e, h1, h2⟩ := h
 simp only [Value.agg.injEq, Array.mk.injEq, List.cons.injEq, Value.slice.injEq, and_true] at e
 obtain ⟨⟨rfl, e1, rfl⟩, rfl, e2, rfl⟩ := e
 obtain ⟨m, hI⟩ := hI
 have hk : dm.Knows c d := (hI.know d).2 ⟨hv, by simp⟩
 have hl := cloud_len (U := G ++ [d]) hI.right (fun x hx => ((hI.know x).1 hx).2)
 rw [List.length_append, List.length_singleton] at hl
 have h16 := hI.len1
 refine ⟨fun e => ?_, by omega, by omega⟩
 have z1 : c.1 = [] := List.eq_nil_of_length_eq_zero (by omega)
 have z2 : c.2 = [] := List.eq_nil_of_length_eq_zero (by omega)
 obtain ⟨_, hk⟩ := hk
 rw [z1, z2] at hk
 have h0 : dm.kn [] d.1 = 0 := rfl
 have hd := (dm.valid_iff d).1 hv
 simp only [h0, List.not_mem_nil, or_false] at hk
 omega
theorem chg_cloud {n i : Nat} {s : PS} {l1 : List Ent} {c1 : dm.Ctx} {x : Chg} (h : Inv (n + 1) (s.mk1 i l1 c1 x)) : x.c.2.length ≤ n + 1 := by
 have hl : s.C.length < (s.mk1 i l1 c1 x).C.length := by show _ < (s.C ++ [x]).length; simp
 have := h.cloudC hl
 have e : (s.mk1 i l1 c1 x).C.getD s.C.length default = x := getD_last s.C x
 rwa [e] at this
theorem gone_le {p : Ent → Bool} {l : List Ent} {n : Nat} (h : l.length ≤ n) : (goneOf p l).length ≤ n := by
 unfold goneOf
 rw [List.length_map]
 exact Nat.le_trans (List.length_filter_le _ _) h
theorem EntO.kb {B : Nat} {w w' : World} {v : Value} {l : List Ent} (h : EntO B w v l) (hk : Kb w w') : EntO B w' v l := own_kb h hk (by decide) (by decide)
theorem OwnC.kb {B : Nat} {w w' : World} {v : Value} {c : dm.Ctx} (h : OwnC B w v c) (hk : Kb w w') : OwnC B w' v c := by
 obtain ⟨a1, c1, a2, c2, rfl, h1, h2⟩ := h
 exact ⟨_, _, _, _, rfl, own_kb h1 hk (by decide) (by decide), own_kb h2 hk (by decide) (by decide)⟩
theorem Kb.box {w w' : World} {b : Nat} {arr : Array Value} {T : TypeId} {fr : Nat × Nat} (hk : Kb w w') (h : w.heap[b]? = some (.cells arr T fr)) (h1 : T ≠ 4) (h2 : T ≠ 43) : w'.heap[b]? = some (.cells arr T fr) := by
 have no : ∀ T', T ≠ T' → ∀ cur fr, w.heap[b]? ≠ some (.cells cur T' fr) := fun T' hT cur' fr e2 => by
  rw [h] at e2
  simp only [Option.some.injEq, Obj.cells.injEq] at e2
  exact hT e2.2.1
 exact (hk.keep b (lt_of_block h) (no _ h1) (no _ h2)).trans h
theorem ChO.snocD {B : Nat} {w w' : World} {v' : Value} {C : List Chg} {x : Chg} {t0 t1 t2 t3 : Value} {D : List (List Value)} (h0 : D.length = C.length) (h1 : ∀ (j : Nat) (c : List Value) (x : Chg), D[j]? = some c → C[j]? = some x → DltO B w c x) (hk : Kt 29 w w') (hx : DltO B w [t0, t1, t2, t3] x)
  (ho : w'.ownsRow B 29 4 v' (C.length + 1) (D.flatten ++ [t0, t1, t2, t3])) : ChO B w' v' (C ++ [x]) := by
 refine ⟨D ++ [[t0, t1, t2, t3]], by simp [h0], fun j c y hc hy => ?_, ?_⟩
 ·
  by_cases e : j < D.length
  ·
   rw [List.getElem?_append_left e] at hc
   rw [List.getElem?_append_left (by omega)] at hy
   exact (h1 j c y hc hy).kt hk (by decide) (by decide)
  ·
   have hj : j = D.length := by
    have := (List.getElem?_eq_some_iff.1 hc).1
    simp at this; omega
   subst hj
   rw [List.getElem?_append_right (Nat.le_refl _), Nat.sub_self] at hc
   rw [h0, List.getElem?_append_right (Nat.le_refl _), Nat.sub_self] at hy
   cases hc; cases hy
   exact hx.kt hk (by decide) (by decide)
 ·
  rw [List.flatten_append, List.length_append]
  simpa using ho
theorem PIn.chgs {B : Nat} {w w' : World} {g : Nat → Value} {s : PS} {v : Value} {C' : List Chg} (h : PIn B w g s) (hk : Kt 29 w w') (hc : ChO B w' v C') : PIn B w' (upd g 12 v) { s with C := C' } := by
 have hn : ∀ k, k ≠ 12 → upd g 12 v k = g k := fun k a => upd_other _ _ a
 refine ⟨fun j hj => ?_, fun j hj => ?_, fun j hj => ?_, ?_, fun j hj => ?_, fun j k hj hk' hne => ?_⟩
 ·
  rw [hn _ (by omega)]; exact (h.ent j hj).kt hk (by decide)
 ·
  rw [hn _ (by omega), hn _ (by omega)]; exact (h.ctx j hj).kt hk (by decide)
 ·
  rw [hn _ (by omega)]; exact h.made j hj
 ·
  rw [upd_same]; exact hc
 ·
  rw [hn _ (by omega)]; exact own_kt (h.has j hj) hk (by decide)
 ·
  rw [hn _ (by omega), hn _ (by omega)]; exact h.apart j k hj hk' hne
theorem hasN_last {nh i : Nat} {has : Nat → List Bool} (h : (has i).length = nh) : hasN nh nh i has = fun j => has j ++ [decide (j = i)] := by
 funext j
 unfold hasN upd extF
 rw [if_neg (Nat.lt_irrefl _), if_neg (Nat.lt_irrefl _)]
 by_cases e : j = i
 ·
  subst e
  rw [if_pos rfl, ← h, List.set_append_right _ _ (Nat.le_refl _), Nat.sub_self]
  simp
 ·
  rw [if_neg e]; simp [e]
theorem hasN_here {k nh i : Nat} {has : Nat → List Bool} (h : k < nh) : hasN k nh i has = upd has i ((has i).set k true) := by
 unfold hasN
 have : extF k nh has = has := by
  funext j
  unfold extF
  rw [if_pos h]
 rw [this]
theorem box_noD {w : World} {q B k n : Nat} {g : Nat → Value} {v : Value} {xs : List Value} (h : Box16 w q g) (ho : w.ownsRow B 29 k v n xs) : some q ≠ v.ownBlock := by
 intro e
 obtain ⟨arr, h1, _⟩ := h
 rcases ho.2 with ⟨rfl, _⟩ | ⟨b, cap, cur, rfl, _, hg, _⟩
 ·
  cases e
 ·
  cases e
  rw [h1] at hg
  simp only [Option.some.injEq, Obj.cells.injEq] at hg
  exact absurd hg.2.1 (by decide)
theorem kinds_ne {w : World} {b B k n : Nat} {arr : Array Value} {T T' : TypeId} {v : Value} {xs : List Value} (h : w.heap[b]? = some (.cells arr T (0, 0))) (ho : w.ownsRow B T' k v n xs) (hne : T ≠ T') : some b ≠ v.ownBlock := by
 intro e
 rcases ho.2 with ⟨rfl, _⟩ | ⟨b', cap, cur, rfl, _, hg, _⟩
 ·
  cases e
 ·
  cases e
  rw [h] at hg
  simp only [Option.some.injEq, Obj.cells.injEq] at hg
  exact hne hg.2.1
def StepP (B q n : Nat) (w : World) (e : Ending) (w' : World) : Prop := e = .returned (.bool true) ∧ ∃ g' s', Box16 w' q g' ∧ PIn B w' g' s' ∧ Inv (n + 1) s' ∧ Below B w w'
end Go.Proofs.YthpdmfkpiekonaaGreat
