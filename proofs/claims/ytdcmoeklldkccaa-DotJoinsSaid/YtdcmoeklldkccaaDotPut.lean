/- the document's put: a dot among rising ones. -/
import Derived.Test.YtdcmoeklldkccaaDotBox
import Derived.Test.YtdcmoeklldkccaaDotRef3
import Derived.Test.YtdcmoeklldkccaaDotRMath
import Derived.Test.YtdcmoeklldkccaaHeldP
namespace Go.Proofs.Ytdcmoeklldkccaa
open Go Go.RowKit Go.ChangeShapes cl Go.Sort

/-- rising dots come back, with one more -/
def PutP (v0 : Value) (l : List Dot) (d : Dot) (w : World) (e : Ending) (w' : World) : Prop := ∃ v l', e = .returned v ∧ (v = v0 ∧ l' = l ∨ w'.ownsRow w.heap.size 26 2 v l'.length (dcells l')) ∧ l'.Pairwise (fun a b => dless a b = true) ∧ (∀ x, x ∈ l' ↔ x ∈ l ∨ x = d) ∧ l'.length ≤ l.length + 1 ∧ Below w.heap.size w w'
theorem dcells_take : ∀ (l : List Dot) (k : Nat), dcells (l.take k) = (dcells l).take (k * 2) := by
  intro l
  induction l with
  | nil => intro k; simp [dcells]
  | cons x r ih =>
    intro k
    cases k with
    | zero => simp [dcells]
    | succ k =>
      have e : ∀ (y : Dot) (s : List Dot), dcells (y :: s) = .int .i64 y.1 :: .int .i64 y.2 :: dcells s := fun _ _ => rfl
      rw [List.take_succ_cons, e, e, Nat.succ_mul, ih]; rfl
theorem dcells_drop : ∀ (l : List Dot) (k : Nat), dcells (l.drop k) = (dcells l).drop (k * 2) := by
  intro l
  induction l with
  | nil => intro k; simp [dcells]
  | cons x r ih =>
    intro k
    cases k with
    | zero => simp [dcells]
    | succ k =>
      have e : ∀ (y : Dot) (s : List Dot), dcells (y :: s) = .int .i64 y.1 :: .int .i64 y.2 :: dcells s := fun _ _ => rfl
      rw [List.drop_succ_cons, e, Nat.succ_mul, ih]; rfl
theorem dots_len {w : World} {B n : Nat} {v : Value} {l : List Dot} (h : Dots w B v l) (hn : n = l.length) : Cells w B v n 2 (dcells l) := by subst hn; exact h
theorem dots_take {w : World} {B n cap m : Nat} {ao : Option Addr} {l : List Dot} (h : Dots w B (.slice ao n cap) l) (hn : n = l.length) (hm : m ≤ n) : Cells w B (.slice ao m cap) m 2 (dcells (l.take m)) := by
  subst hn
  obtain ⟨h0, ao', c, e, ⟨h1, h2⟩, h3, h4⟩ := h
  simp only [Value.slice.injEq] at e
  obtain ⟨rfl, _, rfl⟩ := e
  refine ⟨by rw [dcells_len, List.length_take]; omega, _, _, rfl, ⟨h1, by omega⟩, by omega, fun hp => ?_⟩
  obtain ⟨b, off, rfl, hB, hc⟩ := h4 (by omega)
  refine ⟨b, off, rfl, hB, fun j u hj => hc j u ?_⟩
  rw [dcells_take, List.getElem?_take] at hj
  split at hj
  · exact hj
  · cases hj
theorem getD_ext {l : List Dot} {k : Nat} {u v : Int} (h : (u, v) = l.getD k (0, 0)) : l.getD k (0, 0) = (u, v) := h.symm
set_option maxHeartbeats 8000000 in
set_option maxRecDepth 100000 in
theorem put_any (l : List Dot) (du dv : Int) (v : Value) (w : World) (h : Dots w w.heap.size v l) (hs : l.Pairwise fun a b => dless a b = true) (hl : l.length ≤ 400000) :
    Calls Try.prog 38 #[v, .agg #[.int .i64 du, .int .i64 dv]] w (PutP v l (du, dv) w) := by
  obtain ⟨n, hn⟩ : ∃ n, n = l.length := ⟨_, rfl⟩
  obtain ⟨ao, cp, rfl⟩ : ∃ ao cap, v = .slice ao n cap := by
    obtain ⟨ao, cap, e, _⟩ := h.form
    exact ⟨ao, cap, by rw [hn]; exact e⟩
  have hcap : n ≤ cp := by
    obtain ⟨ao', cap, e, h1, _⟩ := h.form
    simp only [Value.slice.injEq] at e
    omega
  have hn4 : n ≤ 400000 := by omega
  have HN := Lib.hid hn
  have HS := Lib.hid hs
  have HC := Lib.hid h
  obtain ⟨w1, hw1⟩ : ∃ W, W = w.alloc (.cells #[.int .i64 du, .int .i64 dv] 26) := ⟨_, rfl⟩
  have E1 : Below w.heap.size w w1 := by rw [hw1]; exact ctx_below
  have hs1 : w.heap.size < w1.heap.size := by rw [hw1]; simp
  have HB : Hid (∀ W, Below w1.heap.size w1 W → W.cell? ⟨w.heap.size, 0, none⟩ = some (.int .i64 du) ∧ W.cell? ⟨w.heap.size, 1, none⟩ = some (.int .i64 dv)) := fun W hW =>
    ⟨(hW.cell (p := ⟨w.heap.size, 0, none⟩) hs1).trans (by rw [hw1]; exact World.cell?_alloc_at _ _ _ _ rfl), (hW.cell (p := ⟨w.heap.size, 1, none⟩) hs1).trans (by rw [hw1]; exact World.cell?_alloc_at _ _ _ _ rfl)⟩
  have HW1 := Lib.hid hw1
  have HD : Hid (∀ W, Below w1.heap.size w1 W → Dots W W.heap.size (.slice ao n cp) l) := fun W hW => HC.out.next (E1.trans (hW.mono E1.size))
  have HLA : Hid (∀ (x : Dot) W, Calls Try.prog 15 #[.agg #[.int .i64 x.1, .int .i64 x.2], .agg #[.int .i64 du, .int .i64 dv]] W (Said (dless x (du, dv)) W)) := fun x W => rless_any x (du, dv) W
  clear hw1 hn hs h hl
  go_enter Try.func38, Try.ntmps38
  go_wp2
  rw [← HW1.out]
  go_loopw [5] (fun i wr => ∃ k : Nat, i = .int .i64 k ∧ k ≤ n ∧ Hid (∀ j, j < k → dless (l.getD j (0, 0)) (du, dv) = true) ∧ Below w1.heap.size w1 wr) (fun i _ => n - (intOf i).toNat)
  case atStart => exact ⟨0, rfl, Nat.zero_le _, fun j hj => absurd hj (Nat.not_lt_zero _), Below.refl _ _⟩
  case round =>
    obtain ⟨k, rfl, hk, HO, D⟩ := hrel
    by_cases hlt : k < n
    · obtain ⟨b0, off, rfl, hB0, g0, g1⟩ := Dots.get (HD.out _ D) HN.out hlt
      have HAW0 : Hid (∀ W, Below w1.heap.size w1 W → W.cell? ⟨b0, off + k * 2, none⟩ = some (.int .i64 (l.getD k (0, 0)).1) ∧ W.cell? ⟨b0, off + k * 2 + 1, none⟩ = some (.int .i64 (l.getD k (0, 0)).2)) := fun W hW => by
        obtain ⟨b0', off', hb0, _, j0, j1⟩ := Dots.get (HD.out W hW) HN.out hlt
        simp only [Option.some.injEq, Addr.mk.injEq] at hb0
        obtain ⟨rfl, rfl, _⟩ := hb0
        exact ⟨j0, j1⟩
      obtain ⟨⟨u, v⟩, hx⟩ : ∃ x, x = l.getD k (0, 0) := ⟨_, rfl⟩
      rw [← hx] at HAW0
      have HAW : Hid (∀ W, Below w1.heap.size w1 W → W.cell? ⟨b0, off + k * 2, none⟩ = some (.int .i64 u) ∧ W.cell? ⟨b0, off + k * 2 + 1, none⟩ = some (.int .i64 v)) := HAW0.out
      have HXE := Lib.hid hx
      have HL := Lib.hid (HLA.out (u, v))
      have hkI : (k : Int) < (n : Int) := by omega
      have hk0 : (0 : Int) ≤ (k : Int) := by omega
      have hd0 : decide ((k : Int) < (n : Int)) = true := decide_eq_true hkI
      clear hx HAW0 g0 g1
      cases hls : dless (u, v) (du, dv) with
      | true =>
        rw [hls] at HL
        have HO2 : Hid (∀ j, j < k + 1 → dless (l.getD j (0, 0)) (du, dv) = true) := fun j hj => by
          by_cases e : j = k
          · subst e; rw [← HXE.out]; exact hls
          · exact HO.out j (by omega)
        clear hls
        go_wp2_with fail
        refine wp_flow 12 (fun _ => 1000) (fun ww => RowKit.Below w1.heap.size w1 ww) (fun _ w w' => (fun (w w' : World) => RowKit.Below w.heap.size w w') w w') (fun kF vF wF => match kF with | 0 => (vF = .int .i64 (k : Int)) | 1 => (vF = .slice (some ⟨b0, off, none⟩) n cp) | 2 => (vF = .int .i64 (n : Int)) | 3 => (vF = .bool true) | 4 => (vF = .bool true) | 5 => (vF = .slice (some ⟨b0, off, none⟩) n cp) | 6 => (vF = .int .i64 (k : Int)) | 7 => (vF = .pointer (some ⟨b0, off + k * 2, none⟩)) | 8 => (vF = .agg #[.int .i64 u, .int .i64 v]) | 9 => (vF = .agg #[.int .i64 du, .int .i64 dv]) | 10 => (vF = .bool true) | 11 => (vF = .bool true) | _ => True) (fun _ _ _ _ => True) (by kernel_rfl) (by kernel_rfl) ?_ ?_ ?_ ?_ ?_
        · exact D.drew
        · intro iF wF1 wF2 hR hT; exact hR.trans (hT.mono hR.size)
        · intro kF hkF iF hiF hne hdd hanc hdan vF wF1 wF2 h hT
          rcases (by omega : kF = 0 ∨ kF = 1 ∨ kF = 2 ∨ kF = 3 ∨ kF = 4 ∨ kF = 5 ∨ kF = 6 ∨ kF = 7 ∨ kF = 8 ∨ kF = 9 ∨ kF = 10 ∨ kF = 11) with rfl | rfl | rfl | rfl | rfl | rfl | rfl | rfl | rfl | rfl | rfl | rfl
          · exact h
          · exact h
          · exact h
          · exact h
          · exact h
          · exact h
          · exact h
          · exact h
          · exact h
          · exact h
          · exact h
          · exact h
        · refine FlowAll.cons ?_ ?_
          · intro xF wq hR hd K hK
            clear hd
            simp only [List.take_succ_cons, List.take_zero, fillOf, Act.put, List.setIfInBounds_toArray, List.set_cons_zero, List.set_cons_succ, Nat.reduceAdd, Nat.zero_add] at hK ⊢
            obtain hbR := id hR
            rw [if_pos (by rfl)]
            go_simp
            exact hK.out _ _ (Below.refl _ _) (rfl) (fun _ _ _ => ⟨trivial, trivial⟩)
          refine FlowAll.cons ?_ ?_
          · intro xF wq hR hd K hK
            clear hd
            simp only [List.take_succ_cons, List.take_zero, fillOf, Act.put, List.setIfInBounds_toArray, List.set_cons_zero, List.set_cons_succ, Nat.reduceAdd, Nat.zero_add] at hK ⊢
            obtain hbR := id hR
            rw [if_pos (by rfl)]
            go_simp
            exact hK.out _ _ (Below.refl _ _) (rfl) (fun _ _ _ => ⟨trivial, trivial⟩)
          refine FlowAll.cons ?_ ?_
          · intro xF wq hR hd K hK
            have dd1 : ((xF 1) = .slice (some ⟨b0, off, none⟩) n cp) := hd 1 (by kernel_rfl)
            clear hd
            simp only [List.take_succ_cons, List.take_zero, fillOf, Act.put, List.setIfInBounds_toArray, List.set_cons_zero, List.set_cons_succ, Nat.reduceAdd, Nat.zero_add] at hK ⊢
            try generalize xF 1 = yy1 at *
            obtain rfl := dd1
            obtain hbR := id hR
            rw [if_pos (by rfl)]
            go_simp
            exact hK.out _ _ (Below.refl _ _) (rfl) (fun _ _ _ => ⟨trivial, trivial⟩)
          refine FlowAll.cons ?_ ?_
          · intro xF wq hR hd K hK
            have dd0 : ((xF 0) = .int .i64 (k : Int)) := hd 0 (by kernel_rfl)
            have dd2 : ((xF 2) = .int .i64 (n : Int)) := hd 2 (by kernel_rfl)
            clear hd
            simp only [List.take_succ_cons, List.take_zero, fillOf, Act.put, List.setIfInBounds_toArray, List.set_cons_zero, List.set_cons_succ, Nat.reduceAdd, Nat.zero_add] at hK ⊢
            try generalize xF 0 = yy0 at *
            try generalize xF 2 = yy2 at *
            obtain rfl := dd0
            obtain rfl := dd2
            obtain hbR := id hR
            rw [if_pos (by rfl)]
            go_simp
            exact hK.out _ _ (Below.refl _ _) (rfl) (fun _ _ _ => ⟨trivial, trivial⟩)
          refine FlowAll.cons ?_ ?_
          · intro xF wq hR hd K hK
            have dd3 : ((xF 3) = .bool true) := hd 3 (by kernel_rfl)
            clear hd
            simp only [List.take_succ_cons, List.take_zero, fillOf, Act.put, List.setIfInBounds_toArray, List.set_cons_zero, List.set_cons_succ, Nat.reduceAdd, Nat.zero_add] at hK ⊢
            try generalize xF 3 = yy3 at *
            obtain rfl := dd3
            obtain hbR := id hR
            rw [if_pos (by rfl)]
            go_simp
            exact hK.out _ _ (Below.refl _ _) (rfl) (fun _ _ _ => ⟨trivial, trivial⟩)
          refine FlowAll.cons ?_ ?_
          · intro xF wq hR hd K hK
            have dd4 : ((xF 4) = .bool true) := hd 4 (by kernel_rfl)
            clear hd
            simp only [List.take_succ_cons, List.take_zero, fillOf, Act.put, List.setIfInBounds_toArray, List.set_cons_zero, List.set_cons_succ, Nat.reduceAdd, Nat.zero_add] at hK ⊢
            try generalize xF 4 = yy4 at *
            obtain rfl := dd4
            obtain hbR := id hR
            rw [if_pos (by rfl)]
            go_simp
            exact hK.out _ _ (Below.refl _ _) (rfl) (fun _ _ _ => ⟨trivial, trivial⟩)
          refine FlowAll.cons ?_ ?_
          · intro xF wq hR hd K hK
            have dd4 : ((xF 4) = .bool true) := hd 4 (by kernel_rfl)
            clear hd
            simp only [List.take_succ_cons, List.take_zero, fillOf, Act.put, List.setIfInBounds_toArray, List.set_cons_zero, List.set_cons_succ, Nat.reduceAdd, Nat.zero_add] at hK ⊢
            try generalize xF 4 = yy4 at *
            obtain rfl := dd4
            obtain hbR := id hR
            rw [if_pos (by rfl)]
            go_simp
            exact hK.out _ _ (Below.refl _ _) (rfl) (fun _ _ _ => ⟨trivial, trivial⟩)
          refine FlowAll.cons ?_ ?_
          · intro xF wq hR hd K hK
            have dd4 : ((xF 4) = .bool true) := hd 4 (by kernel_rfl)
            have dd5 : ((xF 5) = .slice (some ⟨b0, off, none⟩) n cp) := hd 5 (by kernel_rfl)
            have dd6 : ((xF 6) = .int .i64 (k : Int)) := hd 6 (by kernel_rfl)
            clear hd
            simp only [List.take_succ_cons, List.take_zero, fillOf, Act.put, List.setIfInBounds_toArray, List.set_cons_zero, List.set_cons_succ, Nat.reduceAdd, Nat.zero_add] at hK ⊢
            try generalize xF 4 = yy4 at *
            try generalize xF 5 = yy5 at *
            try generalize xF 6 = yy6 at *
            obtain rfl := dd4
            obtain rfl := dd5
            obtain rfl := dd6
            obtain hbR := id hR
            rw [if_pos (by rfl)]
            go_simp
            exact hK.out _ _ (Below.refl _ _) (rfl) (fun _ _ _ => ⟨trivial, trivial⟩)
          refine FlowAll.cons ?_ ?_
          · intro xF wq hR hd K hK
            have dd4 : ((xF 4) = .bool true) := hd 4 (by kernel_rfl)
            have dd7 : ((xF 7) = .pointer (some ⟨b0, off + k * 2, none⟩)) := hd 7 (by kernel_rfl)
            clear hd
            simp only [List.take_succ_cons, List.take_zero, fillOf, Act.put, List.setIfInBounds_toArray, List.set_cons_zero, List.set_cons_succ, Nat.reduceAdd, Nat.zero_add] at hK ⊢
            try generalize xF 4 = yy4 at *
            try generalize xF 7 = yy7 at *
            obtain rfl := dd4
            obtain rfl := dd7
            obtain hbR := id hR
            obtain ⟨g0, g1⟩ := HAW.out _ hR
            rw [if_pos (by rfl)]
            go_simp
            exact hK.out _ _ (Below.refl _ _) (rfl) (fun _ _ _ => ⟨trivial, trivial⟩)
          refine FlowAll.cons ?_ ?_
          · intro xF wq hR hd K hK
            have dd4 : ((xF 4) = .bool true) := hd 4 (by kernel_rfl)
            clear hd
            simp only [List.take_succ_cons, List.take_zero, fillOf, Act.put, List.setIfInBounds_toArray, List.set_cons_zero, List.set_cons_succ, Nat.reduceAdd, Nat.zero_add] at hK ⊢
            try generalize xF 4 = yy4 at *
            obtain rfl := dd4
            obtain hbR := id hR
            obtain ⟨z0, z1⟩ := HB.out _ hR
            rw [if_pos (by rfl)]
            go_simp
            exact hK.out _ _ (Below.refl _ _) (rfl) (fun _ _ _ => ⟨trivial, trivial⟩)
          refine FlowAll.cons ?_ ?_
          · intro xF wq hR hd K hK
            have dd4 : ((xF 4) = .bool true) := hd 4 (by kernel_rfl)
            have dd8 : ((xF 8) = .agg #[.int .i64 u, .int .i64 v]) := hd 8 (by kernel_rfl)
            have dd9 : ((xF 9) = .agg #[.int .i64 du, .int .i64 dv]) := hd 9 (by kernel_rfl)
            clear hd
            simp only [List.take_succ_cons, List.take_zero, fillOf, Act.put, List.setIfInBounds_toArray, List.set_cons_zero, List.set_cons_succ, Nat.reduceAdd, Nat.zero_add] at hK ⊢
            try generalize xF 4 = yy4 at *
            try generalize xF 8 = yy8 at *
            try generalize xF 9 = yy9 at *
            obtain rfl := dd4
            obtain rfl := dd8
            obtain rfl := dd9
            obtain hbR := id hR
            rw [if_pos (by rfl)]
            go_simp
            (go_at_call 15; (with_reducible refine (HL.out _).mono ?_); rintro e wK ⟨rfl, hbK⟩)
            try go_wp2_with fail
            exact hK.out _ _ (hbK) (rfl) (fun _ _ _ => ⟨trivial, trivial⟩)
          refine FlowAll.cons ?_ ?_
          · intro xF wq hR hd K hK
            have dd4 : ((xF 4) = .bool true) := hd 4 (by kernel_rfl)
            have dd10 : ((xF 10) = .bool true) := hd 10 (by kernel_rfl)
            clear hd
            simp only [List.take_succ_cons, List.take_zero, fillOf, Act.put, List.setIfInBounds_toArray, List.set_cons_zero, List.set_cons_succ, Nat.reduceAdd, Nat.zero_add] at hK ⊢
            try generalize xF 4 = yy4 at *
            try generalize xF 10 = yy10 at *
            obtain rfl := dd4
            obtain rfl := dd10
            obtain hbR := id hR
            rw [if_pos (by rfl)]
            go_simp
            exact hK.out _ _ (Below.refl _ _) (rfl) (fun _ _ _ => ⟨trivial, trivial⟩)
          exact FlowAll.nil
        intro xF wq hR hF hP
        clear hP
        have dd0 : ((xF 0) = .int .i64 (k : Int)) := hF 0 (by omega) (by decide)
        have dd1 : ((xF 1) = .slice (some ⟨b0, off, none⟩) n cp) := hF 1 (by omega) (by decide)
        have dd2 : ((xF 2) = .int .i64 (n : Int)) := hF 2 (by omega) (by decide)
        have dd3 : ((xF 3) = .bool true) := hF 3 (by omega) (by decide)
        have dd4 : ((xF 4) = .bool true) := hF 4 (by omega) (by decide)
        have dd5 : ((xF 5) = .slice (some ⟨b0, off, none⟩) n cp) := hF 5 (by omega) (by decide)
        have dd6 : ((xF 6) = .int .i64 (k : Int)) := hF 6 (by omega) (by decide)
        have dd7 : ((xF 7) = .pointer (some ⟨b0, off + k * 2, none⟩)) := hF 7 (by omega) (by decide)
        have dd8 : ((xF 8) = .agg #[.int .i64 u, .int .i64 v]) := hF 8 (by omega) (by decide)
        have dd9 : ((xF 9) = .agg #[.int .i64 du, .int .i64 dv]) := hF 9 (by omega) (by decide)
        have dd10 : ((xF 10) = .bool true) := hF 10 (by omega) (by decide)
        have dd11 : ((xF 11) = .bool true) := hF 11 (by omega) (by decide)
        clear hF
        simp only [List.take_succ_cons, List.take_zero, List.drop_succ_cons, List.drop_zero, fillOf, Act.put, List.setIfInBounds_toArray, List.set_cons_zero, List.set_cons_succ, Nat.reduceAdd, Nat.zero_add]
        try generalize xF 0 = yy0 at *
        try generalize xF 1 = yy1 at *
        try generalize xF 2 = yy2 at *
        try generalize xF 3 = yy3 at *
        try generalize xF 4 = yy4 at *
        try generalize xF 5 = yy5 at *
        try generalize xF 6 = yy6 at *
        try generalize xF 7 = yy7 at *
        try generalize xF 8 = yy8 at *
        try generalize xF 9 = yy9 at *
        try generalize xF 10 = yy10 at *
        try generalize xF 11 = yy11 at *
        clear xF
        obtain rfl := dd0
        obtain rfl := dd1
        obtain rfl := dd2
        obtain rfl := dd3
        obtain rfl := dd4
        obtain rfl := dd5
        obtain rfl := dd6
        obtain rfl := dd7
        obtain rfl := dd8
        obtain rfl := dd9
        obtain rfl := dd10
        obtain rfl := dd11
        have hRE := Lib.hid hR
        clear hR
        have D9 := hRE.out
        clear hRE
        go_wp2
        go_roundw
        case rel => exact ⟨k + 1, by go_num, by omega, HO2, D9⟩
        case measure => simp [intOf]; omega
      | false =>
        rw [hls] at HL
        have HLS := Lib.hid hls
        clear hls
        go_wp2_with fail
        refine wp_flow 12 (fun _ => 1000) (fun ww => RowKit.Below w1.heap.size w1 ww) (fun _ w w' => (fun (w w' : World) => RowKit.Below w.heap.size w w') w w') (fun kF vF wF => match kF with | 0 => (vF = .int .i64 (k : Int)) | 1 => (vF = .slice (some ⟨b0, off, none⟩) n cp) | 2 => (vF = .int .i64 (n : Int)) | 3 => (vF = .bool true) | 4 => (vF = .bool true) | 5 => (vF = .slice (some ⟨b0, off, none⟩) n cp) | 6 => (vF = .int .i64 (k : Int)) | 7 => (vF = .pointer (some ⟨b0, off + k * 2, none⟩)) | 8 => (vF = .agg #[.int .i64 u, .int .i64 v]) | 9 => (vF = .agg #[.int .i64 du, .int .i64 dv]) | 10 => (vF = .bool false) | 11 => (vF = .bool false) | _ => True) (fun _ _ _ _ => True) (by kernel_rfl) (by kernel_rfl) ?_ ?_ ?_ ?_ ?_
        · exact D.drew
        · intro iF wF1 wF2 hR hT; exact hR.trans (hT.mono hR.size)
        · intro kF hkF iF hiF hne hdd hanc hdan vF wF1 wF2 h hT
          rcases (by omega : kF = 0 ∨ kF = 1 ∨ kF = 2 ∨ kF = 3 ∨ kF = 4 ∨ kF = 5 ∨ kF = 6 ∨ kF = 7 ∨ kF = 8 ∨ kF = 9 ∨ kF = 10 ∨ kF = 11) with rfl | rfl | rfl | rfl | rfl | rfl | rfl | rfl | rfl | rfl | rfl | rfl
          · exact h
          · exact h
          · exact h
          · exact h
          · exact h
          · exact h
          · exact h
          · exact h
          · exact h
          · exact h
          · exact h
          · exact h
        · refine FlowAll.cons ?_ ?_
          · intro xF wq hR hd K hK
            clear hd
            simp only [List.take_succ_cons, List.take_zero, fillOf, Act.put, List.setIfInBounds_toArray, List.set_cons_zero, List.set_cons_succ, Nat.reduceAdd, Nat.zero_add] at hK ⊢
            obtain hbR := id hR
            rw [if_pos (by rfl)]
            go_simp
            exact hK.out _ _ (Below.refl _ _) (rfl) (fun _ _ _ => ⟨trivial, trivial⟩)
          refine FlowAll.cons ?_ ?_
          · intro xF wq hR hd K hK
            clear hd
            simp only [List.take_succ_cons, List.take_zero, fillOf, Act.put, List.setIfInBounds_toArray, List.set_cons_zero, List.set_cons_succ, Nat.reduceAdd, Nat.zero_add] at hK ⊢
            obtain hbR := id hR
            rw [if_pos (by rfl)]
            go_simp
            exact hK.out _ _ (Below.refl _ _) (rfl) (fun _ _ _ => ⟨trivial, trivial⟩)
          refine FlowAll.cons ?_ ?_
          · intro xF wq hR hd K hK
            have dd1 : ((xF 1) = .slice (some ⟨b0, off, none⟩) n cp) := hd 1 (by kernel_rfl)
            clear hd
            simp only [List.take_succ_cons, List.take_zero, fillOf, Act.put, List.setIfInBounds_toArray, List.set_cons_zero, List.set_cons_succ, Nat.reduceAdd, Nat.zero_add] at hK ⊢
            try generalize xF 1 = yy1 at *
            obtain rfl := dd1
            obtain hbR := id hR
            rw [if_pos (by rfl)]
            go_simp
            exact hK.out _ _ (Below.refl _ _) (rfl) (fun _ _ _ => ⟨trivial, trivial⟩)
          refine FlowAll.cons ?_ ?_
          · intro xF wq hR hd K hK
            have dd0 : ((xF 0) = .int .i64 (k : Int)) := hd 0 (by kernel_rfl)
            have dd2 : ((xF 2) = .int .i64 (n : Int)) := hd 2 (by kernel_rfl)
            clear hd
            simp only [List.take_succ_cons, List.take_zero, fillOf, Act.put, List.setIfInBounds_toArray, List.set_cons_zero, List.set_cons_succ, Nat.reduceAdd, Nat.zero_add] at hK ⊢
            try generalize xF 0 = yy0 at *
            try generalize xF 2 = yy2 at *
            obtain rfl := dd0
            obtain rfl := dd2
            obtain hbR := id hR
            rw [if_pos (by rfl)]
            go_simp
            exact hK.out _ _ (Below.refl _ _) (rfl) (fun _ _ _ => ⟨trivial, trivial⟩)
          refine FlowAll.cons ?_ ?_
          · intro xF wq hR hd K hK
            have dd3 : ((xF 3) = .bool true) := hd 3 (by kernel_rfl)
            clear hd
            simp only [List.take_succ_cons, List.take_zero, fillOf, Act.put, List.setIfInBounds_toArray, List.set_cons_zero, List.set_cons_succ, Nat.reduceAdd, Nat.zero_add] at hK ⊢
            try generalize xF 3 = yy3 at *
            obtain rfl := dd3
            obtain hbR := id hR
            rw [if_pos (by rfl)]
            go_simp
            exact hK.out _ _ (Below.refl _ _) (rfl) (fun _ _ _ => ⟨trivial, trivial⟩)
          refine FlowAll.cons ?_ ?_
          · intro xF wq hR hd K hK
            have dd4 : ((xF 4) = .bool true) := hd 4 (by kernel_rfl)
            clear hd
            simp only [List.take_succ_cons, List.take_zero, fillOf, Act.put, List.setIfInBounds_toArray, List.set_cons_zero, List.set_cons_succ, Nat.reduceAdd, Nat.zero_add] at hK ⊢
            try generalize xF 4 = yy4 at *
            obtain rfl := dd4
            obtain hbR := id hR
            rw [if_pos (by rfl)]
            go_simp
            exact hK.out _ _ (Below.refl _ _) (rfl) (fun _ _ _ => ⟨trivial, trivial⟩)
          refine FlowAll.cons ?_ ?_
          · intro xF wq hR hd K hK
            have dd4 : ((xF 4) = .bool true) := hd 4 (by kernel_rfl)
            clear hd
            simp only [List.take_succ_cons, List.take_zero, fillOf, Act.put, List.setIfInBounds_toArray, List.set_cons_zero, List.set_cons_succ, Nat.reduceAdd, Nat.zero_add] at hK ⊢
            try generalize xF 4 = yy4 at *
            obtain rfl := dd4
            obtain hbR := id hR
            rw [if_pos (by rfl)]
            go_simp
            exact hK.out _ _ (Below.refl _ _) (rfl) (fun _ _ _ => ⟨trivial, trivial⟩)
          refine FlowAll.cons ?_ ?_
          · intro xF wq hR hd K hK
            have dd4 : ((xF 4) = .bool true) := hd 4 (by kernel_rfl)
            have dd5 : ((xF 5) = .slice (some ⟨b0, off, none⟩) n cp) := hd 5 (by kernel_rfl)
            have dd6 : ((xF 6) = .int .i64 (k : Int)) := hd 6 (by kernel_rfl)
            clear hd
            simp only [List.take_succ_cons, List.take_zero, fillOf, Act.put, List.setIfInBounds_toArray, List.set_cons_zero, List.set_cons_succ, Nat.reduceAdd, Nat.zero_add] at hK ⊢
            try generalize xF 4 = yy4 at *
            try generalize xF 5 = yy5 at *
            try generalize xF 6 = yy6 at *
            obtain rfl := dd4
            obtain rfl := dd5
            obtain rfl := dd6
            obtain hbR := id hR
            rw [if_pos (by rfl)]
            go_simp
            exact hK.out _ _ (Below.refl _ _) (rfl) (fun _ _ _ => ⟨trivial, trivial⟩)
          refine FlowAll.cons ?_ ?_
          · intro xF wq hR hd K hK
            have dd4 : ((xF 4) = .bool true) := hd 4 (by kernel_rfl)
            have dd7 : ((xF 7) = .pointer (some ⟨b0, off + k * 2, none⟩)) := hd 7 (by kernel_rfl)
            clear hd
            simp only [List.take_succ_cons, List.take_zero, fillOf, Act.put, List.setIfInBounds_toArray, List.set_cons_zero, List.set_cons_succ, Nat.reduceAdd, Nat.zero_add] at hK ⊢
            try generalize xF 4 = yy4 at *
            try generalize xF 7 = yy7 at *
            obtain rfl := dd4
            obtain rfl := dd7
            obtain hbR := id hR
            obtain ⟨g0, g1⟩ := HAW.out _ hR
            rw [if_pos (by rfl)]
            go_simp
            exact hK.out _ _ (Below.refl _ _) (rfl) (fun _ _ _ => ⟨trivial, trivial⟩)
          refine FlowAll.cons ?_ ?_
          · intro xF wq hR hd K hK
            have dd4 : ((xF 4) = .bool true) := hd 4 (by kernel_rfl)
            clear hd
            simp only [List.take_succ_cons, List.take_zero, fillOf, Act.put, List.setIfInBounds_toArray, List.set_cons_zero, List.set_cons_succ, Nat.reduceAdd, Nat.zero_add] at hK ⊢
            try generalize xF 4 = yy4 at *
            obtain rfl := dd4
            obtain hbR := id hR
            obtain ⟨z0, z1⟩ := HB.out _ hR
            rw [if_pos (by rfl)]
            go_simp
            exact hK.out _ _ (Below.refl _ _) (rfl) (fun _ _ _ => ⟨trivial, trivial⟩)
          refine FlowAll.cons ?_ ?_
          · intro xF wq hR hd K hK
            have dd4 : ((xF 4) = .bool true) := hd 4 (by kernel_rfl)
            have dd8 : ((xF 8) = .agg #[.int .i64 u, .int .i64 v]) := hd 8 (by kernel_rfl)
            have dd9 : ((xF 9) = .agg #[.int .i64 du, .int .i64 dv]) := hd 9 (by kernel_rfl)
            clear hd
            simp only [List.take_succ_cons, List.take_zero, fillOf, Act.put, List.setIfInBounds_toArray, List.set_cons_zero, List.set_cons_succ, Nat.reduceAdd, Nat.zero_add] at hK ⊢
            try generalize xF 4 = yy4 at *
            try generalize xF 8 = yy8 at *
            try generalize xF 9 = yy9 at *
            obtain rfl := dd4
            obtain rfl := dd8
            obtain rfl := dd9
            obtain hbR := id hR
            rw [if_pos (by rfl)]
            go_simp
            (go_at_call 15; (with_reducible refine (HL.out _).mono ?_); rintro e wK ⟨rfl, hbK⟩)
            try go_wp2_with fail
            exact hK.out _ _ (hbK) (rfl) (fun _ _ _ => ⟨trivial, trivial⟩)
          refine FlowAll.cons ?_ ?_
          · intro xF wq hR hd K hK
            have dd4 : ((xF 4) = .bool true) := hd 4 (by kernel_rfl)
            have dd10 : ((xF 10) = .bool false) := hd 10 (by kernel_rfl)
            clear hd
            simp only [List.take_succ_cons, List.take_zero, fillOf, Act.put, List.setIfInBounds_toArray, List.set_cons_zero, List.set_cons_succ, Nat.reduceAdd, Nat.zero_add] at hK ⊢
            try generalize xF 4 = yy4 at *
            try generalize xF 10 = yy10 at *
            obtain rfl := dd4
            obtain rfl := dd10
            obtain hbR := id hR
            rw [if_pos (by rfl)]
            go_simp
            exact hK.out _ _ (Below.refl _ _) (rfl) (fun _ _ _ => ⟨trivial, trivial⟩)
          exact FlowAll.nil
        intro xF wq hR hF hP
        clear hP
        have dd0 : ((xF 0) = .int .i64 (k : Int)) := hF 0 (by omega) (by decide)
        have dd1 : ((xF 1) = .slice (some ⟨b0, off, none⟩) n cp) := hF 1 (by omega) (by decide)
        have dd2 : ((xF 2) = .int .i64 (n : Int)) := hF 2 (by omega) (by decide)
        have dd3 : ((xF 3) = .bool true) := hF 3 (by omega) (by decide)
        have dd4 : ((xF 4) = .bool true) := hF 4 (by omega) (by decide)
        have dd5 : ((xF 5) = .slice (some ⟨b0, off, none⟩) n cp) := hF 5 (by omega) (by decide)
        have dd6 : ((xF 6) = .int .i64 (k : Int)) := hF 6 (by omega) (by decide)
        have dd7 : ((xF 7) = .pointer (some ⟨b0, off + k * 2, none⟩)) := hF 7 (by omega) (by decide)
        have dd8 : ((xF 8) = .agg #[.int .i64 u, .int .i64 v]) := hF 8 (by omega) (by decide)
        have dd9 : ((xF 9) = .agg #[.int .i64 du, .int .i64 dv]) := hF 9 (by omega) (by decide)
        have dd10 : ((xF 10) = .bool false) := hF 10 (by omega) (by decide)
        have dd11 : ((xF 11) = .bool false) := hF 11 (by omega) (by decide)
        clear hF
        simp only [List.take_succ_cons, List.take_zero, List.drop_succ_cons, List.drop_zero, fillOf, Act.put, List.setIfInBounds_toArray, List.set_cons_zero, List.set_cons_succ, Nat.reduceAdd, Nat.zero_add]
        try generalize xF 0 = yy0 at *
        try generalize xF 1 = yy1 at *
        try generalize xF 2 = yy2 at *
        try generalize xF 3 = yy3 at *
        try generalize xF 4 = yy4 at *
        try generalize xF 5 = yy5 at *
        try generalize xF 6 = yy6 at *
        try generalize xF 7 = yy7 at *
        try generalize xF 8 = yy8 at *
        try generalize xF 9 = yy9 at *
        try generalize xF 10 = yy10 at *
        try generalize xF 11 = yy11 at *
        clear xF
        obtain rfl := dd0
        obtain rfl := dd1
        obtain rfl := dd2
        obtain rfl := dd3
        obtain rfl := dd4
        obtain rfl := dd5
        obtain rfl := dd6
        obtain rfl := dd7
        obtain rfl := dd8
        obtain rfl := dd9
        obtain rfl := dd10
        obtain rfl := dd11
        have hRE := Lib.hid hR
        clear hR
        replace D := hRE.out
        clear hRE HL
        by_cases heq : u = du ∧ v = dv
        · obtain ⟨rfl, rfl⟩ : du = u ∧ dv = v := ⟨heq.1.symm, heq.2.symm⟩
          go_wp2_with fail
          refine wp_flow 12 (fun _ => 1000) (fun ww => RowKit.Below w1.heap.size w1 ww) (fun _ w w' => (fun (w w' : World) => RowKit.Below w.heap.size w w') w w') (fun kF vF wF => match kF with | 0 => (vF = .int .i64 (k : Int)) | 1 => (vF = .slice (some ⟨b0, off, none⟩) n cp) | 2 => (vF = .int .i64 (n : Int)) | 3 => (vF = .bool true) | 4 => (vF = .bool true) | 5 => (vF = .slice (some ⟨b0, off, none⟩) n cp) | 6 => (vF = .int .i64 (k : Int)) | 7 => (vF = .pointer (some ⟨b0, off + k * 2, none⟩)) | 8 => (vF = .agg #[.int .i64 du, .int .i64 dv]) | 9 => (vF = .agg #[.int .i64 du, .int .i64 dv]) | 10 => (vF = .bool true) | 11 => (vF = .bool true) | _ => True) (fun _ _ _ _ => True) (by kernel_rfl) (by kernel_rfl) ?_ ?_ ?_ ?_ ?_
          · exact D.drew
          · intro iF wF1 wF2 hR hT; exact hR.trans (hT.mono hR.size)
          · intro kF hkF iF hiF hne hdd hanc hdan vF wF1 wF2 h hT
            rcases (by omega : kF = 0 ∨ kF = 1 ∨ kF = 2 ∨ kF = 3 ∨ kF = 4 ∨ kF = 5 ∨ kF = 6 ∨ kF = 7 ∨ kF = 8 ∨ kF = 9 ∨ kF = 10 ∨ kF = 11) with rfl | rfl | rfl | rfl | rfl | rfl | rfl | rfl | rfl | rfl | rfl | rfl
            · exact h
            · exact h
            · exact h
            · exact h
            · exact h
            · exact h
            · exact h
            · exact h
            · exact h
            · exact h
            · exact h
            · exact h
          · refine FlowAll.cons ?_ ?_
            · intro xF wz hR hd K hK
              clear hd
              simp only [List.take_succ_cons, List.take_zero, fillOf, Act.put, List.setIfInBounds_toArray, List.set_cons_zero, List.set_cons_succ, Nat.reduceAdd, Nat.zero_add] at hK ⊢
              obtain hbR := id hR
              rw [if_pos (by rfl)]
              go_simp
              exact hK.out _ _ (Below.refl _ _) (rfl) (fun _ _ _ => ⟨trivial, trivial⟩)
            refine FlowAll.cons ?_ ?_
            · intro xF wz hR hd K hK
              clear hd
              simp only [List.take_succ_cons, List.take_zero, fillOf, Act.put, List.setIfInBounds_toArray, List.set_cons_zero, List.set_cons_succ, Nat.reduceAdd, Nat.zero_add] at hK ⊢
              obtain hbR := id hR
              rw [if_pos (by rfl)]
              go_simp
              exact hK.out _ _ (Below.refl _ _) (rfl) (fun _ _ _ => ⟨trivial, trivial⟩)
            refine FlowAll.cons ?_ ?_
            · intro xF wz hR hd K hK
              have dd1 : ((xF 1) = .slice (some ⟨b0, off, none⟩) n cp) := hd 1 (by kernel_rfl)
              clear hd
              simp only [List.take_succ_cons, List.take_zero, fillOf, Act.put, List.setIfInBounds_toArray, List.set_cons_zero, List.set_cons_succ, Nat.reduceAdd, Nat.zero_add] at hK ⊢
              try generalize xF 1 = yy1 at *
              obtain rfl := dd1
              obtain hbR := id hR
              rw [if_pos (by rfl)]
              go_simp
              exact hK.out _ _ (Below.refl _ _) (rfl) (fun _ _ _ => ⟨trivial, trivial⟩)
            refine FlowAll.cons ?_ ?_
            · intro xF wz hR hd K hK
              have dd0 : ((xF 0) = .int .i64 (k : Int)) := hd 0 (by kernel_rfl)
              have dd2 : ((xF 2) = .int .i64 (n : Int)) := hd 2 (by kernel_rfl)
              clear hd
              simp only [List.take_succ_cons, List.take_zero, fillOf, Act.put, List.setIfInBounds_toArray, List.set_cons_zero, List.set_cons_succ, Nat.reduceAdd, Nat.zero_add] at hK ⊢
              try generalize xF 0 = yy0 at *
              try generalize xF 2 = yy2 at *
              obtain rfl := dd0
              obtain rfl := dd2
              obtain hbR := id hR
              rw [if_pos (by rfl)]
              go_simp
              exact hK.out _ _ (Below.refl _ _) (rfl) (fun _ _ _ => ⟨trivial, trivial⟩)
            refine FlowAll.cons ?_ ?_
            · intro xF wz hR hd K hK
              have dd3 : ((xF 3) = .bool true) := hd 3 (by kernel_rfl)
              clear hd
              simp only [List.take_succ_cons, List.take_zero, fillOf, Act.put, List.setIfInBounds_toArray, List.set_cons_zero, List.set_cons_succ, Nat.reduceAdd, Nat.zero_add] at hK ⊢
              try generalize xF 3 = yy3 at *
              obtain rfl := dd3
              obtain hbR := id hR
              rw [if_pos (by rfl)]
              go_simp
              exact hK.out _ _ (Below.refl _ _) (rfl) (fun _ _ _ => ⟨trivial, trivial⟩)
            refine FlowAll.cons ?_ ?_
            · intro xF wz hR hd K hK
              have dd4 : ((xF 4) = .bool true) := hd 4 (by kernel_rfl)
              clear hd
              simp only [List.take_succ_cons, List.take_zero, fillOf, Act.put, List.setIfInBounds_toArray, List.set_cons_zero, List.set_cons_succ, Nat.reduceAdd, Nat.zero_add] at hK ⊢
              try generalize xF 4 = yy4 at *
              obtain rfl := dd4
              obtain hbR := id hR
              rw [if_pos (by rfl)]
              go_simp
              exact hK.out _ _ (Below.refl _ _) (rfl) (fun _ _ _ => ⟨trivial, trivial⟩)
            refine FlowAll.cons ?_ ?_
            · intro xF wz hR hd K hK
              have dd4 : ((xF 4) = .bool true) := hd 4 (by kernel_rfl)
              clear hd
              simp only [List.take_succ_cons, List.take_zero, fillOf, Act.put, List.setIfInBounds_toArray, List.set_cons_zero, List.set_cons_succ, Nat.reduceAdd, Nat.zero_add] at hK ⊢
              try generalize xF 4 = yy4 at *
              obtain rfl := dd4
              obtain hbR := id hR
              rw [if_pos (by rfl)]
              go_simp
              exact hK.out _ _ (Below.refl _ _) (rfl) (fun _ _ _ => ⟨trivial, trivial⟩)
            refine FlowAll.cons ?_ ?_
            · intro xF wz hR hd K hK
              have dd4 : ((xF 4) = .bool true) := hd 4 (by kernel_rfl)
              have dd5 : ((xF 5) = .slice (some ⟨b0, off, none⟩) n cp) := hd 5 (by kernel_rfl)
              have dd6 : ((xF 6) = .int .i64 (k : Int)) := hd 6 (by kernel_rfl)
              clear hd
              simp only [List.take_succ_cons, List.take_zero, fillOf, Act.put, List.setIfInBounds_toArray, List.set_cons_zero, List.set_cons_succ, Nat.reduceAdd, Nat.zero_add] at hK ⊢
              try generalize xF 4 = yy4 at *
              try generalize xF 5 = yy5 at *
              try generalize xF 6 = yy6 at *
              obtain rfl := dd4
              obtain rfl := dd5
              obtain rfl := dd6
              obtain hbR := id hR
              rw [if_pos (by rfl)]
              go_simp
              exact hK.out _ _ (Below.refl _ _) (rfl) (fun _ _ _ => ⟨trivial, trivial⟩)
            refine FlowAll.cons ?_ ?_
            · intro xF wz hR hd K hK
              have dd4 : ((xF 4) = .bool true) := hd 4 (by kernel_rfl)
              have dd7 : ((xF 7) = .pointer (some ⟨b0, off + k * 2, none⟩)) := hd 7 (by kernel_rfl)
              clear hd
              simp only [List.take_succ_cons, List.take_zero, fillOf, Act.put, List.setIfInBounds_toArray, List.set_cons_zero, List.set_cons_succ, Nat.reduceAdd, Nat.zero_add] at hK ⊢
              try generalize xF 4 = yy4 at *
              try generalize xF 7 = yy7 at *
              obtain rfl := dd4
              obtain rfl := dd7
              obtain hbR := id hR
              obtain ⟨g0, g1⟩ := HAW.out _ hR
              rw [if_pos (by rfl)]
              go_simp
              exact hK.out _ _ (Below.refl _ _) (rfl) (fun _ _ _ => ⟨trivial, trivial⟩)
            refine FlowAll.cons ?_ ?_
            · intro xF wz hR hd K hK
              have dd4 : ((xF 4) = .bool true) := hd 4 (by kernel_rfl)
              clear hd
              simp only [List.take_succ_cons, List.take_zero, fillOf, Act.put, List.setIfInBounds_toArray, List.set_cons_zero, List.set_cons_succ, Nat.reduceAdd, Nat.zero_add] at hK ⊢
              try generalize xF 4 = yy4 at *
              obtain rfl := dd4
              obtain hbR := id hR
              obtain ⟨z0, z1⟩ := HB.out _ hR
              rw [if_pos (by rfl)]
              go_simp
              exact hK.out _ _ (Below.refl _ _) (rfl) (fun _ _ _ => ⟨trivial, trivial⟩)
            refine FlowAll.cons ?_ ?_
            · intro xF wz hR hd K hK
              have dd4 : ((xF 4) = .bool true) := hd 4 (by kernel_rfl)
              have dd8 : ((xF 8) = .agg #[.int .i64 du, .int .i64 dv]) := hd 8 (by kernel_rfl)
              have dd9 : ((xF 9) = .agg #[.int .i64 du, .int .i64 dv]) := hd 9 (by kernel_rfl)
              clear hd
              simp only [List.take_succ_cons, List.take_zero, fillOf, Act.put, List.setIfInBounds_toArray, List.set_cons_zero, List.set_cons_succ, Nat.reduceAdd, Nat.zero_add] at hK ⊢
              try generalize xF 4 = yy4 at *
              try generalize xF 8 = yy8 at *
              try generalize xF 9 = yy9 at *
              obtain rfl := dd4
              obtain rfl := dd8
              obtain rfl := dd9
              obtain hbR := id hR
              rw [if_pos (by rfl)]
              go_simp
              exact hK.out _ _ (Below.refl _ _) (rfl) (fun _ _ _ => ⟨trivial, trivial⟩)
            refine FlowAll.cons ?_ ?_
            · intro xF wz hR hd K hK
              have dd4 : ((xF 4) = .bool true) := hd 4 (by kernel_rfl)
              have dd10 : ((xF 10) = .bool true) := hd 10 (by kernel_rfl)
              clear hd
              simp only [List.take_succ_cons, List.take_zero, fillOf, Act.put, List.setIfInBounds_toArray, List.set_cons_zero, List.set_cons_succ, Nat.reduceAdd, Nat.zero_add] at hK ⊢
              try generalize xF 4 = yy4 at *
              try generalize xF 10 = yy10 at *
              obtain rfl := dd4
              obtain rfl := dd10
              obtain hbR := id hR
              rw [if_pos (by rfl)]
              go_simp
              exact hK.out _ _ (Below.refl _ _) (rfl) (fun _ _ _ => ⟨trivial, trivial⟩)
            exact FlowAll.nil
          intro xF wz hR hF hP
          clear hP
          have dd0 : ((xF 0) = .int .i64 (k : Int)) := hF 0 (by omega) (by decide)
          have dd1 : ((xF 1) = .slice (some ⟨b0, off, none⟩) n cp) := hF 1 (by omega) (by decide)
          have dd2 : ((xF 2) = .int .i64 (n : Int)) := hF 2 (by omega) (by decide)
          have dd3 : ((xF 3) = .bool true) := hF 3 (by omega) (by decide)
          have dd4 : ((xF 4) = .bool true) := hF 4 (by omega) (by decide)
          have dd5 : ((xF 5) = .slice (some ⟨b0, off, none⟩) n cp) := hF 5 (by omega) (by decide)
          have dd6 : ((xF 6) = .int .i64 (k : Int)) := hF 6 (by omega) (by decide)
          have dd7 : ((xF 7) = .pointer (some ⟨b0, off + k * 2, none⟩)) := hF 7 (by omega) (by decide)
          have dd8 : ((xF 8) = .agg #[.int .i64 du, .int .i64 dv]) := hF 8 (by omega) (by decide)
          have dd9 : ((xF 9) = .agg #[.int .i64 du, .int .i64 dv]) := hF 9 (by omega) (by decide)
          have dd10 : ((xF 10) = .bool true) := hF 10 (by omega) (by decide)
          have dd11 : ((xF 11) = .bool true) := hF 11 (by omega) (by decide)
          clear hF
          simp only [List.take_succ_cons, List.take_zero, List.drop_succ_cons, List.drop_zero, fillOf, Act.put, List.setIfInBounds_toArray, List.set_cons_zero, List.set_cons_succ, Nat.reduceAdd, Nat.zero_add]
          try generalize xF 0 = yy0 at *
          try generalize xF 1 = yy1 at *
          try generalize xF 2 = yy2 at *
          try generalize xF 3 = yy3 at *
          try generalize xF 4 = yy4 at *
          try generalize xF 5 = yy5 at *
          try generalize xF 6 = yy6 at *
          try generalize xF 7 = yy7 at *
          try generalize xF 8 = yy8 at *
          try generalize xF 9 = yy9 at *
          try generalize xF 10 = yy10 at *
          try generalize xF 11 = yy11 at *
          clear xF
          obtain rfl := dd0
          obtain rfl := dd1
          obtain rfl := dd2
          obtain rfl := dd3
          obtain rfl := dd4
          obtain rfl := dd5
          obtain rfl := dd6
          obtain rfl := dd7
          obtain rfl := dd8
          obtain rfl := dd9
          obtain rfl := dd10
          obtain rfl := dd11
          have hRE := Lib.hid hR
          clear hR
          have D9 := hRE.out
          have hb9 := E1.trans (D9.mono E1.size)
          clear hRE
          go_wp2
          go_ret
          exact ⟨_, l, rfl, Or.inl ⟨rfl, rfl⟩, HS.out, dm.put_same (by rw [← HN.out]; exact hlt) HXE.out.symm, by omega, hb9⟩
        · have HNE : Hid (l.getD k (0, 0) ≠ (du, dv)) := fun e => by rw [← HXE.out] at e; exact heq ⟨(Prod.ext_iff.1 e).1, (Prod.ext_iff.1 e).2⟩
          have HPU := Lib.hid (dm.put_new HS.out (by rw [← HN.out]; exact hk) HO.out (fun _ => ⟨by rw [← HXE.out]; exact HLS.out, HNE.out⟩))
          by_cases hu : u = du
          · obtain rfl : du = u := hu.symm
            have hq : ¬ v = dv := fun e => heq ⟨rfl, e⟩
            have hq2 : (v == dv) = false := by simpa using hq
            clear heq hq
            go_wp2_with fail
            refine wp_flow 12 (fun _ => 1000) (fun ww => RowKit.Below w1.heap.size w1 ww) (fun _ w w' => (fun (w w' : World) => RowKit.Below w.heap.size w w') w w') (fun kF vF wF => match kF with | 0 => (vF = .int .i64 (k : Int)) | 1 => (vF = .slice (some ⟨b0, off, none⟩) n cp) | 2 => (vF = .int .i64 (n : Int)) | 3 => (vF = .bool true) | 4 => (vF = .bool true) | 5 => (vF = .slice (some ⟨b0, off, none⟩) n cp) | 6 => (vF = .int .i64 (k : Int)) | 7 => (vF = .pointer (some ⟨b0, off + k * 2, none⟩)) | 8 => (vF = .agg #[.int .i64 du, .int .i64 v]) | 9 => (vF = .agg #[.int .i64 du, .int .i64 dv]) | 10 => (vF = .bool false) | 11 => (vF = .bool false) | _ => True) (fun _ _ _ _ => True) (by kernel_rfl) (by kernel_rfl) ?_ ?_ ?_ ?_ ?_
            · exact D.drew
            · intro iF wF1 wF2 hR hT; exact hR.trans (hT.mono hR.size)
            · intro kF hkF iF hiF hne hdd hanc hdan vF wF1 wF2 h hT
              rcases (by omega : kF = 0 ∨ kF = 1 ∨ kF = 2 ∨ kF = 3 ∨ kF = 4 ∨ kF = 5 ∨ kF = 6 ∨ kF = 7 ∨ kF = 8 ∨ kF = 9 ∨ kF = 10 ∨ kF = 11) with rfl | rfl | rfl | rfl | rfl | rfl | rfl | rfl | rfl | rfl | rfl | rfl
              · exact h
              · exact h
              · exact h
              · exact h
              · exact h
              · exact h
              · exact h
              · exact h
              · exact h
              · exact h
              · exact h
              · exact h
            · refine FlowAll.cons ?_ ?_
              · intro xF wz hR hd K hK
                clear hd
                simp only [List.take_succ_cons, List.take_zero, fillOf, Act.put, List.setIfInBounds_toArray, List.set_cons_zero, List.set_cons_succ, Nat.reduceAdd, Nat.zero_add] at hK ⊢
                obtain hbR := id hR
                rw [if_pos (by rfl)]
                go_simp
                exact hK.out _ _ (Below.refl _ _) (rfl) (fun _ _ _ => ⟨trivial, trivial⟩)
              refine FlowAll.cons ?_ ?_
              · intro xF wz hR hd K hK
                clear hd
                simp only [List.take_succ_cons, List.take_zero, fillOf, Act.put, List.setIfInBounds_toArray, List.set_cons_zero, List.set_cons_succ, Nat.reduceAdd, Nat.zero_add] at hK ⊢
                obtain hbR := id hR
                rw [if_pos (by rfl)]
                go_simp
                exact hK.out _ _ (Below.refl _ _) (rfl) (fun _ _ _ => ⟨trivial, trivial⟩)
              refine FlowAll.cons ?_ ?_
              · intro xF wz hR hd K hK
                have dd1 : ((xF 1) = .slice (some ⟨b0, off, none⟩) n cp) := hd 1 (by kernel_rfl)
                clear hd
                simp only [List.take_succ_cons, List.take_zero, fillOf, Act.put, List.setIfInBounds_toArray, List.set_cons_zero, List.set_cons_succ, Nat.reduceAdd, Nat.zero_add] at hK ⊢
                try generalize xF 1 = yy1 at *
                obtain rfl := dd1
                obtain hbR := id hR
                rw [if_pos (by rfl)]
                go_simp
                exact hK.out _ _ (Below.refl _ _) (rfl) (fun _ _ _ => ⟨trivial, trivial⟩)
              refine FlowAll.cons ?_ ?_
              · intro xF wz hR hd K hK
                have dd0 : ((xF 0) = .int .i64 (k : Int)) := hd 0 (by kernel_rfl)
                have dd2 : ((xF 2) = .int .i64 (n : Int)) := hd 2 (by kernel_rfl)
                clear hd
                simp only [List.take_succ_cons, List.take_zero, fillOf, Act.put, List.setIfInBounds_toArray, List.set_cons_zero, List.set_cons_succ, Nat.reduceAdd, Nat.zero_add] at hK ⊢
                try generalize xF 0 = yy0 at *
                try generalize xF 2 = yy2 at *
                obtain rfl := dd0
                obtain rfl := dd2
                obtain hbR := id hR
                rw [if_pos (by rfl)]
                go_simp
                exact hK.out _ _ (Below.refl _ _) (rfl) (fun _ _ _ => ⟨trivial, trivial⟩)
              refine FlowAll.cons ?_ ?_
              · intro xF wz hR hd K hK
                have dd3 : ((xF 3) = .bool true) := hd 3 (by kernel_rfl)
                clear hd
                simp only [List.take_succ_cons, List.take_zero, fillOf, Act.put, List.setIfInBounds_toArray, List.set_cons_zero, List.set_cons_succ, Nat.reduceAdd, Nat.zero_add] at hK ⊢
                try generalize xF 3 = yy3 at *
                obtain rfl := dd3
                obtain hbR := id hR
                rw [if_pos (by rfl)]
                go_simp
                exact hK.out _ _ (Below.refl _ _) (rfl) (fun _ _ _ => ⟨trivial, trivial⟩)
              refine FlowAll.cons ?_ ?_
              · intro xF wz hR hd K hK
                have dd4 : ((xF 4) = .bool true) := hd 4 (by kernel_rfl)
                clear hd
                simp only [List.take_succ_cons, List.take_zero, fillOf, Act.put, List.setIfInBounds_toArray, List.set_cons_zero, List.set_cons_succ, Nat.reduceAdd, Nat.zero_add] at hK ⊢
                try generalize xF 4 = yy4 at *
                obtain rfl := dd4
                obtain hbR := id hR
                rw [if_pos (by rfl)]
                go_simp
                exact hK.out _ _ (Below.refl _ _) (rfl) (fun _ _ _ => ⟨trivial, trivial⟩)
              refine FlowAll.cons ?_ ?_
              · intro xF wz hR hd K hK
                have dd4 : ((xF 4) = .bool true) := hd 4 (by kernel_rfl)
                clear hd
                simp only [List.take_succ_cons, List.take_zero, fillOf, Act.put, List.setIfInBounds_toArray, List.set_cons_zero, List.set_cons_succ, Nat.reduceAdd, Nat.zero_add] at hK ⊢
                try generalize xF 4 = yy4 at *
                obtain rfl := dd4
                obtain hbR := id hR
                rw [if_pos (by rfl)]
                go_simp
                exact hK.out _ _ (Below.refl _ _) (rfl) (fun _ _ _ => ⟨trivial, trivial⟩)
              refine FlowAll.cons ?_ ?_
              · intro xF wz hR hd K hK
                have dd4 : ((xF 4) = .bool true) := hd 4 (by kernel_rfl)
                have dd5 : ((xF 5) = .slice (some ⟨b0, off, none⟩) n cp) := hd 5 (by kernel_rfl)
                have dd6 : ((xF 6) = .int .i64 (k : Int)) := hd 6 (by kernel_rfl)
                clear hd
                simp only [List.take_succ_cons, List.take_zero, fillOf, Act.put, List.setIfInBounds_toArray, List.set_cons_zero, List.set_cons_succ, Nat.reduceAdd, Nat.zero_add] at hK ⊢
                try generalize xF 4 = yy4 at *
                try generalize xF 5 = yy5 at *
                try generalize xF 6 = yy6 at *
                obtain rfl := dd4
                obtain rfl := dd5
                obtain rfl := dd6
                obtain hbR := id hR
                rw [if_pos (by rfl)]
                go_simp
                exact hK.out _ _ (Below.refl _ _) (rfl) (fun _ _ _ => ⟨trivial, trivial⟩)
              refine FlowAll.cons ?_ ?_
              · intro xF wz hR hd K hK
                have dd4 : ((xF 4) = .bool true) := hd 4 (by kernel_rfl)
                have dd7 : ((xF 7) = .pointer (some ⟨b0, off + k * 2, none⟩)) := hd 7 (by kernel_rfl)
                clear hd
                simp only [List.take_succ_cons, List.take_zero, fillOf, Act.put, List.setIfInBounds_toArray, List.set_cons_zero, List.set_cons_succ, Nat.reduceAdd, Nat.zero_add] at hK ⊢
                try generalize xF 4 = yy4 at *
                try generalize xF 7 = yy7 at *
                obtain rfl := dd4
                obtain rfl := dd7
                obtain hbR := id hR
                obtain ⟨g0, g1⟩ := HAW.out _ hR
                rw [if_pos (by rfl)]
                go_simp
                exact hK.out _ _ (Below.refl _ _) (rfl) (fun _ _ _ => ⟨trivial, trivial⟩)
              refine FlowAll.cons ?_ ?_
              · intro xF wz hR hd K hK
                have dd4 : ((xF 4) = .bool true) := hd 4 (by kernel_rfl)
                clear hd
                simp only [List.take_succ_cons, List.take_zero, fillOf, Act.put, List.setIfInBounds_toArray, List.set_cons_zero, List.set_cons_succ, Nat.reduceAdd, Nat.zero_add] at hK ⊢
                try generalize xF 4 = yy4 at *
                obtain rfl := dd4
                obtain hbR := id hR
                obtain ⟨z0, z1⟩ := HB.out _ hR
                rw [if_pos (by rfl)]
                go_simp
                exact hK.out _ _ (Below.refl _ _) (rfl) (fun _ _ _ => ⟨trivial, trivial⟩)
              refine FlowAll.cons ?_ ?_
              · intro xF wz hR hd K hK
                have dd4 : ((xF 4) = .bool true) := hd 4 (by kernel_rfl)
                have dd8 : ((xF 8) = .agg #[.int .i64 du, .int .i64 v]) := hd 8 (by kernel_rfl)
                have dd9 : ((xF 9) = .agg #[.int .i64 du, .int .i64 dv]) := hd 9 (by kernel_rfl)
                clear hd
                simp only [List.take_succ_cons, List.take_zero, fillOf, Act.put, List.setIfInBounds_toArray, List.set_cons_zero, List.set_cons_succ, Nat.reduceAdd, Nat.zero_add] at hK ⊢
                try generalize xF 4 = yy4 at *
                try generalize xF 8 = yy8 at *
                try generalize xF 9 = yy9 at *
                obtain rfl := dd4
                obtain rfl := dd8
                obtain rfl := dd9
                obtain hbR := id hR
                rw [if_pos (by rfl)]
                go_simp
                exact hK.out _ _ (Below.refl _ _) (rfl) (fun _ _ _ => ⟨trivial, trivial⟩)
              refine FlowAll.cons ?_ ?_
              · intro xF wz hR hd K hK
                have dd4 : ((xF 4) = .bool true) := hd 4 (by kernel_rfl)
                have dd10 : ((xF 10) = .bool false) := hd 10 (by kernel_rfl)
                clear hd
                simp only [List.take_succ_cons, List.take_zero, fillOf, Act.put, List.setIfInBounds_toArray, List.set_cons_zero, List.set_cons_succ, Nat.reduceAdd, Nat.zero_add] at hK ⊢
                try generalize xF 4 = yy4 at *
                try generalize xF 10 = yy10 at *
                obtain rfl := dd4
                obtain rfl := dd10
                obtain hbR := id hR
                rw [if_pos (by rfl)]
                go_simp
                exact hK.out _ _ (Below.refl _ _) (rfl) (fun _ _ _ => ⟨trivial, trivial⟩)
              exact FlowAll.nil
            intro xF wz hR hF hP
            clear hP
            have dd0 : ((xF 0) = .int .i64 (k : Int)) := hF 0 (by omega) (by decide)
            have dd1 : ((xF 1) = .slice (some ⟨b0, off, none⟩) n cp) := hF 1 (by omega) (by decide)
            have dd2 : ((xF 2) = .int .i64 (n : Int)) := hF 2 (by omega) (by decide)
            have dd3 : ((xF 3) = .bool true) := hF 3 (by omega) (by decide)
            have dd4 : ((xF 4) = .bool true) := hF 4 (by omega) (by decide)
            have dd5 : ((xF 5) = .slice (some ⟨b0, off, none⟩) n cp) := hF 5 (by omega) (by decide)
            have dd6 : ((xF 6) = .int .i64 (k : Int)) := hF 6 (by omega) (by decide)
            have dd7 : ((xF 7) = .pointer (some ⟨b0, off + k * 2, none⟩)) := hF 7 (by omega) (by decide)
            have dd8 : ((xF 8) = .agg #[.int .i64 du, .int .i64 v]) := hF 8 (by omega) (by decide)
            have dd9 : ((xF 9) = .agg #[.int .i64 du, .int .i64 dv]) := hF 9 (by omega) (by decide)
            have dd10 : ((xF 10) = .bool false) := hF 10 (by omega) (by decide)
            have dd11 : ((xF 11) = .bool false) := hF 11 (by omega) (by decide)
            clear hF
            simp only [List.take_succ_cons, List.take_zero, List.drop_succ_cons, List.drop_zero, fillOf, Act.put, List.setIfInBounds_toArray, List.set_cons_zero, List.set_cons_succ, Nat.reduceAdd, Nat.zero_add]
            try generalize xF 0 = yy0 at *
            try generalize xF 1 = yy1 at *
            try generalize xF 2 = yy2 at *
            try generalize xF 3 = yy3 at *
            try generalize xF 4 = yy4 at *
            try generalize xF 5 = yy5 at *
            try generalize xF 6 = yy6 at *
            try generalize xF 7 = yy7 at *
            try generalize xF 8 = yy8 at *
            try generalize xF 9 = yy9 at *
            try generalize xF 10 = yy10 at *
            try generalize xF 11 = yy11 at *
            clear xF
            obtain rfl := dd0
            obtain rfl := dd1
            obtain rfl := dd2
            obtain rfl := dd3
            obtain rfl := dd4
            obtain rfl := dd5
            obtain rfl := dd6
            obtain rfl := dd7
            obtain rfl := dd8
            obtain rfl := dd9
            obtain rfl := dd10
            obtain rfl := dd11
            have hRE := Lib.hid hR
            clear hR
            replace D := hRE.out
            clear hRE
            have hck : ¬ cp = k := by omega
            have hckI : ¬ (cp : Int) = (k : Int) := by omega
            have HDT : Hid (∀ W, Below w1.heap.size w1 W → Cells W W.heap.size (.slice (some ⟨b0, off, none⟩) k cp) k 2 (dcells (l.take k))) := fun W hW => dots_take (HD.out W hW) HN.out hk
            have HDR : Hid (∀ W, Below w1.heap.size w1 W → Cells W W.heap.size (.slice (some ⟨b0, off + k * 2, none⟩) (n - k) (cp - k)) (n - k) 2 (dcells (l.drop k))) := fun W hW => by have := Cells.drop (i := k) (dots_len (HD.out W hW) HN.out) hk; rw [← dcells_drop] at this; simp only [Option.map_some, Addr.add_lit] at this; exact this
            have HLT : Hid ((dcells (l.take k)).length = k * 2) := by show _ = _; rw [dcells_len, List.length_take, ← HN.out]; omega
            have HLD : Hid ((dcells (l.drop k)).length = (n - k) * 2) := by show _ = _; rw [dcells_len, List.length_drop, ← HN.out]
            have HO0 := Lib.hid (own_none (w := wz) (W := wz) 26 (Nat.le_refl _) 2)
            have hkc1 : k ≤ cp := by omega
            have hkc2 : (k : Int) ≤ (cp : Int) := by omega
            have hkc3 : (0 : Int) ≤ (k : Int) := by omega
            have hkc4 : (k : Int) ≤ (n : Int) := by omega
            have hkc5 : k ≤ n := by omega
            have hkc6 : (n : Int) ≤ (cp : Int) := by omega
            have hz1 : w1.heap.size ≤ wz.heap.size := D.size
            have Dz : Below w1.heap.size w1 (wz.alloc (.cells #[] 26)) := D.trans (ctx_below.mono D.size)
            have hNT := Cells.news' (HDT.out _ Dz)
            have HNT := Lib.hid hNT
            clear hNT
            go_wp2_with (at_builtin; refine kit.appZ (.tmp 34) (.tmp 37) 22 rfl rfl wz.heap.size Try.underlying22 infoDot rfl (by decide) (by decide) HO0.out rfl (dcells (l.take k)) rfl HLT.out HNT.out.1 HNT.out.2 dcells_one (by omega) (by simp) ?_)
            intro v1 w2 hown1 hb1
            obtain ⟨o1, q1, rfl⟩ := own_form hown1
            have D2 := Dz.trans (hb1.mono (by first | omega | (simp; omega)))
            have D2d := D2.drew
            have hown1d : w2.drew.ownsRow wz.heap.size 26 2 (.slice o1 k q1) k (dcells (l.take k)) := own_stay hown1 (below_drewN (Below.refl _ _) 1)
            have hbz : wz.heap.size ≤ w2.drew.heap.size := by
              have hq := hb1.size
              simp at hq
              show _ ≤ w2.heap.size
              omega
            clear hown1 hb1 HO0 HNT
            go_wp2_with fail
            refine wp_region_order [(0, false), (1, false), (4, false), (5, false), (6, false), (2, true), (3, true), (7, true), (8, false)] (fun W => W.cell? ⟨w.heap.size, 0, none⟩ = some (.int .i64 du) ∧ W.cell? ⟨w.heap.size, 1, none⟩ = some (.int .i64 dv) ∧ RowKit.Below w1.heap.size w1 W) (by kernel_rfl) (by kernel_rfl) ?_ (fun hS0 => ?_)
            · exact ⟨(HB.out _ D2d).1, (HB.out _ D2d).2, D2d⟩
            try dsimp only at hS0
            refine HP.take ?_ rfl (by rfl) (fun w hSw => ?_) ?_
            rotate_left
            · (try dsimp only at hSw); go_simp; try with_reducible rfl
            try simp only [Act.put, List.setIfInBounds_toArray, List.set_cons_zero, List.set_cons_succ]
            refine HP.take ?_ rfl (by rfl) (fun w hSw => ?_) ?_
            rotate_left
            · (try dsimp only at hSw); go_simp; try with_reducible rfl
            try simp only [Act.put, List.setIfInBounds_toArray, List.set_cons_zero, List.set_cons_succ]
            refine HP.take ?_ rfl (by rfl) (fun w hSw => ?_) ?_
            rotate_left
            · (try dsimp only at hSw); go_simp; try with_reducible rfl
            try simp only [Act.put, List.setIfInBounds_toArray, List.set_cons_zero, List.set_cons_succ]
            refine HP.take ?_ rfl (by rfl) (fun w hSw => ?_) ?_
            rotate_left
            · (try dsimp only at hSw); go_simp; try with_reducible rfl
            try simp only [Act.put, List.setIfInBounds_toArray, List.set_cons_zero, List.set_cons_succ]
            refine HP.take ?_ rfl (by rfl) (fun w hSw => ?_) ?_
            rotate_left
            · (try dsimp only at hSw); go_simp; try with_reducible rfl
            try simp only [Act.put, List.setIfInBounds_toArray, List.set_cons_zero, List.set_cons_succ]
            refine HP.run rfl (by rfl) (fun K hK => ?_)
            go_simp
            refine hK.out _ _ ?_ (fun hS1 => ?_)
            · exact ⟨(HB.out _ (D2d.trans (ctx_below.mono D2d.size))).1, (HB.out _ (D2d.trans (ctx_below.mono D2d.size))).2, D2d.trans (ctx_below.mono D2d.size)⟩
            clear hK K hS0
            try dsimp only at hS1
            try simp only [Act.put, List.setIfInBounds_toArray, List.set_cons_zero, List.set_cons_succ]
            refine HP.run rfl (by rfl) (fun K hK => ?_)
            refine kit.wp_of_list (fun Q' hQ' => ?_)
            refine kit.app1 (.tmp 39) (.tmp 41) 22 rfl rfl wz.heap.size Try.underlying22 infoDot rfl (by decide) (by decide) hown1d rfl rfl rfl (by intro u hu; simp at hu; rcases hu with rfl | rfl <;> rfl) (by omega) hbz ?_
            intro v3 w3 hown3 hb3
            refine hQ' _ _ ?_
            clear hQ'
            obtain ⟨o3, q3, rfl⟩ := own_form hown3
            have D3 := D2d.trans (hb3.mono hz1)
            have hbz3 := hb3.size
            simp only [Act.put, List.setIfInBounds_toArray, List.set_cons_zero, List.set_cons_succ]
            refine hK.out _ _ ?_ (fun hS2 => ?_)
            · exact ⟨(HB.out _ D3).1, (HB.out _ D3).2, D3⟩
            clear hK K hS1
            try dsimp only at hS2
            try simp only [Act.put, List.setIfInBounds_toArray, List.set_cons_zero, List.set_cons_succ]
            refine HP.run rfl (by rfl) (fun K hK => ?_)
            refine kit.wp_of_list (fun Q' hQ' => ?_)
            have hN := Cells.news' (HDR.out _ D3)
            refine kit.appN (.tmp 42) (.tmp 45) 22 rfl rfl wz.heap.size Try.underlying22 infoDot rfl (by decide) (by decide) hown3 rfl (dcells (l.drop k)) rfl HLD.out hN.1 hN.2 dcells_one (by omega) (by omega) ?_
            intro v7 w7 hown7 hb7
            refine hQ' _ _ ?_
            clear hQ'
            obtain ⟨o7, q7, rfl⟩ := own_form hown7
            have D7 := D3.trans (hb7.mono hz1)
            simp only [Act.put, List.setIfInBounds_toArray, List.set_cons_zero, List.set_cons_succ]
            refine hK.out _ _ ?_ (fun hS3 => ?_)
            · exact ⟨(HB.out _ D7).1, (HB.out _ D7).2, D7⟩
            clear hK K hS2
            try dsimp only at hS3
            try simp only [Act.put, List.setIfInBounds_toArray, List.set_cons_zero, List.set_cons_succ]
            refine HP.take ?_ rfl (by rfl) (fun w hSw => ?_) ?_
            rotate_left
            · (try dsimp only at hSw); go_simp; try with_reducible rfl
            try simp only [Act.put, List.setIfInBounds_toArray, List.set_cons_zero, List.set_cons_succ]
            refine HP.done ?_
            have hdo : w7.ownsRow w.heap.size 26 2 (.slice o7 (k + 1 + (n - k)) q7) (l.take k ++ ([(du, dv)] ++ l.drop k)).length (dcells (l.take k ++ ([(du, dv)] ++ l.drop k))) := by
              have e1 : (l.take k ++ ([(du, dv)] ++ l.drop k)).length = k + 1 + (n - k) := by rw [List.length_append, List.length_append, List.length_take, List.length_drop, ← HN.out]; simp only [List.length_cons, List.length_nil]; omega
              have e2 : dcells (l.take k ++ ([(du, dv)] ++ l.drop k)) = dcells (l.take k) ++ [.int .i64 du, .int .i64 dv] ++ dcells (l.drop k) := by rw [dcells_app, dcells_app, List.append_assoc]; rfl
              rw [e1, e2]
              refine own_mono (base := wz.heap.size) ?_ (Nat.le_trans E1.size hz1)
              simpa using hown7
            have hb9 := E1.trans (D7.mono E1.size)
            have HDO := Lib.hid hdo
            clear hdo hown7 hown3 hown1d
            go_wp2
            go_ret
            exact ⟨_, _, rfl, Or.inr HDO.out, HPU.out.1, HPU.out.2, by rw [List.length_append, List.length_append, List.length_take, List.length_drop]; simp only [List.length_cons, List.length_nil]; omega, hb9⟩
          · have hq2 : (u == du) = false := by simpa using hu
            clear heq
            go_wp2_with fail
            refine wp_flow 12 (fun _ => 1000) (fun ww => RowKit.Below w1.heap.size w1 ww) (fun _ w w' => (fun (w w' : World) => RowKit.Below w.heap.size w w') w w') (fun kF vF wF => match kF with | 0 => (vF = .int .i64 (k : Int)) | 1 => (vF = .slice (some ⟨b0, off, none⟩) n cp) | 2 => (vF = .int .i64 (n : Int)) | 3 => (vF = .bool true) | 4 => (vF = .bool true) | 5 => (vF = .slice (some ⟨b0, off, none⟩) n cp) | 6 => (vF = .int .i64 (k : Int)) | 7 => (vF = .pointer (some ⟨b0, off + k * 2, none⟩)) | 8 => (vF = .agg #[.int .i64 u, .int .i64 v]) | 9 => (vF = .agg #[.int .i64 du, .int .i64 dv]) | 10 => (vF = .bool false) | 11 => (vF = .bool false) | _ => True) (fun _ _ _ _ => True) (by kernel_rfl) (by kernel_rfl) ?_ ?_ ?_ ?_ ?_
            · exact D.drew
            · intro iF wF1 wF2 hR hT; exact hR.trans (hT.mono hR.size)
            · intro kF hkF iF hiF hne hdd hanc hdan vF wF1 wF2 h hT
              rcases (by omega : kF = 0 ∨ kF = 1 ∨ kF = 2 ∨ kF = 3 ∨ kF = 4 ∨ kF = 5 ∨ kF = 6 ∨ kF = 7 ∨ kF = 8 ∨ kF = 9 ∨ kF = 10 ∨ kF = 11) with rfl | rfl | rfl | rfl | rfl | rfl | rfl | rfl | rfl | rfl | rfl | rfl
              · exact h
              · exact h
              · exact h
              · exact h
              · exact h
              · exact h
              · exact h
              · exact h
              · exact h
              · exact h
              · exact h
              · exact h
            · refine FlowAll.cons ?_ ?_
              · intro xF wz hR hd K hK
                clear hd
                simp only [List.take_succ_cons, List.take_zero, fillOf, Act.put, List.setIfInBounds_toArray, List.set_cons_zero, List.set_cons_succ, Nat.reduceAdd, Nat.zero_add] at hK ⊢
                obtain hbR := id hR
                rw [if_pos (by rfl)]
                go_simp
                exact hK.out _ _ (Below.refl _ _) (rfl) (fun _ _ _ => ⟨trivial, trivial⟩)
              refine FlowAll.cons ?_ ?_
              · intro xF wz hR hd K hK
                clear hd
                simp only [List.take_succ_cons, List.take_zero, fillOf, Act.put, List.setIfInBounds_toArray, List.set_cons_zero, List.set_cons_succ, Nat.reduceAdd, Nat.zero_add] at hK ⊢
                obtain hbR := id hR
                rw [if_pos (by rfl)]
                go_simp
                exact hK.out _ _ (Below.refl _ _) (rfl) (fun _ _ _ => ⟨trivial, trivial⟩)
              refine FlowAll.cons ?_ ?_
              · intro xF wz hR hd K hK
                have dd1 : ((xF 1) = .slice (some ⟨b0, off, none⟩) n cp) := hd 1 (by kernel_rfl)
                clear hd
                simp only [List.take_succ_cons, List.take_zero, fillOf, Act.put, List.setIfInBounds_toArray, List.set_cons_zero, List.set_cons_succ, Nat.reduceAdd, Nat.zero_add] at hK ⊢
                try generalize xF 1 = yy1 at *
                obtain rfl := dd1
                obtain hbR := id hR
                rw [if_pos (by rfl)]
                go_simp
                exact hK.out _ _ (Below.refl _ _) (rfl) (fun _ _ _ => ⟨trivial, trivial⟩)
              refine FlowAll.cons ?_ ?_
              · intro xF wz hR hd K hK
                have dd0 : ((xF 0) = .int .i64 (k : Int)) := hd 0 (by kernel_rfl)
                have dd2 : ((xF 2) = .int .i64 (n : Int)) := hd 2 (by kernel_rfl)
                clear hd
                simp only [List.take_succ_cons, List.take_zero, fillOf, Act.put, List.setIfInBounds_toArray, List.set_cons_zero, List.set_cons_succ, Nat.reduceAdd, Nat.zero_add] at hK ⊢
                try generalize xF 0 = yy0 at *
                try generalize xF 2 = yy2 at *
                obtain rfl := dd0
                obtain rfl := dd2
                obtain hbR := id hR
                rw [if_pos (by rfl)]
                go_simp
                exact hK.out _ _ (Below.refl _ _) (rfl) (fun _ _ _ => ⟨trivial, trivial⟩)
              refine FlowAll.cons ?_ ?_
              · intro xF wz hR hd K hK
                have dd3 : ((xF 3) = .bool true) := hd 3 (by kernel_rfl)
                clear hd
                simp only [List.take_succ_cons, List.take_zero, fillOf, Act.put, List.setIfInBounds_toArray, List.set_cons_zero, List.set_cons_succ, Nat.reduceAdd, Nat.zero_add] at hK ⊢
                try generalize xF 3 = yy3 at *
                obtain rfl := dd3
                obtain hbR := id hR
                rw [if_pos (by rfl)]
                go_simp
                exact hK.out _ _ (Below.refl _ _) (rfl) (fun _ _ _ => ⟨trivial, trivial⟩)
              refine FlowAll.cons ?_ ?_
              · intro xF wz hR hd K hK
                have dd4 : ((xF 4) = .bool true) := hd 4 (by kernel_rfl)
                clear hd
                simp only [List.take_succ_cons, List.take_zero, fillOf, Act.put, List.setIfInBounds_toArray, List.set_cons_zero, List.set_cons_succ, Nat.reduceAdd, Nat.zero_add] at hK ⊢
                try generalize xF 4 = yy4 at *
                obtain rfl := dd4
                obtain hbR := id hR
                rw [if_pos (by rfl)]
                go_simp
                exact hK.out _ _ (Below.refl _ _) (rfl) (fun _ _ _ => ⟨trivial, trivial⟩)
              refine FlowAll.cons ?_ ?_
              · intro xF wz hR hd K hK
                have dd4 : ((xF 4) = .bool true) := hd 4 (by kernel_rfl)
                clear hd
                simp only [List.take_succ_cons, List.take_zero, fillOf, Act.put, List.setIfInBounds_toArray, List.set_cons_zero, List.set_cons_succ, Nat.reduceAdd, Nat.zero_add] at hK ⊢
                try generalize xF 4 = yy4 at *
                obtain rfl := dd4
                obtain hbR := id hR
                rw [if_pos (by rfl)]
                go_simp
                exact hK.out _ _ (Below.refl _ _) (rfl) (fun _ _ _ => ⟨trivial, trivial⟩)
              refine FlowAll.cons ?_ ?_
              · intro xF wz hR hd K hK
                have dd4 : ((xF 4) = .bool true) := hd 4 (by kernel_rfl)
                have dd5 : ((xF 5) = .slice (some ⟨b0, off, none⟩) n cp) := hd 5 (by kernel_rfl)
                have dd6 : ((xF 6) = .int .i64 (k : Int)) := hd 6 (by kernel_rfl)
                clear hd
                simp only [List.take_succ_cons, List.take_zero, fillOf, Act.put, List.setIfInBounds_toArray, List.set_cons_zero, List.set_cons_succ, Nat.reduceAdd, Nat.zero_add] at hK ⊢
                try generalize xF 4 = yy4 at *
                try generalize xF 5 = yy5 at *
                try generalize xF 6 = yy6 at *
                obtain rfl := dd4
                obtain rfl := dd5
                obtain rfl := dd6
                obtain hbR := id hR
                rw [if_pos (by rfl)]
                go_simp
                exact hK.out _ _ (Below.refl _ _) (rfl) (fun _ _ _ => ⟨trivial, trivial⟩)
              refine FlowAll.cons ?_ ?_
              · intro xF wz hR hd K hK
                have dd4 : ((xF 4) = .bool true) := hd 4 (by kernel_rfl)
                have dd7 : ((xF 7) = .pointer (some ⟨b0, off + k * 2, none⟩)) := hd 7 (by kernel_rfl)
                clear hd
                simp only [List.take_succ_cons, List.take_zero, fillOf, Act.put, List.setIfInBounds_toArray, List.set_cons_zero, List.set_cons_succ, Nat.reduceAdd, Nat.zero_add] at hK ⊢
                try generalize xF 4 = yy4 at *
                try generalize xF 7 = yy7 at *
                obtain rfl := dd4
                obtain rfl := dd7
                obtain hbR := id hR
                obtain ⟨g0, g1⟩ := HAW.out _ hR
                rw [if_pos (by rfl)]
                go_simp
                exact hK.out _ _ (Below.refl _ _) (rfl) (fun _ _ _ => ⟨trivial, trivial⟩)
              refine FlowAll.cons ?_ ?_
              · intro xF wz hR hd K hK
                have dd4 : ((xF 4) = .bool true) := hd 4 (by kernel_rfl)
                clear hd
                simp only [List.take_succ_cons, List.take_zero, fillOf, Act.put, List.setIfInBounds_toArray, List.set_cons_zero, List.set_cons_succ, Nat.reduceAdd, Nat.zero_add] at hK ⊢
                try generalize xF 4 = yy4 at *
                obtain rfl := dd4
                obtain hbR := id hR
                obtain ⟨z0, z1⟩ := HB.out _ hR
                rw [if_pos (by rfl)]
                go_simp
                exact hK.out _ _ (Below.refl _ _) (rfl) (fun _ _ _ => ⟨trivial, trivial⟩)
              refine FlowAll.cons ?_ ?_
              · intro xF wz hR hd K hK
                have dd4 : ((xF 4) = .bool true) := hd 4 (by kernel_rfl)
                have dd8 : ((xF 8) = .agg #[.int .i64 u, .int .i64 v]) := hd 8 (by kernel_rfl)
                have dd9 : ((xF 9) = .agg #[.int .i64 du, .int .i64 dv]) := hd 9 (by kernel_rfl)
                clear hd
                simp only [List.take_succ_cons, List.take_zero, fillOf, Act.put, List.setIfInBounds_toArray, List.set_cons_zero, List.set_cons_succ, Nat.reduceAdd, Nat.zero_add] at hK ⊢
                try generalize xF 4 = yy4 at *
                try generalize xF 8 = yy8 at *
                try generalize xF 9 = yy9 at *
                obtain rfl := dd4
                obtain rfl := dd8
                obtain rfl := dd9
                obtain hbR := id hR
                rw [if_pos (by rfl)]
                go_simp
                exact hK.out _ _ (Below.refl _ _) (rfl) (fun _ _ _ => ⟨trivial, trivial⟩)
              refine FlowAll.cons ?_ ?_
              · intro xF wz hR hd K hK
                have dd4 : ((xF 4) = .bool true) := hd 4 (by kernel_rfl)
                have dd10 : ((xF 10) = .bool false) := hd 10 (by kernel_rfl)
                clear hd
                simp only [List.take_succ_cons, List.take_zero, fillOf, Act.put, List.setIfInBounds_toArray, List.set_cons_zero, List.set_cons_succ, Nat.reduceAdd, Nat.zero_add] at hK ⊢
                try generalize xF 4 = yy4 at *
                try generalize xF 10 = yy10 at *
                obtain rfl := dd4
                obtain rfl := dd10
                obtain hbR := id hR
                rw [if_pos (by rfl)]
                go_simp
                exact hK.out _ _ (Below.refl _ _) (rfl) (fun _ _ _ => ⟨trivial, trivial⟩)
              exact FlowAll.nil
            intro xF wz hR hF hP
            clear hP
            have dd0 : ((xF 0) = .int .i64 (k : Int)) := hF 0 (by omega) (by decide)
            have dd1 : ((xF 1) = .slice (some ⟨b0, off, none⟩) n cp) := hF 1 (by omega) (by decide)
            have dd2 : ((xF 2) = .int .i64 (n : Int)) := hF 2 (by omega) (by decide)
            have dd3 : ((xF 3) = .bool true) := hF 3 (by omega) (by decide)
            have dd4 : ((xF 4) = .bool true) := hF 4 (by omega) (by decide)
            have dd5 : ((xF 5) = .slice (some ⟨b0, off, none⟩) n cp) := hF 5 (by omega) (by decide)
            have dd6 : ((xF 6) = .int .i64 (k : Int)) := hF 6 (by omega) (by decide)
            have dd7 : ((xF 7) = .pointer (some ⟨b0, off + k * 2, none⟩)) := hF 7 (by omega) (by decide)
            have dd8 : ((xF 8) = .agg #[.int .i64 u, .int .i64 v]) := hF 8 (by omega) (by decide)
            have dd9 : ((xF 9) = .agg #[.int .i64 du, .int .i64 dv]) := hF 9 (by omega) (by decide)
            have dd10 : ((xF 10) = .bool false) := hF 10 (by omega) (by decide)
            have dd11 : ((xF 11) = .bool false) := hF 11 (by omega) (by decide)
            clear hF
            simp only [List.take_succ_cons, List.take_zero, List.drop_succ_cons, List.drop_zero, fillOf, Act.put, List.setIfInBounds_toArray, List.set_cons_zero, List.set_cons_succ, Nat.reduceAdd, Nat.zero_add]
            try generalize xF 0 = yy0 at *
            try generalize xF 1 = yy1 at *
            try generalize xF 2 = yy2 at *
            try generalize xF 3 = yy3 at *
            try generalize xF 4 = yy4 at *
            try generalize xF 5 = yy5 at *
            try generalize xF 6 = yy6 at *
            try generalize xF 7 = yy7 at *
            try generalize xF 8 = yy8 at *
            try generalize xF 9 = yy9 at *
            try generalize xF 10 = yy10 at *
            try generalize xF 11 = yy11 at *
            clear xF
            obtain rfl := dd0
            obtain rfl := dd1
            obtain rfl := dd2
            obtain rfl := dd3
            obtain rfl := dd4
            obtain rfl := dd5
            obtain rfl := dd6
            obtain rfl := dd7
            obtain rfl := dd8
            obtain rfl := dd9
            obtain rfl := dd10
            obtain rfl := dd11
            have hRE := Lib.hid hR
            clear hR
            replace D := hRE.out
            clear hRE
            have hck : ¬ cp = k := by omega
            have hckI : ¬ (cp : Int) = (k : Int) := by omega
            have HDT : Hid (∀ W, Below w1.heap.size w1 W → Cells W W.heap.size (.slice (some ⟨b0, off, none⟩) k cp) k 2 (dcells (l.take k))) := fun W hW => dots_take (HD.out W hW) HN.out hk
            have HDR : Hid (∀ W, Below w1.heap.size w1 W → Cells W W.heap.size (.slice (some ⟨b0, off + k * 2, none⟩) (n - k) (cp - k)) (n - k) 2 (dcells (l.drop k))) := fun W hW => by have := Cells.drop (i := k) (dots_len (HD.out W hW) HN.out) hk; rw [← dcells_drop] at this; simp only [Option.map_some, Addr.add_lit] at this; exact this
            have HLT : Hid ((dcells (l.take k)).length = k * 2) := by show _ = _; rw [dcells_len, List.length_take, ← HN.out]; omega
            have HLD : Hid ((dcells (l.drop k)).length = (n - k) * 2) := by show _ = _; rw [dcells_len, List.length_drop, ← HN.out]
            have HO0 := Lib.hid (own_none (w := wz) (W := wz) 26 (Nat.le_refl _) 2)
            have hkc1 : k ≤ cp := by omega
            have hkc2 : (k : Int) ≤ (cp : Int) := by omega
            have hkc3 : (0 : Int) ≤ (k : Int) := by omega
            have hkc4 : (k : Int) ≤ (n : Int) := by omega
            have hkc5 : k ≤ n := by omega
            have hkc6 : (n : Int) ≤ (cp : Int) := by omega
            have hz1 : w1.heap.size ≤ wz.heap.size := D.size
            have Dz : Below w1.heap.size w1 (wz.alloc (.cells #[] 26)) := D.trans (ctx_below.mono D.size)
            have hNT := Cells.news' (HDT.out _ Dz)
            have HNT := Lib.hid hNT
            clear hNT
            go_wp2_with (at_builtin; refine kit.appZ (.tmp 34) (.tmp 37) 22 rfl rfl wz.heap.size Try.underlying22 infoDot rfl (by decide) (by decide) HO0.out rfl (dcells (l.take k)) rfl HLT.out HNT.out.1 HNT.out.2 dcells_one (by omega) (by simp) ?_)
            intro v1 w2 hown1 hb1
            obtain ⟨o1, q1, rfl⟩ := own_form hown1
            have D2 := Dz.trans (hb1.mono (by first | omega | (simp; omega)))
            have D2d := D2.drew
            have hown1d : w2.drew.ownsRow wz.heap.size 26 2 (.slice o1 k q1) k (dcells (l.take k)) := own_stay hown1 (below_drewN (Below.refl _ _) 1)
            have hbz : wz.heap.size ≤ w2.drew.heap.size := by
              have hq := hb1.size
              simp at hq
              show _ ≤ w2.heap.size
              omega
            clear hown1 hb1 HO0 HNT
            go_wp2_with fail
            refine wp_region_order [(0, false), (1, false), (4, false), (5, false), (6, false), (2, true), (3, true), (7, true), (8, false)] (fun W => W.cell? ⟨w.heap.size, 0, none⟩ = some (.int .i64 du) ∧ W.cell? ⟨w.heap.size, 1, none⟩ = some (.int .i64 dv) ∧ RowKit.Below w1.heap.size w1 W) (by kernel_rfl) (by kernel_rfl) ?_ (fun hS0 => ?_)
            · exact ⟨(HB.out _ D2d).1, (HB.out _ D2d).2, D2d⟩
            try dsimp only at hS0
            refine HP.take ?_ rfl (by rfl) (fun w hSw => ?_) ?_
            rotate_left
            · (try dsimp only at hSw); go_simp; try with_reducible rfl
            try simp only [Act.put, List.setIfInBounds_toArray, List.set_cons_zero, List.set_cons_succ]
            refine HP.take ?_ rfl (by rfl) (fun w hSw => ?_) ?_
            rotate_left
            · (try dsimp only at hSw); go_simp; try with_reducible rfl
            try simp only [Act.put, List.setIfInBounds_toArray, List.set_cons_zero, List.set_cons_succ]
            refine HP.take ?_ rfl (by rfl) (fun w hSw => ?_) ?_
            rotate_left
            · (try dsimp only at hSw); go_simp; try with_reducible rfl
            try simp only [Act.put, List.setIfInBounds_toArray, List.set_cons_zero, List.set_cons_succ]
            refine HP.take ?_ rfl (by rfl) (fun w hSw => ?_) ?_
            rotate_left
            · (try dsimp only at hSw); go_simp; try with_reducible rfl
            try simp only [Act.put, List.setIfInBounds_toArray, List.set_cons_zero, List.set_cons_succ]
            refine HP.take ?_ rfl (by rfl) (fun w hSw => ?_) ?_
            rotate_left
            · (try dsimp only at hSw); go_simp; try with_reducible rfl
            try simp only [Act.put, List.setIfInBounds_toArray, List.set_cons_zero, List.set_cons_succ]
            refine HP.run rfl (by rfl) (fun K hK => ?_)
            go_simp
            refine hK.out _ _ ?_ (fun hS1 => ?_)
            · exact ⟨(HB.out _ (D2d.trans (ctx_below.mono D2d.size))).1, (HB.out _ (D2d.trans (ctx_below.mono D2d.size))).2, D2d.trans (ctx_below.mono D2d.size)⟩
            clear hK K hS0
            try dsimp only at hS1
            try simp only [Act.put, List.setIfInBounds_toArray, List.set_cons_zero, List.set_cons_succ]
            refine HP.run rfl (by rfl) (fun K hK => ?_)
            refine kit.wp_of_list (fun Q' hQ' => ?_)
            refine kit.app1 (.tmp 39) (.tmp 41) 22 rfl rfl wz.heap.size Try.underlying22 infoDot rfl (by decide) (by decide) hown1d rfl rfl rfl (by intro u hu; simp at hu; rcases hu with rfl | rfl <;> rfl) (by omega) hbz ?_
            intro v3 w3 hown3 hb3
            refine hQ' _ _ ?_
            clear hQ'
            obtain ⟨o3, q3, rfl⟩ := own_form hown3
            have D3 := D2d.trans (hb3.mono hz1)
            have hbz3 := hb3.size
            simp only [Act.put, List.setIfInBounds_toArray, List.set_cons_zero, List.set_cons_succ]
            refine hK.out _ _ ?_ (fun hS2 => ?_)
            · exact ⟨(HB.out _ D3).1, (HB.out _ D3).2, D3⟩
            clear hK K hS1
            try dsimp only at hS2
            try simp only [Act.put, List.setIfInBounds_toArray, List.set_cons_zero, List.set_cons_succ]
            refine HP.run rfl (by rfl) (fun K hK => ?_)
            refine kit.wp_of_list (fun Q' hQ' => ?_)
            have hN := Cells.news' (HDR.out _ D3)
            refine kit.appN (.tmp 42) (.tmp 45) 22 rfl rfl wz.heap.size Try.underlying22 infoDot rfl (by decide) (by decide) hown3 rfl (dcells (l.drop k)) rfl HLD.out hN.1 hN.2 dcells_one (by omega) (by omega) ?_
            intro v7 w7 hown7 hb7
            refine hQ' _ _ ?_
            clear hQ'
            obtain ⟨o7, q7, rfl⟩ := own_form hown7
            have D7 := D3.trans (hb7.mono hz1)
            simp only [Act.put, List.setIfInBounds_toArray, List.set_cons_zero, List.set_cons_succ]
            refine hK.out _ _ ?_ (fun hS3 => ?_)
            · exact ⟨(HB.out _ D7).1, (HB.out _ D7).2, D7⟩
            clear hK K hS2
            try dsimp only at hS3
            try simp only [Act.put, List.setIfInBounds_toArray, List.set_cons_zero, List.set_cons_succ]
            refine HP.take ?_ rfl (by rfl) (fun w hSw => ?_) ?_
            rotate_left
            · (try dsimp only at hSw); go_simp; try with_reducible rfl
            try simp only [Act.put, List.setIfInBounds_toArray, List.set_cons_zero, List.set_cons_succ]
            refine HP.done ?_
            have hdo : w7.ownsRow w.heap.size 26 2 (.slice o7 (k + 1 + (n - k)) q7) (l.take k ++ ([(du, dv)] ++ l.drop k)).length (dcells (l.take k ++ ([(du, dv)] ++ l.drop k))) := by
              have e1 : (l.take k ++ ([(du, dv)] ++ l.drop k)).length = k + 1 + (n - k) := by rw [List.length_append, List.length_append, List.length_take, List.length_drop, ← HN.out]; simp only [List.length_cons, List.length_nil]; omega
              have e2 : dcells (l.take k ++ ([(du, dv)] ++ l.drop k)) = dcells (l.take k) ++ [.int .i64 du, .int .i64 dv] ++ dcells (l.drop k) := by rw [dcells_app, dcells_app, List.append_assoc]; rfl
              rw [e1, e2]
              refine own_mono (base := wz.heap.size) ?_ (Nat.le_trans E1.size hz1)
              simpa using hown7
            have hb9 := E1.trans (D7.mono E1.size)
            have HDO := Lib.hid hdo
            clear hdo hown7 hown3 hown1d
            go_wp2
            go_ret
            exact ⟨_, _, rfl, Or.inr HDO.out, HPU.out.1, HPU.out.2, by rw [List.length_append, List.length_append, List.length_take, List.length_drop]; simp only [List.length_cons, List.length_nil]; omega, hb9⟩
    · obtain rfl : n = k := by omega
      have hkI : ¬ (n : Int) < (n : Int) := by omega
      have hd0 : decide ((n : Int) < (n : Int)) = false := decide_eq_false hkI
      have HPU := Lib.hid (dm.put_new HS.out (Nat.le_of_eq HN.out) HO.out (fun h => absurd h (by have := HN.out; omega)))
      go_wp2_with fail
      refine wp_flow 12 (fun _ => 1000) (fun ww => RowKit.Below w1.heap.size w1 ww) (fun _ w w' => (fun (w w' : World) => RowKit.Below w.heap.size w w') w w') (fun kF vF wF => match kF with | 0 => (vF = .int .i64 (n : Int)) | 1 => (vF = .slice ao n cp) | 2 => (vF = .int .i64 (n : Int)) | 3 => (vF = .bool false) | 4 => (vF = .bool false) | 5 => (vF = undef) | 6 => (vF = undef) | 7 => (vF = undef) | 8 => (vF = undef) | 9 => (vF = undef) | 10 => (vF = undef) | 11 => (vF = .bool false) | _ => True) (fun _ _ _ _ => True) (by kernel_rfl) (by kernel_rfl) ?_ ?_ ?_ ?_ ?_
      · exact D.drew
      · intro iF wF1 wF2 hR hT; exact hR.trans (hT.mono hR.size)
      · intro kF hkF iF hiF hne hdd hanc hdan vF wF1 wF2 h hT
        rcases (by omega : kF = 0 ∨ kF = 1 ∨ kF = 2 ∨ kF = 3 ∨ kF = 4 ∨ kF = 5 ∨ kF = 6 ∨ kF = 7 ∨ kF = 8 ∨ kF = 9 ∨ kF = 10 ∨ kF = 11) with rfl | rfl | rfl | rfl | rfl | rfl | rfl | rfl | rfl | rfl | rfl | rfl
        · exact h
        · exact h
        · exact h
        · exact h
        · exact h
        · exact h
        · exact h
        · exact h
        · exact h
        · exact h
        · exact h
        · exact h
      · refine FlowAll.cons ?_ ?_
        · intro xF wq hR hd K hK
          clear hd
          simp only [List.take_succ_cons, List.take_zero, fillOf, Act.put, List.setIfInBounds_toArray, List.set_cons_zero, List.set_cons_succ, Nat.reduceAdd, Nat.zero_add] at hK ⊢
          obtain hbR := id hR
          rw [if_pos (by rfl)]
          go_simp
          exact hK.out _ _ (Below.refl _ _) (rfl) (fun _ _ _ => ⟨trivial, trivial⟩)
        refine FlowAll.cons ?_ ?_
        · intro xF wq hR hd K hK
          clear hd
          simp only [List.take_succ_cons, List.take_zero, fillOf, Act.put, List.setIfInBounds_toArray, List.set_cons_zero, List.set_cons_succ, Nat.reduceAdd, Nat.zero_add] at hK ⊢
          obtain hbR := id hR
          rw [if_pos (by rfl)]
          go_simp
          exact hK.out _ _ (Below.refl _ _) (rfl) (fun _ _ _ => ⟨trivial, trivial⟩)
        refine FlowAll.cons ?_ ?_
        · intro xF wq hR hd K hK
          have dd1 : ((xF 1) = .slice ao n cp) := hd 1 (by kernel_rfl)
          clear hd
          simp only [List.take_succ_cons, List.take_zero, fillOf, Act.put, List.setIfInBounds_toArray, List.set_cons_zero, List.set_cons_succ, Nat.reduceAdd, Nat.zero_add] at hK ⊢
          try generalize xF 1 = yy1 at *
          obtain rfl := dd1
          obtain hbR := id hR
          rw [if_pos (by rfl)]
          go_simp
          exact hK.out _ _ (Below.refl _ _) (rfl) (fun _ _ _ => ⟨trivial, trivial⟩)
        refine FlowAll.cons ?_ ?_
        · intro xF wq hR hd K hK
          have dd0 : ((xF 0) = .int .i64 (n : Int)) := hd 0 (by kernel_rfl)
          have dd2 : ((xF 2) = .int .i64 (n : Int)) := hd 2 (by kernel_rfl)
          clear hd
          simp only [List.take_succ_cons, List.take_zero, fillOf, Act.put, List.setIfInBounds_toArray, List.set_cons_zero, List.set_cons_succ, Nat.reduceAdd, Nat.zero_add] at hK ⊢
          try generalize xF 0 = yy0 at *
          try generalize xF 2 = yy2 at *
          obtain rfl := dd0
          obtain rfl := dd2
          obtain hbR := id hR
          rw [if_pos (by rfl)]
          go_simp
          exact hK.out _ _ (Below.refl _ _) (rfl) (fun _ _ _ => ⟨trivial, trivial⟩)
        refine FlowAll.cons ?_ ?_
        · intro xF wq hR hd K hK
          have dd3 : ((xF 3) = .bool false) := hd 3 (by kernel_rfl)
          clear hd
          simp only [List.take_succ_cons, List.take_zero, fillOf, Act.put, List.setIfInBounds_toArray, List.set_cons_zero, List.set_cons_succ, Nat.reduceAdd, Nat.zero_add] at hK ⊢
          try generalize xF 3 = yy3 at *
          obtain rfl := dd3
          obtain hbR := id hR
          rw [if_pos (by rfl)]
          go_simp
          exact hK.out _ _ (Below.refl _ _) (rfl) (fun _ _ _ => ⟨trivial, trivial⟩)
        refine FlowAll.cons ?_ ?_
        · intro xF wq hR hd K hK
          have dd4 : ((xF 4) = .bool false) := hd 4 (by kernel_rfl)
          clear hd
          simp only [List.take_succ_cons, List.take_zero, fillOf, Act.put, List.setIfInBounds_toArray, List.set_cons_zero, List.set_cons_succ, Nat.reduceAdd, Nat.zero_add] at hK ⊢
          try generalize xF 4 = yy4 at *
          obtain rfl := dd4
          obtain hbR := id hR
          rw [if_neg (by intro h; exact absurd (show false = true from h) Bool.false_ne_true)]
          try simp only [Act.put, List.setIfInBounds_toArray, List.set_cons_zero, List.set_cons_succ]
          exact hK.out _ _ (Below.refl _ _) (rfl) (fun _ _ _ => ⟨trivial, trivial⟩)
        refine FlowAll.cons ?_ ?_
        · intro xF wq hR hd K hK
          have dd4 : ((xF 4) = .bool false) := hd 4 (by kernel_rfl)
          clear hd
          simp only [List.take_succ_cons, List.take_zero, fillOf, Act.put, List.setIfInBounds_toArray, List.set_cons_zero, List.set_cons_succ, Nat.reduceAdd, Nat.zero_add] at hK ⊢
          try generalize xF 4 = yy4 at *
          obtain rfl := dd4
          obtain hbR := id hR
          rw [if_neg (by intro h; exact absurd (show false = true from h) Bool.false_ne_true)]
          try simp only [Act.put, List.setIfInBounds_toArray, List.set_cons_zero, List.set_cons_succ]
          exact hK.out _ _ (Below.refl _ _) (rfl) (fun _ _ _ => ⟨trivial, trivial⟩)
        refine FlowAll.cons ?_ ?_
        · intro xF wq hR hd K hK
          have dd4 : ((xF 4) = .bool false) := hd 4 (by kernel_rfl)
          clear hd
          simp only [List.take_succ_cons, List.take_zero, fillOf, Act.put, List.setIfInBounds_toArray, List.set_cons_zero, List.set_cons_succ, Nat.reduceAdd, Nat.zero_add] at hK ⊢
          try generalize xF 4 = yy4 at *
          obtain rfl := dd4
          obtain hbR := id hR
          rw [if_neg (by intro h; exact absurd (show false = true from h) Bool.false_ne_true)]
          try simp only [Act.put, List.setIfInBounds_toArray, List.set_cons_zero, List.set_cons_succ]
          exact hK.out _ _ (Below.refl _ _) (rfl) (fun _ _ _ => ⟨trivial, trivial⟩)
        refine FlowAll.cons ?_ ?_
        · intro xF wq hR hd K hK
          have dd4 : ((xF 4) = .bool false) := hd 4 (by kernel_rfl)
          clear hd
          simp only [List.take_succ_cons, List.take_zero, fillOf, Act.put, List.setIfInBounds_toArray, List.set_cons_zero, List.set_cons_succ, Nat.reduceAdd, Nat.zero_add] at hK ⊢
          try generalize xF 4 = yy4 at *
          obtain rfl := dd4
          obtain hbR := id hR
          rw [if_neg (by intro h; exact absurd (show false = true from h) Bool.false_ne_true)]
          try simp only [Act.put, List.setIfInBounds_toArray, List.set_cons_zero, List.set_cons_succ]
          exact hK.out _ _ (Below.refl _ _) (rfl) (fun _ _ _ => ⟨trivial, trivial⟩)
        refine FlowAll.cons ?_ ?_
        · intro xF wq hR hd K hK
          have dd4 : ((xF 4) = .bool false) := hd 4 (by kernel_rfl)
          clear hd
          simp only [List.take_succ_cons, List.take_zero, fillOf, Act.put, List.setIfInBounds_toArray, List.set_cons_zero, List.set_cons_succ, Nat.reduceAdd, Nat.zero_add] at hK ⊢
          try generalize xF 4 = yy4 at *
          obtain rfl := dd4
          obtain hbR := id hR
          rw [if_neg (by intro h; exact absurd (show false = true from h) Bool.false_ne_true)]
          try simp only [Act.put, List.setIfInBounds_toArray, List.set_cons_zero, List.set_cons_succ]
          exact hK.out _ _ (Below.refl _ _) (rfl) (fun _ _ _ => ⟨trivial, trivial⟩)
        refine FlowAll.cons ?_ ?_
        · intro xF wq hR hd K hK
          have dd4 : ((xF 4) = .bool false) := hd 4 (by kernel_rfl)
          clear hd
          simp only [List.take_succ_cons, List.take_zero, fillOf, Act.put, List.setIfInBounds_toArray, List.set_cons_zero, List.set_cons_succ, Nat.reduceAdd, Nat.zero_add] at hK ⊢
          try generalize xF 4 = yy4 at *
          obtain rfl := dd4
          obtain hbR := id hR
          rw [if_neg (by intro h; exact absurd (show false = true from h) Bool.false_ne_true)]
          try simp only [Act.put, List.setIfInBounds_toArray, List.set_cons_zero, List.set_cons_succ]
          exact hK.out _ _ (Below.refl _ _) (rfl) (fun _ _ _ => ⟨trivial, trivial⟩)
        refine FlowAll.cons ?_ ?_
        · intro xF wq hR hd K hK
          have dd4 : ((xF 4) = .bool false) := hd 4 (by kernel_rfl)
          have dd10 : ((xF 10) = undef) := hd 10 (by kernel_rfl)
          clear hd
          simp only [List.take_succ_cons, List.take_zero, fillOf, Act.put, List.setIfInBounds_toArray, List.set_cons_zero, List.set_cons_succ, Nat.reduceAdd, Nat.zero_add] at hK ⊢
          try generalize xF 4 = yy4 at *
          try generalize xF 10 = yy10 at *
          obtain rfl := dd4
          obtain rfl := dd10
          obtain hbR := id hR
          rw [if_pos (by rfl)]
          go_simp
          exact hK.out _ _ (Below.refl _ _) (rfl) (fun _ _ _ => ⟨trivial, trivial⟩)
        exact FlowAll.nil
      intro xF wq hR hF hP
      clear hP
      have dd0 : ((xF 0) = .int .i64 (n : Int)) := hF 0 (by omega) (by decide)
      have dd1 : ((xF 1) = .slice ao n cp) := hF 1 (by omega) (by decide)
      have dd2 : ((xF 2) = .int .i64 (n : Int)) := hF 2 (by omega) (by decide)
      have dd3 : ((xF 3) = .bool false) := hF 3 (by omega) (by decide)
      have dd4 : ((xF 4) = .bool false) := hF 4 (by omega) (by decide)
      have dd5 : ((xF 5) = undef) := hF 5 (by omega) (by decide)
      have dd6 : ((xF 6) = undef) := hF 6 (by omega) (by decide)
      have dd7 : ((xF 7) = undef) := hF 7 (by omega) (by decide)
      have dd8 : ((xF 8) = undef) := hF 8 (by omega) (by decide)
      have dd9 : ((xF 9) = undef) := hF 9 (by omega) (by decide)
      have dd10 : ((xF 10) = undef) := hF 10 (by omega) (by decide)
      have dd11 : ((xF 11) = .bool false) := hF 11 (by omega) (by decide)
      clear hF
      simp only [List.take_succ_cons, List.take_zero, List.drop_succ_cons, List.drop_zero, fillOf, Act.put, List.setIfInBounds_toArray, List.set_cons_zero, List.set_cons_succ, Nat.reduceAdd, Nat.zero_add]
      try generalize xF 0 = yy0 at *
      try generalize xF 1 = yy1 at *
      try generalize xF 2 = yy2 at *
      try generalize xF 3 = yy3 at *
      try generalize xF 4 = yy4 at *
      try generalize xF 5 = yy5 at *
      try generalize xF 6 = yy6 at *
      try generalize xF 7 = yy7 at *
      try generalize xF 8 = yy8 at *
      try generalize xF 9 = yy9 at *
      try generalize xF 10 = yy10 at *
      try generalize xF 11 = yy11 at *
      clear xF
      obtain rfl := dd0
      obtain rfl := dd1
      obtain rfl := dd2
      obtain rfl := dd3
      obtain rfl := dd4
      obtain rfl := dd5
      obtain rfl := dd6
      obtain rfl := dd7
      obtain rfl := dd8
      obtain rfl := dd9
      obtain rfl := dd10
      obtain rfl := dd11
      have hRE := Lib.hid hR
      clear hR
      replace D := hRE.out
      clear hRE
      go_wp2_with fail
      refine wp_flow 12 (fun _ => 1000) (fun ww => RowKit.Below w1.heap.size w1 ww) (fun _ w w' => (fun (w w' : World) => RowKit.Below w.heap.size w w') w w') (fun kF vF wF => match kF with | 0 => (vF = .int .i64 (n : Int)) | 1 => (vF = .slice ao n cp) | 2 => (vF = .int .i64 (n : Int)) | 3 => (vF = .bool false) | 4 => (vF = .bool false) | 5 => (vF = undef) | 6 => (vF = undef) | 7 => (vF = undef) | 8 => (vF = undef) | 9 => (vF = undef) | 10 => (vF = undef) | 11 => (vF = .bool false) | _ => True) (fun _ _ _ _ => True) (by kernel_rfl) (by kernel_rfl) ?_ ?_ ?_ ?_ ?_
      · exact D.drew
      · intro iF wF1 wF2 hR hT; exact hR.trans (hT.mono hR.size)
      · intro kF hkF iF hiF hne hdd hanc hdan vF wF1 wF2 h hT
        rcases (by omega : kF = 0 ∨ kF = 1 ∨ kF = 2 ∨ kF = 3 ∨ kF = 4 ∨ kF = 5 ∨ kF = 6 ∨ kF = 7 ∨ kF = 8 ∨ kF = 9 ∨ kF = 10 ∨ kF = 11) with rfl | rfl | rfl | rfl | rfl | rfl | rfl | rfl | rfl | rfl | rfl | rfl
        · exact h
        · exact h
        · exact h
        · exact h
        · exact h
        · exact h
        · exact h
        · exact h
        · exact h
        · exact h
        · exact h
        · exact h
      · refine FlowAll.cons ?_ ?_
        · intro xF wz hR hd K hK
          clear hd
          simp only [List.take_succ_cons, List.take_zero, fillOf, Act.put, List.setIfInBounds_toArray, List.set_cons_zero, List.set_cons_succ, Nat.reduceAdd, Nat.zero_add] at hK ⊢
          obtain hbR := id hR
          rw [if_pos (by rfl)]
          go_simp
          exact hK.out _ _ (Below.refl _ _) (rfl) (fun _ _ _ => ⟨trivial, trivial⟩)
        refine FlowAll.cons ?_ ?_
        · intro xF wz hR hd K hK
          clear hd
          simp only [List.take_succ_cons, List.take_zero, fillOf, Act.put, List.setIfInBounds_toArray, List.set_cons_zero, List.set_cons_succ, Nat.reduceAdd, Nat.zero_add] at hK ⊢
          obtain hbR := id hR
          rw [if_pos (by rfl)]
          go_simp
          exact hK.out _ _ (Below.refl _ _) (rfl) (fun _ _ _ => ⟨trivial, trivial⟩)
        refine FlowAll.cons ?_ ?_
        · intro xF wz hR hd K hK
          have dd1 : ((xF 1) = .slice ao n cp) := hd 1 (by kernel_rfl)
          clear hd
          simp only [List.take_succ_cons, List.take_zero, fillOf, Act.put, List.setIfInBounds_toArray, List.set_cons_zero, List.set_cons_succ, Nat.reduceAdd, Nat.zero_add] at hK ⊢
          try generalize xF 1 = yy1 at *
          obtain rfl := dd1
          obtain hbR := id hR
          rw [if_pos (by rfl)]
          go_simp
          exact hK.out _ _ (Below.refl _ _) (rfl) (fun _ _ _ => ⟨trivial, trivial⟩)
        refine FlowAll.cons ?_ ?_
        · intro xF wz hR hd K hK
          have dd0 : ((xF 0) = .int .i64 (n : Int)) := hd 0 (by kernel_rfl)
          have dd2 : ((xF 2) = .int .i64 (n : Int)) := hd 2 (by kernel_rfl)
          clear hd
          simp only [List.take_succ_cons, List.take_zero, fillOf, Act.put, List.setIfInBounds_toArray, List.set_cons_zero, List.set_cons_succ, Nat.reduceAdd, Nat.zero_add] at hK ⊢
          try generalize xF 0 = yy0 at *
          try generalize xF 2 = yy2 at *
          obtain rfl := dd0
          obtain rfl := dd2
          obtain hbR := id hR
          rw [if_pos (by rfl)]
          go_simp
          exact hK.out _ _ (Below.refl _ _) (rfl) (fun _ _ _ => ⟨trivial, trivial⟩)
        refine FlowAll.cons ?_ ?_
        · intro xF wz hR hd K hK
          have dd3 : ((xF 3) = .bool false) := hd 3 (by kernel_rfl)
          clear hd
          simp only [List.take_succ_cons, List.take_zero, fillOf, Act.put, List.setIfInBounds_toArray, List.set_cons_zero, List.set_cons_succ, Nat.reduceAdd, Nat.zero_add] at hK ⊢
          try generalize xF 3 = yy3 at *
          obtain rfl := dd3
          obtain hbR := id hR
          rw [if_pos (by rfl)]
          go_simp
          exact hK.out _ _ (Below.refl _ _) (rfl) (fun _ _ _ => ⟨trivial, trivial⟩)
        refine FlowAll.cons ?_ ?_
        · intro xF wz hR hd K hK
          have dd4 : ((xF 4) = .bool false) := hd 4 (by kernel_rfl)
          clear hd
          simp only [List.take_succ_cons, List.take_zero, fillOf, Act.put, List.setIfInBounds_toArray, List.set_cons_zero, List.set_cons_succ, Nat.reduceAdd, Nat.zero_add] at hK ⊢
          try generalize xF 4 = yy4 at *
          obtain rfl := dd4
          obtain hbR := id hR
          rw [if_neg (by intro h; exact absurd (show false = true from h) Bool.false_ne_true)]
          try simp only [Act.put, List.setIfInBounds_toArray, List.set_cons_zero, List.set_cons_succ]
          exact hK.out _ _ (Below.refl _ _) (rfl) (fun _ _ _ => ⟨trivial, trivial⟩)
        refine FlowAll.cons ?_ ?_
        · intro xF wz hR hd K hK
          have dd4 : ((xF 4) = .bool false) := hd 4 (by kernel_rfl)
          clear hd
          simp only [List.take_succ_cons, List.take_zero, fillOf, Act.put, List.setIfInBounds_toArray, List.set_cons_zero, List.set_cons_succ, Nat.reduceAdd, Nat.zero_add] at hK ⊢
          try generalize xF 4 = yy4 at *
          obtain rfl := dd4
          obtain hbR := id hR
          rw [if_neg (by intro h; exact absurd (show false = true from h) Bool.false_ne_true)]
          try simp only [Act.put, List.setIfInBounds_toArray, List.set_cons_zero, List.set_cons_succ]
          exact hK.out _ _ (Below.refl _ _) (rfl) (fun _ _ _ => ⟨trivial, trivial⟩)
        refine FlowAll.cons ?_ ?_
        · intro xF wz hR hd K hK
          have dd4 : ((xF 4) = .bool false) := hd 4 (by kernel_rfl)
          clear hd
          simp only [List.take_succ_cons, List.take_zero, fillOf, Act.put, List.setIfInBounds_toArray, List.set_cons_zero, List.set_cons_succ, Nat.reduceAdd, Nat.zero_add] at hK ⊢
          try generalize xF 4 = yy4 at *
          obtain rfl := dd4
          obtain hbR := id hR
          rw [if_neg (by intro h; exact absurd (show false = true from h) Bool.false_ne_true)]
          try simp only [Act.put, List.setIfInBounds_toArray, List.set_cons_zero, List.set_cons_succ]
          exact hK.out _ _ (Below.refl _ _) (rfl) (fun _ _ _ => ⟨trivial, trivial⟩)
        refine FlowAll.cons ?_ ?_
        · intro xF wz hR hd K hK
          have dd4 : ((xF 4) = .bool false) := hd 4 (by kernel_rfl)
          clear hd
          simp only [List.take_succ_cons, List.take_zero, fillOf, Act.put, List.setIfInBounds_toArray, List.set_cons_zero, List.set_cons_succ, Nat.reduceAdd, Nat.zero_add] at hK ⊢
          try generalize xF 4 = yy4 at *
          obtain rfl := dd4
          obtain hbR := id hR
          rw [if_neg (by intro h; exact absurd (show false = true from h) Bool.false_ne_true)]
          try simp only [Act.put, List.setIfInBounds_toArray, List.set_cons_zero, List.set_cons_succ]
          exact hK.out _ _ (Below.refl _ _) (rfl) (fun _ _ _ => ⟨trivial, trivial⟩)
        refine FlowAll.cons ?_ ?_
        · intro xF wz hR hd K hK
          have dd4 : ((xF 4) = .bool false) := hd 4 (by kernel_rfl)
          clear hd
          simp only [List.take_succ_cons, List.take_zero, fillOf, Act.put, List.setIfInBounds_toArray, List.set_cons_zero, List.set_cons_succ, Nat.reduceAdd, Nat.zero_add] at hK ⊢
          try generalize xF 4 = yy4 at *
          obtain rfl := dd4
          obtain hbR := id hR
          rw [if_neg (by intro h; exact absurd (show false = true from h) Bool.false_ne_true)]
          try simp only [Act.put, List.setIfInBounds_toArray, List.set_cons_zero, List.set_cons_succ]
          exact hK.out _ _ (Below.refl _ _) (rfl) (fun _ _ _ => ⟨trivial, trivial⟩)
        refine FlowAll.cons ?_ ?_
        · intro xF wz hR hd K hK
          have dd4 : ((xF 4) = .bool false) := hd 4 (by kernel_rfl)
          clear hd
          simp only [List.take_succ_cons, List.take_zero, fillOf, Act.put, List.setIfInBounds_toArray, List.set_cons_zero, List.set_cons_succ, Nat.reduceAdd, Nat.zero_add] at hK ⊢
          try generalize xF 4 = yy4 at *
          obtain rfl := dd4
          obtain hbR := id hR
          rw [if_neg (by intro h; exact absurd (show false = true from h) Bool.false_ne_true)]
          try simp only [Act.put, List.setIfInBounds_toArray, List.set_cons_zero, List.set_cons_succ]
          exact hK.out _ _ (Below.refl _ _) (rfl) (fun _ _ _ => ⟨trivial, trivial⟩)
        refine FlowAll.cons ?_ ?_
        · intro xF wz hR hd K hK
          have dd4 : ((xF 4) = .bool false) := hd 4 (by kernel_rfl)
          have dd10 : ((xF 10) = undef) := hd 10 (by kernel_rfl)
          clear hd
          simp only [List.take_succ_cons, List.take_zero, fillOf, Act.put, List.setIfInBounds_toArray, List.set_cons_zero, List.set_cons_succ, Nat.reduceAdd, Nat.zero_add] at hK ⊢
          try generalize xF 4 = yy4 at *
          try generalize xF 10 = yy10 at *
          obtain rfl := dd4
          obtain rfl := dd10
          obtain hbR := id hR
          rw [if_pos (by rfl)]
          go_simp
          exact hK.out _ _ (Below.refl _ _) (rfl) (fun _ _ _ => ⟨trivial, trivial⟩)
        exact FlowAll.nil
      intro xF wz hR hF hP
      clear hP
      have dd0 : ((xF 0) = .int .i64 (n : Int)) := hF 0 (by omega) (by decide)
      have dd1 : ((xF 1) = .slice ao n cp) := hF 1 (by omega) (by decide)
      have dd2 : ((xF 2) = .int .i64 (n : Int)) := hF 2 (by omega) (by decide)
      have dd3 : ((xF 3) = .bool false) := hF 3 (by omega) (by decide)
      have dd4 : ((xF 4) = .bool false) := hF 4 (by omega) (by decide)
      have dd5 : ((xF 5) = undef) := hF 5 (by omega) (by decide)
      have dd6 : ((xF 6) = undef) := hF 6 (by omega) (by decide)
      have dd7 : ((xF 7) = undef) := hF 7 (by omega) (by decide)
      have dd8 : ((xF 8) = undef) := hF 8 (by omega) (by decide)
      have dd9 : ((xF 9) = undef) := hF 9 (by omega) (by decide)
      have dd10 : ((xF 10) = undef) := hF 10 (by omega) (by decide)
      have dd11 : ((xF 11) = .bool false) := hF 11 (by omega) (by decide)
      clear hF
      simp only [List.take_succ_cons, List.take_zero, List.drop_succ_cons, List.drop_zero, fillOf, Act.put, List.setIfInBounds_toArray, List.set_cons_zero, List.set_cons_succ, Nat.reduceAdd, Nat.zero_add]
      try generalize xF 0 = yy0 at *
      try generalize xF 1 = yy1 at *
      try generalize xF 2 = yy2 at *
      try generalize xF 3 = yy3 at *
      try generalize xF 4 = yy4 at *
      try generalize xF 5 = yy5 at *
      try generalize xF 6 = yy6 at *
      try generalize xF 7 = yy7 at *
      try generalize xF 8 = yy8 at *
      try generalize xF 9 = yy9 at *
      try generalize xF 10 = yy10 at *
      try generalize xF 11 = yy11 at *
      clear xF
      obtain rfl := dd0
      obtain rfl := dd1
      obtain rfl := dd2
      obtain rfl := dd3
      obtain rfl := dd4
      obtain rfl := dd5
      obtain rfl := dd6
      obtain rfl := dd7
      obtain rfl := dd8
      obtain rfl := dd9
      obtain rfl := dd10
      obtain rfl := dd11
      have hRE := Lib.hid hR
      clear hR
      replace D := hRE.out
      clear hRE
      by_cases hck : cp = n
      · obtain rfl : n = cp := hck.symm
        have HDT : Hid (∀ W, Below w1.heap.size w1 W → Cells W W.heap.size (.slice ao n n) n 2 (dcells (l.take n))) := fun W hW => dots_take (HD.out W hW) HN.out (Nat.le_refl _)
        have HLT : Hid ((dcells (l.take n)).length = n * 2) := by show _ = _; rw [dcells_len, List.length_take, ← HN.out]; omega
        have HO0 := Lib.hid (own_none (w := wz) (W := wz) 26 (Nat.le_refl _) 2)
        have hkc1 : n ≤ n := by omega
        have hkc2 : (n : Int) ≤ (n : Int) := by omega
        have hkc3 : (0 : Int) ≤ (n : Int) := by omega
        have hkc4 : (n : Int) ≤ (n : Int) := by omega
        have hkc5 : n ≤ n := by omega
        have hkc6 : (n : Int) ≤ (n : Int) := by omega
        have hz1 : w1.heap.size ≤ wz.heap.size := D.size
        have Dz : Below w1.heap.size w1 (wz.alloc (.cells #[] 26)) := D.trans (ctx_below.mono D.size)
        have hNT := Cells.news' (HDT.out _ Dz)
        have HNT := Lib.hid hNT
        clear hNT
        go_wp2_with (at_builtin; refine kit.appZ (.tmp 34) (.tmp 37) 22 rfl rfl wz.heap.size Try.underlying22 infoDot rfl (by decide) (by decide) HO0.out rfl (dcells (l.take n)) rfl HLT.out HNT.out.1 HNT.out.2 dcells_one (by omega) (by simp) ?_)
        intro v1 w2 hown1 hb1
        obtain ⟨o1, q1, rfl⟩ := own_form hown1
        have D2 := Dz.trans (hb1.mono (by first | omega | (simp; omega)))
        have D2d := D2.drew
        have hown1d : w2.drew.ownsRow wz.heap.size 26 2 (.slice o1 n q1) n (dcells (l.take n)) := own_stay hown1 (below_drewN (Below.refl _ _) 1)
        have hbz : wz.heap.size ≤ w2.drew.heap.size := by
          have hq := hb1.size
          simp at hq
          show _ ≤ w2.heap.size
          omega
        clear hown1 hb1 HO0 HNT
        go_wp2_with fail
        refine wp_region_order [(0, false), (1, false), (4, false), (5, false), (6, false), (2, true), (3, true), (7, true), (8, false)] (fun W => W.cell? ⟨w.heap.size, 0, none⟩ = some (.int .i64 du) ∧ W.cell? ⟨w.heap.size, 1, none⟩ = some (.int .i64 dv) ∧ RowKit.Below w1.heap.size w1 W) (by kernel_rfl) (by kernel_rfl) ?_ (fun hS0 => ?_)
        · exact ⟨(HB.out _ D2d).1, (HB.out _ D2d).2, D2d⟩
        try dsimp only at hS0
        refine HP.take ?_ rfl (by rfl) (fun w hSw => ?_) ?_
        rotate_left
        · (try dsimp only at hSw); go_simp; try with_reducible rfl
        try simp only [Act.put, List.setIfInBounds_toArray, List.set_cons_zero, List.set_cons_succ]
        refine HP.take ?_ rfl (by rfl) (fun w hSw => ?_) ?_
        rotate_left
        · (try dsimp only at hSw); go_simp; try with_reducible rfl
        try simp only [Act.put, List.setIfInBounds_toArray, List.set_cons_zero, List.set_cons_succ]
        refine HP.take ?_ rfl (by rfl) (fun w hSw => ?_) ?_
        rotate_left
        · (try dsimp only at hSw); go_simp; try with_reducible rfl
        try simp only [Act.put, List.setIfInBounds_toArray, List.set_cons_zero, List.set_cons_succ]
        refine HP.take ?_ rfl (by rfl) (fun w hSw => ?_) ?_
        rotate_left
        · (try dsimp only at hSw); go_simp; try with_reducible rfl
        try simp only [Act.put, List.setIfInBounds_toArray, List.set_cons_zero, List.set_cons_succ]
        refine HP.take ?_ rfl (by rfl) (fun w hSw => ?_) ?_
        rotate_left
        · (try dsimp only at hSw); go_simp; try with_reducible rfl
        try simp only [Act.put, List.setIfInBounds_toArray, List.set_cons_zero, List.set_cons_succ]
        refine HP.run rfl (by rfl) (fun K hK => ?_)
        go_simp
        refine hK.out _ _ ?_ (fun hS1 => ?_)
        · exact ⟨(HB.out _ (D2d.trans (ctx_below.mono D2d.size))).1, (HB.out _ (D2d.trans (ctx_below.mono D2d.size))).2, D2d.trans (ctx_below.mono D2d.size)⟩
        clear hK K hS0
        try dsimp only at hS1
        try simp only [Act.put, List.setIfInBounds_toArray, List.set_cons_zero, List.set_cons_succ]
        refine HP.run rfl (by rfl) (fun K hK => ?_)
        refine kit.wp_of_list (fun Q' hQ' => ?_)
        refine kit.app1 (.tmp 39) (.tmp 41) 22 rfl rfl wz.heap.size Try.underlying22 infoDot rfl (by decide) (by decide) hown1d rfl rfl rfl (by intro u hu; simp at hu; rcases hu with rfl | rfl <;> rfl) (by omega) hbz ?_
        intro v3 w3 hown3 hb3
        refine hQ' _ _ ?_
        clear hQ'
        obtain ⟨o3, q3, rfl⟩ := own_form hown3
        have D3 := D2d.trans (hb3.mono hz1)
        have hbz3 := hb3.size
        simp only [Act.put, List.setIfInBounds_toArray, List.set_cons_zero, List.set_cons_succ]
        refine hK.out _ _ ?_ (fun hS2 => ?_)
        · exact ⟨(HB.out _ D3).1, (HB.out _ D3).2, D3⟩
        clear hK K hS1
        try dsimp only at hS2
        try simp only [Act.put, List.setIfInBounds_toArray, List.set_cons_zero, List.set_cons_succ]
        refine HP.run rfl (by rfl) (fun K hK => ?_)
        refine kit.wp_of_list (fun Q' hQ' => ?_)
        refine kit.appN (.tmp 42) (.tmp 45) 22 rfl rfl wz.heap.size Try.underlying22 infoDot rfl (by decide) (by decide) hown3 rfl ([] : List Value) rfl rfl (fun _ => ⟨rfl, rfl⟩) (fun ad e j u hj => by simp at hj) (fun u hu => by cases hu) (by omega) (by omega) ?_
        intro v7 w7 hown7 hb7
        refine hQ' _ _ ?_
        clear hQ'
        obtain ⟨o7, q7, rfl⟩ := own_form hown7
        have D7 := D3.trans (hb7.mono hz1)
        simp only [Act.put, List.setIfInBounds_toArray, List.set_cons_zero, List.set_cons_succ]
        refine hK.out _ _ ?_ (fun hS3 => ?_)
        · exact ⟨(HB.out _ D7).1, (HB.out _ D7).2, D7⟩
        clear hK K hS2
        try dsimp only at hS3
        try simp only [Act.put, List.setIfInBounds_toArray, List.set_cons_zero, List.set_cons_succ]
        refine HP.take ?_ rfl (by rfl) (fun w hSw => ?_) ?_
        rotate_left
        · (try dsimp only at hSw); go_simp; try with_reducible rfl
        try simp only [Act.put, List.setIfInBounds_toArray, List.set_cons_zero, List.set_cons_succ]
        refine HP.done ?_
        have hdo : w7.ownsRow w.heap.size 26 2 (.slice o7 (n + 1 + 0) q7) (l.take n ++ ([(du, dv)] ++ l.drop n)).length (dcells (l.take n ++ ([(du, dv)] ++ l.drop n))) := by
          have e1 : (l.take n ++ ([(du, dv)] ++ l.drop n)).length = n + 1 + 0 := by rw [List.length_append, List.length_append, List.length_take, List.length_drop, ← HN.out]; simp only [List.length_cons, List.length_nil]; omega
          have e2 : dcells (l.take n ++ ([(du, dv)] ++ l.drop n)) = dcells (l.take n) ++ [.int .i64 du, .int .i64 dv] ++ dcells (l.drop n) := by rw [dcells_app, dcells_app, List.append_assoc]; rfl
          rw [e1, e2]
          have hdr0 : l.drop n = [] := List.drop_of_length_le (by rw [HN.out]; exact Nat.le_refl _)
          rw [hdr0]
          refine own_mono (base := wz.heap.size) ?_ (Nat.le_trans E1.size hz1)
          simpa [dcells] using hown7
        have hb9 := E1.trans (D7.mono E1.size)
        have HDO := Lib.hid hdo
        clear hdo hown7 hown3 hown1d
        go_wp2
        go_ret
        exact ⟨_, _, rfl, Or.inr HDO.out, HPU.out.1, HPU.out.2, by rw [List.length_append, List.length_append, List.length_take, List.length_drop]; simp only [List.length_cons, List.length_nil]; omega, hb9⟩
      · have hckI : ¬ (cp : Int) = (n : Int) := by omega
        have hck' : ¬ n = cp := fun e => hck e.symm
        obtain ⟨ad, rfl⟩ : ∃ ad, ao = some ad := by
          cases hao : ao with
          | some ad => exact ⟨ad, rfl⟩
          | none =>
            obtain ⟨_, ao', c', e, ⟨h1, h2⟩, _, _⟩ := HC.out
            simp only [Value.slice.injEq] at e
            have := h1 (by rw [← e.1, hao])
            omega
        have HDT : Hid (∀ W, Below w1.heap.size w1 W → Cells W W.heap.size (.slice (some ad) n cp) n 2 (dcells (l.take n))) := fun W hW => dots_take (HD.out W hW) HN.out (Nat.le_refl _)
        have HLT : Hid ((dcells (l.take n)).length = n * 2) := by show _ = _; rw [dcells_len, List.length_take, ← HN.out]; omega
        have HO0 := Lib.hid (own_none (w := wz) (W := wz) 26 (Nat.le_refl _) 2)
        have hkc1 : n ≤ cp := by omega
        have hkc2 : (n : Int) ≤ (cp : Int) := by omega
        have hkc3 : (0 : Int) ≤ (n : Int) := by omega
        have hkc4 : (n : Int) ≤ (n : Int) := by omega
        have hkc5 : n ≤ n := by omega
        have hkc6 : (n : Int) ≤ (cp : Int) := by omega
        have hz1 : w1.heap.size ≤ wz.heap.size := D.size
        have Dz : Below w1.heap.size w1 (wz.alloc (.cells #[] 26)) := D.trans (ctx_below.mono D.size)
        have hNT := Cells.news' (HDT.out _ Dz)
        have HNT := Lib.hid hNT
        clear hNT
        go_wp2_with (at_builtin; refine kit.appZ (.tmp 34) (.tmp 37) 22 rfl rfl wz.heap.size Try.underlying22 infoDot rfl (by decide) (by decide) HO0.out rfl (dcells (l.take n)) rfl HLT.out HNT.out.1 HNT.out.2 dcells_one (by omega) (by simp) ?_)
        intro v1 w2 hown1 hb1
        obtain ⟨o1, q1, rfl⟩ := own_form hown1
        have D2 := Dz.trans (hb1.mono (by first | omega | (simp; omega)))
        have D2d := D2.drew
        have hown1d : w2.drew.ownsRow wz.heap.size 26 2 (.slice o1 n q1) n (dcells (l.take n)) := own_stay hown1 (below_drewN (Below.refl _ _) 1)
        have hbz : wz.heap.size ≤ w2.drew.heap.size := by
          have hq := hb1.size
          simp at hq
          show _ ≤ w2.heap.size
          omega
        clear hown1 hb1 HO0 HNT
        go_wp2_with fail
        refine wp_region_order [(0, false), (1, false), (4, false), (5, false), (6, false), (2, true), (3, true), (7, true), (8, false)] (fun W => W.cell? ⟨w.heap.size, 0, none⟩ = some (.int .i64 du) ∧ W.cell? ⟨w.heap.size, 1, none⟩ = some (.int .i64 dv) ∧ RowKit.Below w1.heap.size w1 W) (by kernel_rfl) (by kernel_rfl) ?_ (fun hS0 => ?_)
        · exact ⟨(HB.out _ D2d).1, (HB.out _ D2d).2, D2d⟩
        try dsimp only at hS0
        refine HP.take ?_ rfl (by rfl) (fun w hSw => ?_) ?_
        rotate_left
        · (try dsimp only at hSw); go_simp; try with_reducible rfl
        try simp only [Act.put, List.setIfInBounds_toArray, List.set_cons_zero, List.set_cons_succ]
        refine HP.take ?_ rfl (by rfl) (fun w hSw => ?_) ?_
        rotate_left
        · (try dsimp only at hSw); go_simp; try with_reducible rfl
        try simp only [Act.put, List.setIfInBounds_toArray, List.set_cons_zero, List.set_cons_succ]
        refine HP.take ?_ rfl (by rfl) (fun w hSw => ?_) ?_
        rotate_left
        · (try dsimp only at hSw); go_simp; try with_reducible rfl
        try simp only [Act.put, List.setIfInBounds_toArray, List.set_cons_zero, List.set_cons_succ]
        refine HP.take ?_ rfl (by rfl) (fun w hSw => ?_) ?_
        rotate_left
        · (try dsimp only at hSw); go_simp; try with_reducible rfl
        try simp only [Act.put, List.setIfInBounds_toArray, List.set_cons_zero, List.set_cons_succ]
        refine HP.take ?_ rfl (by rfl) (fun w hSw => ?_) ?_
        rotate_left
        · (try dsimp only at hSw); go_simp; try with_reducible rfl
        try simp only [Act.put, List.setIfInBounds_toArray, List.set_cons_zero, List.set_cons_succ]
        refine HP.run rfl (by rfl) (fun K hK => ?_)
        go_simp
        refine hK.out _ _ ?_ (fun hS1 => ?_)
        · exact ⟨(HB.out _ (D2d.trans (ctx_below.mono D2d.size))).1, (HB.out _ (D2d.trans (ctx_below.mono D2d.size))).2, D2d.trans (ctx_below.mono D2d.size)⟩
        clear hK K hS0
        try dsimp only at hS1
        try simp only [Act.put, List.setIfInBounds_toArray, List.set_cons_zero, List.set_cons_succ]
        refine HP.run rfl (by rfl) (fun K hK => ?_)
        refine kit.wp_of_list (fun Q' hQ' => ?_)
        refine kit.app1 (.tmp 39) (.tmp 41) 22 rfl rfl wz.heap.size Try.underlying22 infoDot rfl (by decide) (by decide) hown1d rfl rfl rfl (by intro u hu; simp at hu; rcases hu with rfl | rfl <;> rfl) (by omega) hbz ?_
        intro v3 w3 hown3 hb3
        refine hQ' _ _ ?_
        clear hQ'
        obtain ⟨o3, q3, rfl⟩ := own_form hown3
        have D3 := D2d.trans (hb3.mono hz1)
        have hbz3 := hb3.size
        simp only [Act.put, List.setIfInBounds_toArray, List.set_cons_zero, List.set_cons_succ]
        refine hK.out _ _ ?_ (fun hS2 => ?_)
        · exact ⟨(HB.out _ D3).1, (HB.out _ D3).2, D3⟩
        clear hK K hS1
        try dsimp only at hS2
        try simp only [Act.put, List.setIfInBounds_toArray, List.set_cons_zero, List.set_cons_succ]
        refine HP.run rfl (by rfl) (fun K hK => ?_)
        refine kit.wp_of_list (fun Q' hQ' => ?_)
        refine kit.appN (.tmp 42) (.tmp 45) 22 rfl rfl wz.heap.size Try.underlying22 infoDot rfl (by decide) (by decide) hown3 rfl ([] : List Value) rfl rfl (fun e => by cases e) (fun ad e j u hj => by simp at hj) (fun u hu => by cases hu) (by omega) (by omega) ?_
        intro v7 w7 hown7 hb7
        refine hQ' _ _ ?_
        clear hQ'
        obtain ⟨o7, q7, rfl⟩ := own_form hown7
        have D7 := D3.trans (hb7.mono hz1)
        simp only [Act.put, List.setIfInBounds_toArray, List.set_cons_zero, List.set_cons_succ]
        refine hK.out _ _ ?_ (fun hS3 => ?_)
        · exact ⟨(HB.out _ D7).1, (HB.out _ D7).2, D7⟩
        clear hK K hS2
        try dsimp only at hS3
        try simp only [Act.put, List.setIfInBounds_toArray, List.set_cons_zero, List.set_cons_succ]
        refine HP.take ?_ rfl (by rfl) (fun w hSw => ?_) ?_
        rotate_left
        · (try dsimp only at hSw); go_simp; try with_reducible rfl
        try simp only [Act.put, List.setIfInBounds_toArray, List.set_cons_zero, List.set_cons_succ]
        refine HP.done ?_
        have hdo : w7.ownsRow w.heap.size 26 2 (.slice o7 (n + 1 + 0) q7) (l.take n ++ ([(du, dv)] ++ l.drop n)).length (dcells (l.take n ++ ([(du, dv)] ++ l.drop n))) := by
          have e1 : (l.take n ++ ([(du, dv)] ++ l.drop n)).length = n + 1 + 0 := by rw [List.length_append, List.length_append, List.length_take, List.length_drop, ← HN.out]; simp only [List.length_cons, List.length_nil]; omega
          have e2 : dcells (l.take n ++ ([(du, dv)] ++ l.drop n)) = dcells (l.take n) ++ [.int .i64 du, .int .i64 dv] ++ dcells (l.drop n) := by rw [dcells_app, dcells_app, List.append_assoc]; rfl
          rw [e1, e2]
          have hdr0 : l.drop n = [] := List.drop_of_length_le (by rw [HN.out]; exact Nat.le_refl _)
          rw [hdr0]
          refine own_mono (base := wz.heap.size) ?_ (Nat.le_trans E1.size hz1)
          simpa [dcells] using hown7
        have hb9 := E1.trans (D7.mono E1.size)
        have HDO := Lib.hid hdo
        clear hdo hown7 hown3 hown1d
        go_wp2
        go_ret
        exact ⟨_, _, rfl, Or.inr HDO.out, HPU.out.1, HPU.out.2, by rw [List.length_append, List.length_append, List.length_take, List.length_drop]; simp only [List.length_cons, List.length_nil]; omega, hb9⟩
end Go.Proofs.Ytdcmoeklldkccaa
