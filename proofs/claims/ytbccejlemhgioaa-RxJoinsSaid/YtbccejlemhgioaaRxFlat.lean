/- the law's flat: patterns as one of a kind, laid open, empty ones of a row left away. -/
import Derived.Test.YtbccejlemhgioaaRfGat
import Derived.Test.YtbccejlemhgioaaRxAwk
namespace Go.Proofs.Ytbccejlemhgioaa
open Go Go.RowKit Go.ChangeShapes cl rx
open rf
namespace rf
/-- what of a pattern is laid into one of a kind -/
def sel (kind : Int) (x : Pat) : List Pat := if x.k = kind then x.ks else if kind ≠ 3 ∨ x.k ≠ 1 then [x] else []
def lf (kind : Int) (l : List Pat) : List Pat := l.flatMap (sel kind)
def lflat (kind : Int) (l : List Pat) : Pat := match lf kind l with
  | [] => .mk 1 .zero [] 0 0
  | [x] => x
  | l => .mk kind .zero l 0 0
theorem sel_or : sel 4 = fun x => if x.k = 4 then x.ks else [x] := by
  funext x
  unfold sel
  by_cases h : x.k = 4
  · rw [if_pos h, if_pos h]
  · rw [if_neg h, if_neg h, if_pos (Or.inl (by decide))]
theorem lf_or (l : List Pat) : lflat 4 l = Pat.gather 4 l := by
  have h : lf 4 l = Pat.flat 4 l := by unfold lf Pat.flat; rw [sel_or]
  unfold lflat Pat.gather
  rw [h]
  generalize Pat.flat 4 l = m
  match m with
  | [] => rfl
  | [_] => rfl
  | _ :: _ :: _ => rfl
theorem lf_then (l : List Pat) : lflat 3 l = Pat.gather 3 (l.filter (fun x => x.k != 1)) := by
  have : lf 3 l = Pat.flat 3 (l.filter (fun x => x.k != 1)) := by
    induction l with
    | nil => rfl
    | cons x l ih =>
      unfold lf at ih ⊢
      rw [List.flatMap_cons, ih]
      unfold sel
      by_cases h1 : x.k = 1
      · have hb : (x.k != 1) = false := by simp [h1]
        rw [List.filter_cons, hb, if_neg (by omega), if_neg (by omega)]
        rfl
      · have hb : (x.k != 1) = true := by simp [h1]
        rw [List.filter_cons, hb]
        simp only [if_true]
        unfold Pat.flat
        rw [List.flatMap_cons, if_pos (Or.inr h1)]
  unfold lflat Pat.gather
  rw [this]
  rfl
theorem lf_take (kind : Int) (l : List Pat) {k : Nat} {x : Pat} (h : l[k]? = some x) : lf kind (l.take (k + 1)) = lf kind (l.take k) ++ sel kind x := by
  unfold lf
  rw [List.take_add_one, h, List.flatMap_append]
  simp
theorem sz_sel (kind : Int) (x : Pat) : szs (sel kind x) ≤ sz x := by
  have := ks_sz x
  unfold sel
  split
  · omega
  · split
    · simp only [szs]; omega
    · simp only [szs]; omega
theorem szs_lf (kind : Int) : ∀ l : List Pat, szs (lf kind l) ≤ szs l
  | [] => Nat.le_refl _
  | x :: l => by
    have h := szs_lf kind l
    unfold lf at h ⊢
    rw [List.flatMap_cons, szs_app]
    simp only [szs]
    have := sz_sel kind x
    omega
theorem lf_take_len (kind : Int) (l : List Pat) (k : Nat) : (lf kind (l.take k)).length ≤ szs l :=
  Nat.le_trans (szs_len _) (Nat.le_trans (szs_lf kind _) (szs_take l k))
theorem lflat_is (kind : Int) (l : List Pat) : (lf kind l = [] → lflat kind l = .mk 1 .zero [] 0 0) ∧ (∀ x, lf kind l = [x] → lflat kind l = x) ∧ (2 ≤ (lf kind l).length → lflat kind l = .mk kind .zero (lf kind l) 0 0) := by
  unfold lflat
  refine ⟨fun h => by rw [h], fun x h => by rw [h], fun h => ?_⟩
  match lf kind l, h with
  | a :: b :: r, _ => rfl
end rf
/-- cells that stand for patterns at a world -/
def RxN (d : Nat) (W : World) (ks : List (List Value)) (L : List Pat) : Prop := ks.length = L.length ∧ ∀ (j : Nat) (c : List Value) (x : Pat), ks[j]? = some c → L[j]? = some x → c.length = 8 ∧ rxR d W W.heap.size c x
theorem RxN.next {d : Nat} {W W' : World} {ks : List (List Value)} {L : List Pat} (h : RxN d W ks L) (hb : Below W.heap.size W W') : RxN d W' ks L :=
  ⟨h.1, fun j c x hc hx => ⟨(h.2 j c x hc hx).1, rxR_steady d _ _ _ _ _ _ (h.2 j c x hc hx).2 hb hb.size⟩⟩
/-- .. at the start, each below it -/
def RxB (d : Nat) (w : World) (ks : List (List Value)) (L : List Pat) : Prop := ks.length = L.length ∧ ∀ (j : Nat) (c : List Value) (x : Pat), ks[j]? = some c → L[j]? = some x → c.length = 8 ∧ rxR d w w.heap.size c x
theorem RxB.app {d : Nat} {w : World} {ks ms : List (List Value)} {L M : List Pat} (h : RxB d w ks L) (k : RxB d w ms M) : RxB d w (ks ++ ms) (L ++ M) := by
  refine ⟨by rw [List.length_append, List.length_append, h.1, k.1], fun j c x hc hx => ?_⟩
  rcases Nat.lt_or_ge j ks.length with hj | hj
  · rw [List.getElem?_append_left hj] at hc
    rw [List.getElem?_append_left (by rw [← h.1]; exact hj)] at hx
    exact h.2 j c x hc hx
  · rw [List.getElem?_append_right hj] at hc
    rw [List.getElem?_append_right (by rw [← h.1]; exact hj), ← h.1] at hx
    exact k.2 _ c x hc hx
theorem RxB.all {d : Nat} {w : World} {ks : List (List Value)} {L : List Pat} (h : RxB d w ks L) : ∀ c ∈ ks, c.length = 8 ∧ ∀ u ∈ c, u.oneCell' = true := by
  intro c hc
  obtain ⟨j, hj, rfl⟩ := List.mem_iff_getElem.1 hc
  have hl : j < L.length := by rw [← h.1]; exact hj
  exact rx_one (h.2 j _ L[j] (List.getElem?_eq_getElem hj) (List.getElem?_eq_getElem hl)).2
theorem RxB.one {d : Nat} {w : World} {c : List Value} {x : Pat} (h : rxR d w w.heap.size c x) : RxB d w [c] [x] := by
  refine ⟨rfl, fun j c' x' hc hx => ?_⟩
  cases j with
  | zero =>
    simp only [List.getElem?_cons_zero, Option.some.injEq] at hc hx
    subst hc; subst hx
    exact ⟨(rx_one h).1, h⟩
  | succ j => simp at hc
/-- a slice of patterns as cells, wherever the world has gone on to -/
theorem rows_cells {d : Nat} {w : World} {ao : Option Addr} {n c : Nat} {l : List Pat} (h : RowsAt 8 (rxR d) w w.heap.size (.slice ao n c) l) : n = l.length ∧ (ao = none → n = 0 ∧ c = 0) ∧ ∃ ms, RxB d w ms l ∧ ∀ W, Below w.heap.size w W → ∀ ad, ao = some ad → ∀ (j : Nat) u, ms.flatten[j]? = some u → W.cell? (ad.add j) = some u := by
  obtain ⟨cs, g0, g1, g2⟩ := h
  have e : n = l.length := by
    obtain ⟨_, _, ee, _, _⟩ := g2.form
    simp only [Value.slice.injEq] at ee
    exact ee.2.1
  subst e
  refine ⟨rfl, (Cells.news g2).1, cs, ⟨g0, g1⟩, fun W hW ad e j u hu => ?_⟩
  have h2 := (Cells.news (g2.below hW)).2
  exact h2 ad e j u hu
set_option maxHeartbeats 12800000 in
set_option maxRecDepth 100000 in
theorem flat_any (kind : Int) (d : Nat) (l : List Pat) (v : Value) (w : World) (h : RowsAt 8 (rxR (d + 1)) w w.heap.size v l) (hl : szs l ≤ 100000) : Calls Try.prog 19 #[.int .i64 kind, v] w (fun e w' => ∃ c, e = .returned (.agg (List.toArray c)) ∧ rxR (d + 2) w' w'.heap.size c (lflat kind l) ∧ Below w.heap.size w w') := by
  obtain ⟨vo, vc, rfl, hvc, hvm⟩ := h.form
  obtain ⟨nl, hn⟩ : ∃ n, n = l.length := ⟨_, rfl⟩
  rw [← hn] at h hvc hvm ⊢
  unfold maxLen at hvm
  have hnl : nl ≤ 100000 := by have := szs_len l; omega
  obtain ⟨q1, hq1⟩ : ∃ q1, q1 = w.heap.size := ⟨_, rfl⟩
  obtain ⟨q2, hq2⟩ : ∃ q2, q2 = w.heap.size + 1 := ⟨_, rfl⟩
  obtain ⟨W3, hW3⟩ : ∃ W, W = (w.alloc (.cells #[.int .i64 0, .int .u64 0, .int .u64 0, .int .u64 0, .int .u64 0, .slice none 0 0, .int .i64 0, .int .i64 0] 28)).alloc (.cells #[.int .i64 kind, .int .u64 0, .int .u64 0, .int .u64 0, .int .u64 0, .slice none 0 0, .int .i64 0, .int .i64 0] 28) := ⟨_, rfl⟩
  have b1 : Below w.heap.size w (w.alloc (.cells #[.int .i64 0, .int .u64 0, .int .u64 0, .int .u64 0, .int .u64 0, .slice none 0 0, .int .i64 0, .int .i64 0] 28)) := below1
  have b3 : Below w.heap.size w W3 := by rw [hW3]; exact b1.trans (below1.mono b1.size)
  have Z3 : Hid (W3.heap[q1]? = some (.cells #[.int .i64 0, .int .u64 0, .int .u64 0, .int .u64 0, .int .u64 0, .slice none 0 0, .int .i64 0, .int .i64 0] 28)) := by
    show _ = _
    rw [hW3]; exact (below1.block q1 (by rw [World.size_alloc, hq1]; omega)).trans (by rw [hq1]; exact heap_alloc_new _ _)
  have X3 : Hid (W3.heap[q2]? = some (.cells #[.int .i64 kind, .int .u64 0, .int .u64 0, .int .u64 0, .int .u64 0, .slice none 0 0, .int .i64 0, .int .i64 0] 28)) := by
    show _ = _
    have : q2 = (w.alloc (.cells #[.int .i64 0, .int .u64 0, .int .u64 0, .int .u64 0, .int .u64 0, .slice none 0 0, .int .i64 0, .int .i64 0] 28)).heap.size := by rw [World.size_alloc, hq2]
    rw [hW3, this]; exact heap_alloc_new _ _
  have B3 := Lib.hid b3
  have HW3 := Lib.hid hW3
  have HQ1 := Lib.hid hq1
  have HQ2 := Lib.hid hq2
  have HR0 := Lib.hid h
  have HN := Lib.hid hn
  have HL := Lib.hid hl
  have HG := Lib.hid (lflat_is kind l)
  obtain ⟨gp, hgp⟩ : ∃ g, g = lflat kind l := ⟨_, rfl⟩
  rw [← hgp] at HG ⊢
  clear h b1 b3 hn hq1 hq2 hW3 hl hgp
  go_enter Try.func19, Try.ntmps19
  go_wp2
  rw [← HW3.out, ← HQ2.out, ← HQ1.out]
  go_loopw [12, 41] (fun i _ wr => ∃ (k : Nat) (ro : Option Addr) (rc n : Nat) (ks : List (List Value)), i = .int .i64 k ∧ k ≤ nl ∧ Hid (n = (lf kind (l.take k)).length) ∧ Hid (RxB (d + 1) w ks (lf kind (l.take k))) ∧ Hid (wr.ownsRow W3.heap.size 28 8 (.slice ro n rc) n ks.flatten) ∧ Hid (wr.heap[q1]? = some (.cells #[.int .i64 0, .int .u64 0, .int .u64 0, .int .u64 0, .int .u64 0, .slice none 0 0, .int .i64 0, .int .i64 0] 28)) ∧ Hid (wr.heap[q2]? = some (.cells #[.int .i64 kind, .int .u64 0, .int .u64 0, .int .u64 0, .int .u64 0, .slice ro n rc, .int .i64 0, .int .i64 0] 28)) ∧ Hid (Below w.heap.size w wr) ∧ Hid (W3.heap.size ≤ wr.heap.size)) (fun i _ _ => nl - (intOf i).toNat)
  case atStart => exact ⟨0, none, 0, 0, [], rfl, Nat.zero_le _, rfl, ⟨rfl, fun j c x hc => by simp at hc⟩, World.ownsRow_nil _ _ _ _, Z3.out, X3.out, B3.out, Nat.le_refl _⟩
  case round =>
    obtain ⟨k, ro, rc, n, ks, rfl, hk, HNN, HE, HR, ZZ, XX, BW, HSW⟩ := hrel
    have hn100 : n ≤ 100000 := by have h := lf_take_len kind l k; have := HNN.out; have := HL.out; omega
    by_cases hlt : k < nl
    · have hkI : (k : Int) < (nl : Int) := by omega
      obtain ⟨x, hx⟩ : ∃ x, x = l.getD k default := ⟨_, rfl⟩
      obtain ⟨ba, oa, c, rfl, hbA, hcl, hRA0, hCA0⟩ := HR0.out.get HN.out hlt default
      rw [← hx] at hRA0
      have hlx : l[k]? = some x := by
        rw [hx, List.getD_eq_getElem?_getD, List.getElem?_eq_getElem (by rw [← HN.out]; exact hlt)]; rfl
      obtain ⟨ko, kn, kc, rfl⟩ := rx_form hRA0
      have hcell : ∀ i u, [.int .i64 x.k, .int .u64 x.cl.a, .int .u64 x.cl.b, .int .u64 x.cl.c, .int .u64 x.cl.d, .slice ko kn kc, .int .i64 x.mn, .int .i64 x.mx][i]? = some u → wr.cell? ⟨ba, oa + k * 8 + i, none⟩ = some u := fun i u hu => (BW.out.cell (p := ⟨ba, _, none⟩) hbA).trans (hCA0 i u hu)
      have z0 : wr.cell? ⟨ba, oa + k * 8, none⟩ = _ := hcell 0 _ rfl
      have z1 := hcell 1 _ rfl
      have z2 := hcell 2 _ rfl
      have z3 := hcell 3 _ rfl
      have z4 := hcell 4 _ rfl
      have z5 := hcell 5 _ rfl
      have z6 := hcell 6 _ rfl
      have z7 := hcell 7 _ rfl
      have HFT := Lib.hid (lf_take kind l hlx)
      have hn101 : (lf kind (l.take (k + 1))).length ≤ 100000 := by have h := lf_take_len kind l (k + 1); have := HL.out; omega
      obtain ⟨q3, hq3⟩ : ∃ z, z = wr.heap.size := ⟨_, rfl⟩
      obtain ⟨W4, hW4⟩ : ∃ W, W = wr.alloc (.cells #[.int .i64 x.k, .int .u64 x.cl.a, .int .u64 x.cl.b, .int .u64 x.cl.c, .int .u64 x.cl.d, .slice ko kn kc, .int .i64 x.mn, .int .i64 x.mx] 28) := ⟨_, rfl⟩
      have b4 : Below wr.heap.size wr W4 := by rw [hW4]; exact below1
      have x4 : W4.heap[wr.heap.size]? = some (.cells #[.int .i64 x.k, .int .u64 x.cl.a, .int .u64 x.cl.b, .int .u64 x.cl.c, .int .u64 x.cl.d, .slice ko kn kc, .int .i64 x.mn, .int .i64 x.mx] 28) := by rw [hW4]; exact heap_alloc_new _ _
      have O4 := Lib.hid (own_stay HR.out b4)
      have B4 := Lib.hid (BW.out.trans (b4.mono BW.out.size))
      have HS4 : Hid (W3.heap.size ≤ W4.heap.size) := Nat.le_trans HSW.out b4.size
      have S4 : Hid (wr.heap.size + 1 = W4.heap.size) := by show _ = _; rw [hW4, World.size_alloc]
      have X4 := Lib.hid ((b4.block _ (lt_of_block XX.out)).trans XX.out)
      have Z4 := Lib.hid ((b4.block _ (lt_of_block ZZ.out)).trans ZZ.out)
      have v5 := boxc X4.out 5 _ rfl
      have y0 := boxc x4 0 _ rfl
      have y1 := boxc x4 1 _ rfl
      have y2 := boxc x4 2 _ rfl
      have y3 := boxc x4 3 _ rfl
      have y4 := boxc x4 4 _ rfl
      have y5 := boxc x4 5 _ rfl
      have y6 := boxc x4 6 _ rfl
      have y7 := boxc x4 7 _ rfl
      rw [hW4] at y0 y1 y2 y3 y4 y5 y6 y7 v5
      have HW4 := Lib.hid hW4
      have HRA := Lib.hid hRA0
      by_cases hxk : x.k = kind
      · have hneb : (x.k == kind) = true := beq_iff_eq.2 hxk
        obtain ⟨lo', ln', lc', eK, hK⟩ := HRA.out
        simp only [List.cons.injEq, Value.slice.injEq, and_true] at eK
        obtain ⟨e1, e2, e3⟩ := eK.2.2.2.2.2
        rw [← e1, ← e2, ← e3] at hK
        obtain ⟨hkn, hnone, ms, HMS, hmem⟩ := rows_cells hK
        have HF2 : Hid (lf kind (l.take (k + 1)) = lf kind (l.take k) ++ x.ks) := by show _ = _; rw [HFT.out]; unfold sel; rw [if_pos hxk]
        have HEN : Hid (RxB (d + 1) w (ks ++ ms) (lf kind (l.take (k + 1)))) := by
          show RxB _ _ _ _
          rw [HF2.out]
          exact HE.out.app ⟨HMS.1, fun j c x hc hx => ⟨(HMS.2 j c x hc hx).1, rxR_up _ _ _ _ _ (HMS.2 j c x hc hx).2⟩⟩
        have hnk : n + kn = (lf kind (l.take (k + 1))).length := by rw [HF2.out, List.length_append, ← HNN.out, hkn]
        have HNK := Lib.hid hnk
        have hml : ms.flatten.length = kn * 8 := by rw [flat_len ms (fun c hc => (HMS.all c hc).1), HMS.1, hkn]
        have hm1 : ∀ u ∈ ms.flatten, u.oneCell' = true := fun u hu => by
          obtain ⟨c, hc, huc⟩ := List.mem_flatten.1 hu
          exact (HMS.all c hc).2 u huc
        have hmw := hmem W4 B4.out
        have hby : (n + kn) * 80 ≤ 140737488355328 := by omega
        clear hcell hRA0 hCA0 hbA hcl hx hlx hW4 b4 x4 hxk hmem HMS hkn hnk eK hK hq3 e1 e2 e3
        go_wp2_with (at_builtin; rw [← HW4.out]; refine kit.appG (.tmp 22) (.tmp 24) 26 rfl rfl W3.heap.size Try.underlying26 infoRx rfl (by decide) (by decide) O4.out rfl ms.flatten rfl hml hnone hmw hm1 hby HS4.out ?_)
        intro v9 w9 hO9 hg9
        have AB : ∀ w9 : World, W4.grownBy w9 (Value.slice ro n rc).ownBlock → Below W3.heap.size W4 w9 := fun w9 hg9 => grownBelow O4.out HS4.out hg9
        have X9f : ∀ w9 : World, W4.grownBy w9 (Value.slice ro n rc).ownBlock → w9.heap[q2]? = some (.cells #[.int .i64 kind, .int .u64 0, .int .u64 0, .int .u64 0, .int .u64 0, .slice ro n rc, .int .i64 0, .int .i64 0] 28) := fun w9 hg9 => ((AB w9 hg9).block q2 (lt_of_block X3.out)).trans X4.out
        have Z9f : ∀ w9 : World, W4.grownBy w9 (Value.slice ro n rc).ownBlock → w9.heap[q1]? = some (.cells #[.int .i64 0, .int .u64 0, .int .u64 0, .int .u64 0, .int .u64 0, .slice none 0 0, .int .i64 0, .int .i64 0] 28) := fun w9 hg9 => ((AB w9 hg9).block q1 (lt_of_block Z3.out)).trans Z4.out
        replace AB : ∀ w9 : World, W4.grownBy w9 (Value.slice ro n rc).ownBlock → Below W3.heap.size W4 w9 := AB
        obtain ⟨ro9, rc9, rfl⟩ := own_slice hO9
        have X9 := X9f w9 hg9
        have Z9 := Z9f w9 hg9
        have R9 : Hid (w9.ownsRow W3.heap.size 28 8 (.slice ro9 (n + kn) rc9) (n + kn) (ks ++ ms).flatten) := by
          show World.ownsRow _ _ _ _ _ _ _
          rw [List.flatten_append]; exact hO9
        have B9 := Lib.hid (B4.out.trans ((AB w9 hg9).mono B3.out.size))
        have f5 := boxf X9 5
        have XS : (w9.setCell ⟨q2, 5, none⟩ (.slice ro9 (n + kn) rc9)).heap[q2]? = some (.cells #[.int .i64 kind, .int .u64 0, .int .u64 0, .int .u64 0, .int .u64 0, .slice ro9 (n + kn) rc9, .int .i64 0, .int .i64 0] 28 (0, 0)) := heap_setCell_same w9 q2 5 _ _ _ X9
        have kx : KX q2 w9 (w9.setCell ⟨q2, 5, none⟩ (.slice ro9 (n + kn) rc9)) := KX.cell
        have ZS := Lib.hid ((kx.2.2 q1 (lt_of_block Z9) (by have := HQ1.out; have := HQ2.out; omega)).trans Z9)
        have RS := Lib.hid (own_kx R9.out kx (by have := lt_of_block X3.out; omega))
        have BS : Hid (Below w.heap.size w (w9.setCell ⟨q2, 5, none⟩ (.slice ro9 (n + kn) rc9))) := B9.out.trans ⟨kx.1.1, kx.1.2.1, kx.1.2.2, kx.2.1, fun j hj => kx.2.2 j (by have := B9.out.size; omega) (by have := HQ2.out; omega)⟩
        have HSS : Hid (W3.heap.size ≤ (w9.setCell ⟨q2, 5, none⟩ (.slice ro9 (n + kn) rc9)).heap.size) := by
          show _ ≤ _
          have h1 := kx.2.1
          have h2 := (AB w9 hg9).size
          have := HS4.out
          omega
        have XSS := Lib.hid XS
        have c5x := boxc X9 5 _ rfl
        have B49 := AB w9 hg9
        have hW4le : W4.heap.size ≤ w9.heap.size := B49.size
        clear hO9 hg9 y0 y1 y2 y3 y4 y5 y6 y7 z0 z1 z2 z3 z4 z5 z6 z7 hml hm1 hmw hnone v5 AB X9f Z9f X9 Z9 XS kx B49 hW4le
        go_wp2
        go_roundw
        case rel => exact ⟨k + 1, ro9, rc9, n + kn, ks ++ ms, by go_num, by omega, HNK.out, HEN.out, RS, ZS, XSS, BS, HSS⟩
        case measure => simp [intOf]; omega
      have hneb : (x.k == kind) = false := beq_eq_false_iff_ne.2 hxk
      by_cases hem : kind ≠ 3 ∨ x.k ≠ 1
      · have HF2 : Hid (lf kind (l.take (k + 1)) = lf kind (l.take k) ++ [x]) := by show _ = _; rw [HFT.out]; unfold sel; rw [if_neg hxk, if_pos hem]
        have HEN : Hid (RxB (d + 1) w (ks ++ [([.int .i64 x.k, .int .u64 x.cl.a, .int .u64 x.cl.b, .int .u64 x.cl.c, .int .u64 x.cl.d, .slice ko kn kc, .int .i64 x.mn, .int .i64 x.mx] : List Value)]) (lf kind (l.take (k + 1)))) := by
          show RxB _ _ _ _
          rw [HF2.out]
          exact HE.out.app (RxB.one HRA.out)
        have hnk : n + 1 = (lf kind (l.take (k + 1))).length := by rw [HF2.out, List.length_append, ← HNN.out]; rfl
        have HNK := Lib.hid hnk
        have hkb : (n + 1) * 80 ≤ 140737488355328 := by omega
        clear hcell hRA0 hCA0 hbA hcl hx hlx hW4 b4 x4 hxk hnk hq3
        by_cases h3 : kind = 3
        · have d3 : (kind != 3) = false := by rw [h3]; rfl
          have d1 : (x.k != 1) = true := by
            have : x.k ≠ 1 := hem.resolve_left (fun h => h h3)
            simp [this]
          clear h3 hem
          go_wp2_with (at_builtin; rw [← HW4.out]; refine kit.app1k (wr.heap.size + 1) S4.out (.tmp 36) (.tmp 38) 26 rfl rfl W3.heap.size Try.underlying26 infoRx rfl (by decide) (by decide) O4.out rfl rfl rfl (by simp [Value.oneCell']) hkb HS4.out ?_)
          intro v9 w9 hO9 hg9 hv9
          have AB : ∀ w9 : World, (W4.alloc (.cells #[.int .i64 x.k, .int .u64 x.cl.a, .int .u64 x.cl.b, .int .u64 x.cl.c, .int .u64 x.cl.d, .slice ko kn kc, .int .i64 x.mn, .int .i64 x.mx] 28)).grownBy w9 (Value.slice ro n rc).ownBlock → Below W3.heap.size W4 w9 := fun w9 hg9 => app_below O4.out HS4.out hg9
          have X9f : ∀ w9 : World, (W4.alloc (.cells #[.int .i64 x.k, .int .u64 x.cl.a, .int .u64 x.cl.b, .int .u64 x.cl.c, .int .u64 x.cl.d, .slice ko kn kc, .int .i64 x.mn, .int .i64 x.mx] 28)).grownBy w9 (Value.slice ro n rc).ownBlock → w9.heap[q2]? = some (.cells #[.int .i64 kind, .int .u64 0, .int .u64 0, .int .u64 0, .int .u64 0, .slice ro n rc, .int .i64 0, .int .i64 0] 28) := fun w9 hg9 => ((AB w9 hg9).block q2 (lt_of_block X3.out)).trans X4.out
          have Z9f : ∀ w9 : World, (W4.alloc (.cells #[.int .i64 x.k, .int .u64 x.cl.a, .int .u64 x.cl.b, .int .u64 x.cl.c, .int .u64 x.cl.d, .slice ko kn kc, .int .i64 x.mn, .int .i64 x.mx] 28)).grownBy w9 (Value.slice ro n rc).ownBlock → w9.heap[q1]? = some (.cells #[.int .i64 0, .int .u64 0, .int .u64 0, .int .u64 0, .int .u64 0, .slice none 0 0, .int .i64 0, .int .i64 0] 28) := fun w9 hg9 => ((AB w9 hg9).block q1 (lt_of_block Z3.out)).trans Z4.out
          obtain ⟨ro9, rc9, rfl⟩ := own_slice hO9
          have X9 := X9f w9 hg9
          have Z9 := Z9f w9 hg9
          have R9 : Hid (w9.ownsRow W3.heap.size 28 8 (.slice ro9 (n + 1) rc9) (n + 1) (ks ++ [([.int .i64 x.k, .int .u64 x.cl.a, .int .u64 x.cl.b, .int .u64 x.cl.c, .int .u64 x.cl.d, .slice ko kn kc, .int .i64 x.mn, .int .i64 x.mx] : List Value)]).flatten) := by
            show World.ownsRow _ _ _ _ _ _ _
            rw [List.flatten_append]; exact hO9
          have B9 := Lib.hid (B4.out.trans ((AB w9 hg9).mono B3.out.size))
          have f5 := boxf X9 5
          have XS : (w9.setCell ⟨q2, 5, none⟩ (.slice ro9 (n + 1) rc9)).heap[q2]? = some (.cells #[.int .i64 kind, .int .u64 0, .int .u64 0, .int .u64 0, .int .u64 0, .slice ro9 (n + 1) rc9, .int .i64 0, .int .i64 0] 28 (0, 0)) := heap_setCell_same w9 q2 5 _ _ _ X9
          have kx : KX q2 w9 (w9.setCell ⟨q2, 5, none⟩ (.slice ro9 (n + 1) rc9)) := KX.cell
          have ZS := Lib.hid ((kx.2.2 q1 (lt_of_block Z9) (by have := HQ1.out; have := HQ2.out; omega)).trans Z9)
          have RS := Lib.hid (own_kx R9.out kx (by have := lt_of_block X3.out; omega))
          have BS : Hid (Below w.heap.size w (w9.setCell ⟨q2, 5, none⟩ (.slice ro9 (n + 1) rc9))) := B9.out.trans ⟨kx.1.1, kx.1.2.1, kx.1.2.2, kx.2.1, fun j hj => kx.2.2 j (by have := B9.out.size; omega) (by have := HQ2.out; omega)⟩
          have HSS : Hid (W3.heap.size ≤ (w9.setCell ⟨q2, 5, none⟩ (.slice ro9 (n + 1) rc9)).heap.size) := by
            show _ ≤ _
            have h1 := kx.2.1
            have h2 := (AB w9 hg9).size
            have := HS4.out
            omega
          have XSS := Lib.hid XS
          have c5x := boxc X9 5 _ rfl
          have B49 := AB w9 hg9
          have hW4le : W4.heap.size ≤ w9.heap.size := B49.size
          clear hO9 hg9 hv9 y0 y1 y2 y3 y4 y5 y6 y7 z0 z1 z2 z3 z4 z5 z6 z7 v5 AB X9f Z9f X9 Z9 XS kx B49 hW4le
          go_wp2
          go_roundw
          case rel => exact ⟨k + 1, ro9, rc9, n + 1, ks ++ [([.int .i64 x.k, .int .u64 x.cl.a, .int .u64 x.cl.b, .int .u64 x.cl.c, .int .u64 x.cl.d, .slice ko kn kc, .int .i64 x.mn, .int .i64 x.mx] : List Value)], by go_num, by omega, HNK.out, HEN.out, RS, ZS, XSS, BS, HSS⟩
          case measure => simp [intOf]; omega
        · have d3 : (kind != 3) = true := by simp [h3]
          clear h3 hem
          go_wp2_with (at_builtin; rw [← HW4.out]; refine kit.app1k (wr.heap.size + 1) S4.out (.tmp 36) (.tmp 38) 26 rfl rfl W3.heap.size Try.underlying26 infoRx rfl (by decide) (by decide) O4.out rfl rfl rfl (by simp [Value.oneCell']) hkb HS4.out ?_)
          intro v9 w9 hO9 hg9 hv9
          have AB : ∀ w9 : World, (W4.alloc (.cells #[.int .i64 x.k, .int .u64 x.cl.a, .int .u64 x.cl.b, .int .u64 x.cl.c, .int .u64 x.cl.d, .slice ko kn kc, .int .i64 x.mn, .int .i64 x.mx] 28)).grownBy w9 (Value.slice ro n rc).ownBlock → Below W3.heap.size W4 w9 := fun w9 hg9 => app_below O4.out HS4.out hg9
          have X9f : ∀ w9 : World, (W4.alloc (.cells #[.int .i64 x.k, .int .u64 x.cl.a, .int .u64 x.cl.b, .int .u64 x.cl.c, .int .u64 x.cl.d, .slice ko kn kc, .int .i64 x.mn, .int .i64 x.mx] 28)).grownBy w9 (Value.slice ro n rc).ownBlock → w9.heap[q2]? = some (.cells #[.int .i64 kind, .int .u64 0, .int .u64 0, .int .u64 0, .int .u64 0, .slice ro n rc, .int .i64 0, .int .i64 0] 28) := fun w9 hg9 => ((AB w9 hg9).block q2 (lt_of_block X3.out)).trans X4.out
          have Z9f : ∀ w9 : World, (W4.alloc (.cells #[.int .i64 x.k, .int .u64 x.cl.a, .int .u64 x.cl.b, .int .u64 x.cl.c, .int .u64 x.cl.d, .slice ko kn kc, .int .i64 x.mn, .int .i64 x.mx] 28)).grownBy w9 (Value.slice ro n rc).ownBlock → w9.heap[q1]? = some (.cells #[.int .i64 0, .int .u64 0, .int .u64 0, .int .u64 0, .int .u64 0, .slice none 0 0, .int .i64 0, .int .i64 0] 28) := fun w9 hg9 => ((AB w9 hg9).block q1 (lt_of_block Z3.out)).trans Z4.out
          obtain ⟨ro9, rc9, rfl⟩ := own_slice hO9
          have X9 := X9f w9 hg9
          have Z9 := Z9f w9 hg9
          have R9 : Hid (w9.ownsRow W3.heap.size 28 8 (.slice ro9 (n + 1) rc9) (n + 1) (ks ++ [([.int .i64 x.k, .int .u64 x.cl.a, .int .u64 x.cl.b, .int .u64 x.cl.c, .int .u64 x.cl.d, .slice ko kn kc, .int .i64 x.mn, .int .i64 x.mx] : List Value)]).flatten) := by
            show World.ownsRow _ _ _ _ _ _ _
            rw [List.flatten_append]; exact hO9
          have B9 := Lib.hid (B4.out.trans ((AB w9 hg9).mono B3.out.size))
          have f5 := boxf X9 5
          have XS : (w9.setCell ⟨q2, 5, none⟩ (.slice ro9 (n + 1) rc9)).heap[q2]? = some (.cells #[.int .i64 kind, .int .u64 0, .int .u64 0, .int .u64 0, .int .u64 0, .slice ro9 (n + 1) rc9, .int .i64 0, .int .i64 0] 28 (0, 0)) := heap_setCell_same w9 q2 5 _ _ _ X9
          have kx : KX q2 w9 (w9.setCell ⟨q2, 5, none⟩ (.slice ro9 (n + 1) rc9)) := KX.cell
          have ZS := Lib.hid ((kx.2.2 q1 (lt_of_block Z9) (by have := HQ1.out; have := HQ2.out; omega)).trans Z9)
          have RS := Lib.hid (own_kx R9.out kx (by have := lt_of_block X3.out; omega))
          have BS : Hid (Below w.heap.size w (w9.setCell ⟨q2, 5, none⟩ (.slice ro9 (n + 1) rc9))) := B9.out.trans ⟨kx.1.1, kx.1.2.1, kx.1.2.2, kx.2.1, fun j hj => kx.2.2 j (by have := B9.out.size; omega) (by have := HQ2.out; omega)⟩
          have HSS : Hid (W3.heap.size ≤ (w9.setCell ⟨q2, 5, none⟩ (.slice ro9 (n + 1) rc9)).heap.size) := by
            show _ ≤ _
            have h1 := kx.2.1
            have h2 := (AB w9 hg9).size
            have := HS4.out
            omega
          have XSS := Lib.hid XS
          have c5x := boxc X9 5 _ rfl
          have B49 := AB w9 hg9
          have hW4le : W4.heap.size ≤ w9.heap.size := B49.size
          clear hO9 hg9 hv9 y0 y1 y2 y3 y4 y5 y6 y7 z0 z1 z2 z3 z4 z5 z6 z7 v5 AB X9f Z9f X9 Z9 XS kx B49 hW4le
          go_wp2
          go_roundw
          case rel => exact ⟨k + 1, ro9, rc9, n + 1, ks ++ [([.int .i64 x.k, .int .u64 x.cl.a, .int .u64 x.cl.b, .int .u64 x.cl.c, .int .u64 x.cl.d, .slice ko kn kc, .int .i64 x.mn, .int .i64 x.mx] : List Value)], by go_num, by omega, HNK.out, HEN.out, RS, ZS, XSS, BS, HSS⟩
          case measure => simp [intOf]; omega
      · have hk3 : kind = 3 := by
          rcases Decidable.em (kind = 3) with e | e
          · exact e
          · exact absurd (Or.inl e) hem
        have hx1 : x.k = 1 := by
          rcases Decidable.em (x.k = 1) with e | e
          · exact e
          · exact absurd (Or.inr e) hem
        have HF2 : Hid (lf kind (l.take (k + 1)) = lf kind (l.take k)) := by show _ = _; rw [HFT.out]; unfold sel; rw [if_neg hxk, if_neg hem, List.append_nil]
        have d3 : (kind != 3) = false := by rw [hk3]; rfl
        have d1 : (x.k != 1) = false := by rw [hx1]; rfl
        have HNK : Hid (n = (lf kind (l.take (k + 1))).length) := by show _ = _; rw [HF2.out]; exact HNN.out
        have HEN : Hid (RxB (d + 1) w ks (lf kind (l.take (k + 1)))) := by show RxB _ _ _ _; rw [HF2.out]; exact HE.out
        clear hcell hRA0 hCA0 hbA hcl hx hlx hW4 b4 x4 hxk hem hk3 hx1 hq3
        go_wp2
        rw [← HW4.out]
        go_roundw
        case rel => exact ⟨k + 1, ro, rc, n, ks, by go_num, by omega, HNK, HEN, O4, Z4, X4, B4, HS4⟩
        case measure => simp [intOf]; omega
    · obtain rfl : k = nl := by omega
      have hlk : ¬ (k : Int) < (k : Int) := by omega
      have HTL : Hid (l.take k = l) := List.take_of_length_le (by rw [← HN.out]; exact Nat.le_refl _)
      rw [HTL.out] at HE HNN
      obtain ⟨L, hL⟩ : ∃ L, L = lf kind l := ⟨_, rfl⟩
      rw [← hL] at HE HNN HG
      have HKL : Hid (ks.length = n) := by show _ = _; rw [HE.out.1, HNN.out]
      have HEV : Hid (∀ (ca : Array Value), RxN (d + 1) (World.setRow wr q1 ca) ks L) := fun ca => by
        have hb := below_setRow BW.out (g := q1) (by rw [HQ1.out]; exact Nat.le_refl _) ca
        exact ⟨HE.out.1, fun j c x hc hx => ⟨(HE.out.2 j c x hc hx).1, rxR_steady _ _ _ _ _ _ _ (HE.out.2 j c x hc hx).2 hb hb.size⟩⟩
      have HRV : Hid (∀ (ca : Array Value), (World.setRow wr q1 ca).ownsRow W3.heap.size 28 8 (.slice ro n rc) n ks.flatten) := fun ca => own_kx HR.out KX.row (lt_of_block Z3.out)
      have v5 := boxc XX.out 5 _ rfl
      clear hL hlt
      by_cases k0 : n = 0
      · subst k0
        have HGP : Hid (gp = .mk 1 .zero [] 0 0) := HG.out.1 (List.eq_nil_of_length_eq_zero HNN.out.symm)
        go_wp2_with ((with_reducible show wpList _ _ _ (Oper.mk _ (Op.store 28 (.tmp 4) _) _ _ _ _ :: _) _ _); refine wpList_store_row rfl 28 (.tmp 4) _ rfl (q1) #[.int .i64 1, .int .u64 0, .int .u64 0, .int .u64 0, .int .u64 0, .slice none 0 0, .int .i64 0, .int .i64 0] rfl rfl 28 #[.int .i64 0, .int .u64 0, .int .u64 0, .int .u64 0, .int .u64 0, .slice none 0 0, .int .i64 0, .int .i64 0] ZZ.out rsize rfl (by simp [Value.oneCell']) ?_)
        have cc := setRow_heap _ q1 _ #[.int .i64 1, .int .u64 0, .int .u64 0, .int .u64 0, .int .u64 0, .slice none 0 0, .int .i64 0, .int .i64 0] _ _ ZZ.out
        have bb : Below w.heap.size w (World.setRow wr q1 #[.int .i64 1, .int .u64 0, .int .u64 0, .int .u64 0, .int .u64 0, .slice none 0 0, .int .i64 0, .int .i64 0]) := below_setRow BW.out (g := q1) (by rw [HQ1.out]; exact Nat.le_refl _) _
        have ff : rxR (d + 2) (World.setRow wr q1 #[.int .i64 1, .int .u64 0, .int .u64 0, .int .u64 0, .int .u64 0, .slice none 0 0, .int .i64 0, .int .i64 0]) (World.setRow wr q1 #[.int .i64 1, .int .u64 0, .int .u64 0, .int .u64 0, .int .u64 0, .slice none 0 0, .int .i64 0, .int .i64 0]).heap.size [.int .i64 1, .int .u64 0, .int .u64 0, .int .u64 0, .int .u64 0, .slice none 0 0, .int .i64 0, .int .i64 0] gp := by rw [HGP.out]; exact ⟨none, 0, 0, rfl, RowsAt.nil _ _⟩
        obtain ⟨w9, h9⟩ : ∃ W, W = World.setRow wr q1 #[.int .i64 1, .int .u64 0, .int .u64 0, .int .u64 0, .int .u64 0, .slice none 0 0, .int .i64 0, .int .i64 0] := ⟨_, rfl⟩
        rw [← h9] at cc bb ff ⊢
        clear h9
        have k0 := boxc cc 0 _ rfl
        have k1 := boxc cc 1 _ rfl
        have k2 := boxc cc 2 _ rfl
        have k3 := boxc cc 3 _ rfl
        have k4 := boxc cc 4 _ rfl
        have k5 := boxc cc 5 _ rfl
        have k6 := boxc cc 6 _ rfl
        have k7 := boxc cc 7 _ rfl
        refine bodyPost_ret (v := .agg #[.int .i64 1, .int .u64 0, .int .u64 0, .int .u64 0, .int .u64 0, .slice none 0 0, .int .i64 0, .int .i64 0]) (by simp [results, Try.results19, go_sem, k0, k1, k2, k3, k4, k5, k6, k7]) rfl ?_
        exact ⟨[.int .i64 1, .int .u64 0, .int .u64 0, .int .u64 0, .int .u64 0, .slice none 0 0, .int .i64 0, .int .i64 0], rfl, ff, bb⟩
      by_cases k1 : n = 1
      · have HK1 := Lib.hid k1
        obtain ⟨x, hlx⟩ : ∃ x, L = [x] := by
          have := HNN.out
          match L, this with
          | [x], _ => exact ⟨x, rfl⟩
          | [], h => simp at h; omega
          | _ :: _ :: _, h => simp at h; omega
        obtain ⟨c, hcs⟩ : ∃ c, ks = [c] := by
          have := HKL.out
          match ks, this with
          | [c], _ => exact ⟨c, rfl⟩
          | [], h => simp at h; omega
          | _ :: _ :: _, h => simp at h; omega
        have HGP : Hid (gp = x) := HG.out.2.1 x hlx
        obtain ⟨ko, kn, kc, rfl⟩ := rx_form (HE.out.2 0 c x (by rw [hcs]; rfl) (by rw [hlx]; rfl)).2
        have HCS : Hid (ks[0]? = some [.int .i64 x.k, .int .u64 x.cl.a, .int .u64 x.cl.b, .int .u64 x.cl.c, .int .u64 x.cl.d, .slice ko kn kc, .int .i64 x.mn, .int .i64 x.mx]) := by show _ = _; rw [hcs]; rfl
        have HLX : Hid (L[0]? = some x) := by show _ = _; rw [hlx]; rfl
        obtain ⟨g, rfl⟩ : ∃ g, ro = some ⟨g, 0, none⟩ := by
          rcases HR.out.2 with ⟨_, h⟩ | ⟨g, cap, cur, e, _⟩
          · omega
          · simp only [Value.slice.injEq] at e
            exact ⟨g, e.1⟩
        have hcell : ∀ i u, [.int .i64 x.k, .int .u64 x.cl.a, .int .u64 x.cl.b, .int .u64 x.cl.c, .int .u64 x.cl.d, .slice ko kn kc, .int .i64 x.mn, .int .i64 x.mx][i]? = some u → wr.cell? ⟨g, i, none⟩ = some u := by
          intro i u hu
          have h5 := HR.out.cells (g := g) rfl i u (by rw [hcs]; simpa using hu)
          rw [Addr.add_lit, Nat.zero_add] at h5
          exact h5
        have z0 := hcell 0 _ rfl
        have z1 := hcell 1 _ rfl
        have z2 := hcell 2 _ rfl
        have z3 := hcell 3 _ rfl
        have z4 := hcell 4 _ rfl
        have z5 := hcell 5 _ rfl
        have z6 := hcell 6 _ rfl
        have z7 := hcell 7 _ rfl
        subst k1
        clear hcell hlx hcs
        go_wp2_with ((with_reducible show wpList _ _ _ (Oper.mk _ (Op.store 28 (.tmp 4) _) _ _ _ _ :: _) _ _); refine wpList_store_row rfl 28 (.tmp 4) _ rfl (q1) #[.int .i64 x.k, .int .u64 x.cl.a, .int .u64 x.cl.b, .int .u64 x.cl.c, .int .u64 x.cl.d, .slice ko kn kc, .int .i64 x.mn, .int .i64 x.mx] rfl rfl 28 #[.int .i64 0, .int .u64 0, .int .u64 0, .int .u64 0, .int .u64 0, .slice none 0 0, .int .i64 0, .int .i64 0] ZZ.out rsize rfl (by simp [Value.oneCell']) ?_)
        have cc := setRow_heap _ q1 _ #[.int .i64 x.k, .int .u64 x.cl.a, .int .u64 x.cl.b, .int .u64 x.cl.c, .int .u64 x.cl.d, .slice ko kn kc, .int .i64 x.mn, .int .i64 x.mx] _ _ ZZ.out
        have bb : Below w.heap.size w (World.setRow wr q1 #[.int .i64 x.k, .int .u64 x.cl.a, .int .u64 x.cl.b, .int .u64 x.cl.c, .int .u64 x.cl.d, .slice ko kn kc, .int .i64 x.mn, .int .i64 x.mx]) := below_setRow BW.out (g := q1) (by rw [HQ1.out]; exact Nat.le_refl _) _
        have ff : rxR (d + 2) (World.setRow wr q1 #[.int .i64 x.k, .int .u64 x.cl.a, .int .u64 x.cl.b, .int .u64 x.cl.c, .int .u64 x.cl.d, .slice ko kn kc, .int .i64 x.mn, .int .i64 x.mx]) (World.setRow wr q1 #[.int .i64 x.k, .int .u64 x.cl.a, .int .u64 x.cl.b, .int .u64 x.cl.c, .int .u64 x.cl.d, .slice ko kn kc, .int .i64 x.mn, .int .i64 x.mx]).heap.size [.int .i64 x.k, .int .u64 x.cl.a, .int .u64 x.cl.b, .int .u64 x.cl.c, .int .u64 x.cl.d, .slice ko kn kc, .int .i64 x.mn, .int .i64 x.mx] gp := by rw [HGP.out]; exact rxR_up (d + 1) _ _ _ _ ((HEV.out _).2 0 _ x HCS.out HLX.out).2
        obtain ⟨w9, h9⟩ : ∃ W, W = World.setRow wr q1 #[.int .i64 x.k, .int .u64 x.cl.a, .int .u64 x.cl.b, .int .u64 x.cl.c, .int .u64 x.cl.d, .slice ko kn kc, .int .i64 x.mn, .int .i64 x.mx] := ⟨_, rfl⟩
        rw [← h9] at cc bb ff ⊢
        clear h9
        have k0 := boxc cc 0 _ rfl
        have k1 := boxc cc 1 _ rfl
        have k2 := boxc cc 2 _ rfl
        have k3 := boxc cc 3 _ rfl
        have k4 := boxc cc 4 _ rfl
        have k5 := boxc cc 5 _ rfl
        have k6 := boxc cc 6 _ rfl
        have k7 := boxc cc 7 _ rfl
        refine bodyPost_ret (v := .agg #[.int .i64 x.k, .int .u64 x.cl.a, .int .u64 x.cl.b, .int .u64 x.cl.c, .int .u64 x.cl.d, .slice ko kn kc, .int .i64 x.mn, .int .i64 x.mx]) (by simp [results, Try.results19, go_sem, k0, k1, k2, k3, k4, k5, k6, k7]) rfl ?_
        exact ⟨[.int .i64 x.k, .int .u64 x.cl.a, .int .u64 x.cl.b, .int .u64 x.cl.c, .int .u64 x.cl.d, .slice ko kn kc, .int .i64 x.mn, .int .i64 x.mx], rfl, ff, bb⟩
      have hk2 : 2 ≤ n := by omega
      have HGP : Hid (gp = .mk kind .zero L 0 0) := HG.out.2.2 (by rw [← HNN.out]; exact hk2)
      have i0 : ¬ (n : Int) = 0 := by omega
      have i1 : ¬ (n : Int) = 1 := by omega
      have b0 : ((n : Int) == 0) = false := beq_eq_false_iff_ne.2 i0
      have b1 : ((n : Int) == 1) = false := beq_eq_false_iff_ne.2 i1
      have u0 := boxc XX.out 0 _ rfl
      have u1 := boxc XX.out 1 _ rfl
      have u2 := boxc XX.out 2 _ rfl
      have u3 := boxc XX.out 3 _ rfl
      have u4 := boxc XX.out 4 _ rfl
      have u6 := boxc XX.out 6 _ rfl
      have u7 := boxc XX.out 7 _ rfl
      go_wp2_with ((with_reducible show wpList _ _ _ (Oper.mk _ (Op.store 28 (.tmp 4) _) _ _ _ _ :: _) _ _); refine wpList_store_row rfl 28 (.tmp 4) _ rfl (q1) #[.int .i64 kind, .int .u64 0, .int .u64 0, .int .u64 0, .int .u64 0, .slice ro n rc, .int .i64 0, .int .i64 0] rfl rfl 28 #[.int .i64 0, .int .u64 0, .int .u64 0, .int .u64 0, .int .u64 0, .slice none 0 0, .int .i64 0, .int .i64 0] ZZ.out rsize rfl (by simp [Value.oneCell']) ?_)
      have cc := setRow_heap _ q1 _ #[.int .i64 kind, .int .u64 0, .int .u64 0, .int .u64 0, .int .u64 0, .slice ro n rc, .int .i64 0, .int .i64 0] _ _ ZZ.out
      have bb : Below w.heap.size w (World.setRow wr q1 #[.int .i64 kind, .int .u64 0, .int .u64 0, .int .u64 0, .int .u64 0, .slice ro n rc, .int .i64 0, .int .i64 0]) := below_setRow BW.out (g := q1) (by rw [HQ1.out]; exact Nat.le_refl _) _
      have ff : rxR (d + 2) (World.setRow wr q1 #[.int .i64 kind, .int .u64 0, .int .u64 0, .int .u64 0, .int .u64 0, .slice ro n rc, .int .i64 0, .int .i64 0]) (World.setRow wr q1 #[.int .i64 kind, .int .u64 0, .int .u64 0, .int .u64 0, .int .u64 0, .slice ro n rc, .int .i64 0, .int .i64 0]).heap.size [.int .i64 kind, .int .u64 0, .int .u64 0, .int .u64 0, .int .u64 0, .slice ro n rc, .int .i64 0, .int .i64 0] gp := by rw [HGP.out]; exact ⟨ro, n, rc, rfl, RowsAt.own HNN.out (by rw [HKL.out]; exact HNN.out) (HEV.out _).2 (HRV.out _)⟩
      obtain ⟨w9, h9⟩ : ∃ W, W = World.setRow wr q1 #[.int .i64 kind, .int .u64 0, .int .u64 0, .int .u64 0, .int .u64 0, .slice ro n rc, .int .i64 0, .int .i64 0] := ⟨_, rfl⟩
      rw [← h9] at cc bb ff ⊢
      clear h9
      have k0 := boxc cc 0 _ rfl
      have k1 := boxc cc 1 _ rfl
      have k2 := boxc cc 2 _ rfl
      have k3 := boxc cc 3 _ rfl
      have k4 := boxc cc 4 _ rfl
      have k5 := boxc cc 5 _ rfl
      have k6 := boxc cc 6 _ rfl
      have k7 := boxc cc 7 _ rfl
      refine bodyPost_ret (v := .agg #[.int .i64 kind, .int .u64 0, .int .u64 0, .int .u64 0, .int .u64 0, .slice ro n rc, .int .i64 0, .int .i64 0]) (by simp [results, Try.results19, go_sem, k0, k1, k2, k3, k4, k5, k6, k7]) rfl ?_
      exact ⟨[.int .i64 kind, .int .u64 0, .int .u64 0, .int .u64 0, .int .u64 0, .slice ro n rc, .int .i64 0, .int .i64 0], rfl, ff, bb⟩
end Go.Proofs.Ytbccejlemhgioaa
