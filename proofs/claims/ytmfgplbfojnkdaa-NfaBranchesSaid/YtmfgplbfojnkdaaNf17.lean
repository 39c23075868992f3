/- texts put together: RfGat. -/
import Derived.Test.YtmfgplbfojnkdaaNf01
import Derived.Test.YtmfgplbfojnkdaaNf09
namespace Go.Proofs.Ytmfgplbfojnkdaa
open Go Go.RowKit Go.ChangeShapes cl rx
open rf
namespace kit
theorem appG {P : Program} {w : World} {ops : Array Oper} {rest : List Oper} {o : Oper} {a : Act} {Q : Exit → Act → World → Prop}
  (s x : Operand) (t : TypeId) (hgd : o.guard = none)
  (ho : o.op = .call { callee := .builtin .append, args := #[s, x], argTypes := #[t, t] })
  (base : Nat) {e : TypeId} {z : Value} {size bytes : Nat} (ht : P.underlying t = some (.slice e)) (hi : (P.info? e).map (fun i => (i.zero, i.size, i.bytes)) = some (some z, size, bytes))
  (hzs : z.cells.size = size) (hsz : 0 < size) (hb1 : 0 < bytes)
  {v : Value} {n : Nat} {xs : List Value} (hown : w.ownsRow base e size v n xs) (hs : a.eval s = v)
  {ao : Option Addr} {m c : Nat} (news : List Value) (hx : a.eval x = .slice ao m c) (hl : news.length = m * size) (hnone : ao = none → m = 0 ∧ c = 0)
  (hnews : ∀ ad, ao = some ad → ∀ j u, news[j]? = some u → w.cell? (ad.add j) = some u) (h1 : ∀ u ∈ news, u.oneCell' = true)
  (hbytes : (n + m) * bytes ≤ 140737488355328) (hbase : base ≤ w.heap.size)
  (h : ∀ v' w', w'.ownsRow base e size v' (n + m) (xs ++ news) → w.grownBy w' v.ownBlock → wpList P ops Q rest (a.put o.dst v') w') :
  wpList P ops Q (o :: rest) a w := by
 obtain ⟨i, hi, hz, hsize, hby⟩ := info_parts hi
 have hle : n + m ≤ (n + m) * bytes := Nat.le_mul_of_pos_right _ hb1
 cases ao with
 | none =>
  obtain ⟨rfl, rfl⟩ := hnone rfl
  obtain rfl : news = [] := List.eq_nil_of_length_eq_zero (by simpa using hl)
  refine wpList_append_own_none hgd s x t ho base e i size ht hi v n xs hs hown hx ?_
  exact h v w (by simpa using hown) ⟨rfl, rfl, rfl, Nat.le_refl _, fun _ _ _ => rfl⟩
 | some ad =>
  exact wpList_append_own _ hgd s x t ho base e i z size bytes ht hi hz hsize hby hzs hsz v n xs hs hown ad m c news hx hl (hnews ad rfl) h1
   (by unfold maxLen; omega) hbytes hbase fun v' w' r1 r2 _ => h v' w' r1 r2
end kit
theorem grownBelow {w w' : World} {B k n : Nat} {e : TypeId} {v : Value} {xs : List Value} (ho : w.ownsRow B e k v n xs) (hB : B ≤ w.heap.size) (hg : w.grownBy w' v.ownBlock) : Below B w w' := grown_below ho hB hg
def RxE (B d : Nat) (w : World) (ks : List (List Value)) (L : List Pat) : Prop := ks.length = L.length ∧ ∀ (j : Nat) (c : List Value) (x : Pat), ks[j]? = some c → L[j]? = some x → FreA B none w (fun W => c.length = 8 ∧ rxR d W W.heap.size c x)
theorem RxE.app {B d : Nat} {w : World} {ks ms : List (List Value)} {L M : List Pat} (h : RxE B d w ks L) (k : RxE B d w ms M) : RxE B d w (ks ++ ms) (L ++ M) := by
 refine ⟨by rw [List.length_append, List.length_append, h.1, k.1], fun j c x hc hx => ?_⟩
 rcases Nat.lt_or_ge j ks.length with hj | hj
 ·
  rw [List.getElem?_append_left hj] at hc
  rw [List.getElem?_append_left (by rw [← h.1]; exact hj)] at hx
  exact h.2 j c x hc hx
 ·
  rw [List.getElem?_append_right hj] at hc
  rw [List.getElem?_append_right (by rw [← h.1]; exact hj), ← h.1] at hx
  exact k.2 _ c x hc hx
theorem RxE.one {B d : Nat} {w : World} {c : List Value} {x : Pat} (h : FreA B none w (fun W => c.length = 8 ∧ rxR d W W.heap.size c x)) : RxE B d w [c] [x] := by
 refine ⟨rfl, fun j c' x' hc hx => ?_⟩
 cases j with
 | zero =>
  simp only [List.getElem?_cons_zero, Option.some.injEq] at hc hx
  subst hc; subst hx
  exact h
 | succ j => simp at hc
theorem RxE.all {B d : Nat} {w : World} {ks : List (List Value)} {L : List Pat} (h : RxE B d w ks L) : ∀ c ∈ ks, c.length = 8 ∧ ∀ u ∈ c, u.oneCell' = true := by
 intro c hc
 obtain ⟨j, hj, rfl⟩ := List.mem_iff_getElem.1 hc
 have hl : j < L.length := by rw [← h.1]; exact hj
 have := (h.2 j _ L[j] (List.getElem?_eq_getElem hj) (List.getElem?_eq_getElem hl)).at.2
 exact rx_one this
theorem cells_ext {w : World} {b off : Nat} : ∀ (l m : List Value), l.length = m.length → (∀ j u, l[j]? = some u → w.cell? ⟨b, off + j, none⟩ = some u) → (∀ j u, m[j]? = some u → w.cell? ⟨b, off + j, none⟩ = some u) → l = m := by
 intro l m hl h k
 refine List.ext_getElem hl fun j h1 h2 => ?_
 have a1 := h j _ (List.getElem?_eq_getElem h1)
 have a2 := k j _ (List.getElem?_eq_getElem h2)
 rw [a1] at a2
 exact Option.some.inj a2
theorem flat_inj : ∀ (cs ds : List (List Value)), (∀ c ∈ cs, c.length = 8) → (∀ c ∈ ds, c.length = 8) → cs.length = ds.length → cs.flatten = ds.flatten → cs = ds
 | [], [], _, _, _, _ => rfl
 | [], _ :: _, _, _, h, _ => by simp at h
 | _ :: _, [], _, _, h, _ => by simp at h
 | c :: cs, d :: ds, h1, h2, h3, h4 => by
  simp only [List.flatten_cons] at h4
  have hl : c.length = d.length := by rw [h1 c (by simp), h2 d (by simp)]
  obtain ⟨e1, e2⟩ := List.append_inj h4 hl
  rw [e1, flat_inj cs ds (fun x hx => h1 x (by simp [hx])) (fun x hx => h2 x (by simp [hx])) (by simpa using h3) e2]
theorem rx_kids {B d : Nat} {w : World} {x : Pat} {k : Int} {a b c e : Value} {ko : Option Addr} {kn kc : Nat} {mn mx : Value} (h : FreA B none w (fun W => rxR (d + 1) W W.heap.size [.int .i64 k, a, b, c, e, .slice ko kn kc, mn, mx] x)) :
  kn = x.ks.length ∧ (ko = none → kn = 0 ∧ kc = 0) ∧ ∃ ms : List (List Value), RxE B d w ms x.ks ∧ ∀ W : World, w.heap.size ≤ W.heap.size → (∀ j, B ≤ j → j < w.heap.size → W.heap[j]? = w.heap[j]?) → ∀ ad, ko = some ad → ∀ j u, ms.flatten[j]? = some u → W.cell? (ad.add j) = some u := by
 have key : ∀ W : World, w.heap.size ≤ W.heap.size → (∀ j, B ≤ j → j < w.heap.size → W.heap[j]? = w.heap[j]?) → RowsAt 8 (rxR d) W W.heap.size (.slice ko kn kc) x.ks := by
  intro W h1 h2
  obtain ⟨ko', kn', kc', e, hk⟩ := h W h1 (fun j hB hj _ => h2 j hB hj)
  simp only [List.cons.injEq, Value.slice.injEq, and_true] at e
  have e6 := e.2.2.2.2.2.1
  obtain ⟨rfl, rfl, rfl⟩ := e6
  exact hk
 have h0 := key w (Nat.le_refl _) (fun _ _ _ => rfl)
 obtain ⟨hkn, hnn⟩ : kn = x.ks.length ∧ (ko = none → kn = 0 ∧ kc = 0) := by
  obtain ⟨cs, g0, g1, g2⟩ := id h0
  have g2' := g2
  obtain ⟨_, _, ee, _, _⟩ := g2.form
  simp only [Value.slice.injEq] at ee
  obtain ⟨_, rfl, _⟩ := ee
  exact ⟨rfl, (Cells.news g2').1⟩
 refine ⟨hkn, hnn, ?_⟩
 rcases Nat.eq_zero_or_pos x.ks.length with hz | hz
 ·
  have hnil : x.ks = [] := List.eq_nil_of_length_eq_zero hz
  refine ⟨[], ⟨by rw [hnil]; rfl, fun j c x hc => by simp at hc⟩, fun W _ _ ad _ j u hu => by simp at hu⟩
 ·
  subst hkn
  obtain ⟨cs, g0, g1, g2⟩ := id h0
  have hall := RowsAt.len g0 g1
  obtain ⟨gl, ao', cp', ee, _, _, g3⟩ := g2
  simp only [Value.slice.injEq] at ee
  obtain ⟨rfl, _, rfl⟩ := ee
  obtain ⟨bb, off, rfl, hbb, hcell⟩ := g3 hz
  have hBb : B ≤ bb := by
   rcases Nat.lt_or_ge bb B with hlt | hge
   ·
    exfalso
    have h1 := key { w with heap := w.heap.setIfInBounds bb (.cells #[] 0) } (by simp) (fun j hB hj => by
     simp only [Array.getElem?_setIfInBounds]
     rw [if_neg (by omega)])
    obtain ⟨b', off', c', e', _, _, hrr, hc'⟩ := RowsAt.get h1 rfl hz default
    simp only [Option.some.injEq, Addr.mk.injEq, and_true] at e'
    obtain ⟨rfl, rfl⟩ := e'
    obtain ⟨ko2, kn2, kc2, rfl⟩ := rx_form hrr
    have hz0 := hc' 0 _ rfl
    simp [World.cell?, hbb] at hz0
   ·
    exact hge
  refine ⟨cs, ⟨g0, fun j c' y hc hy W h1 h2 => ?_⟩, fun W h1 h2 ad e j u hu => ?_⟩
  ·
   have hW := key W h1 (fun j hB hj => h2 j hB hj (by simp))
   obtain ⟨ds, d0, d1, d2⟩ := hW
   have dall := RowsAt.len d0 d1
   obtain ⟨dl, ao2, cp2, ee2, _, _, d3⟩ := d2
   simp only [Value.slice.injEq] at ee2
   obtain ⟨rfl, _, rfl⟩ := ee2
   obtain ⟨b2, off2, e2, hb2, hcell2⟩ := d3 hz
   simp only [Option.some.injEq, Addr.mk.injEq, and_true] at e2
   obtain ⟨rfl, rfl⟩ := e2
   have hfl : cs.flatten = ds.flatten := cells_ext (w := W) (b := bb) (off := off) _ _ (by rw [gl, dl]) (fun j u hu => by
    have := hcell j u hu
    unfold World.cell? at this ⊢
    rw [h2 bb hBb hbb (by simp)]
    exact this) hcell2
   have : cs = ds := flat_inj cs ds hall dall (by rw [g0, d0]) hfl
   subst this
   exact d1 j c' y hc hy
  ·
   obtain rfl := Option.some.inj e
   rw [Addr.add_lit]
   have := hcell j u hu
   unfold World.cell? at this ⊢
   rw [h2 bb hBb hbb]
   exact this
theorem flat_take (kind : Int) (l : List Pat) {k : Nat} {x : Pat} (h : l[k]? = some x) : Pat.flat kind (l.take (k + 1)) = Pat.flat kind (l.take k) ++ (if x.k = kind then x.ks else [x]) := by
 unfold Pat.flat
 rw [List.take_add_one, h, List.flatMap_append]
 simp
theorem szs_take : ∀ (l : List Pat) (k : Nat), szs (l.take k) ≤ szs l
 | [], k => by simp [szs]
 | x :: l, 0 => by simp [szs]
 | x :: l, k + 1 => by have := szs_take l k; simp only [List.take_succ_cons, szs]; omega
theorem flat_take_len (kind : Int) (l : List Pat) (k : Nat) : (Pat.flat kind (l.take k)).length ≤ szs l :=
 Nat.le_trans (szs_len _) (Nat.le_trans (szs_flat kind _) (szs_take l k))
theorem gather_is (kind : Int) (l : List Pat) : (Pat.flat kind l = [] → Pat.gather kind l = .mk 1 .zero [] 0 0) ∧ (∀ x, Pat.flat kind l = [x] → Pat.gather kind l = x) ∧ (2 ≤ (Pat.flat kind l).length → Pat.gather kind l = .mk kind .zero (Pat.flat kind l) 0 0) := by
 unfold Pat.gather
 refine ⟨fun h => by rw [h], fun x h => by rw [h], fun h => ?_⟩
 match Pat.flat kind l, h with
 | a :: b :: r, _ => rfl
set_option maxHeartbeats 12800000 in
set_option maxRecDepth 100000 in
theorem rf_gather (kind : Int) (B d : Nat) (l : List Pat) (v : Value) (w : World) (h : RxO B (d + 1) l v w) (hB : B ≤ w.heap.size) (hl : szs l ≤ 100000) : Calls Try.prog 62 #[.int .i64 kind, v] w (fun e w' => ∃ c, e = .returned (.agg (List.toArray c)) ∧ Fre B w' (fun W => rxR (d + 2) W W.heap.size c (Pat.gather kind l)) ∧ Below w.heap.size w w') := by
 obtain ⟨nl, hn⟩ : ∃ n, n = l.length := ⟨_, rfl⟩
 obtain ⟨cs, h0, h1, h2⟩ := h
 rw [← hn] at h2
 obtain ⟨vo, vc, rfl⟩ := own_slice h2
 have hnl : nl ≤ 100000 := by have := szs_len l; omega
 have hall : ∀ c ∈ cs, c.length = 8 := by
  intro c hc
  obtain ⟨j, hj, rfl⟩ := List.mem_iff_getElem.1 hc
  exact (h1 j _ l[j] (List.getElem?_eq_getElem hj) (List.getElem?_eq_getElem (by omega))).at.1
 have h1' : ∀ (j : Nat) (c : List Value) (x : Pat), cs[j]? = some c → l[j]? = some x → FreA B none w (fun W => c.length = 8 ∧ rxR (d + 1) W W.heap.size c x) := fun j c x hc hx => (h1 j c x hc hx).none'
 obtain ⟨q1, hq1⟩ : ∃ q1, q1 = w.heap.size := ⟨_, rfl⟩
 obtain ⟨W3, hW3⟩ : ∃ W, W = w.alloc (.cells #[.int .i64 0, .int .u64 0, .int .u64 0, .int .u64 0, .int .u64 0, .slice none 0 0, .int .i64 0, .int .i64 0] 27) := ⟨_, rfl⟩
 have b3 : Below w.heap.size w W3 := by rw [hW3]; exact below1
 have Z3 : Hid (W3.heap[q1]? = some (.cells #[.int .i64 0, .int .u64 0, .int .u64 0, .int .u64 0, .int .u64 0, .slice none 0 0, .int .i64 0, .int .i64 0] 27)) := by show _ = _; rw [hW3, hq1]; exact heap_alloc_new _ _
 have B3 := Lib.hid b3
 have HW3 := Lib.hid hW3
 have HQ1 := Lib.hid hq1
 have HO := Lib.hid h2
 have H1 := Lib.hid h1'
 have HN := Lib.hid hn
 have H0 : Hid (cs.length = nl) := by show _ = _; rw [h0, hn]
 have HALL := Lib.hid hall
 have HB := Lib.hid hB
 have HL := Lib.hid hl
 have HG := Lib.hid (gather_is kind l)
 obtain ⟨gp, hgp⟩ : ∃ g, g = Pat.gather kind l := ⟨_, rfl⟩
 rw [← hgp] at HG ⊢
 clear h0 h1 h1' h2 hall hn hq1 hW3 b3 hl hgp
 go_enter Try.func62, Try.ntmps62
 go_wp2
 rw [← HW3.out, ← HQ1.out]
 go_loopw [5, 10, 26] (fun o i _ wr => ∃ (k : Nat) (ro : Option Addr) (rc n : Nat) (ks : List (List Value)), i = .int .i64 k ∧ k ≤ nl ∧ o = .slice ro n rc ∧ Hid (n = (Pat.flat kind (l.take k)).length) ∧ Hid (RxE B (d + 1) w ks (Pat.flat kind (l.take k))) ∧ Hid (wr.ownsRow W3.heap.size 27 8 (.slice ro n rc) n ks.flatten) ∧ Below W3.heap.size W3 wr) (fun _ i _ _ => nl - (intOf i).toNat)
 case atStart => exact ⟨0, none, 0, 0, [], rfl, Nat.zero_le _, rfl, rfl, ⟨rfl, fun j c x hc => by simp at hc⟩, World.ownsRow_nil _ _ _ _, Below.refl _ _⟩
 case round =>
  obtain ⟨k, ro, rc, n, ks, rfl, hk, rfl, HNN, HE, HR, hbl⟩ := hrel
  have BW : Hid (Below w.heap.size w wr) := B3.out.trans (hbl.mono B3.out.size)
  have HBL := Lib.hid hbl
  have hn100 : n ≤ 100000 := by have h := flat_take_len kind l k; have := HNN.out; have := HL.out; omega
  clear hbl
  by_cases hlt : k < nl
  ·
   have hkI : (k : Int) < (nl : Int) := by omega
   obtain ⟨x, c, hx, hc⟩ : ∃ x c, l[k]? = some x ∧ cs[k]? = some c := ⟨_, _, List.getElem?_eq_getElem (by rw [← HN.out]; exact hlt), List.getElem?_eq_getElem (by rw [H0.out]; exact hlt)⟩
   have HX1 := Lib.hid (H1.out k c x hc hx)
   obtain ⟨hc8, hcx⟩ := HX1.out.at
   obtain ⟨ko, kn, kc, rfl⟩ := rx_form hcx
   obtain ⟨g, rfl⟩ : ∃ g, vo = some ⟨g, 0, none⟩ := by
    rcases HO.out.2 with ⟨_, h⟩ | ⟨g, cap, cur, e, _⟩
    ·
     omega
    ·
     simp only [Value.slice.injEq] at e
     exact ⟨g, e.1⟩
   have hO := own_stay HO.out BW.out
   have hcell : ∀ i u, [.int .i64 x.k, .int .u64 x.cl.a, .int .u64 x.cl.b, .int .u64 x.cl.c, .int .u64 x.cl.d, .slice ko kn kc, .int .i64 x.mn, .int .i64 x.mx][i]? = some u → wr.cell? ⟨g, k * 8 + i, none⟩ = some u := by
    intro i u hu
    have hi : i < 8 := (List.getElem?_eq_some_iff.1 hu).1
    have h5 := hO.cells (g := g) rfl (k * 8 + i) u (by rw [flat_get cs HALL.out k _ i hc hi]; exact hu)
    rw [Addr.add_lit, Nat.zero_add] at h5
    exact h5
   have z0 : wr.cell? ⟨g, k * 8, none⟩ = _ := hcell 0 _ rfl
   have z1 := hcell 1 _ rfl
   have z2 := hcell 2 _ rfl
   have z3 := hcell 3 _ rfl
   have z4 := hcell 4 _ rfl
   have z5 := hcell 5 _ rfl
   have z6 := hcell 6 _ rfl
   have z7 := hcell 7 _ rfl
   have HFT := Lib.hid (flat_take kind l hx)
   have hn101 : (Pat.flat kind (l.take (k + 1))).length ≤ 100000 := by have h := flat_take_len kind l (k + 1); have := HL.out; omega
   obtain ⟨W4, hW4⟩ : ∃ W, W = wr.alloc (.cells #[.int .i64 x.k, .int .u64 x.cl.a, .int .u64 x.cl.b, .int .u64 x.cl.c, .int .u64 x.cl.d, .slice ko kn kc, .int .i64 x.mn, .int .i64 x.mx] 27) := ⟨_, rfl⟩
   have b4 : Below wr.heap.size wr W4 := by rw [hW4]; exact below1
   have x4 : W4.heap[wr.heap.size]? = some (.cells #[.int .i64 x.k, .int .u64 x.cl.a, .int .u64 x.cl.b, .int .u64 x.cl.c, .int .u64 x.cl.d, .slice ko kn kc, .int .i64 x.mn, .int .i64 x.mx] 27) := by rw [hW4]; exact heap_alloc_new _ _
   have O4 := Lib.hid (own_stay HR.out b4)
   have B4 := Lib.hid (HBL.out.trans (b4.mono HBL.out.size))
   have HS4 : Hid (W3.heap.size ≤ W4.heap.size) := B4.out.size
   have S4 : Hid (wr.heap.size + 1 = W4.heap.size) := by show _ = _; rw [hW4, World.size_alloc]
   have y0 := boxc x4 0 _ rfl
   have y1 := boxc x4 1 _ rfl
   have y2 := boxc x4 2 _ rfl
   have y3 := boxc x4 3 _ rfl
   have y4 := boxc x4 4 _ rfl
   have y5 := boxc x4 5 _ rfl
   have y6 := boxc x4 6 _ rfl
   have y7 := boxc x4 7 _ rfl
   rw [hW4] at y0 y1 y2 y3 y4 y5 y6 y7
   have HW4 := Lib.hid hW4
   by_cases hxk : x.k = kind
   ·
    have hneb : (x.k == kind) = true := beq_iff_eq.2 hxk
    obtain ⟨hkn, hnone, ms, HMS, hmem⟩ := rx_kids (FreA.imp HX1.out (fun W h => h.2))
    have HF2 : Hid (Pat.flat kind (l.take (k + 1)) = Pat.flat kind (l.take k) ++ x.ks) := by show _ = _; rw [HFT.out, if_pos hxk]
    have HME := Lib.hid HMS
    have HEN : Hid (RxE B (d + 1) w (ks ++ ms) (Pat.flat kind (l.take (k + 1)))) := by
     show RxE _ _ _ _ _
     rw [HF2.out]
     exact HE.out.app ⟨HMS.1, fun j c x hc hx => FreA.imp (HMS.2 j c x hc hx) (fun W h => ⟨h.1, rxR_up _ _ _ _ _ h.2⟩)⟩
    have hnk : n + kn = (Pat.flat kind (l.take (k + 1))).length := by rw [HF2.out, List.length_append, ← HNN.out, hkn]
    have HNK := Lib.hid hnk
    have hml : ms.flatten.length = kn * 8 := by rw [flat_len ms (fun c hc => (HMS.all c hc).1), HMS.1, hkn]
    have hm1 : ∀ u ∈ ms.flatten, u.oneCell' = true := fun u hu => by
     obtain ⟨c, hc, huc⟩ := List.mem_flatten.1 hu
     exact (HMS.all c hc).2 u huc
    have hmw : ∀ ad, ko = some ad → ∀ j u, ms.flatten[j]? = some u → W4.cell? (ad.add j) = some u := fun ad e j u hu => hmem W4 (Nat.le_trans BW.out.size b4.size) (fun j _ hj => by rw [b4.block j (by have := BW.out.size; omega), BW.out.block j hj]) ad e j u hu
    have hby : (n + kn) * 80 ≤ 140737488355328 := by omega
    clear hcell hO hcx hc8 hc hx hW4 b4 x4 hxk hmem HMS hkn hnk
    go_wp2_with (at_builtin; rw [← HW4.out]; refine kit.appG (.tmp 18) (.tmp 20) 25 rfl rfl W3.heap.size Try.underlying25 infoRx rfl (by decide) (by decide) O4.out rfl ms.flatten rfl hml hnone hmw hm1 hby HS4.out ?_)
    intro v9 w9 hO9 hg9
    obtain ⟨ro9, rc9, rfl⟩ := own_slice hO9
    have R9 : Hid (w9.ownsRow W3.heap.size 27 8 (.slice ro9 (n + kn) rc9) (n + kn) (ks ++ ms).flatten) := by
     show World.ownsRow _ _ _ _ _ _ _
     rw [List.flatten_append]; exact hO9
    have B9 := Lib.hid (B4.out.trans (grownBelow O4.out HS4.out hg9))
    clear hO9 hg9 y0 y1 y2 y3 y4 y5 y6 y7 z0 z1 z2 z3 z4 z5 z6 z7 hml hm1 hmw hnone
    go_wp2
    go_roundw
    case rel => exact ⟨k + 1, ro9, rc9, n + kn, ks ++ ms, by go_num, by omega, rfl, HNK.out, HEN.out, R9, B9.out⟩
    case measure => simp [intOf]; omega
   ·
    have hneb : (x.k == kind) = false := beq_eq_false_iff_ne.2 hxk
    have HF2 : Hid (Pat.flat kind (l.take (k + 1)) = Pat.flat kind (l.take k) ++ [x]) := by show _ = _; rw [HFT.out, if_neg hxk]
    have HEN : Hid (RxE B (d + 1) w (ks ++ [([.int .i64 x.k, .int .u64 x.cl.a, .int .u64 x.cl.b, .int .u64 x.cl.c, .int .u64 x.cl.d, .slice ko kn kc, .int .i64 x.mn, .int .i64 x.mx] : List Value)]) (Pat.flat kind (l.take (k + 1)))) := by
     show RxE _ _ _ _ _
     rw [HF2.out]
     exact HE.out.app (RxE.one HX1.out)
    have hnk : n + 1 = (Pat.flat kind (l.take (k + 1))).length := by rw [HF2.out, List.length_append, ← HNN.out]; rfl
    have HNK := Lib.hid hnk
    have hkb : (n + 1) * 80 ≤ 140737488355328 := by omega
    clear hcell hO hcx hc8 hc hx hW4 b4 x4 hxk hnk
    go_wp2_with (at_builtin; rw [← HW4.out]; refine kit.app1k (wr.heap.size + 1) S4.out (.tmp 22) (.tmp 24) 25 rfl rfl W3.heap.size Try.underlying25 infoRx rfl (by decide) (by decide) O4.out rfl rfl rfl (by simp [Value.oneCell']) hkb HS4.out ?_)
    intro v9 w9 hO9 hg9 hv9
    obtain ⟨ro9, rc9, rfl⟩ := own_slice hO9
    have R9 : Hid (w9.ownsRow W3.heap.size 27 8 (.slice ro9 (n + 1) rc9) (n + 1) (ks ++ [([.int .i64 x.k, .int .u64 x.cl.a, .int .u64 x.cl.b, .int .u64 x.cl.c, .int .u64 x.cl.d, .slice ko kn kc, .int .i64 x.mn, .int .i64 x.mx] : List Value)]).flatten) := by
     show World.ownsRow _ _ _ _ _ _ _
     rw [List.flatten_append]; exact hO9
    have B9 := Lib.hid (B4.out.trans (app_below O4.out HS4.out hg9))
    clear hO9 hg9 hv9 y0 y1 y2 y3 y4 y5 y6 y7 z0 z1 z2 z3 z4 z5 z6 z7
    go_wp2
    go_roundw
    case rel => exact ⟨k + 1, ro9, rc9, n + 1, ks ++ [([.int .i64 x.k, .int .u64 x.cl.a, .int .u64 x.cl.b, .int .u64 x.cl.c, .int .u64 x.cl.d, .slice ko kn kc, .int .i64 x.mn, .int .i64 x.mx] : List Value)], by go_num, by omega, rfl, HNK.out, HEN.out, R9, B9.out⟩
    case measure => simp [intOf]; omega
  ·
   obtain rfl : k = nl := by omega
   have hlk : ¬ (k : Int) < (k : Int) := by omega
   have ZZ := Lib.hid ((HBL.out.block _ (lt_of_block Z3.out)).trans Z3.out)
   have HTL : Hid (l.take k = l) := List.take_of_length_le (by rw [← HN.out]; exact Nat.le_refl _)
   rw [HTL.out] at HE HNN
   obtain ⟨L, hL⟩ : ∃ L, L = Pat.flat kind l := ⟨_, rfl⟩
   rw [← hL] at HE HNN HG
   have H13 : Hid (q1 < W3.heap.size) := lt_of_block Z3.out
   have HBQ : Hid (B ≤ q1) := by show _ ≤ _; rw [HQ1.out]; exact HB.out
   have HEV : Hid (∀ (ca : Array Value) (V : World), (World.setRow wr q1 ca).heap.size ≤ V.heap.size → (∀ j, B ≤ j → j < (World.setRow wr q1 ca).heap.size → some j ≠ none → V.heap[j]? = (World.setRow wr q1 ca).heap[j]?) → ∀ (j : Nat) (c : List Value) (x : Pat), ks[j]? = some c → L[j]? = some x → c.length = 8 ∧ rxR (d + 1) V V.heap.size c x) := fun ca V hs hk j c x hc hx => HE.out.2 j c x hc hx V (by rw [setRow_size] at hs; exact Nat.le_trans BW.out.size hs) (fun i hB hi _ => by
    have := BW.out.size
    rw [hk i hB (by rw [setRow_size]; omega) (by simp), setRow_other _ _ _ _ (by have := HQ1.out; omega), BW.out.block i hi])
   have HRV : Hid (∀ (ca : Array Value) (V : World), (∀ j, B ≤ j → j < (World.setRow wr q1 ca).heap.size → some j ≠ none → V.heap[j]? = (World.setRow wr q1 ca).heap[j]?) → V.ownsRow W3.heap.size 27 8 (.slice ro n rc) n ks.flatten) := fun ca V hk => own_fre HR.out (fun i hB hi => by
    rw [hk i (by have := HBQ.out; have := H13.out; omega) (by rw [setRow_size]; exact hi) (by simp), setRow_other _ _ _ _ (by have := H13.out; omega)])
   have HKL : Hid (ks.length = n) := by show _ = _; rw [HE.out.1, HNN.out]
   clear hL hlt
   by_cases k0 : n = 0
   ·
    subst k0
    have HGP : Hid (gp = .mk 1 .zero [] 0 0) := HG.out.1 (List.eq_nil_of_length_eq_zero HNN.out.symm)
    go_wp2_with ((with_reducible show wpList _ _ _ (Oper.mk _ (Op.store 27 (.tmp 4) _) _ _ _ _ :: _) _ _); refine wpList_store_row rfl 27 (.tmp 4) _ rfl (q1) #[.int .i64 1, .int .u64 0, .int .u64 0, .int .u64 0, .int .u64 0, .slice none 0 0, .int .i64 0, .int .i64 0] rfl rfl 27 #[.int .i64 0, .int .u64 0, .int .u64 0, .int .u64 0, .int .u64 0, .slice none 0 0, .int .i64 0, .int .i64 0] ZZ.out rsize rfl (by simp [Value.oneCell']) ?_)
    have cc := setRow_heap _ q1 _ #[.int .i64 1, .int .u64 0, .int .u64 0, .int .u64 0, .int .u64 0, .slice none 0 0, .int .i64 0, .int .i64 0] _ _ ZZ.out
    have bb : Below w.heap.size w (World.setRow wr q1 #[.int .i64 1, .int .u64 0, .int .u64 0, .int .u64 0, .int .u64 0, .slice none 0 0, .int .i64 0, .int .i64 0]) := below_setRow BW.out (g := q1) (by rw [HQ1.out]; exact Nat.le_refl _) _
    have ff : Fre B (World.setRow wr q1 #[.int .i64 1, .int .u64 0, .int .u64 0, .int .u64 0, .int .u64 0, .slice none 0 0, .int .i64 0, .int .i64 0]) (fun W => rxR (d + 2) W W.heap.size [.int .i64 1, .int .u64 0, .int .u64 0, .int .u64 0, .int .u64 0, .slice none 0 0, .int .i64 0, .int .i64 0] gp) := fun W _ _ => by rw [HGP.out]; exact ⟨none, 0, 0, rfl, RowsAt.nil _ _⟩
    obtain ⟨w9, h9⟩ : ∃ W, W = World.setRow wr q1 #[.int .i64 1, .int .u64 0, .int .u64 0, .int .u64 0, .int .u64 0, .slice none 0 0, .int .i64 0, .int .i64 0] := ⟨_, rfl⟩
    rw [← h9] at cc bb ff ⊢
    clear h9
    have k0 := boxc cc 0 _ rfl
    have k1 := boxc cc 1 _ rfl
    have k2 := boxc cc 2 _ rfl
    have k3 := boxc cc 3 _ rfl
    have k4 := boxc cc 4 _ rfl
    have k5 := boxc cc 5 _ rfl
    have k6 := boxc cc 6 _ rfl
    have k7 := boxc cc 7 _ rfl
    refine bodyPost_ret (v := .agg #[.int .i64 1, .int .u64 0, .int .u64 0, .int .u64 0, .int .u64 0, .slice none 0 0, .int .i64 0, .int .i64 0]) (by simp [results, Try.results62, go_sem, k0, k1, k2, k3, k4, k5, k6, k7]) rfl ?_
    exact ⟨[.int .i64 1, .int .u64 0, .int .u64 0, .int .u64 0, .int .u64 0, .slice none 0 0, .int .i64 0, .int .i64 0], rfl, ff, bb⟩
   by_cases k1 : n = 1
   ·
    have HK1 := Lib.hid k1
    obtain ⟨x, hlx⟩ : ∃ x, L = [x] := by
     have := HNN.out
     match L, this with
     | [x], _ => exact ⟨x, rfl⟩
     | [], h => simp at h; omega
     | _ :: _ :: _, h => simp at h; omega
    obtain ⟨c, hcs⟩ : ∃ c, ks = [c] := by
     have := HKL.out
     match ks, this with
     | [c], _ => exact ⟨c, rfl⟩
     | [], h => simp at h; omega
     | _ :: _ :: _, h => simp at h; omega
    have HGP : Hid (gp = x) := HG.out.2.1 x hlx
    obtain ⟨ko, kn, kc, rfl⟩ := rx_form (HE.out.2 0 c x (by rw [hcs]; rfl) (by rw [hlx]; rfl)).at.2
    have HCS : Hid (ks[0]? = some [.int .i64 x.k, .int .u64 x.cl.a, .int .u64 x.cl.b, .int .u64 x.cl.c, .int .u64 x.cl.d, .slice ko kn kc, .int .i64 x.mn, .int .i64 x.mx]) := by show _ = _; rw [hcs]; rfl
    have HLX : Hid (L[0]? = some x) := by show _ = _; rw [hlx]; rfl
    obtain ⟨g, rfl⟩ : ∃ g, ro = some ⟨g, 0, none⟩ := by
     rcases HR.out.2 with ⟨_, h⟩ | ⟨g, cap, cur, e, _⟩
     ·
      omega
     ·
      simp only [Value.slice.injEq] at e
      exact ⟨g, e.1⟩
    have hcell : ∀ i u, [.int .i64 x.k, .int .u64 x.cl.a, .int .u64 x.cl.b, .int .u64 x.cl.c, .int .u64 x.cl.d, .slice ko kn kc, .int .i64 x.mn, .int .i64 x.mx][i]? = some u → wr.cell? ⟨g, i, none⟩ = some u := by
     intro i u hu
     have h5 := HR.out.cells (g := g) rfl i u (by rw [hcs]; simpa using hu)
     rw [Addr.add_lit, Nat.zero_add] at h5
     exact h5
    have z0 := hcell 0 _ rfl
    have z1 := hcell 1 _ rfl
    have z2 := hcell 2 _ rfl
    have z3 := hcell 3 _ rfl
    have z4 := hcell 4 _ rfl
    have z5 := hcell 5 _ rfl
    have z6 := hcell 6 _ rfl
    have z7 := hcell 7 _ rfl
    subst k1
    clear hcell hlx hcs
    go_wp2_with ((with_reducible show wpList _ _ _ (Oper.mk _ (Op.store 27 (.tmp 4) _) _ _ _ _ :: _) _ _); refine wpList_store_row rfl 27 (.tmp 4) _ rfl (q1) #[.int .i64 x.k, .int .u64 x.cl.a, .int .u64 x.cl.b, .int .u64 x.cl.c, .int .u64 x.cl.d, .slice ko kn kc, .int .i64 x.mn, .int .i64 x.mx] rfl rfl 27 #[.int .i64 0, .int .u64 0, .int .u64 0, .int .u64 0, .int .u64 0, .slice none 0 0, .int .i64 0, .int .i64 0] ZZ.out rsize rfl (by simp [Value.oneCell']) ?_)
    have cc := setRow_heap _ q1 _ #[.int .i64 x.k, .int .u64 x.cl.a, .int .u64 x.cl.b, .int .u64 x.cl.c, .int .u64 x.cl.d, .slice ko kn kc, .int .i64 x.mn, .int .i64 x.mx] _ _ ZZ.out
    have bb : Below w.heap.size w (World.setRow wr q1 #[.int .i64 x.k, .int .u64 x.cl.a, .int .u64 x.cl.b, .int .u64 x.cl.c, .int .u64 x.cl.d, .slice ko kn kc, .int .i64 x.mn, .int .i64 x.mx]) := below_setRow BW.out (g := q1) (by rw [HQ1.out]; exact Nat.le_refl _) _
    have ff : Fre B (World.setRow wr q1 #[.int .i64 x.k, .int .u64 x.cl.a, .int .u64 x.cl.b, .int .u64 x.cl.c, .int .u64 x.cl.d, .slice ko kn kc, .int .i64 x.mn, .int .i64 x.mx]) (fun W => rxR (d + 2) W W.heap.size [.int .i64 x.k, .int .u64 x.cl.a, .int .u64 x.cl.b, .int .u64 x.cl.c, .int .u64 x.cl.d, .slice ko kn kc, .int .i64 x.mn, .int .i64 x.mx] gp) := fun V hs hk => by rw [HGP.out]; exact rxR_up (d + 1) _ _ _ _ (HEV.out _ V hs hk 0 _ x HCS.out HLX.out).2
    obtain ⟨w9, h9⟩ : ∃ W, W = World.setRow wr q1 #[.int .i64 x.k, .int .u64 x.cl.a, .int .u64 x.cl.b, .int .u64 x.cl.c, .int .u64 x.cl.d, .slice ko kn kc, .int .i64 x.mn, .int .i64 x.mx] := ⟨_, rfl⟩
    rw [← h9] at cc bb ff ⊢
    clear h9
    have k0 := boxc cc 0 _ rfl
    have k1 := boxc cc 1 _ rfl
    have k2 := boxc cc 2 _ rfl
    have k3 := boxc cc 3 _ rfl
    have k4 := boxc cc 4 _ rfl
    have k5 := boxc cc 5 _ rfl
    have k6 := boxc cc 6 _ rfl
    have k7 := boxc cc 7 _ rfl
    refine bodyPost_ret (v := .agg #[.int .i64 x.k, .int .u64 x.cl.a, .int .u64 x.cl.b, .int .u64 x.cl.c, .int .u64 x.cl.d, .slice ko kn kc, .int .i64 x.mn, .int .i64 x.mx]) (by simp [results, Try.results62, go_sem, k0, k1, k2, k3, k4, k5, k6, k7]) rfl ?_
    exact ⟨[.int .i64 x.k, .int .u64 x.cl.a, .int .u64 x.cl.b, .int .u64 x.cl.c, .int .u64 x.cl.d, .slice ko kn kc, .int .i64 x.mn, .int .i64 x.mx], rfl, ff, bb⟩
   have hk2 : 2 ≤ n := by omega
   have HGP : Hid (gp = .mk kind .zero L 0 0) := HG.out.2.2 (by rw [← HNN.out]; exact hk2)
   have i0 : ¬ (n : Int) = 0 := by omega
   have i1 : ¬ (n : Int) = 1 := by omega
   have b0 : ((n : Int) == 0) = false := beq_eq_false_iff_ne.2 i0
   have b1 : ((n : Int) == 1) = false := beq_eq_false_iff_ne.2 i1
   go_wp2_with ((with_reducible show wpList _ _ _ (Oper.mk _ (Op.store 27 (.tmp 4) _) _ _ _ _ :: _) _ _); refine wpList_store_row rfl 27 (.tmp 4) _ rfl (q1) #[.int .i64 kind, .int .u64 0, .int .u64 0, .int .u64 0, .int .u64 0, .slice ro n rc, .int .i64 0, .int .i64 0] rfl rfl 27 #[.int .i64 0, .int .u64 0, .int .u64 0, .int .u64 0, .int .u64 0, .slice none 0 0, .int .i64 0, .int .i64 0] ZZ.out rsize rfl (by simp [Value.oneCell']) ?_)
   have cc := setRow_heap _ q1 _ #[.int .i64 kind, .int .u64 0, .int .u64 0, .int .u64 0, .int .u64 0, .slice ro n rc, .int .i64 0, .int .i64 0] _ _ ZZ.out
   have bb : Below w.heap.size w (World.setRow wr q1 #[.int .i64 kind, .int .u64 0, .int .u64 0, .int .u64 0, .int .u64 0, .slice ro n rc, .int .i64 0, .int .i64 0]) := below_setRow BW.out (g := q1) (by rw [HQ1.out]; exact Nat.le_refl _) _
   have ff : Fre B (World.setRow wr q1 #[.int .i64 kind, .int .u64 0, .int .u64 0, .int .u64 0, .int .u64 0, .slice ro n rc, .int .i64 0, .int .i64 0]) (fun W => rxR (d + 2) W W.heap.size [.int .i64 kind, .int .u64 0, .int .u64 0, .int .u64 0, .int .u64 0, .slice ro n rc, .int .i64 0, .int .i64 0] gp) := fun V hs hk => by rw [HGP.out]; exact ⟨ro, n, rc, rfl, RowsAt.own HNN.out (by rw [HKL.out]; exact HNN.out) (HEV.out _ V hs hk) (HRV.out _ V hk)⟩
   obtain ⟨w9, h9⟩ : ∃ W, W = World.setRow wr q1 #[.int .i64 kind, .int .u64 0, .int .u64 0, .int .u64 0, .int .u64 0, .slice ro n rc, .int .i64 0, .int .i64 0] := ⟨_, rfl⟩
   rw [← h9] at cc bb ff ⊢
   clear h9
   have k0 := boxc cc 0 _ rfl
   have k1 := boxc cc 1 _ rfl
   have k2 := boxc cc 2 _ rfl
   have k3 := boxc cc 3 _ rfl
   have k4 := boxc cc 4 _ rfl
   have k5 := boxc cc 5 _ rfl
   have k6 := boxc cc 6 _ rfl
   have k7 := boxc cc 7 _ rfl
   refine bodyPost_ret (v := .agg #[.int .i64 kind, .int .u64 0, .int .u64 0, .int .u64 0, .int .u64 0, .slice ro n rc, .int .i64 0, .int .i64 0]) (by simp [results, Try.results62, go_sem, k0, k1, k2, k3, k4, k5, k6, k7]) rfl ?_
   exact ⟨[.int .i64 kind, .int .u64 0, .int .u64 0, .int .u64 0, .int .u64 0, .slice ro n rc, .int .i64 0, .int .i64 0], rfl, ff, bb⟩
end Go.Proofs.Ytmfgplbfojnkdaa
