/- texts put together: RrJnd, RrRw. -/
import Derived.Test.YtbccejlemhgioaaPa03
import Derived.Test.YtbccejlemhgioaaPa04
import Derived.Test.YtbccejlemhgioaaPa09
import Derived.Test.YtbccejlemhgioaaPa21
namespace Go.Proofs.Ytbccejlemhgioaa
open Go Go.RowKit Go.ChangeShapes cl rx
open rf
set_option maxHeartbeats 12800000 in
set_option maxRecDepth 100000 in
theorem rr_joined (kind : Int) (B d : Nat) (l : List Pat) (v : Value) (w : World) (h : RxO B (d + 1) l v w) (hB : B ≤ w.heap.size) (hl : szs l ≤ 100000) : Calls Try.prog 31 #[.int .i64 kind, v] w (fun e w' => ∃ c, e = .returned (.agg (List.toArray c)) ∧ Fre B w' (fun W => rxR (d + 2) W W.heap.size c (lflat kind l)) ∧ Below w.heap.size w w') := by
 obtain ⟨nl, hn⟩ : ∃ n, n = l.length := ⟨_, rfl⟩
 obtain ⟨cs, h0, h1, h2⟩ := h
 rw [← hn] at h2
 obtain ⟨vo, vc, rfl⟩ := own_slice h2
 have hnl : nl ≤ 100000 := by have := szs_len l; omega
 have hall : ∀ c ∈ cs, c.length = 8 := by
  intro c hc
  obtain ⟨j, hj, rfl⟩ := List.mem_iff_getElem.1 hc
  exact (h1 j _ l[j] (List.getElem?_eq_getElem hj) (List.getElem?_eq_getElem (by omega))).at.1
 have h1' : ∀ (j : Nat) (c : List Value) (x : Pat), cs[j]? = some c → l[j]? = some x → FreA B none w (fun W => c.length = 8 ∧ rxR (d + 1) W W.heap.size c x) := fun j c x hc hx => (h1 j c x hc hx).none'
 obtain ⟨q1, hq1⟩ : ∃ q1, q1 = w.heap.size := ⟨_, rfl⟩
 obtain ⟨W3, hW3⟩ : ∃ W, W = w.alloc (.cells #[.int .i64 0, .int .u64 0, .int .u64 0, .int .u64 0, .int .u64 0, .slice none 0 0, .int .i64 0, .int .i64 0] 28) := ⟨_, rfl⟩
 have b3 : Below w.heap.size w W3 := by rw [hW3]; exact below1
 have Z3 : Hid (W3.heap[q1]? = some (.cells #[.int .i64 0, .int .u64 0, .int .u64 0, .int .u64 0, .int .u64 0, .slice none 0 0, .int .i64 0, .int .i64 0] 28)) := by show _ = _; rw [hW3, hq1]; exact heap_alloc_new _ _
 have B3 := Lib.hid b3
 have HW3 := Lib.hid hW3
 have HQ1 := Lib.hid hq1
 have HO := Lib.hid h2
 have H1 := Lib.hid h1'
 have HN := Lib.hid hn
 have H0 : Hid (cs.length = nl) := by show _ = _; rw [h0, hn]
 have HALL := Lib.hid hall
 have HB := Lib.hid hB
 have HL := Lib.hid hl
 have HG := Lib.hid (lflat_is kind l)
 obtain ⟨gp, hgp⟩ : ∃ g, g = lflat kind l := ⟨_, rfl⟩
 rw [← hgp] at HG ⊢
 clear h0 h1 h1' h2 hall hn hq1 hW3 b3 hl hgp
 go_enter Try.func31, Try.ntmps31
 go_wp2
 rw [← HW3.out, ← HQ1.out]
 go_loopw [5, 10, 35] (fun o i _ wr => ∃ (k : Nat) (ro : Option Addr) (rc n : Nat) (ks : List (List Value)), i = .int .i64 k ∧ k ≤ nl ∧ o = .slice ro n rc ∧ Hid (n = (lf kind (l.take k)).length) ∧ Hid (RxE B (d + 1) w ks (lf kind (l.take k))) ∧ Hid (wr.ownsRow W3.heap.size 28 8 (.slice ro n rc) n ks.flatten) ∧ Below W3.heap.size W3 wr) (fun _ i _ _ => nl - (intOf i).toNat)
 case atStart => exact ⟨0, none, 0, 0, [], rfl, Nat.zero_le _, rfl, rfl, ⟨rfl, fun j c x hc => by simp at hc⟩, World.ownsRow_nil _ _ _ _, Below.refl _ _⟩
 case round =>
  obtain ⟨k, ro, rc, n, ks, rfl, hk, rfl, HNN, HE, HR, hbl⟩ := hrel
  have BW : Hid (Below w.heap.size w wr) := B3.out.trans (hbl.mono B3.out.size)
  have HBL := Lib.hid hbl
  have hn100 : n ≤ 100000 := by have h := lf_take_len kind l k; have := HNN.out; have := HL.out; omega
  clear hbl
  by_cases hlt : k < nl
  ·
   have hkI : (k : Int) < (nl : Int) := by omega
   obtain ⟨x, c, hx, hc⟩ : ∃ x c, l[k]? = some x ∧ cs[k]? = some c := ⟨_, _, List.getElem?_eq_getElem (by rw [← HN.out]; exact hlt), List.getElem?_eq_getElem (by rw [H0.out]; exact hlt)⟩
   have HX1 := Lib.hid (H1.out k c x hc hx)
   obtain ⟨hc8, hcx⟩ := HX1.out.at
   obtain ⟨ko, kn, kc, rfl⟩ := rx_form hcx
   obtain ⟨g, rfl⟩ : ∃ g, vo = some ⟨g, 0, none⟩ := by
    rcases HO.out.2 with ⟨_, h⟩ | ⟨g, cap, cur, e, _⟩
    ·
     omega
    ·
     simp only [Value.slice.injEq] at e
     exact ⟨g, e.1⟩
   have hO := own_stay HO.out BW.out
   have hcell : ∀ i u, [.int .i64 x.k, .int .u64 x.cl.a, .int .u64 x.cl.b, .int .u64 x.cl.c, .int .u64 x.cl.d, .slice ko kn kc, .int .i64 x.mn, .int .i64 x.mx][i]? = some u → wr.cell? ⟨g, k * 8 + i, none⟩ = some u := by
    intro i u hu
    have hi : i < 8 := (List.getElem?_eq_some_iff.1 hu).1
    have h5 := hO.cells (g := g) rfl (k * 8 + i) u (by rw [flat_get cs HALL.out k _ i hc hi]; exact hu)
    rw [Addr.add_lit, Nat.zero_add] at h5
    exact h5
   have z0 : wr.cell? ⟨g, k * 8, none⟩ = _ := hcell 0 _ rfl
   have z1 := hcell 1 _ rfl
   have z2 := hcell 2 _ rfl
   have z3 := hcell 3 _ rfl
   have z4 := hcell 4 _ rfl
   have z5 := hcell 5 _ rfl
   have z6 := hcell 6 _ rfl
   have z7 := hcell 7 _ rfl
   have HFT := Lib.hid (lf_take kind l hx)
   have hn101 : (lf kind (l.take (k + 1))).length ≤ 100000 := by have h := lf_take_len kind l (k + 1); have := HL.out; omega
   obtain ⟨W4, hW4⟩ : ∃ W, W = wr.alloc (.cells #[.int .i64 x.k, .int .u64 x.cl.a, .int .u64 x.cl.b, .int .u64 x.cl.c, .int .u64 x.cl.d, .slice ko kn kc, .int .i64 x.mn, .int .i64 x.mx] 28) := ⟨_, rfl⟩
   have b4 : Below wr.heap.size wr W4 := by rw [hW4]; exact below1
   have x4 : W4.heap[wr.heap.size]? = some (.cells #[.int .i64 x.k, .int .u64 x.cl.a, .int .u64 x.cl.b, .int .u64 x.cl.c, .int .u64 x.cl.d, .slice ko kn kc, .int .i64 x.mn, .int .i64 x.mx] 28) := by rw [hW4]; exact heap_alloc_new _ _
   have O4 := Lib.hid (own_stay HR.out b4)
   have B4 := Lib.hid (HBL.out.trans (b4.mono HBL.out.size))
   have HS4 : Hid (W3.heap.size ≤ W4.heap.size) := B4.out.size
   have S4 : Hid (wr.heap.size + 1 = W4.heap.size) := by show _ = _; rw [hW4, World.size_alloc]
   have y0 := boxc x4 0 _ rfl
   have y1 := boxc x4 1 _ rfl
   have y2 := boxc x4 2 _ rfl
   have y3 := boxc x4 3 _ rfl
   have y4 := boxc x4 4 _ rfl
   have y5 := boxc x4 5 _ rfl
   have y6 := boxc x4 6 _ rfl
   have y7 := boxc x4 7 _ rfl
   rw [hW4] at y0 y1 y2 y3 y4 y5 y6 y7
   have HW4 := Lib.hid hW4
   by_cases hxk : x.k = kind
   ·
    have hneb : (x.k == kind) = true := beq_iff_eq.2 hxk
    obtain ⟨hkn, hnone, ms, HMS, hmem⟩ := rx_kids (FreA.imp HX1.out (fun W h => h.2))
    have HF2 : Hid (lf kind (l.take (k + 1)) = lf kind (l.take k) ++ x.ks) := by show _ = _; rw [HFT.out]; unfold sel; rw [if_pos hxk]
    have HME := Lib.hid HMS
    have HEN : Hid (RxE B (d + 1) w (ks ++ ms) (lf kind (l.take (k + 1)))) := by
     show RxE _ _ _ _ _
     rw [HF2.out]
     exact HE.out.app ⟨HMS.1, fun j c x hc hx => FreA.imp (HMS.2 j c x hc hx) (fun W h => ⟨h.1, rxR_up _ _ _ _ _ h.2⟩)⟩
    have hnk : n + kn = (lf kind (l.take (k + 1))).length := by rw [HF2.out, List.length_append, ← HNN.out, hkn]
    have HNK := Lib.hid hnk
    have hml : ms.flatten.length = kn * 8 := by rw [flat_len ms (fun c hc => (HMS.all c hc).1), HMS.1, hkn]
    have hm1 : ∀ u ∈ ms.flatten, u.oneCell' = true := fun u hu => by
     obtain ⟨c, hc, huc⟩ := List.mem_flatten.1 hu
     exact (HMS.all c hc).2 u huc
    have hmw : ∀ ad, ko = some ad → ∀ j u, ms.flatten[j]? = some u → W4.cell? (ad.add j) = some u := fun ad e j u hu => hmem W4 (Nat.le_trans BW.out.size b4.size) (fun j _ hj => by rw [b4.block j (by have := BW.out.size; omega), BW.out.block j hj]) ad e j u hu
    have hby : (n + kn) * 80 ≤ 140737488355328 := by omega
    clear hcell hO hcx hc8 hc hx hW4 b4 x4 hxk hmem HMS hkn hnk
    go_wp2_with (at_builtin; rw [← HW4.out]; refine kit.appG (.tmp 19) (.tmp 21) 26 rfl rfl W3.heap.size Try.underlying26 infoRx rfl (by decide) (by decide) O4.out rfl ms.flatten rfl hml hnone hmw hm1 hby HS4.out ?_)
    intro v9 w9 hO9 hg9
    obtain ⟨ro9, rc9, rfl⟩ := own_slice hO9
    have R9 : Hid (w9.ownsRow W3.heap.size 28 8 (.slice ro9 (n + kn) rc9) (n + kn) (ks ++ ms).flatten) := by
     show World.ownsRow _ _ _ _ _ _ _
     rw [List.flatten_append]; exact hO9
    have B9 := Lib.hid (B4.out.trans (grownBelow O4.out HS4.out hg9))
    clear hO9 hg9 y0 y1 y2 y3 y4 y5 y6 y7 z0 z1 z2 z3 z4 z5 z6 z7 hml hm1 hmw hnone
    go_wp2
    go_roundw
    case rel => exact ⟨k + 1, ro9, rc9, n + kn, ks ++ ms, by go_num, by omega, rfl, HNK.out, HEN.out, R9, B9.out⟩
    case measure => simp [intOf]; omega
   ·
    have hneb : (x.k == kind) = false := beq_eq_false_iff_ne.2 hxk
    by_cases hem : kind ≠ 3 ∨ x.k ≠ 1
    ·
     have dd : (kind != 3) = true ∨ ((kind != 3) = false ∧ (x.k != 1) = true) := by
      by_cases h3 : kind = 3
      ·
       right
       exact ⟨by rw [h3]; rfl, by have : x.k ≠ 1 := hem.resolve_left (fun h => h h3); simp [this]⟩
      ·
       left; simp [h3]
     rcases dd with d3 | ⟨d3, d1⟩
     ·
      have HF2 : Hid (lf kind (l.take (k + 1)) = lf kind (l.take k) ++ [x]) := by show _ = _; rw [HFT.out]; unfold sel; rw [if_neg hxk, if_pos hem]
      have HEN : Hid (RxE B (d + 1) w (ks ++ [([.int .i64 x.k, .int .u64 x.cl.a, .int .u64 x.cl.b, .int .u64 x.cl.c, .int .u64 x.cl.d, .slice ko kn kc, .int .i64 x.mn, .int .i64 x.mx] : List Value)]) (lf kind (l.take (k + 1)))) := by
       show RxE _ _ _ _ _
       rw [HF2.out]
       exact HE.out.app (RxE.one HX1.out)
      have hnk : n + 1 = (lf kind (l.take (k + 1))).length := by rw [HF2.out, List.length_append, ← HNN.out]; rfl
      have HNK := Lib.hid hnk
      have hkb : (n + 1) * 80 ≤ 140737488355328 := by omega
      clear hcell hO hcx hc8 hc hx hW4 b4 x4 hxk hnk hem
      go_wp2_with (at_builtin; rw [← HW4.out]; refine kit.app1k (wr.heap.size + 1) S4.out (.tmp 31) (.tmp 33) 26 rfl rfl W3.heap.size Try.underlying26 infoRx rfl (by decide) (by decide) O4.out rfl rfl rfl (by simp [Value.oneCell']) hkb HS4.out ?_)
      intro v9 w9 hO9 hg9 hv9
      obtain ⟨ro9, rc9, rfl⟩ := own_slice hO9
      have R9 : Hid (w9.ownsRow W3.heap.size 28 8 (.slice ro9 (n + 1) rc9) (n + 1) (ks ++ [([.int .i64 x.k, .int .u64 x.cl.a, .int .u64 x.cl.b, .int .u64 x.cl.c, .int .u64 x.cl.d, .slice ko kn kc, .int .i64 x.mn, .int .i64 x.mx] : List Value)]).flatten) := by
       show World.ownsRow _ _ _ _ _ _ _
       rw [List.flatten_append]; exact hO9
      have B9 := Lib.hid (B4.out.trans (app_below O4.out HS4.out hg9))
      clear hO9 hg9 hv9 y0 y1 y2 y3 y4 y5 y6 y7 z0 z1 z2 z3 z4 z5 z6 z7
      go_wp2
      go_roundw
      case rel => exact ⟨k + 1, ro9, rc9, n + 1, ks ++ [([.int .i64 x.k, .int .u64 x.cl.a, .int .u64 x.cl.b, .int .u64 x.cl.c, .int .u64 x.cl.d, .slice ko kn kc, .int .i64 x.mn, .int .i64 x.mx] : List Value)], by go_num, by omega, rfl, HNK.out, HEN.out, R9, B9.out⟩
      case measure => simp [intOf]; omega
     ·
      have HF2 : Hid (lf kind (l.take (k + 1)) = lf kind (l.take k) ++ [x]) := by show _ = _; rw [HFT.out]; unfold sel; rw [if_neg hxk, if_pos hem]
      have HEN : Hid (RxE B (d + 1) w (ks ++ [([.int .i64 x.k, .int .u64 x.cl.a, .int .u64 x.cl.b, .int .u64 x.cl.c, .int .u64 x.cl.d, .slice ko kn kc, .int .i64 x.mn, .int .i64 x.mx] : List Value)]) (lf kind (l.take (k + 1)))) := by
       show RxE _ _ _ _ _
       rw [HF2.out]
       exact HE.out.app (RxE.one HX1.out)
      have hnk : n + 1 = (lf kind (l.take (k + 1))).length := by rw [HF2.out, List.length_append, ← HNN.out]; rfl
      have HNK := Lib.hid hnk
      have hkb : (n + 1) * 80 ≤ 140737488355328 := by omega
      clear hcell hO hcx hc8 hc hx hW4 b4 x4 hxk hnk hem
      go_wp2_with (at_builtin; rw [← HW4.out]; refine kit.app1k (wr.heap.size + 1) S4.out (.tmp 31) (.tmp 33) 26 rfl rfl W3.heap.size Try.underlying26 infoRx rfl (by decide) (by decide) O4.out rfl rfl rfl (by simp [Value.oneCell']) hkb HS4.out ?_)
      intro v9 w9 hO9 hg9 hv9
      obtain ⟨ro9, rc9, rfl⟩ := own_slice hO9
      have R9 : Hid (w9.ownsRow W3.heap.size 28 8 (.slice ro9 (n + 1) rc9) (n + 1) (ks ++ [([.int .i64 x.k, .int .u64 x.cl.a, .int .u64 x.cl.b, .int .u64 x.cl.c, .int .u64 x.cl.d, .slice ko kn kc, .int .i64 x.mn, .int .i64 x.mx] : List Value)]).flatten) := by
       show World.ownsRow _ _ _ _ _ _ _
       rw [List.flatten_append]; exact hO9
      have B9 := Lib.hid (B4.out.trans (app_below O4.out HS4.out hg9))
      clear hO9 hg9 hv9 y0 y1 y2 y3 y4 y5 y6 y7 z0 z1 z2 z3 z4 z5 z6 z7
      go_wp2
      go_roundw
      case rel => exact ⟨k + 1, ro9, rc9, n + 1, ks ++ [([.int .i64 x.k, .int .u64 x.cl.a, .int .u64 x.cl.b, .int .u64 x.cl.c, .int .u64 x.cl.d, .slice ko kn kc, .int .i64 x.mn, .int .i64 x.mx] : List Value)], by go_num, by omega, rfl, HNK.out, HEN.out, R9, B9.out⟩
      case measure => simp [intOf]; omega
    ·
     have hk3 : kind = 3 := by
      rcases Decidable.em (kind = 3) with e | e
      ·
       exact e
      ·
       exact absurd (Or.inl e) hem
     have hx1 : x.k = 1 := by
      rcases Decidable.em (x.k = 1) with e | e
      ·
       exact e
      ·
       exact absurd (Or.inr e) hem
     have HF2 : Hid (lf kind (l.take (k + 1)) = lf kind (l.take k)) := by show _ = _; rw [HFT.out]; unfold sel; rw [if_neg hxk, if_neg hem, List.append_nil]
     have d3 : (kind != 3) = false := by rw [hk3]; rfl
     have d1 : (x.k != 1) = false := by rw [hx1]; rfl
     have HNK : Hid (n = (lf kind (l.take (k + 1))).length) := by show _ = _; rw [HF2.out]; exact HNN.out
     have HEN : Hid (RxE B (d + 1) w ks (lf kind (l.take (k + 1)))) := by show RxE _ _ _ _ _; rw [HF2.out]; exact HE.out
     clear hcell hO hcx hc8 hc hx hW4 b4 x4 hxk hem hk3 hx1
     go_wp2
     rw [← HW4.out]
     go_roundw
     case rel => exact ⟨k + 1, ro, rc, n, ks, by go_num, by omega, rfl, HNK, HEN, O4, B4.out⟩
     case measure => simp [intOf]; omega
  ·
   obtain rfl : k = nl := by omega
   have hlk : ¬ (k : Int) < (k : Int) := by omega
   have ZZ := Lib.hid ((HBL.out.block _ (lt_of_block Z3.out)).trans Z3.out)
   have HTL : Hid (l.take k = l) := List.take_of_length_le (by rw [← HN.out]; exact Nat.le_refl _)
   rw [HTL.out] at HE HNN
   obtain ⟨L, hL⟩ : ∃ L, L = lf kind l := ⟨_, rfl⟩
   rw [← hL] at HE HNN HG
   have H13 : Hid (q1 < W3.heap.size) := lt_of_block Z3.out
   have HBQ : Hid (B ≤ q1) := by show _ ≤ _; rw [HQ1.out]; exact HB.out
   have HEV : Hid (∀ (ca : Array Value) (V : World), (World.setRow wr q1 ca).heap.size ≤ V.heap.size → (∀ j, B ≤ j → j < (World.setRow wr q1 ca).heap.size → some j ≠ none → V.heap[j]? = (World.setRow wr q1 ca).heap[j]?) → ∀ (j : Nat) (c : List Value) (x : Pat), ks[j]? = some c → L[j]? = some x → c.length = 8 ∧ rxR (d + 1) V V.heap.size c x) := fun ca V hs hk j c x hc hx => HE.out.2 j c x hc hx V (by rw [setRow_size] at hs; exact Nat.le_trans BW.out.size hs) (fun i hB hi _ => by
    have := BW.out.size
    rw [hk i hB (by rw [setRow_size]; omega) (by simp), setRow_other _ _ _ _ (by have := HQ1.out; omega), BW.out.block i hi])
   have HRV : Hid (∀ (ca : Array Value) (V : World), (∀ j, B ≤ j → j < (World.setRow wr q1 ca).heap.size → some j ≠ none → V.heap[j]? = (World.setRow wr q1 ca).heap[j]?) → V.ownsRow W3.heap.size 28 8 (.slice ro n rc) n ks.flatten) := fun ca V hk => own_fre HR.out (fun i hB hi => by
    rw [hk i (by have := HBQ.out; have := H13.out; omega) (by rw [setRow_size]; exact hi) (by simp), setRow_other _ _ _ _ (by have := H13.out; omega)])
   have HKL : Hid (ks.length = n) := by show _ = _; rw [HE.out.1, HNN.out]
   clear hL hlt
   by_cases k0 : n = 0
   ·
    subst k0
    have HGP : Hid (gp = .mk 1 .zero [] 0 0) := HG.out.1 (List.eq_nil_of_length_eq_zero HNN.out.symm)
    go_wp2_with ((with_reducible show wpList _ _ _ (Oper.mk _ (Op.store 28 (.tmp 4) _) _ _ _ _ :: _) _ _); refine wpList_store_row rfl 28 (.tmp 4) _ rfl (q1) #[.int .i64 1, .int .u64 0, .int .u64 0, .int .u64 0, .int .u64 0, .slice none 0 0, .int .i64 0, .int .i64 0] rfl rfl 28 #[.int .i64 0, .int .u64 0, .int .u64 0, .int .u64 0, .int .u64 0, .slice none 0 0, .int .i64 0, .int .i64 0] ZZ.out rsize rfl (by simp [Value.oneCell']) ?_)
    have cc := setRow_heap _ q1 _ #[.int .i64 1, .int .u64 0, .int .u64 0, .int .u64 0, .int .u64 0, .slice none 0 0, .int .i64 0, .int .i64 0] _ _ ZZ.out
    have bb : Below w.heap.size w (World.setRow wr q1 #[.int .i64 1, .int .u64 0, .int .u64 0, .int .u64 0, .int .u64 0, .slice none 0 0, .int .i64 0, .int .i64 0]) := below_setRow BW.out (g := q1) (by rw [HQ1.out]; exact Nat.le_refl _) _
    have ff : Fre B (World.setRow wr q1 #[.int .i64 1, .int .u64 0, .int .u64 0, .int .u64 0, .int .u64 0, .slice none 0 0, .int .i64 0, .int .i64 0]) (fun W => rxR (d + 2) W W.heap.size [.int .i64 1, .int .u64 0, .int .u64 0, .int .u64 0, .int .u64 0, .slice none 0 0, .int .i64 0, .int .i64 0] gp) := fun W _ _ => by rw [HGP.out]; exact ⟨none, 0, 0, rfl, RowsAt.nil _ _⟩
    obtain ⟨w9, h9⟩ : ∃ W, W = World.setRow wr q1 #[.int .i64 1, .int .u64 0, .int .u64 0, .int .u64 0, .int .u64 0, .slice none 0 0, .int .i64 0, .int .i64 0] := ⟨_, rfl⟩
    rw [← h9] at cc bb ff ⊢
    clear h9
    have k0 := boxc cc 0 _ rfl
    have k1 := boxc cc 1 _ rfl
    have k2 := boxc cc 2 _ rfl
    have k3 := boxc cc 3 _ rfl
    have k4 := boxc cc 4 _ rfl
    have k5 := boxc cc 5 _ rfl
    have k6 := boxc cc 6 _ rfl
    have k7 := boxc cc 7 _ rfl
    refine bodyPost_ret (v := .agg #[.int .i64 1, .int .u64 0, .int .u64 0, .int .u64 0, .int .u64 0, .slice none 0 0, .int .i64 0, .int .i64 0]) (by simp [results, Try.results31, go_sem, k0, k1, k2, k3, k4, k5, k6, k7]) rfl ?_
    exact ⟨[.int .i64 1, .int .u64 0, .int .u64 0, .int .u64 0, .int .u64 0, .slice none 0 0, .int .i64 0, .int .i64 0], rfl, ff, bb⟩
   by_cases k1 : n = 1
   ·
    have HK1 := Lib.hid k1
    obtain ⟨x, hlx⟩ : ∃ x, L = [x] := by
     have := HNN.out
     match L, this with
     | [x], _ => exact ⟨x, rfl⟩
     | [], h => simp at h; omega
     | _ :: _ :: _, h => simp at h; omega
    obtain ⟨c, hcs⟩ : ∃ c, ks = [c] := by
     have := HKL.out
     match ks, this with
     | [c], _ => exact ⟨c, rfl⟩
     | [], h => simp at h; omega
     | _ :: _ :: _, h => simp at h; omega
    have HGP : Hid (gp = x) := HG.out.2.1 x hlx
    obtain ⟨ko, kn, kc, rfl⟩ := rx_form (HE.out.2 0 c x (by rw [hcs]; rfl) (by rw [hlx]; rfl)).at.2
    have HCS : Hid (ks[0]? = some [.int .i64 x.k, .int .u64 x.cl.a, .int .u64 x.cl.b, .int .u64 x.cl.c, .int .u64 x.cl.d, .slice ko kn kc, .int .i64 x.mn, .int .i64 x.mx]) := by show _ = _; rw [hcs]; rfl
    have HLX : Hid (L[0]? = some x) := by show _ = _; rw [hlx]; rfl
    obtain ⟨g, rfl⟩ : ∃ g, ro = some ⟨g, 0, none⟩ := by
     rcases HR.out.2 with ⟨_, h⟩ | ⟨g, cap, cur, e, _⟩
     ·
      omega
     ·
      simp only [Value.slice.injEq] at e
      exact ⟨g, e.1⟩
    have hcell : ∀ i u, [.int .i64 x.k, .int .u64 x.cl.a, .int .u64 x.cl.b, .int .u64 x.cl.c, .int .u64 x.cl.d, .slice ko kn kc, .int .i64 x.mn, .int .i64 x.mx][i]? = some u → wr.cell? ⟨g, i, none⟩ = some u := by
     intro i u hu
     have h5 := HR.out.cells (g := g) rfl i u (by rw [hcs]; simpa using hu)
     rw [Addr.add_lit, Nat.zero_add] at h5
     exact h5
    have z0 := hcell 0 _ rfl
    have z1 := hcell 1 _ rfl
    have z2 := hcell 2 _ rfl
    have z3 := hcell 3 _ rfl
    have z4 := hcell 4 _ rfl
    have z5 := hcell 5 _ rfl
    have z6 := hcell 6 _ rfl
    have z7 := hcell 7 _ rfl
    subst k1
    clear hcell hlx hcs
    go_wp2_with ((with_reducible show wpList _ _ _ (Oper.mk _ (Op.store 28 (.tmp 4) _) _ _ _ _ :: _) _ _); refine wpList_store_row rfl 28 (.tmp 4) _ rfl (q1) #[.int .i64 x.k, .int .u64 x.cl.a, .int .u64 x.cl.b, .int .u64 x.cl.c, .int .u64 x.cl.d, .slice ko kn kc, .int .i64 x.mn, .int .i64 x.mx] rfl rfl 28 #[.int .i64 0, .int .u64 0, .int .u64 0, .int .u64 0, .int .u64 0, .slice none 0 0, .int .i64 0, .int .i64 0] ZZ.out rsize rfl (by simp [Value.oneCell']) ?_)
    have cc := setRow_heap _ q1 _ #[.int .i64 x.k, .int .u64 x.cl.a, .int .u64 x.cl.b, .int .u64 x.cl.c, .int .u64 x.cl.d, .slice ko kn kc, .int .i64 x.mn, .int .i64 x.mx] _ _ ZZ.out
    have bb : Below w.heap.size w (World.setRow wr q1 #[.int .i64 x.k, .int .u64 x.cl.a, .int .u64 x.cl.b, .int .u64 x.cl.c, .int .u64 x.cl.d, .slice ko kn kc, .int .i64 x.mn, .int .i64 x.mx]) := below_setRow BW.out (g := q1) (by rw [HQ1.out]; exact Nat.le_refl _) _
    have ff : Fre B (World.setRow wr q1 #[.int .i64 x.k, .int .u64 x.cl.a, .int .u64 x.cl.b, .int .u64 x.cl.c, .int .u64 x.cl.d, .slice ko kn kc, .int .i64 x.mn, .int .i64 x.mx]) (fun W => rxR (d + 2) W W.heap.size [.int .i64 x.k, .int .u64 x.cl.a, .int .u64 x.cl.b, .int .u64 x.cl.c, .int .u64 x.cl.d, .slice ko kn kc, .int .i64 x.mn, .int .i64 x.mx] gp) := fun V hs hk => by rw [HGP.out]; exact rxR_up (d + 1) _ _ _ _ (HEV.out _ V hs hk 0 _ x HCS.out HLX.out).2
    obtain ⟨w9, h9⟩ : ∃ W, W = World.setRow wr q1 #[.int .i64 x.k, .int .u64 x.cl.a, .int .u64 x.cl.b, .int .u64 x.cl.c, .int .u64 x.cl.d, .slice ko kn kc, .int .i64 x.mn, .int .i64 x.mx] := ⟨_, rfl⟩
    rw [← h9] at cc bb ff ⊢
    clear h9
    have k0 := boxc cc 0 _ rfl
    have k1 := boxc cc 1 _ rfl
    have k2 := boxc cc 2 _ rfl
    have k3 := boxc cc 3 _ rfl
    have k4 := boxc cc 4 _ rfl
    have k5 := boxc cc 5 _ rfl
    have k6 := boxc cc 6 _ rfl
    have k7 := boxc cc 7 _ rfl
    refine bodyPost_ret (v := .agg #[.int .i64 x.k, .int .u64 x.cl.a, .int .u64 x.cl.b, .int .u64 x.cl.c, .int .u64 x.cl.d, .slice ko kn kc, .int .i64 x.mn, .int .i64 x.mx]) (by simp [results, Try.results31, go_sem, k0, k1, k2, k3, k4, k5, k6, k7]) rfl ?_
    exact ⟨[.int .i64 x.k, .int .u64 x.cl.a, .int .u64 x.cl.b, .int .u64 x.cl.c, .int .u64 x.cl.d, .slice ko kn kc, .int .i64 x.mn, .int .i64 x.mx], rfl, ff, bb⟩
   have hk2 : 2 ≤ n := by omega
   have HGP : Hid (gp = .mk kind .zero L 0 0) := HG.out.2.2 (by rw [← HNN.out]; exact hk2)
   have i0 : ¬ (n : Int) = 0 := by omega
   have i1 : ¬ (n : Int) = 1 := by omega
   have b0 : ((n : Int) == 0) = false := beq_eq_false_iff_ne.2 i0
   have b1 : ((n : Int) == 1) = false := beq_eq_false_iff_ne.2 i1
   go_wp2_with ((with_reducible show wpList _ _ _ (Oper.mk _ (Op.store 28 (.tmp 4) _) _ _ _ _ :: _) _ _); refine wpList_store_row rfl 28 (.tmp 4) _ rfl (q1) #[.int .i64 kind, .int .u64 0, .int .u64 0, .int .u64 0, .int .u64 0, .slice ro n rc, .int .i64 0, .int .i64 0] rfl rfl 28 #[.int .i64 0, .int .u64 0, .int .u64 0, .int .u64 0, .int .u64 0, .slice none 0 0, .int .i64 0, .int .i64 0] ZZ.out rsize rfl (by simp [Value.oneCell']) ?_)
   have cc := setRow_heap _ q1 _ #[.int .i64 kind, .int .u64 0, .int .u64 0, .int .u64 0, .int .u64 0, .slice ro n rc, .int .i64 0, .int .i64 0] _ _ ZZ.out
   have bb : Below w.heap.size w (World.setRow wr q1 #[.int .i64 kind, .int .u64 0, .int .u64 0, .int .u64 0, .int .u64 0, .slice ro n rc, .int .i64 0, .int .i64 0]) := below_setRow BW.out (g := q1) (by rw [HQ1.out]; exact Nat.le_refl _) _
   have ff : Fre B (World.setRow wr q1 #[.int .i64 kind, .int .u64 0, .int .u64 0, .int .u64 0, .int .u64 0, .slice ro n rc, .int .i64 0, .int .i64 0]) (fun W => rxR (d + 2) W W.heap.size [.int .i64 kind, .int .u64 0, .int .u64 0, .int .u64 0, .int .u64 0, .slice ro n rc, .int .i64 0, .int .i64 0] gp) := fun V hs hk => by rw [HGP.out]; exact ⟨ro, n, rc, rfl, RowsAt.own HNN.out (by rw [HKL.out]; exact HNN.out) (HEV.out _ V hs hk) (HRV.out _ V hk)⟩
   obtain ⟨w9, h9⟩ : ∃ W, W = World.setRow wr q1 #[.int .i64 kind, .int .u64 0, .int .u64 0, .int .u64 0, .int .u64 0, .slice ro n rc, .int .i64 0, .int .i64 0] := ⟨_, rfl⟩
   rw [← h9] at cc bb ff ⊢
   clear h9
   have k0 := boxc cc 0 _ rfl
   have k1 := boxc cc 1 _ rfl
   have k2 := boxc cc 2 _ rfl
   have k3 := boxc cc 3 _ rfl
   have k4 := boxc cc 4 _ rfl
   have k5 := boxc cc 5 _ rfl
   have k6 := boxc cc 6 _ rfl
   have k7 := boxc cc 7 _ rfl
   refine bodyPost_ret (v := .agg #[.int .i64 kind, .int .u64 0, .int .u64 0, .int .u64 0, .int .u64 0, .slice ro n rc, .int .i64 0, .int .i64 0]) (by simp [results, Try.results31, go_sem, k0, k1, k2, k3, k4, k5, k6, k7]) rfl ?_
   exact ⟨[.int .i64 kind, .int .u64 0, .int .u64 0, .int .u64 0, .int .u64 0, .slice ro n rc, .int .i64 0, .int .i64 0], rfl, ff, bb⟩
end Go.Proofs.Ytbccejlemhgioaa
namespace Go.Proofs.Ytbccejlemhgioaa
open Go Go.RowKit Go.ChangeShapes cl rx
open rf
theorem RxO.dr {B d q2 q3 n2 n3 : Nat} {T2 T3 : TypeId} {L : List Pat} {v : Value} {W W' : World} (h : RxO B d L v W) (k : Dr q2 q3 T2 T3 n2 n3 W W') (h2 : q2 < B) (h3 : q3 < B) : RxO B d L v W' := by
 obtain ⟨cs, h0, h1, ho⟩ := h
 exact ⟨cs, h0, fun j c x hc hx => FreA.step (h1 j c x hc hx) k.2.1 (fun j hB hj _ => k.2.2.1 j hj (by omega) (by omega)) (Or.inl rfl), own_fre ho (fun j hB hj => k.2.2.1 j hj (by omega) (by omega))⟩
theorem RxO.app {B d q al cap : Nat} {ao : Option Addr} {acc : List Pat} {wr V : World} {c : List Value} {x : Pat} (hO : RxO B d acc (.slice ao al cap) wr) (hal : al = acc.length) (hk : KX q wr V) (hq : q < B) (hB : B ≤ wr.heap.size) (hf : Fre wr.heap.size V (fun W => rxR d W W.heap.size c x)) (h8 : c.length = 8) :
  ∃ cs : List Value, V.ownsRow B 28 8 (.slice ao al cap) al cs ∧ ∀ (v9 : Value) (w9 : World), w9.ownsRow B 28 8 v9 (al + 1) (cs ++ c) → (V.alloc (.cells c.toArray 28)).grownBy w9 (Value.slice ao al cap).ownBlock → (v9.ownBlock = (Value.slice ao al cap).ownBlock ∨ ∀ b, v9.ownBlock = some b → V.heap.size + 1 ≤ b) → RxO B d (acc ++ [x]) v9 w9 ∧ Below B V w9 := by
 obtain ⟨_, _, _, g9⟩ := id hO
 have hob : ∀ b, (Value.slice ao al cap).ownBlock = some b → b < wr.heap.size ∨ V.heap.size ≤ b := fun b hb => Or.inl (own_lt g9 b hb).2
 obtain ⟨cs, g0, g1, g2⟩ := hO.kx hk hq
 rw [← hal] at g2
 exact ⟨cs.flatten, g2, fun v9 w9 hO9 hg9 hv9 => ⟨RxO.snoc g0 g1 hal hf h8 hB hob hO9 hg9 (hv9.imp id (fun h b hb => by rw [World.size_alloc]; exact h b hb)), app_below g2 (Nat.le_trans hB hk.2.1) hg9⟩⟩
theorem RxO.start {B d : Nat} {V : World} {c : List Value} {x : Pat} (hf : Fre B V (fun W => rxR d W W.heap.size c x)) (h8 : c.length = 8) (hB : B ≤ V.heap.size) : RxO B d [x] (.slice (some ⟨V.heap.size, 0, none⟩) 1 1) (V.alloc (.cells c.toArray 28)) := by
 refine ⟨[c], rfl, fun j c' x' hc hx => ?_, ?_⟩
 ·
  cases j with
  | zero =>
   simp only [List.getElem?_cons_zero, Option.some.injEq] at hc hx
   subst hc; subst hx
   refine FreA.imp (FreA.next (FreA.off hf (fun b hb => ?_)) below1) (fun V h => ⟨h8, h⟩)
   simp only [Value.ownBlock, Option.some.injEq] at hb
   exact Or.inr (by omega)
  | succ j => simp at hc
 ·
  have h1 := own_lit (W := V) (k := 8) (arr := c.toArray) (T := 28) (by simp [h8])
  refine ⟨by simpa using h1.1, ?_⟩
  rcases h1.2 with h | ⟨g, cap, cur, e, hb, r⟩
  ·
   simp at h
  ·
   exact Or.inr ⟨g, cap, cur, e, Nat.le_trans hB hb, by simpa using r⟩
theorem Lop.low {w W W' : World} {B : Nat} {l : List (Nat × TypeId × Array Value)} (h : Lop w W l (fun _ => True)) (hb : Below B W W') (hB : w.heap.size ≤ B) (hl : ∀ q ∈ l.map (·.1), q < B) : Lop w W' l (fun _ => True) :=
 ⟨⟨h.1.1.trans (hb.mono hB), fun x hx => ⟨(h.1.2.1 x hx).1, (hb.block x.1 (hl x.1 (List.mem_map.2 ⟨x, hx, rfl⟩))).trans (h.1.2.1 x hx).2⟩, h.1.2.2⟩, fun _ _ _ => trivial⟩
theorem row_inv1 {g p p' A X : Nat} (h : A ≤ (g + 1) * p) (hx : X ≤ g * (p' - p) + 1) (hp : p < p') : A + X ≤ (g + 1) * p' := by
 have e : p' = p + (p' - p) := by omega
 have e2 : (g + 1) * p' = (g + 1) * p + (g * (p' - p) + (p' - p)) := by rw [← Nat.succ_mul, ← Nat.mul_add]; congr 1
 omega
theorem row_inv2 {g p p' A X : Nat} (h : A ≤ (g + 1) * p) (hx : X ≤ g * (p' - p) + 1) (hp : p ≤ p') : A + X ≤ (g + 1) * p' + 1 := by
 have e : p' = p + (p' - p) := by omega
 have e2 : (g + 1) * p' = (g + 1) * p + (g * (p' - p) + (p' - p)) := by rw [← Nat.succ_mul, ← Nat.mul_add]; congr 1
 omega
theorem rows_inv {g p p' A X : Nat} (h : A ≤ (g + 3) * p + 2) (hx : X ≤ (g + 1) * (p' - (p + 1)) + 2) (hp : p + 1 ≤ p') : A + X ≤ (g + 3) * p' + 2 := by
 have e : p' = p + ((p' - (p + 1)) + 1) := by omega
 have e2 : (g + 3) * p' = (g + 3) * p + ((g + 3) * (p' - (p + 1)) + (g + 3) * 1) := by rw [← Nat.mul_add, ← Nat.mul_add]; congr 1
 have e3 : (g + 1) * (p' - (p + 1)) ≤ (g + 3) * (p' - (p + 1)) := Nat.mul_le_mul_right _ (by omega)
 omega
def rwB (s : List Nat) (r : rr.R) : Bool := match rr.cur s r with | some d => !(d == 124 || d == 41) | none => false
def rsB (s : List Nat) (r : rr.R) : Bool := decide (rr.cur s r = some 124)
end Go.Proofs.Ytbccejlemhgioaa
