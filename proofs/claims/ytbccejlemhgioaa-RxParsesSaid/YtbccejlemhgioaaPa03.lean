/- texts put together: RxRight, RxLem, RxRow, Flow. -/
import Derived.Test.YtbccejlemhgioaaPa00
import Derived.Test.YtbccejlemhgioaaPa01
import Derived.Test.YtbccejlemhgioaaPa02
import Derived.Deep.RegionHeld3
import Derived.StillTail
namespace Go.Proofs.Ytbccejlemhgioaa
open Go Go.RowKit Go.ChangeShapes cl rx
def okR : Nat → Pat → Bool
 | 0, _ => false
 | d + 1, .mk k cl ks mn mx =>
  if k = 2 then decide (ks.length = 0) && decide (cl ≠ Cls.zero) && decide (mn = 0) && decide (mx = 0)
  else if k = 3 ∨ k = 4 then decide (cl = Cls.zero) && decide (mn = 0) && decide (mx = 0) && decide (2 ≤ ks.length) && decide (ks.length ≤ 60) && ks.all (fun x => decide (x.k ≠ k) && decide (k = 3 → x.k ≠ 1) && okR d x)
  else if k = 5 then decide (cl = Cls.zero) && decide (ks.length = 1) && decide (mx = -1) && decide (0 ≤ mn) && decide (mn ≤ 20) && ks.all (okR d)
  else false
def NotP (v : Value) (zs : List Int) (w : World) : Prop := (v = .slice none 0 0 ∧ zs = []) ∨ (∃ b, v = .slice (some ⟨b, 0, none⟩) zs.length zs.length ∧ b < w.heap.size ∧ zs.length ≤ 10 ∧ ∀ j, j < zs.length → w.cell? ⟨b, 0 + j, none⟩ = some (.int .i64 (zs.getD j 0)))
theorem not_con {v : Value} {zs : List Int} {w : World} (h : NotP v zs w) (k : Int) (hk : k ∉ zs) (W : World) (hW : Below w.heap.size w W) : Calls Try.prog 38 #[v, .int .i64 k] W (fun e w' => e = .returned (.bool false) ∧ w' = W) := by
 rcases h with ⟨rfl, rfl⟩ | ⟨b, rfl, hb, hl, hc⟩
 ·
  exact Try.slices_Contains_int_empty none 0 k W
 ·
  have h1 := Try.slices_Contains_int b 0 zs.length zs.length zs k W (Nat.le_refl _) (by omega) (fun j hj => (hW.cell (p := ⟨b, _, none⟩) hb).trans (hc j hj))
  have h2 : ((zs.take zs.length).contains k) = false := by
   rw [List.take_length]
   exact Bool.eq_false_iff.2 (fun h => hk (by simpa using h))
  rw [h2] at h1
  exact h1
theorem rx_bounds (n : Int) (h0 : 0 ≤ n) (h1 : n ≤ 20) (w : World) : Calls Try.prog 33 #[.int .i64 n, .int .i64 (-1)] w (fun e w' => e = .returned (.bool true) ∧ w' = w) := by
 go_enter Try.func33, Try.ntmps33
 go_wp2
 go_ret
 exact ⟨rfl, rfl⟩
set_option maxHeartbeats 6400000 in
set_option maxRecDepth 100000 in
theorem rkids_ok (d e : Nat) (z : Int) (HR : ∀ (x : Pat) (c : List Value) (w : World), rxR e w w.heap.size c x → okR d x = true → Calls Try.prog 24 #[.agg c.toArray, .int .i64 z] w (fun e w' => e = .returned (.bool true) ∧ Below w.heap.size w w'))
  (l : List Pat) (v : Value) (nv : Value) (zs : List Int) (w : World) (h : RowsAt 8 (rxR e) w w.heap.size v l) (hn : NotP nv zs w) (hz : ∀ x ∈ l, x.k ∉ zs) (ho : ∀ x ∈ l, okR d x = true) :
  Calls Try.prog 32 #[v, .int .i64 z, nv] w (fun e w' => e = .returned (.bool true) ∧ Below w.heap.size w w') := by
 obtain ⟨m, hm⟩ : ∃ m, m = l.length := ⟨_, rfl⟩
 obtain ⟨ao, cap, rfl, hnc, hnm⟩ := h.form' hm
 unfold maxLen at hnm
 have HCN : Hid (∀ (k : Int), k ∉ zs → ∀ W, Below w.heap.size w W → Calls Try.prog 38 #[nv, .int .i64 k] W (fun e w' => e = .returned (.bool false) ∧ w' = W)) := fun k hk W hW => not_con hn k hk W hW
 have hnf : ∃ no nn nc, nv = .slice no nn nc := by
  rcases hn with ⟨rfl, _⟩ | ⟨b, rfl, _⟩ <;> exact ⟨_, _, _, rfl⟩
 obtain ⟨no, nn, nc, rfl⟩ := hnf
 have HL := Lib.hid h
 have HM := Lib.hid hm
 have HH := Lib.hid HR
 have HZ := Lib.hid hz
 have HO := Lib.hid ho
 clear h hm HR hn hz ho
 go_enter Try.func32, Try.ntmps32
 go_wp2
 go_loopw [11, 25] (fun i _ wr => ∃ k : Nat, i = .int .i64 k ∧ k ≤ m ∧ Below w.heap.size w wr) (fun i _ _ => m - (intOf i).toNat)
 case atStart => exact ⟨0, rfl, Nat.zero_le _, Below.refl _ _⟩
 case round =>
  obtain ⟨k, rfl, hk, hbl⟩ := hrel
  have HBL := Lib.hid hbl
  by_cases hlt : k < m
  ·
   have hkI : (k : Int) < (m : Int) := by omega
   obtain ⟨x, hx⟩ : ∃ x, x = l.getD k default := ⟨_, rfl⟩
   obtain ⟨ba, oa, c, rfl, hbB, hcl, hR, hC⟩ := (HL.out.next (rxR_steady e) hbl).get HM.out hlt default
   rw [← hx] at hR
   obtain ⟨ko, kn, kc, rfl⟩ := rx_form hR
   have z0 : wr.cell? ⟨ba, oa + k * 8, none⟩ = _ := hC 0 _ rfl
   have z1 := hC 1 _ rfl
   have z2 := hC 2 _ rfl
   have z3 := hC 3 _ rfl
   have z4 := hC 4 _ rfl
   have z5 := hC 5 _ rfl
   have z6 := hC 6 _ rfl
   have z7 := hC 7 _ rfl
   have hxm : x ∈ l := by
    rw [hx, List.getD_eq_getElem?_getD, List.getElem?_eq_getElem (by rw [← HM.out]; exact hlt)]; exact List.getElem_mem _
   obtain ⟨W4, hW4⟩ : ∃ W, W = wr.alloc (.cells #[.int .i64 x.k, .int .u64 x.cl.a, .int .u64 x.cl.b, .int .u64 x.cl.c, .int .u64 x.cl.d, .slice ko kn kc, .int .i64 x.mn, .int .i64 x.mx] 28) := ⟨_, rfl⟩
   have b4 : Below wr.heap.size wr W4 := by rw [hW4]; exact below1
   have x4 : W4.heap[wr.heap.size]? = some (.cells #[.int .i64 x.k, .int .u64 x.cl.a, .int .u64 x.cl.b, .int .u64 x.cl.c, .int .u64 x.cl.d, .slice ko kn kc, .int .i64 x.mn, .int .i64 x.mx] 28) := by rw [hW4]; exact heap_alloc_new _ _
   have HCO := Lib.hid (HCN.out x.k (HZ.out x hxm) W4 (hbl.trans (b4.mono hbl.size)))
   have HRI := Lib.hid (HH.out x _ W4 (rxR_steady e _ _ _ _ _ _ hR b4 b4.size) (HO.out x hxm))
   have B4 := Lib.hid (hbl.trans (b4.mono hbl.size))
   obtain ⟨q4, hq4⟩ : ∃ q4, q4 = wr.heap.size := ⟨_, rfl⟩
   rw [← hq4] at x4
   have y0 := boxc x4 0 _ rfl
   have y1 := boxc x4 1 _ rfl
   have y2 := boxc x4 2 _ rfl
   have y3 := boxc x4 3 _ rfl
   have y4 := boxc x4 4 _ rfl
   have y5 := boxc x4 5 _ rfl
   have y6 := boxc x4 6 _ rfl
   have y7 := boxc x4 7 _ rfl
   have v0 := y0
   rw [hW4, hq4] at v0
   have HW4 := Lib.hid hW4
   have HQ4 := Lib.hid hq4
   clear hR hC hx hcl hbB hbl hxm b4 x4 hW4 hq4
   go_wp2_with fail
   rw [← HW4.out, ← HQ4.out]
   clear v0
   (with_reducible refine HCO.out.mono ?_)
   rintro e5 w5 ⟨rfl, rfl⟩
   go_wp2_with fail
   (with_reducible refine HRI.out.mono ?_)
   rintro e6 w6 ⟨rfl, b6⟩
   have B6 := Lib.hid (B4.out.trans (b6.mono B4.out.size))
   clear b6 y0 y1 y2 y3 y4 y5 y6 y7
   go_wp2
   go_roundw
   case rel => exact ⟨k + 1, by go_num, by omega, B6.out⟩
   case measure => simp [intOf]; omega
  ·
   obtain rfl : k = m := by omega
   clear hbl
   go_wp2
   go_ret
   exact ⟨rfl, HBL.out⟩
set_option maxHeartbeats 6400000 in
set_option maxRecDepth 100000 in
theorem right_okof (d e : Nat) (z : Int) (hzd : z = (d : Int) + 1) (hd : d ≤ 1000) (HK : ∀ (l : List Pat) (v nv : Value) (zs : List Int) (w : World), RowsAt 8 (rxR e) w w.heap.size v l → NotP nv zs w → (∀ x ∈ l, x.k ∉ zs) → (∀ x ∈ l, okR d x = true) → Calls Try.prog 32 #[v, .int .i64 (z - 1), nv] w (fun e w' => e = .returned (.bool true) ∧ Below w.heap.size w w'))
  (x : Pat) (c : List Value) (w : World) (h : rxR (e + 1) w w.heap.size c x) (ho : okR (d + 1) x = true) : Calls Try.prog 24 #[.agg c.toArray, .int .i64 z] w (fun e w' => e = .returned (.bool true) ∧ Below w.heap.size w w') := by
 cases x with
 | mk xk xc xs mn mx =>
 obtain ⟨ko, kn, kc, rfl, hK⟩ := h
 simp only [Pat.k, Pat.cl, Pat.ks, Pat.mn, Pat.mx] at hK ⊢
 have hkn : kn = xs.length := by
  obtain ⟨_, _, e, _, _⟩ := hK.form
  simp only [Value.slice.injEq] at e
  exact e.2.1
 have hz0 : (z == 0) = false := beq_eq_false_iff_ne.2 (by omega)
 have hz1 : ¬ z = 0 := by omega
 have hzw : IntKind.i64.wrap (z - 1) = z - 1 := IntWalk.i64_in _ (by omega)
 unfold okR at ho
 by_cases k2 : xk = 2
 ·
  subst k2
  rw [if_pos rfl] at ho
  simp only [Bool.and_eq_true, decide_eq_true_eq] at ho
  obtain ⟨⟨⟨h1, h2⟩, rfl⟩, rfl⟩ := ho
  obtain rfl : kn = 0 := by omega
  have hcz := Cls.isz_of h2
  obtain ⟨W2, hW2⟩ : ∃ W, W = w.alloc (.cells #[.int .i64 2, .int .u64 xc.a, .int .u64 xc.b, .int .u64 xc.c, .int .u64 xc.d, .slice ko 0 kc, .int .i64 0, .int .i64 0] 28) := ⟨_, rfl⟩
  have b2 : Below w.heap.size w W2 := by rw [hW2]; exact below1
  have x2 : W2.heap[w.heap.size]? = some (.cells #[.int .i64 2, .int .u64 xc.a, .int .u64 xc.b, .int .u64 xc.c, .int .u64 xc.d, .slice ko 0 kc, .int .i64 0, .int .i64 0] 28) := by rw [hW2]; exact heap_alloc_new _ _
  have c0 := boxc x2 0 _ rfl
  have c1 := boxc x2 1 _ rfl
  have c2 := boxc x2 2 _ rfl
  have c3 := boxc x2 3 _ rfl
  have c4 := boxc x2 4 _ rfl
  have c5 := boxc x2 5 _ rfl
  have c6 := boxc x2 6 _ rfl
  have c7 := boxc x2 7 _ rfl
  rw [hW2] at c0 c1 c2 c3 c4 c5 c6 c7
  have B2 := Lib.hid b2
  have X2 := Lib.hid x2
  have HRW : Hid (∀ W, Below w.heap.size w W → RowsAt 8 (rxR e) W W.heap.size (.slice ko 0 kc) xs) := fun W hW => hK.next (rxR_steady e) hW
  have HW2 := Lib.hid hW2
  clear hK b2 x2 hW2 h1 h2 hkn hzd hd HK
  go_enter Try.func24, Try.ntmps24
  go_wp2
  go_ret
  refine ⟨rfl, ?_⟩
  rw [← HW2.out]
  exact B2.out
 ·
  rw [if_neg k2] at ho
  by_cases k34 : xk = 3 ∨ xk = 4
  ·
   rw [if_pos k34] at ho
   simp only [Bool.and_eq_true, decide_eq_true_eq, List.all_eq_true] at ho
   obtain ⟨⟨⟨⟨⟨h1, rfl⟩, rfl⟩, h4⟩, h5⟩, h6⟩ := ho
   have hcz : xc.isz = true := decide_eq_true h1
   have hz : ∀ x ∈ xs, okR d x = true := fun x hx => (h6 x hx).2
   have hn1 : (kn : Int) ≤ 60 := by omega
   have hn2 : (2 : Int) ≤ (kn : Int) := by omega
   have hn3 : decide ((2 : Int) ≤ (kn : Int)) = true := decide_eq_true hn2
   have hn4 : decide ((60 : Int) < (kn : Int)) = false := decide_eq_false (by omega)
   rcases k34 with rfl | rfl
   ·
    have hzs : ∀ x ∈ xs, x.k ∉ ([3, 1] : List Int) := fun x hx => by
     have := (h6 x hx).1
     simp only [List.mem_cons, List.not_mem_nil, or_false, not_or]
     exact ⟨this.1, this.2 rfl⟩
    obtain ⟨W2, hW2⟩ : ∃ W, W = w.alloc (.cells #[.int .i64 3, .int .u64 xc.a, .int .u64 xc.b, .int .u64 xc.c, .int .u64 xc.d, .slice ko kn kc, .int .i64 0, .int .i64 0] 28) := ⟨_, rfl⟩
    have b2 : Below w.heap.size w W2 := by rw [hW2]; exact below1
    have x2 : W2.heap[w.heap.size]? = some (.cells #[.int .i64 3, .int .u64 xc.a, .int .u64 xc.b, .int .u64 xc.c, .int .u64 xc.d, .slice ko kn kc, .int .i64 0, .int .i64 0] 28) := by rw [hW2]; exact heap_alloc_new _ _
    have c0 := boxc x2 0 _ rfl
    have c1 := boxc x2 1 _ rfl
    have c2 := boxc x2 2 _ rfl
    have c3 := boxc x2 3 _ rfl
    have c4 := boxc x2 4 _ rfl
    have c5 := boxc x2 5 _ rfl
    have c6 := boxc x2 6 _ rfl
    have c7 := boxc x2 7 _ rfl
    rw [hW2] at c0 c1 c2 c3 c4 c5 c6 c7
    have B2 := Lib.hid b2
    have X2 := Lib.hid x2
    have HRW : Hid (∀ W, Below w.heap.size w W → RowsAt 8 (rxR e) W W.heap.size (.slice ko kn kc) xs) := fun W hW => hK.next (rxR_steady e) hW
    have HW2 := Lib.hid hW2
    have HRK : Hid (∀ (nv : Value) (W : World), Below w.heap.size w W → NotP nv [3, 1] W → Calls Try.prog 32 #[.slice ko kn kc, .int .i64 (z - 1), nv] W (fun e w' => e = .returned (.bool true) ∧ Below W.heap.size W w')) := fun nv W hW hn => HK xs _ nv [3, 1] W (HRW.out W hW) hn hzs hz
    have hsz : W2.heap.size = w.heap.size + 1 := by rw [hW2]; exact Array.size_push ..
    have HNV : Hid (NotP (.slice (some ⟨w.heap.size + 1, 0, none⟩) 2 2) [3, 1] (W2.alloc (.cells #[.int .i64 3, .int .i64 1] 3))) := by
     refine Or.inr ⟨w.heap.size + 1, rfl, ?_, by decide, ?_⟩
     ·
      show w.heap.size + 1 < (W2.alloc _).heap.size
      have : (W2.alloc (.cells #[.int .i64 3, .int .i64 1] 3)).heap.size = W2.heap.size + 1 := Array.size_push ..
      omega
     ·
      intro j hj
      have hx := heap_alloc_new W2 (.cells #[.int .i64 3, .int .i64 1] 3)
      rw [hsz] at hx
      have hj : j < 2 := hj
      rcases (by omega : j = 0 ∨ j = 1) with rfl | rfl
      ·
       exact boxc hx 0 _ rfl
      ·
       exact boxc hx 1 _ rfl
    have b3 : Below w.heap.size w (W2.alloc (.cells #[.int .i64 3, .int .i64 1] 3)) := b2.trans (below1.mono b2.size)
    have HRK' := Lib.hid (HRK.out _ _ b3 HNV.out)
    have B3 := Lib.hid b3
    clear hK b2 x2 hW2 hkn hzd hd HK h1 h4 h5 h6 hz hzs b3 hsz
    go_enter Try.func24, Try.ntmps24
    go_wp2_with fail
    rw [← HW2.out]
    (with_reducible refine HRK'.out.mono ?_)
    rintro e5 w5 ⟨rfl, b5⟩
    have B5 := Lib.hid (B3.out.trans (b5.mono B3.out.size))
    clear b5 c0 c1 c2 c3 c4 c5 c6 c7
    go_wp2
    go_ret
    exact ⟨rfl, B5.out⟩
   ·
    have hzs : ∀ x ∈ xs, x.k ∉ ([4] : List Int) := fun x hx => by
     have := (h6 x hx).1
     simp only [List.mem_cons, List.not_mem_nil, or_false]
     exact this.1
    obtain ⟨W2, hW2⟩ : ∃ W, W = w.alloc (.cells #[.int .i64 4, .int .u64 xc.a, .int .u64 xc.b, .int .u64 xc.c, .int .u64 xc.d, .slice ko kn kc, .int .i64 0, .int .i64 0] 28) := ⟨_, rfl⟩
    have b2 : Below w.heap.size w W2 := by rw [hW2]; exact below1
    have x2 : W2.heap[w.heap.size]? = some (.cells #[.int .i64 4, .int .u64 xc.a, .int .u64 xc.b, .int .u64 xc.c, .int .u64 xc.d, .slice ko kn kc, .int .i64 0, .int .i64 0] 28) := by rw [hW2]; exact heap_alloc_new _ _
    have c0 := boxc x2 0 _ rfl
    have c1 := boxc x2 1 _ rfl
    have c2 := boxc x2 2 _ rfl
    have c3 := boxc x2 3 _ rfl
    have c4 := boxc x2 4 _ rfl
    have c5 := boxc x2 5 _ rfl
    have c6 := boxc x2 6 _ rfl
    have c7 := boxc x2 7 _ rfl
    rw [hW2] at c0 c1 c2 c3 c4 c5 c6 c7
    have B2 := Lib.hid b2
    have X2 := Lib.hid x2
    have HRW : Hid (∀ W, Below w.heap.size w W → RowsAt 8 (rxR e) W W.heap.size (.slice ko kn kc) xs) := fun W hW => hK.next (rxR_steady e) hW
    have HW2 := Lib.hid hW2
    have HRK : Hid (∀ (nv : Value) (W : World), Below w.heap.size w W → NotP nv [4] W → Calls Try.prog 32 #[.slice ko kn kc, .int .i64 (z - 1), nv] W (fun e w' => e = .returned (.bool true) ∧ Below W.heap.size W w')) := fun nv W hW hn => HK xs _ nv [4] W (HRW.out W hW) hn hzs hz
    have hsz : W2.heap.size = w.heap.size + 1 := by rw [hW2]; exact Array.size_push ..
    have HNV : Hid (NotP (.slice (some ⟨w.heap.size + 1, 0, none⟩) 1 1) [4] (W2.alloc (.cells #[.int .i64 4] 3))) := by
     refine Or.inr ⟨w.heap.size + 1, rfl, ?_, by decide, ?_⟩
     ·
      show w.heap.size + 1 < (W2.alloc _).heap.size
      have : (W2.alloc (.cells #[.int .i64 4] 3)).heap.size = W2.heap.size + 1 := Array.size_push ..
      omega
     ·
      intro j hj
      have hx := heap_alloc_new W2 (.cells #[.int .i64 4] 3)
      rw [hsz] at hx
      have hj : j < 1 := hj
      rcases (by omega : j = 0) with rfl
      ·
       exact boxc hx 0 _ rfl
    have b3 : Below w.heap.size w (W2.alloc (.cells #[.int .i64 4] 3)) := b2.trans (below1.mono b2.size)
    have HRK' := Lib.hid (HRK.out _ _ b3 HNV.out)
    have B3 := Lib.hid b3
    clear hK b2 x2 hW2 hkn hzd hd HK h1 h4 h5 h6 hz hzs b3 hsz
    go_enter Try.func24, Try.ntmps24
    go_wp2_with fail
    rw [← HW2.out]
    (with_reducible refine HRK'.out.mono ?_)
    rintro e5 w5 ⟨rfl, b5⟩
    have B5 := Lib.hid (B3.out.trans (b5.mono B3.out.size))
    clear b5 c0 c1 c2 c3 c4 c5 c6 c7
    go_wp2
    go_ret
    exact ⟨rfl, B5.out⟩
  ·
   rw [if_neg k34] at ho
   by_cases k5 : xk = 5
   ·
    subst k5
    rw [if_pos rfl] at ho
    simp only [Bool.and_eq_true, decide_eq_true_eq, List.all_eq_true] at ho
    obtain ⟨⟨⟨⟨⟨h1, h2⟩, rfl⟩, h4⟩, h5⟩, hz⟩ := ho
    obtain rfl : kn = 1 := by omega
    have hcz : xc.isz = true := decide_eq_true h1
    have hn3 : decide (((1 : Nat) : Int) = 1) = true := rfl
    obtain ⟨W2, hW2⟩ : ∃ W, W = w.alloc (.cells #[.int .i64 5, .int .u64 xc.a, .int .u64 xc.b, .int .u64 xc.c, .int .u64 xc.d, .slice ko 1 kc, .int .i64 mn, .int .i64 (-1)] 28) := ⟨_, rfl⟩
    have b2 : Below w.heap.size w W2 := by rw [hW2]; exact below1
    have x2 : W2.heap[w.heap.size]? = some (.cells #[.int .i64 5, .int .u64 xc.a, .int .u64 xc.b, .int .u64 xc.c, .int .u64 xc.d, .slice ko 1 kc, .int .i64 mn, .int .i64 (-1)] 28) := by rw [hW2]; exact heap_alloc_new _ _
    have c0 := boxc x2 0 _ rfl
    have c1 := boxc x2 1 _ rfl
    have c2 := boxc x2 2 _ rfl
    have c3 := boxc x2 3 _ rfl
    have c4 := boxc x2 4 _ rfl
    have c5 := boxc x2 5 _ rfl
    have c6 := boxc x2 6 _ rfl
    have c7 := boxc x2 7 _ rfl
    rw [hW2] at c0 c1 c2 c3 c4 c5 c6 c7
    have B2 := Lib.hid b2
    have X2 := Lib.hid x2
    have HRW : Hid (∀ W, Below w.heap.size w W → RowsAt 8 (rxR e) W W.heap.size (.slice ko 1 kc) xs) := fun W hW => hK.next (rxR_steady e) hW
    have HW2 := Lib.hid hW2
    have HBD := Lib.hid (fun W => rx_bounds mn h4 h5 W)
    have HRK : Hid (∀ (W : World), Below w.heap.size w W → Calls Try.prog 32 #[.slice ko 1 kc, .int .i64 (z - 1), .slice none 0 0] W (fun e w' => e = .returned (.bool true) ∧ Below W.heap.size W w')) := fun W hW => HK xs _ _ [] W (HRW.out W hW) (Or.inl ⟨rfl, rfl⟩) (fun x _ h => nomatch h) hz
    clear hK b2 x2 hW2 hkn hzd hd HK h1 h2 h4 h5 hz
    go_enter Try.func24, Try.ntmps24
    go_wp2_with fail
    (with_reducible refine (HBD.out _).mono ?_)
    rintro e4 w4 ⟨rfl, rfl⟩
    go_wp2_with fail
    rw [← HW2.out]
    (with_reducible refine (HRK.out _ B2.out).mono ?_)
    rintro e5 w5 ⟨rfl, b5⟩
    have B5 := Lib.hid (B2.out.trans (b5.mono B2.out.size))
    clear b5 c0 c1 c2 c3 c4 c5 c6 c7
    go_wp2
    go_ret
    exact ⟨rfl, B5.out⟩
   ·
    rw [if_neg k5] at ho
    exact absurd ho (by simp)
theorem right_ok : ∀ (d e : Nat), d ≤ 1000 → ∀ (x : Pat) (c : List Value) (w : World), rxR e w w.heap.size c x → okR d x = true → Calls Try.prog 24 #[.agg c.toArray, .int .i64 d] w (fun e w' => e = .returned (.bool true) ∧ Below w.heap.size w w')
 | 0, _, _, _, _, _, _, h => absurd h (by simp [okR])
 | _ + 1, 0, _, _, _, _, h, _ => h.elim
 | d + 1, e + 1, hd, x, c, w, h, ho => by
  have hh : ((d : Int) + 1) - 1 = (d : Int) := by omega
  have h1 := right_okof d e ((d : Int) + 1) rfl (by omega) (fun l v nv zs w h hn hz ho => by
   rw [hh]
   exact rkids_ok d e d (right_ok d e (by omega)) l v nv zs w h hn hz ho) x c w h ho
  exact h1
set_option maxRecDepth 100000 in
theorem rx_right (e : Nat) (x : Pat) (c : List Value) (w : World) (h : rxR e w w.heap.size c x) (ho : okR 48 x = true) : Calls Try.prog 17 #[.agg c.toArray] w (fun e w' => e = .returned (.bool true) ∧ Below w.heap.size w w') := by
 obtain ⟨ko, kn, kc, rfl⟩ := rx_form h
 obtain ⟨W2, hW2⟩ : ∃ W, W = w.alloc (.cells #[.int .i64 x.k, .int .u64 x.cl.a, .int .u64 x.cl.b, .int .u64 x.cl.c, .int .u64 x.cl.d, .slice ko kn kc, .int .i64 x.mn, .int .i64 x.mx] 28) := ⟨_, rfl⟩
 have b2 : Below w.heap.size w W2 := by rw [hW2]; exact below1
 have x2 : W2.heap[w.heap.size]? = some (.cells #[.int .i64 x.k, .int .u64 x.cl.a, .int .u64 x.cl.b, .int .u64 x.cl.c, .int .u64 x.cl.d, .slice ko kn kc, .int .i64 x.mn, .int .i64 x.mx] 28) := by rw [hW2]; exact heap_alloc_new _ _
 have H : Hid (Calls Try.prog 24 #[.agg #[.int .i64 x.k, .int .u64 x.cl.a, .int .u64 x.cl.b, .int .u64 x.cl.c, .int .u64 x.cl.d, .slice ko kn kc, .int .i64 x.mn, .int .i64 x.mx], .int .i64 48] W2 (fun e w' => e = .returned (.bool true) ∧ Below W2.heap.size W2 w')) := right_ok 48 e (by omega) x _ W2 (rxR_steady e _ _ _ _ _ _ h b2 b2.size) ho
 have c0 := boxc x2 0 _ rfl
 have c1 := boxc x2 1 _ rfl
 have c2 := boxc x2 2 _ rfl
 have c3 := boxc x2 3 _ rfl
 have c4 := boxc x2 4 _ rfl
 have c5 := boxc x2 5 _ rfl
 have c6 := boxc x2 6 _ rfl
 have c7 := boxc x2 7 _ rfl
 rw [hW2] at c0 c1 c2 c3 c4 c5 c6 c7
 have B2 := Lib.hid b2
 have HW2 := Lib.hid hW2
 clear h ho b2 x2 hW2
 go_enter Try.func17, Try.ntmps17
 go_wp2_with fail
 rw [← HW2.out]
 (with_reducible refine H.out.mono ?_)
 rintro e1 w1 ⟨rfl, b1⟩
 have B5 := Lib.hid (B2.out.trans (b1.mono B2.out.size))
 clear b1 c0 c1 c2 c3 c4 c5 c6 c7
 go_wp2
 go_ret
 exact ⟨rfl, B5.out⟩
end Go.Proofs.Ytbccejlemhgioaa
namespace Go.Proofs.Ytbccejlemhgioaa.rx
section
variable {s : List Nat} {sp : Nat → Bool} {t : St}
theorem parts_end {f : Nat} {l : List Pat} (h : nxt s t = none ∨ nxt s t = some 124 ∨ nxt s t = some 41) : parts s (onceS s sp) f t l = (l, t) := by
 cases f with
 | zero => rfl
 | succ f =>
  unfold parts
  rcases h with h | h | h
  ·
   rw [h]
  ·
   rw [h]; simp
  ·
   rw [h]; simp
theorem rows_end {f : Nat} {l : List Pat} (h : nxt s t ≠ some 124) : rowsL s (onceS s sp) f t l = (l, t) := by
 cases f with
 | zero => rfl
 | succ f =>
  unfold rowsL
  have hm : meets s 124 t = (false, t) := by unfold meets; rw [if_neg h]
  simp only [hm, Bool.false_eq_true, if_false]
end
end Go.Proofs.Ytbccejlemhgioaa.rx
namespace Go.Proofs.Ytbccejlemhgioaa
open Go Go.RowKit Go.ChangeShapes cl rx
def pOf (w : World) (q : Nat) : Nat := match w.cell? ⟨q, 1, none⟩ with | some (.int _ z) => z.toNat | _ => 0
theorem Rd.pOf {q : Nat} {S : ByteArray} {t : St} {w : World} (h : Rd q S t w) : pOf w q = t.p := by
 unfold Proofs.Ytbccejlemhgioaa.pOf
 rw [boxc h 1 _ rfl]; simp
theorem RxO.snoc {B B2 d n : Nat} {L : List Pat} {v v' : Value} {W W' : World} {c : List Value} {x : Pat} {o : Obj} {cs : List (List Value)} (h0 : cs.length = L.length) (h1 : ∀ (j : Nat) (c : List Value) (x : Pat), cs[j]? = some c → L[j]? = some x → FreA B v.ownBlock W (fun W => c.length = 8 ∧ rxR d W W.heap.size c x)) (hn : n = L.length)
  (hx : Fre B2 W (fun W => rxR d W W.heap.size c x)) (h8 : c.length = 8) (hB2 : B ≤ B2) (hb : ∀ b, v.ownBlock = some b → b < B2 ∨ W.heap.size ≤ b)
  (hO : W'.ownsRow B 28 8 v' (n + 1) (cs.flatten ++ c)) (hg : (W.alloc o).grownBy W' v.ownBlock) (hv : v'.ownBlock = v.ownBlock ∨ ∀ b, v'.ownBlock = some b → (W.alloc o).heap.size ≤ b) : RxO B d (L ++ [x]) v' W' := by
 refine ⟨cs ++ [c], by simp [h0], snoc_fre (Q := fun c x => FreA B v'.ownBlock W' (fun W => c.length = 8 ∧ rxR d W W.heap.size c x)) h0 (fun j c x hc hx => ((h1 j c x hc hx).next below1).grown hg hv) (FreA.grown (FreA.next (FreA.imp (FreA.low (FreA.off hx hb) hB2) (fun V h => ⟨h8, h⟩)) below1) hg hv), ?_⟩
 rw [List.flatten_append, List.length_append, ← hn]
 simpa using hO
theorem KX.low {B q : Nat} {W W' W2 : World} (h : KX q W W') (hb : Below B W' W2) (hB : B = W.heap.size) : KX q W W2 := by
 subst hB
 exact ⟨⟨hb.os.trans h.1.1, hb.tape.trans h.1.2.1, hb.output.trans h.1.2.2⟩, Nat.le_trans h.2.1 hb.size, fun j hj hq => (hb.block j hj).trans (h.2.2 j hj hq)⟩
theorem RxO.up {B d : Nat} {L : List Pat} {v : Value} {W : World} (h : RxO B d L v W) : RxO B (d + 1) L v W := by
 obtain ⟨cs, h0, h1, h2⟩ := h
 exact ⟨cs, h0, fun j c x hc hx => (h1 j c x hc hx).imp (fun W h => ⟨h.1, rxR_up _ _ _ _ _ h.2⟩), h2⟩
end Go.Proofs.Ytbccejlemhgioaa
namespace Go
section
variable {P : Program} {ops : Array Oper} {Q : Exit → Act → World → Prop}
def flowBack (ops : Array Oper) : Bool := (List.range ops.size).all fun i => ((ops[i]?).map fun o => o.after.all fun e => !Region.binds .any e || decide (e.on < i)).getD true
def flowPred (ops : Array Oper) (i : Nat) : List Nat := ((ops[i]?).map fun o => (o.after.toList.filter (Region.binds .any)).map (·.on)).getD []
def flowAnc (ops : Array Oper) (k : Nat) : List Nat := ((List.range k).reverse).foldl (fun m j => if m.contains j then m ++ flowPred ops j else m) (flowPred ops k)
theorem anc_fold {D : Nat → Prop} (hD : ∀ j, D j → ∀ i ∈ flowPred ops j, D i) : ∀ (L m : List Nat), (∀ i ∈ m, D i) → ∀ i ∈ L.foldl (fun m j => if m.contains j then m ++ flowPred ops j else m) m, D i := by
 intro L
 induction L with
 | nil => intro m h; exact h
 | cons j r ih =>
  intro m h
  rw [List.foldl_cons]
  refine ih _ fun i hi => ?_
  split at hi
  ·
   rename_i hc
   rcases List.mem_append.1 hi with h1 | h1
   ·
    exact h i h1
   ·
    exact hD j (h j (by simpa using hc)) i h1
  ·
   exact h i hi
def flowHead (m n : Nat) : Array Bool := ((List.range m).map fun j => decide (j < n)).toArray
def flowB (ops : Array Oper) (n : Nat) : Bool :=
 (decide (n = ops.size) || decide (n < ops.size) && Region.sinkB .any ops n && Region.chainB .any ops n) && flowBack ops && Region.seqB .any ops (ops.size - n) n (flowHead ops.size n)
theorem flowB_spec {n : Nat} (h : flowB ops n = true) : n ≤ ops.size ∧ flowBack ops = true ∧ Region.seqB .any ops (ops.size - n) n (flowHead ops.size n) = true ∧
  ∀ listed, HeadInv .any ops n listed → ∀ i0, i0 < n → listed.getD i0 true = false → ∀ t, n ≤ t → t ∉ Region.ready .any ops listed := by
 simp only [flowB, Bool.and_eq_true, Bool.or_eq_true, decide_eq_true_eq] at h
 obtain ⟨⟨h1, h2⟩, h3⟩ := h
 rcases h1 with h1 | ⟨⟨hn, hs⟩, hc⟩
 ·
  refine ⟨by omega, h2, h3, fun listed inv i0 hi0 _ t ht hr => ?_⟩
  obtain ⟨_, ot, hot, _⟩ := mem_ready.1 hr
  have := (Array.getElem?_eq_some_iff.1 hot).1
  omega
 ·
  exact ⟨by omega, h2, h3, fun listed inv i0 hi0 hl => tail_waits hs hc hn inv _ i0 rfl hi0 hl⟩
def upd (x : Nat → Value) (k : Nat) (v : Value) : Nat → Value := fun j => if j = k then v else x j
def FlowStep (P : Program) (ops : Array Oper) (Q : Exit → Act → World → Prop) (fill : (Nat → Value) → Act) (n : Nat) (die : Nat → Nat) (R : World → Prop) (T : Nat → World → World → Prop) (F : Nat → Value → World → Prop) (P2 : Nat → Nat → Value → Value → Prop) (i : Nat) (o : Oper) : Prop :=
 ∀ x w, R w → (∀ j, ((flowPred ops i).contains j && (die j == i || decide (n ≤ die j))) = true → F j (x j) w) → ∀ K : Act → World → Prop, Shut (∀ v w', T i w w' → F i v w' → (∀ j u, F j u w → P2 i j v u ∧ P2 j i u v) → K ((fill x).put o.dst v) w') →
  if Region.wanted o (yielded ops (fill x).tmps) then o.wp P (fill x) w K Q else K ((fill x).put o.dst undef) w
theorem flow_eq {listed : Array Bool} {n : Nat} (hs : listed.size = ops.size) (h1 : ∀ j, j < n → listed.getD j false = true) (h2 : ∀ t, n ≤ t → t < ops.size → listed.getD t true = false) : listed = flowHead ops.size n := by
 apply Array.ext
 ·
  simp [flowHead, hs]
 ·
  intro i hi hi2
  have e : (flowHead ops.size n)[i] = decide (i < n) := by simp [flowHead]
  rw [e]
  by_cases h : i < n
  ·
   have := h1 i h
   simp [hi] at this
   simp [this, h]
  ·
   have := h2 i (by omega) (by omega)
   simp [hi] at this
   simp [this, h]
theorem flow_ready {listed : Array Bool} {n : Nat} (hb : flowBack ops = true) (inv : HeadInv .any ops n listed) (hn : n ≤ ops.size) : ∀ i, i < n → listed.getD i false = false → ∃ j, j ≤ i ∧ j ∈ Region.ready .any ops listed := by
 intro i
 induction i using Nat.strongRecOn with
 | _ i ih =>
  intro hi hl
  have hlt : i < ops.size := by omega
  by_cases h : ∃ j, j < i ∧ listed.getD j false = false
  ·
   obtain ⟨j, hj, hlj⟩ := h
   obtain ⟨k, hk, hr⟩ := ih j hj (by omega) hlj
   exact ⟨k, by omega, hr⟩
  ·
   refine ⟨i, Nat.le_refl _, mem_ready.2 ⟨getD_in (by rw [inv.size]; exact hlt) hl, ops[i], by simp [hlt], fun e he hbi => ?_⟩⟩
   have h1 := List.all_eq_true.1 hb i (List.mem_range.2 hlt)
   simp only [Array.getElem?_eq_getElem hlt, Option.map_some, Option.getD_some] at h1
   have h2 := Array.all_eq_true_iff_forall_mem.1 h1 e he
   simp only [hbi, Bool.not_true, Bool.false_or, decide_eq_true_eq] at h2
   cases h3 : listed.getD e.on false with
   | true => rfl
   | false => exact absurd ⟨e.on, h2, h3⟩ h
theorem flow_go {fill : (Nat → Value) → Act} {die : Nat → Nat} {R : World → Prop} {T : Nat → World → World → Prop} {F : Nat → Value → World → Prop} {P2 : Nat → Nat → Value → Value → Prop} {n : Nat} (hB : flowB ops n = true)
  (hst : ∀ k i v w w', k < n → i < n → k ≠ i → die k ≠ i → (flowAnc ops k).contains i = false → (flowAnc ops i).contains (die k) = false → F k v w → T i w w' → F k v w') (hR : ∀ i w w', R w → T i w w' → R w')
  (hput : ∀ i o, i < n → ops[i]? = some o → ∀ x v, (fill x).put o.dst v = fill (upd x i v))
  (hstep : ∀ i o, i < n → ops[i]? = some o → FlowStep P ops Q fill n die R T F P2 i o)
  (hend : ∀ x w, R w → (∀ k, k < n → n ≤ die k → F k (x k) w) → (∀ j k, j < n → k < n → n ≤ die j → n ≤ die k → j ≠ k → P2 j k (x j) (x k)) → wpList P ops Q (ops.toList.drop n) (fill x) w) :
  ∀ (f : Nat) (L : List Nat) (listed : Array Bool) (x : Nat → Value) (w : World), L.Nodup → L.length = f → (∀ j, j ∈ L ↔ j < n ∧ listed.getD j false = false) → HeadInv .any ops n listed →
   R w → (∀ k, k < n → listed.getD k false = true → listed.getD (die k) false = false → F k (x k) w) → (∀ j k, j < n → k < n → j ≠ k → listed.getD j false = true → listed.getD k false = true → listed.getD (die j) false = false → listed.getD (die k) false = false → P2 j k (x j) (x k)) → wpAny P .any ops Q (f + (ops.size - n)) listed (fill x) w := by
 obtain ⟨hn, hback, hseq, htail⟩ := flowB_spec hB
 intro f
 induction f with
 | zero =>
  intro L listed x w _ hlen hL inv hw hF hP
  obtain rfl : L = [] := List.eq_nil_of_length_eq_zero hlen
  have hall : ∀ j, j < n → listed.getD j false = true := fun j hj => by
   cases h : listed.getD j false with
   | true => rfl
   | false => exact absurd ((hL j).2 ⟨hj, h⟩) (by simp)
  have he := flow_eq inv.size hall inv.tail
  have far : ∀ {j : Nat}, n ≤ j → listed.getD j false = false := fun {j} hj => by
   rcases Nat.lt_or_ge j ops.size with h | h
   ·
    exact getD_both (inv.tail j hj h)
   ·
    have : listed.size ≤ j := by rw [inv.size]; exact h
    simp [this]
  have hlen2 : (ops.toList.drop n).length = ops.size - n := by simp
  have := wpAny_of_seq (md := .any) (P := P) (ops := ops) (Q' := Q) (ops.toList.drop n) n listed (fill x) w (fun j => by simp [List.getElem?_drop]) (by rw [he, hlen2]; exact hseq) (hend x w hw (fun k hk hd => hF k hk (hall k hk) (far hd)) (fun j k hj hk hdj hdk hne => hP j k hj hk hne (hall j hj) (hall k hk) (far hdj) (far hdk)))
  rw [hlen2] at this
  rw [Nat.zero_add]; exact this
 | succ f ih =>
  intro L listed x w hnd hlen hL inv hw hF hP
  obtain ⟨i0, hi0⟩ : ∃ i0, i0 ∈ L := by
   cases L with
   | nil => simp at hlen
   | cons a r => exact ⟨a, List.mem_cons_self⟩
  obtain ⟨hi0n, hi0l⟩ := (hL i0).1 hi0
  rw [show f + 1 + (ops.size - n) = (f + (ops.size - n)) + 1 by omega]
  refine ⟨fun h0 => ?_, fun i hi => ?_⟩
  ·
   obtain ⟨j, _, hj⟩ := flow_ready hback inv hn i0 hi0n hi0l
   rw [h0] at hj; cases hj
  ·
   have hin : i < n := by
    rcases Nat.lt_or_ge i n with h | h
    ·
     exact h
    ·
     exact absurd hi (htail listed inv i0 hi0n (getD_in (by rw [inv.size]; omega) hi0l) i h)
   obtain ⟨hiun, oi, hoi, hall⟩ := mem_ready.1 hi
   have hif := getD_both hiun
   have hsz : i < listed.size := by rw [inv.size]; omega
   have hmem : i ∈ L := (hL i).2 ⟨hin, hif⟩
   have alive : ∀ {d : Nat}, (listed.setIfInBounds i true).getD d false = false → d ≠ i ∧ listed.getD d false = false := fun {d} h => by
    have hne : d ≠ i := fun e => by
     rw [e, show (listed.setIfInBounds i true).getD i false = true by simp [hsz]] at h
     cases h
    exact ⟨hne, by rwa [getD_set_ne false (fun e => hne e.symm)] at h⟩
   have hanc : ∀ k, listed.getD k false = true → (flowAnc ops k).contains i = false := fun k hk => by
    cases hc : (flowAnc ops k).contains i with
    | false => rfl
    | true =>
     have hD : ∀ j, listed.getD j false = true → ∀ e ∈ flowPred ops j, listed.getD e false = true := fun j hj e he => by
      unfold flowPred at he
      cases hoj : ops[j]? with
      | none => rw [hoj] at he; simp at he
      | some oj =>
       rw [hoj] at he
       simp only [Option.map_some, Option.getD_some, List.mem_map, List.mem_filter] at he
       obtain ⟨ed, ⟨h1, h2⟩, rfl⟩ := he
       exact inv.closed j oj hoj hj ed (by simpa using h1) h2
     have := anc_fold hD ((List.range k).reverse) (flowPred ops k) (hD k hk) i (by simpa [flowAnc] using hc)
     rw [hif] at this
     cases this
   have hdanc : ∀ d, listed.getD d false = false → (flowAnc ops i).contains d = false := fun d hd => by
    cases hc : (flowAnc ops i).contains d with
    | false => rfl
    | true =>
     have hD : ∀ j, listed.getD j false = true → ∀ e ∈ flowPred ops j, listed.getD e false = true := fun j hj e he => by
      unfold flowPred at he
      cases hoj : ops[j]? with
      | none => rw [hoj] at he; simp at he
      | some oj =>
       rw [hoj] at he
       simp only [Option.map_some, Option.getD_some, List.mem_map, List.mem_filter] at he
       obtain ⟨ed, ⟨h1, h2⟩, rfl⟩ := he
       exact inv.closed j oj hoj hj ed (by simpa using h1) h2
     have h0 : ∀ e ∈ flowPred ops i, listed.getD e false = true := fun e he => by
      unfold flowPred at he
      rw [hoi] at he
      simp only [Option.map_some, Option.getD_some, List.mem_map, List.mem_filter] at he
      obtain ⟨ed, ⟨h1, h2⟩, rfl⟩ := he
      exact hall ed (by simpa using h1) h2
     have := anc_fold hD ((List.range i).reverse) (flowPred ops i) h0 d (by simpa [flowAnc] using hc)
     rw [hd] at this
     cases this
   have key : ∀ v w', T i w w' → F i v w' → (∀ j u, F j u w → P2 i j v u ∧ P2 j i u v) → wpAny P .any ops Q (f + (ops.size - n)) (listed.setIfInBounds i true) ((fill x).put oi.dst v) w' := by
    intro v w' hT hv hp
    rw [hput i oi hin hoi x v]
    refine ih (L.erase i) _ _ w' (hnd.erase i) (by rw [List.length_erase_of_mem hmem]; omega) (fun j => ?_) (inv.set hi hin) (hR i w w' hw hT) (fun k hk hl hl' => ?_) (fun j k hj hk hne hl1 hl2 hl1' hl2' => ?_)
    ·
     rw [hnd.mem_erase_iff, hL j]
     by_cases hij : j = i
     ·
      subst hij
      constructor
      ·
       rintro ⟨h, _⟩; exact absurd rfl h
      ·
       rintro ⟨_, h⟩
       rw [show (listed.setIfInBounds j true).getD j false = true by simp [hsz]] at h
       cases h
     ·
      rw [getD_set_ne false (fun e => hij e.symm)]
      exact ⟨fun h => h.2, fun h => ⟨hij, h⟩⟩
    ·
     unfold upd
     by_cases hki : k = i
     ·
      rw [if_pos hki, hki]; exact hv
     ·
      rw [if_neg hki]
      rw [getD_set_ne false (fun e => hki e.symm)] at hl
      exact hst k i _ w w' hk hin hki (alive hl').1 (hanc k hl) (hdanc _ (alive hl').2) (hF k hk hl (alive hl').2) hT
    ·
     unfold upd
     by_cases hji : j = i
     ·
      have hki : k ≠ i := fun e => hne (hji.trans e.symm)
      rw [if_pos hji, if_neg hki, hji]
      rw [getD_set_ne false (fun e => hki e.symm)] at hl2
      exact (hp k _ (hF k hk hl2 (alive hl2').2)).1
     ·
      rw [if_neg hji]
      rw [getD_set_ne false (fun e => hji e.symm)] at hl1
      by_cases hki : k = i
      ·
       rw [if_pos hki, hki]
       exact (hp j _ (hF j hj hl1 (alive hl1').2)).2
      ·
       rw [if_neg hki]
       rw [getD_set_ne false (fun e => hki e.symm)] at hl2
       exact hP j k hj hk hne hl1 hl2 (alive hl1').2 (alive hl2').2
   have hs1 := hstep i oi hin hoi x w hw (fun j hj => by
    simp only [flowPred, hoi, Option.map_some, Option.getD_some, List.contains_eq_mem, List.mem_map, List.mem_filter, decide_eq_true_eq, Bool.and_eq_true, Bool.or_eq_true, beq_iff_eq] at hj
    obtain ⟨⟨e, ⟨he, hb⟩, rfl⟩, hdj⟩ := hj
    have hal : listed.getD (die e.on) false = false := by
     rcases hdj with h | h
     ·
      rw [h]; exact hif
     ·
      rcases Nat.lt_or_ge (die e.on) ops.size with h' | h'
      ·
       exact getD_both (inv.tail _ h h')
      ·
       have : listed.size ≤ die e.on := by rw [inv.size]; exact h'
       simp [this]
    have h1 : e.on < i := by
     have h1 := List.all_eq_true.1 hback i (List.mem_range.2 (by omega))
     simp only [hoi, Option.map_some, Option.getD_some] at h1
     have h2 := Array.all_eq_true_iff_forall_mem.1 h1 e (by simpa using he)
     simpa only [hb, Bool.not_true, Bool.false_or, decide_eq_true_eq] using h2
    exact hF e.on (by omega) (hall e (by simpa using he) hb) hal) (fun a' w' => wpAny P .any ops Q (f + (ops.size - n)) (listed.setIfInBounds i true) a' w') key
   unfold wpOp
   simp only [hoi]
   split
   ·
    rename_i hwt
    rw [if_pos hwt] at hs1
    exact Or.inl hs1
   ·
    rename_i hwt
    rw [if_neg hwt] at hs1
    exact hs1
theorem wp_region_flow {id : Nat} {a : Act} {w : World} {l : List Oper} (n : Nat) (die : Nat → Nat) (fill : (Nat → Value) → Act) (x0 : Nat → Value) (R : World → Prop) (T : Nat → World → World → Prop) (F : Nat → Value → World → Prop) (P2 : Nat → Nat → Value → Value → Prop)
  (hm : P.follows .mixedOrders = true) (hB : flowB l.toArray n = true) (ha : a = fill x0) (h0 : R w.drew)
  (hR : ∀ i w w', R w → T i w w' → R w') (hst : ∀ k, k < n → ∀ i, i < n → k ≠ i → die k ≠ i → (flowAnc l.toArray k).contains i = false → (flowAnc l.toArray i).contains (die k) = false → ∀ v w w', F k v w → T i w w' → F k v w')
  (hput : ∀ i, i < n → ∀ o, l[i]? = some o → ∀ x v, (fill x).put o.dst v = fill (upd x i v))
  (hstep : ∀ i, i < n → ∀ o, l[i]? = some o → FlowStep P l.toArray Q fill n die R T F P2 i o)
  (hend : ∀ x w, R w → (∀ k, k < n → n ≤ die k → F k (x k) w) → (∀ j k, j < n → k < n → n ≤ die j → n ≤ die k → j ≠ k → P2 j k (x j) (x k)) → wpList P l.toArray Q (l.drop n) (fill x) w) : (Code.region id l.toArray true).wp P Q a w := by
 have hn : n ≤ l.toArray.size := (flowB_spec hB).1
 refine wp_region_any hm ?_
 rw [ha]
 have := flow_go (P := P) (Q := Q) (ops := l.toArray) hB (fun k i v w w' hk hi hne hd ha hb => hst k hk i hi hne hd ha hb v w w') hR (fun i o hi ho => hput i hi o (by simpa using ho)) (fun i o hi ho => hstep i hi o (by simpa using ho)) (fun x w hw hF hP => by simpa using hend x w hw hF hP)
  n (List.range n) (Array.replicate l.toArray.size false) x0 w.drew List.nodup_range (by simp) (fun j => by rw [List.mem_range, getD_replicate_false]; simp)
  ⟨by simp, fun j oj _ hl => (by rw [getD_replicate_false] at hl; cases hl), fun t _ ht => getD_in (by simpa using ht) (getD_replicate_false _ _)⟩ h0 (fun k _ hl _ => by rw [getD_replicate_false] at hl; cases hl) (fun _ _ _ _ _ hl _ _ _ => by rw [getD_replicate_false] at hl; cases hl)
 rw [show n + (l.toArray.size - n) = l.toArray.size by omega] at this
 exact this
def fillOf (a : Act) : List Oper → Nat → (Nat → Value) → Act
 | [], _, _ => a
 | o :: r, i, x => fillOf (a.put o.dst (x i)) r (i + 1) x
theorem put_put (a : Act) (d : Option Tmp) (v v' : Value) : (a.put d v).put d v' = a.put d v' := by
 cases d with
 | none => rfl
 | some d => simp [Act.put]
theorem put_comm {d d' : Option Tmp} (a : Act) (v v' : Value) (h : ∀ x, d = some x → d' = some x → False) : (a.put d v).put d' v' = (a.put d' v').put d v := by
 cases d with
 | none => rfl
 | some x =>
  cases d' with
  | none => rfl
  | some y =>
   have : x ≠ y := fun e => h x rfl (by rw [e])
   simp only [Act.put]
   rw [Array.setIfInBounds_comm _ _ this]
theorem fillOf_put : ∀ (r : List Oper) (a : Act) (i : Nat) (x : Nat → Value) (d : Option Tmp) (v : Value), (∀ o ∈ r, ∀ t, o.dst = some t → d = some t → False) → (fillOf a r i x).put d v = fillOf (a.put d v) r i x := by
 intro r
 induction r with
 | nil => intro a i x d v _; rfl
 | cons o r ih =>
  intro a i x d v h
  unfold fillOf
  rw [ih _ _ _ _ _ (fun o ho => h o (List.mem_cons_of_mem _ ho)), put_comm _ _ _ (h o List.mem_cons_self)]
theorem fillOf_congr : ∀ (r : List Oper) (a : Act) (i : Nat) (x y : Nat → Value), (∀ j, i ≤ j → x j = y j) → fillOf a r i x = fillOf a r i y := by
 intro r
 induction r with
 | nil => intro a i x y _; rfl
 | cons o r ih =>
  intro a i x y h
  unfold fillOf
  rw [h i (Nat.le_refl _)]
  exact ih _ _ _ _ (fun j hj => h j (by omega))
def apartB : List Oper → Bool
 | [] => true
 | o :: r => (match o.dst with | none => true | some t => r.all fun p => decide (p.dst ≠ some t)) && apartB r
theorem fill_put : ∀ (l : List Oper) (i : Nat) (a : Act) (x : Nat → Value) (k : Nat) (o : Oper) (v : Value), l[k]? = some o → apartB l = true → (fillOf a l i x).put o.dst v = fillOf a l i (upd x (i + k) v) := by
 intro l
 induction l with
 | nil => intro i a x k o v h _; simp at h
 | cons p r ih =>
  intro i a x k o v h hd
  simp only [apartB, Bool.and_eq_true] at hd
  cases k with
  | zero =>
   simp only [List.getElem?_cons_zero, Option.some.injEq] at h
   subst h
   unfold fillOf
   rw [fillOf_put r _ _ _ _ _ (fun q hq t ht hp => by
    rw [hp] at hd
    have := List.all_eq_true.1 hd.1 q hq
    simp [ht] at this), put_put]
   have e : upd x (i + 0) v i = v := by simp [upd]
   rw [e]
   exact fillOf_congr r _ _ _ _ (fun j hj => by unfold upd; rw [if_neg (by omega)])
  | succ k =>
   simp only [List.getElem?_cons_succ] at h
   unfold fillOf
   rw [ih (i + 1) _ x k o v h hd.2]
   have e : upd x (i + (k + 1)) v i = x i := by unfold upd; rw [if_neg (by omega)]
   rw [e, show i + 1 + k = i + (k + 1) by omega]
theorem fill_start : ∀ (l : List Oper) (i : Nat) (a : Act), apartB l = true → ∃ x, fillOf a l i x = a := by
 intro l
 induction l with
 | nil => intro i a _; exact ⟨fun _ => undef, rfl⟩
 | cons o r ih =>
  intro i a hd
  simp only [apartB, Bool.and_eq_true] at hd
  obtain ⟨x, hx⟩ := ih (i + 1) a hd.2
  have hv : ∃ v, a.put o.dst v = a := by
   cases o.dst with
   | none => exact ⟨undef, rfl⟩
   | some t =>
    rcases Nat.lt_or_ge t a.tmps.size with h | h
    ·
     refine ⟨a.tmps[t], ?_⟩
     have e : a.tmps.setIfInBounds t a.tmps[t] = a.tmps := by
      apply Array.ext
      ·
       simp
      ·
       intro j _ _
       rw [Array.getElem_setIfInBounds]
       split
       ·
        rename_i e; subst e; rfl
       ·
        rfl
     simp only [Act.put, e]
    ·
     refine ⟨undef, ?_⟩
     simp [Act.put, Array.setIfInBounds_eq_of_size_le h]
  obtain ⟨v, hv⟩ := hv
  refine ⟨upd x i v, ?_⟩
  unfold fillOf
  have e : upd x i v i = v := by simp [upd]
  rw [e, hv, fillOf_congr r a (i + 1) _ x (fun j hj => by unfold upd; rw [if_neg (by omega)]), hx]
def FlowAll (P : Program) (ops : Array Oper) (Q : Exit → Act → World → Prop) (fill : (Nat → Value) → Act) (n : Nat) (die : Nat → Nat) (R : World → Prop) (T : Nat → World → World → Prop) (F : Nat → Value → World → Prop) (P2 : Nat → Nat → Value → Value → Prop) : Nat → List Oper → Prop
 | _, [] => True
 | i, o :: r => FlowStep P ops Q fill n die R T F P2 i o ∧ FlowAll P ops Q fill n die R T F P2 (i + 1) r
theorem FlowAll.nil {fill : (Nat → Value) → Act} {n : Nat} {die : Nat → Nat} {R : World → Prop} {T : Nat → World → World → Prop} {F : Nat → Value → World → Prop} {P2 : Nat → Nat → Value → Value → Prop} {i : Nat} : FlowAll P ops Q fill n die R T F P2 i [] := trivial
theorem FlowAll.cons {fill : (Nat → Value) → Act} {n : Nat} {die : Nat → Nat} {R : World → Prop} {T : Nat → World → World → Prop} {F : Nat → Value → World → Prop} {P2 : Nat → Nat → Value → Value → Prop} {i : Nat} {o : Oper} {r : List Oper} (h : FlowStep P ops Q fill n die R T F P2 i o) (h2 : FlowAll P ops Q fill n die R T F P2 (i + 1) r) : FlowAll P ops Q fill n die R T F P2 i (o :: r) := ⟨h, h2⟩
theorem FlowAll.get {fill : (Nat → Value) → Act} {n : Nat} {die : Nat → Nat} {R : World → Prop} {T : Nat → World → World → Prop} {F : Nat → Value → World → Prop} {P2 : Nat → Nat → Value → Value → Prop} : ∀ {l : List Oper} {i k : Nat} {o : Oper}, FlowAll P ops Q fill n die R T F P2 i l → l[k]? = some o → FlowStep P ops Q fill n die R T F P2 (i + k) o := by
 intro l
 induction l with
 | nil => intro i k o _ h; simp at h
 | cons p r ih =>
  intro i k o h ho
  cases k with
  | zero => simp only [List.getElem?_cons_zero, Option.some.injEq] at ho; subst ho; exact h.1
  | succ k => simp only [List.getElem?_cons_succ] at ho; have := ih h.2 ho; rwa [show i + (k + 1) = i + 1 + k by omega]
theorem wp_flow {id : Nat} {a : Act} {w : World} {l : List Oper} (n : Nat) (die : Nat → Nat) (R : World → Prop) (T : Nat → World → World → Prop) (F : Nat → Value → World → Prop) (P2 : Nat → Nat → Value → Value → Prop)
  (hm : P.follows .mixedOrders = true) (hB : (flowB l.toArray n && apartB (l.take n)) = true) (h0 : R w.drew)
  (hR : ∀ i w w', R w → T i w w' → R w') (hst : ∀ k, k < n → ∀ i, i < n → k ≠ i → die k ≠ i → (flowAnc l.toArray k).contains i = false → (flowAnc l.toArray i).contains (die k) = false → ∀ v w w', F k v w → T i w w' → F k v w')
  (hstep : FlowAll P l.toArray Q (fillOf a (l.take n) 0) n die R T F P2 0 (l.take n))
  (hend : ∀ x w, R w → (∀ k, k < n → n ≤ die k → F k (x k) w) → (∀ j k, j < n → k < n → n ≤ die j → n ≤ die k → j ≠ k → P2 j k (x j) (x k)) → wpList P l.toArray Q (l.drop n) (fillOf a (l.take n) 0 x) w) : (Code.region id l.toArray true).wp P Q a w := by
 simp only [Bool.and_eq_true] at hB
 obtain ⟨x0, hx0⟩ := fill_start (l.take n) 0 a hB.2
 have hget : ∀ i o, i < n → l[i]? = some o → (l.take n)[i]? = some o := fun i o hi ho => by rw [List.getElem?_take]; simp [hi, ho]
 exact wp_region_flow n die (fillOf a (l.take n) 0) x0 R T F P2 hm hB.1 hx0.symm h0 hR hst
  (fun i hi o ho x v => by have := fill_put (l.take n) 0 a x i o v (hget i o hi ho) hB.2; rwa [Nat.zero_add] at this)
  (fun i hi o ho => by have := hstep.get (hget i o hi ho); rwa [Nat.zero_add] at this) hend
end
end Go
