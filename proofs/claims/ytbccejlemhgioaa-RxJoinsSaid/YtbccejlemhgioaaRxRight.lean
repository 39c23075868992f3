/- patterns that are right: rx.Right tells so. -/
import Derived.Test.YtbccejlemhgioaaRxEq
namespace Go.Proofs.Ytbccejlemhgioaa
open Go Go.RowKit Go.ChangeShapes cl rx
def okR : Nat → Pat → Bool
  | 0, _ => false
  | d + 1, .mk k cl ks mn mx =>
    if k = 2 then decide (ks.length = 0) && decide (cl ≠ Cls.zero) && decide (mn = 0) && decide (mx = 0)
    else if k = 3 ∨ k = 4 then decide (cl = Cls.zero) && decide (mn = 0) && decide (mx = 0) && decide (2 ≤ ks.length) && decide (ks.length ≤ 60) && ks.all (fun x => decide (x.k ≠ k) && decide (k = 3 → x.k ≠ 1) && okR d x)
    else if k = 5 then decide (cl = Cls.zero) && decide (ks.length = 1) && decide (mx = -1) && decide (0 ≤ mn) && decide (mn ≤ 20) && ks.all (okR d)
    else false
/-- kinds that may not stand there -/
def NotP (v : Value) (zs : List Int) (w : World) : Prop := (v = .slice none 0 0 ∧ zs = []) ∨ (∃ b, v = .slice (some ⟨b, 0, none⟩) zs.length zs.length ∧ b < w.heap.size ∧ zs.length ≤ 10 ∧ ∀ j, j < zs.length → w.cell? ⟨b, 0 + j, none⟩ = some (.int .i64 (zs.getD j 0)))
theorem not_con {v : Value} {zs : List Int} {w : World} (h : NotP v zs w) (k : Int) (hk : k ∉ zs) (W : World) (hW : Below w.heap.size w W) : Calls Try.prog 38 #[v, .int .i64 k] W (fun e w' => e = .returned (.bool false) ∧ w' = W) := by
  rcases h with ⟨rfl, rfl⟩ | ⟨b, rfl, hb, hl, hc⟩
  · exact Try.slices_Contains_int_empty none 0 k W
  · have h1 := Try.slices_Contains_int b 0 zs.length zs.length zs k W (Nat.le_refl _) (by omega) (fun j hj => (hW.cell (p := ⟨b, _, none⟩) hb).trans (hc j hj))
    have h2 : ((zs.take zs.length).contains k) = false := by
      rw [List.take_length]
      exact Bool.eq_false_iff.2 (fun h => hk (by simpa using h))
    rw [h2] at h1
    exact h1
theorem rx_bounds (n : Int) (h0 : 0 ≤ n) (h1 : n ≤ 20) (w : World) : Calls Try.prog 33 #[.int .i64 n, .int .i64 (-1)] w (fun e w' => e = .returned (.bool true) ∧ w' = w) := by
  go_enter Try.func33, Try.ntmps33
  go_wp2
  go_ret
  exact ⟨rfl, rfl⟩
set_option maxHeartbeats 6400000 in
set_option maxRecDepth 100000 in
theorem rkids_ok (d e : Nat) (z : Int) (HR : ∀ (x : Pat) (c : List Value) (w : World), rxR e w w.heap.size c x → okR d x = true → Calls Try.prog 24 #[.agg c.toArray, .int .i64 z] w (fun e w' => e = .returned (.bool true) ∧ Below w.heap.size w w'))
    (l : List Pat) (v : Value) (nv : Value) (zs : List Int) (w : World) (h : RowsAt 8 (rxR e) w w.heap.size v l) (hn : NotP nv zs w) (hz : ∀ x ∈ l, x.k ∉ zs) (ho : ∀ x ∈ l, okR d x = true) :
    Calls Try.prog 32 #[v, .int .i64 z, nv] w (fun e w' => e = .returned (.bool true) ∧ Below w.heap.size w w') := by
  obtain ⟨m, hm⟩ : ∃ m, m = l.length := ⟨_, rfl⟩
  obtain ⟨ao, cap, rfl, hnc, hnm⟩ := h.form' hm
  unfold maxLen at hnm
  have HCN : Hid (∀ (k : Int), k ∉ zs → ∀ W, Below w.heap.size w W → Calls Try.prog 38 #[nv, .int .i64 k] W (fun e w' => e = .returned (.bool false) ∧ w' = W)) := fun k hk W hW => not_con hn k hk W hW
  have hnf : ∃ no nn nc, nv = .slice no nn nc := by
    rcases hn with ⟨rfl, _⟩ | ⟨b, rfl, _⟩ <;> exact ⟨_, _, _, rfl⟩
  obtain ⟨no, nn, nc, rfl⟩ := hnf
  have HL := Lib.hid h
  have HM := Lib.hid hm
  have HH := Lib.hid HR
  have HZ := Lib.hid hz
  have HO := Lib.hid ho
  clear h hm HR hn hz ho
  go_enter Try.func32, Try.ntmps32
  go_wp2
  go_loopw [11, 25] (fun i _ wr => ∃ k : Nat, i = .int .i64 k ∧ k ≤ m ∧ Below w.heap.size w wr) (fun i _ _ => m - (intOf i).toNat)
  case atStart => exact ⟨0, rfl, Nat.zero_le _, Below.refl _ _⟩
  case round =>
    obtain ⟨k, rfl, hk, hbl⟩ := hrel
    have HBL := Lib.hid hbl
    by_cases hlt : k < m
    · have hkI : (k : Int) < (m : Int) := by omega
      obtain ⟨x, hx⟩ : ∃ x, x = l.getD k default := ⟨_, rfl⟩
      obtain ⟨ba, oa, c, rfl, hbB, hcl, hR, hC⟩ := (HL.out.next (rxR_steady e) hbl).get HM.out hlt default
      rw [← hx] at hR
      obtain ⟨ko, kn, kc, rfl⟩ := rx_form hR
      have z0 : wr.cell? ⟨ba, oa + k * 8, none⟩ = _ := hC 0 _ rfl
      have z1 := hC 1 _ rfl
      have z2 := hC 2 _ rfl
      have z3 := hC 3 _ rfl
      have z4 := hC 4 _ rfl
      have z5 := hC 5 _ rfl
      have z6 := hC 6 _ rfl
      have z7 := hC 7 _ rfl
      have hxm : x ∈ l := by
        rw [hx, List.getD_eq_getElem?_getD, List.getElem?_eq_getElem (by rw [← HM.out]; exact hlt)]; exact List.getElem_mem _
      obtain ⟨W4, hW4⟩ : ∃ W, W = wr.alloc (.cells #[.int .i64 x.k, .int .u64 x.cl.a, .int .u64 x.cl.b, .int .u64 x.cl.c, .int .u64 x.cl.d, .slice ko kn kc, .int .i64 x.mn, .int .i64 x.mx] 28) := ⟨_, rfl⟩
      have b4 : Below wr.heap.size wr W4 := by rw [hW4]; exact below1
      have x4 : W4.heap[wr.heap.size]? = some (.cells #[.int .i64 x.k, .int .u64 x.cl.a, .int .u64 x.cl.b, .int .u64 x.cl.c, .int .u64 x.cl.d, .slice ko kn kc, .int .i64 x.mn, .int .i64 x.mx] 28) := by rw [hW4]; exact heap_alloc_new _ _
      have HCO := Lib.hid (HCN.out x.k (HZ.out x hxm) W4 (hbl.trans (b4.mono hbl.size)))
      have HRI := Lib.hid (HH.out x _ W4 (rxR_steady e _ _ _ _ _ _ hR b4 b4.size) (HO.out x hxm))
      have B4 := Lib.hid (hbl.trans (b4.mono hbl.size))
      obtain ⟨q4, hq4⟩ : ∃ q4, q4 = wr.heap.size := ⟨_, rfl⟩
      rw [← hq4] at x4
      have y0 := boxc x4 0 _ rfl
      have y1 := boxc x4 1 _ rfl
      have y2 := boxc x4 2 _ rfl
      have y3 := boxc x4 3 _ rfl
      have y4 := boxc x4 4 _ rfl
      have y5 := boxc x4 5 _ rfl
      have y6 := boxc x4 6 _ rfl
      have y7 := boxc x4 7 _ rfl
      have v0 := y0
      rw [hW4, hq4] at v0
      have HW4 := Lib.hid hW4
      have HQ4 := Lib.hid hq4
      clear hR hC hx hcl hbB hbl hxm b4 x4 hW4 hq4
      go_wp2_with fail
      rw [← HW4.out, ← HQ4.out]
      clear v0
      (with_reducible refine HCO.out.mono ?_)
      rintro e5 w5 ⟨rfl, rfl⟩
      go_wp2_with fail
      (with_reducible refine HRI.out.mono ?_)
      rintro e6 w6 ⟨rfl, b6⟩
      have B6 := Lib.hid (B4.out.trans (b6.mono B4.out.size))
      clear b6 y0 y1 y2 y3 y4 y5 y6 y7
      go_wp2
      go_roundw
      case rel => exact ⟨k + 1, by go_num, by omega, B6.out⟩
      case measure => simp [intOf]; omega
    · obtain rfl : k = m := by omega
      clear hbl
      go_wp2
      go_ret
      exact ⟨rfl, HBL.out⟩
set_option maxHeartbeats 6400000 in
set_option maxRecDepth 100000 in
theorem right_okof (d e : Nat) (z : Int) (hzd : z = (d : Int) + 1) (hd : d ≤ 1000) (HK : ∀ (l : List Pat) (v nv : Value) (zs : List Int) (w : World), RowsAt 8 (rxR e) w w.heap.size v l → NotP nv zs w → (∀ x ∈ l, x.k ∉ zs) → (∀ x ∈ l, okR d x = true) → Calls Try.prog 32 #[v, .int .i64 (z - 1), nv] w (fun e w' => e = .returned (.bool true) ∧ Below w.heap.size w w'))
    (x : Pat) (c : List Value) (w : World) (h : rxR (e + 1) w w.heap.size c x) (ho : okR (d + 1) x = true) : Calls Try.prog 24 #[.agg c.toArray, .int .i64 z] w (fun e w' => e = .returned (.bool true) ∧ Below w.heap.size w w') := by
  cases x with
  | mk xk xc xs mn mx =>
  obtain ⟨ko, kn, kc, rfl, hK⟩ := h
  simp only [Pat.k, Pat.cl, Pat.ks, Pat.mn, Pat.mx] at hK ⊢
  have hkn : kn = xs.length := by
    obtain ⟨_, _, e, _, _⟩ := hK.form
    simp only [Value.slice.injEq] at e
    exact e.2.1
  have hz0 : (z == 0) = false := beq_eq_false_iff_ne.2 (by omega)
  have hz1 : ¬ z = 0 := by omega
  have hzw : IntKind.i64.wrap (z - 1) = z - 1 := IntWalk.i64_in _ (by omega)
  unfold okR at ho
  by_cases k2 : xk = 2
  · subst k2
    rw [if_pos rfl] at ho
    simp only [Bool.and_eq_true, decide_eq_true_eq] at ho
    obtain ⟨⟨⟨h1, h2⟩, rfl⟩, rfl⟩ := ho
    obtain rfl : kn = 0 := by omega
    have hcz := Cls.isz_of h2
    obtain ⟨W2, hW2⟩ : ∃ W, W = w.alloc (.cells #[.int .i64 2, .int .u64 xc.a, .int .u64 xc.b, .int .u64 xc.c, .int .u64 xc.d, .slice ko 0 kc, .int .i64 0, .int .i64 0] 28) := ⟨_, rfl⟩
    have b2 : Below w.heap.size w W2 := by rw [hW2]; exact below1
    have x2 : W2.heap[w.heap.size]? = some (.cells #[.int .i64 2, .int .u64 xc.a, .int .u64 xc.b, .int .u64 xc.c, .int .u64 xc.d, .slice ko 0 kc, .int .i64 0, .int .i64 0] 28) := by rw [hW2]; exact heap_alloc_new _ _
    have c0 := boxc x2 0 _ rfl
    have c1 := boxc x2 1 _ rfl
    have c2 := boxc x2 2 _ rfl
    have c3 := boxc x2 3 _ rfl
    have c4 := boxc x2 4 _ rfl
    have c5 := boxc x2 5 _ rfl
    have c6 := boxc x2 6 _ rfl
    have c7 := boxc x2 7 _ rfl
    rw [hW2] at c0 c1 c2 c3 c4 c5 c6 c7
    have B2 := Lib.hid b2
    have X2 := Lib.hid x2
    have HRW : Hid (∀ W, Below w.heap.size w W → RowsAt 8 (rxR e) W W.heap.size (.slice ko 0 kc) xs) := fun W hW => hK.next (rxR_steady e) hW
    have HW2 := Lib.hid hW2
    clear hK b2 x2 hW2 h1 h2 hkn hzd hd HK
    go_enter Try.func24, Try.ntmps24
    go_wp2
    go_ret
    refine ⟨rfl, ?_⟩
    rw [← HW2.out]
    exact B2.out
  · rw [if_neg k2] at ho
    by_cases k34 : xk = 3 ∨ xk = 4
    · rw [if_pos k34] at ho
      simp only [Bool.and_eq_true, decide_eq_true_eq, List.all_eq_true] at ho
      obtain ⟨⟨⟨⟨⟨h1, rfl⟩, rfl⟩, h4⟩, h5⟩, h6⟩ := ho
      have hcz : xc.isz = true := decide_eq_true h1
      have hz : ∀ x ∈ xs, okR d x = true := fun x hx => (h6 x hx).2
      have hn1 : (kn : Int) ≤ 60 := by omega
      have hn2 : (2 : Int) ≤ (kn : Int) := by omega
      have hn3 : decide ((2 : Int) ≤ (kn : Int)) = true := decide_eq_true hn2
      have hn4 : decide ((60 : Int) < (kn : Int)) = false := decide_eq_false (by omega)
      rcases k34 with rfl | rfl
      · have hzs : ∀ x ∈ xs, x.k ∉ ([3, 1] : List Int) := fun x hx => by
          have := (h6 x hx).1
          simp only [List.mem_cons, List.not_mem_nil, or_false, not_or]
          exact ⟨this.1, this.2 rfl⟩
        obtain ⟨W2, hW2⟩ : ∃ W, W = w.alloc (.cells #[.int .i64 3, .int .u64 xc.a, .int .u64 xc.b, .int .u64 xc.c, .int .u64 xc.d, .slice ko kn kc, .int .i64 0, .int .i64 0] 28) := ⟨_, rfl⟩
        have b2 : Below w.heap.size w W2 := by rw [hW2]; exact below1
        have x2 : W2.heap[w.heap.size]? = some (.cells #[.int .i64 3, .int .u64 xc.a, .int .u64 xc.b, .int .u64 xc.c, .int .u64 xc.d, .slice ko kn kc, .int .i64 0, .int .i64 0] 28) := by rw [hW2]; exact heap_alloc_new _ _
        have c0 := boxc x2 0 _ rfl
        have c1 := boxc x2 1 _ rfl
        have c2 := boxc x2 2 _ rfl
        have c3 := boxc x2 3 _ rfl
        have c4 := boxc x2 4 _ rfl
        have c5 := boxc x2 5 _ rfl
        have c6 := boxc x2 6 _ rfl
        have c7 := boxc x2 7 _ rfl
        rw [hW2] at c0 c1 c2 c3 c4 c5 c6 c7
        have B2 := Lib.hid b2
        have X2 := Lib.hid x2
        have HRW : Hid (∀ W, Below w.heap.size w W → RowsAt 8 (rxR e) W W.heap.size (.slice ko kn kc) xs) := fun W hW => hK.next (rxR_steady e) hW
        have HW2 := Lib.hid hW2
        have HRK : Hid (∀ (nv : Value) (W : World), Below w.heap.size w W → NotP nv [3, 1] W → Calls Try.prog 32 #[.slice ko kn kc, .int .i64 (z - 1), nv] W (fun e w' => e = .returned (.bool true) ∧ Below W.heap.size W w')) := fun nv W hW hn => HK xs _ nv [3, 1] W (HRW.out W hW) hn hzs hz
        have hsz : W2.heap.size = w.heap.size + 1 := by rw [hW2]; exact Array.size_push ..
        have HNV : Hid (NotP (.slice (some ⟨w.heap.size + 1, 0, none⟩) 2 2) [3, 1] (W2.alloc (.cells #[.int .i64 3, .int .i64 1] 3))) := by
          refine Or.inr ⟨w.heap.size + 1, rfl, ?_, by decide, ?_⟩
          · show w.heap.size + 1 < (W2.alloc _).heap.size
            have : (W2.alloc (.cells #[.int .i64 3, .int .i64 1] 3)).heap.size = W2.heap.size + 1 := Array.size_push ..
            omega
          · intro j hj
            have hx := heap_alloc_new W2 (.cells #[.int .i64 3, .int .i64 1] 3)
            rw [hsz] at hx
            have hj : j < 2 := hj
            rcases (by omega : j = 0 ∨ j = 1) with rfl | rfl
            · exact boxc hx 0 _ rfl
            · exact boxc hx 1 _ rfl
        have b3 : Below w.heap.size w (W2.alloc (.cells #[.int .i64 3, .int .i64 1] 3)) := b2.trans (below1.mono b2.size)
        have HRK' := Lib.hid (HRK.out _ _ b3 HNV.out)
        have B3 := Lib.hid b3
        clear hK b2 x2 hW2 hkn hzd hd HK h1 h4 h5 h6 hz hzs b3 hsz
        go_enter Try.func24, Try.ntmps24
        go_wp2_with fail
        rw [← HW2.out]
        (with_reducible refine HRK'.out.mono ?_)
        rintro e5 w5 ⟨rfl, b5⟩
        have B5 := Lib.hid (B3.out.trans (b5.mono B3.out.size))
        clear b5 c0 c1 c2 c3 c4 c5 c6 c7
        go_wp2
        go_ret
        exact ⟨rfl, B5.out⟩
      · have hzs : ∀ x ∈ xs, x.k ∉ ([4] : List Int) := fun x hx => by
          have := (h6 x hx).1
          simp only [List.mem_cons, List.not_mem_nil, or_false]
          exact this.1
        obtain ⟨W2, hW2⟩ : ∃ W, W = w.alloc (.cells #[.int .i64 4, .int .u64 xc.a, .int .u64 xc.b, .int .u64 xc.c, .int .u64 xc.d, .slice ko kn kc, .int .i64 0, .int .i64 0] 28) := ⟨_, rfl⟩
        have b2 : Below w.heap.size w W2 := by rw [hW2]; exact below1
        have x2 : W2.heap[w.heap.size]? = some (.cells #[.int .i64 4, .int .u64 xc.a, .int .u64 xc.b, .int .u64 xc.c, .int .u64 xc.d, .slice ko kn kc, .int .i64 0, .int .i64 0] 28) := by rw [hW2]; exact heap_alloc_new _ _
        have c0 := boxc x2 0 _ rfl
        have c1 := boxc x2 1 _ rfl
        have c2 := boxc x2 2 _ rfl
        have c3 := boxc x2 3 _ rfl
        have c4 := boxc x2 4 _ rfl
        have c5 := boxc x2 5 _ rfl
        have c6 := boxc x2 6 _ rfl
        have c7 := boxc x2 7 _ rfl
        rw [hW2] at c0 c1 c2 c3 c4 c5 c6 c7
        have B2 := Lib.hid b2
        have X2 := Lib.hid x2
        have HRW : Hid (∀ W, Below w.heap.size w W → RowsAt 8 (rxR e) W W.heap.size (.slice ko kn kc) xs) := fun W hW => hK.next (rxR_steady e) hW
        have HW2 := Lib.hid hW2
        have HRK : Hid (∀ (nv : Value) (W : World), Below w.heap.size w W → NotP nv [4] W → Calls Try.prog 32 #[.slice ko kn kc, .int .i64 (z - 1), nv] W (fun e w' => e = .returned (.bool true) ∧ Below W.heap.size W w')) := fun nv W hW hn => HK xs _ nv [4] W (HRW.out W hW) hn hzs hz
        have hsz : W2.heap.size = w.heap.size + 1 := by rw [hW2]; exact Array.size_push ..
        have HNV : Hid (NotP (.slice (some ⟨w.heap.size + 1, 0, none⟩) 1 1) [4] (W2.alloc (.cells #[.int .i64 4] 3))) := by
          refine Or.inr ⟨w.heap.size + 1, rfl, ?_, by decide, ?_⟩
          · show w.heap.size + 1 < (W2.alloc _).heap.size
            have : (W2.alloc (.cells #[.int .i64 4] 3)).heap.size = W2.heap.size + 1 := Array.size_push ..
            omega
          · intro j hj
            have hx := heap_alloc_new W2 (.cells #[.int .i64 4] 3)
            rw [hsz] at hx
            have hj : j < 1 := hj
            rcases (by omega : j = 0) with rfl
            · exact boxc hx 0 _ rfl
        have b3 : Below w.heap.size w (W2.alloc (.cells #[.int .i64 4] 3)) := b2.trans (below1.mono b2.size)
        have HRK' := Lib.hid (HRK.out _ _ b3 HNV.out)
        have B3 := Lib.hid b3
        clear hK b2 x2 hW2 hkn hzd hd HK h1 h4 h5 h6 hz hzs b3 hsz
        go_enter Try.func24, Try.ntmps24
        go_wp2_with fail
        rw [← HW2.out]
        (with_reducible refine HRK'.out.mono ?_)
        rintro e5 w5 ⟨rfl, b5⟩
        have B5 := Lib.hid (B3.out.trans (b5.mono B3.out.size))
        clear b5 c0 c1 c2 c3 c4 c5 c6 c7
        go_wp2
        go_ret
        exact ⟨rfl, B5.out⟩
    · rw [if_neg k34] at ho
      by_cases k5 : xk = 5
      · subst k5
        rw [if_pos rfl] at ho
        simp only [Bool.and_eq_true, decide_eq_true_eq, List.all_eq_true] at ho
        obtain ⟨⟨⟨⟨⟨h1, h2⟩, rfl⟩, h4⟩, h5⟩, hz⟩ := ho
        obtain rfl : kn = 1 := by omega
        have hcz : xc.isz = true := decide_eq_true h1
        have hn3 : decide (((1 : Nat) : Int) = 1) = true := rfl
        obtain ⟨W2, hW2⟩ : ∃ W, W = w.alloc (.cells #[.int .i64 5, .int .u64 xc.a, .int .u64 xc.b, .int .u64 xc.c, .int .u64 xc.d, .slice ko 1 kc, .int .i64 mn, .int .i64 (-1)] 28) := ⟨_, rfl⟩
        have b2 : Below w.heap.size w W2 := by rw [hW2]; exact below1
        have x2 : W2.heap[w.heap.size]? = some (.cells #[.int .i64 5, .int .u64 xc.a, .int .u64 xc.b, .int .u64 xc.c, .int .u64 xc.d, .slice ko 1 kc, .int .i64 mn, .int .i64 (-1)] 28) := by rw [hW2]; exact heap_alloc_new _ _
        have c0 := boxc x2 0 _ rfl
        have c1 := boxc x2 1 _ rfl
        have c2 := boxc x2 2 _ rfl
        have c3 := boxc x2 3 _ rfl
        have c4 := boxc x2 4 _ rfl
        have c5 := boxc x2 5 _ rfl
        have c6 := boxc x2 6 _ rfl
        have c7 := boxc x2 7 _ rfl
        rw [hW2] at c0 c1 c2 c3 c4 c5 c6 c7
        have B2 := Lib.hid b2
        have X2 := Lib.hid x2
        have HRW : Hid (∀ W, Below w.heap.size w W → RowsAt 8 (rxR e) W W.heap.size (.slice ko 1 kc) xs) := fun W hW => hK.next (rxR_steady e) hW
        have HW2 := Lib.hid hW2
        have HBD := Lib.hid (fun W => rx_bounds mn h4 h5 W)
        have HRK : Hid (∀ (W : World), Below w.heap.size w W → Calls Try.prog 32 #[.slice ko 1 kc, .int .i64 (z - 1), .slice none 0 0] W (fun e w' => e = .returned (.bool true) ∧ Below W.heap.size W w')) := fun W hW => HK xs _ _ [] W (HRW.out W hW) (Or.inl ⟨rfl, rfl⟩) (fun x _ h => nomatch h) hz
        clear hK b2 x2 hW2 hkn hzd hd HK h1 h2 h4 h5 hz
        go_enter Try.func24, Try.ntmps24
        go_wp2_with fail
        (with_reducible refine (HBD.out _).mono ?_)
        rintro e4 w4 ⟨rfl, rfl⟩
        go_wp2_with fail
        rw [← HW2.out]
        (with_reducible refine (HRK.out _ B2.out).mono ?_)
        rintro e5 w5 ⟨rfl, b5⟩
        have B5 := Lib.hid (B2.out.trans (b5.mono B2.out.size))
        clear b5 c0 c1 c2 c3 c4 c5 c6 c7
        go_wp2
        go_ret
        exact ⟨rfl, B5.out⟩
      · rw [if_neg k5] at ho
        exact absurd ho (by simp)
theorem right_ok : ∀ (d e : Nat), d ≤ 1000 → ∀ (x : Pat) (c : List Value) (w : World), rxR e w w.heap.size c x → okR d x = true → Calls Try.prog 24 #[.agg c.toArray, .int .i64 d] w (fun e w' => e = .returned (.bool true) ∧ Below w.heap.size w w')
  | 0, _, _, _, _, _, _, h => absurd h (by simp [okR])
  | _ + 1, 0, _, _, _, _, h, _ => h.elim
  | d + 1, e + 1, hd, x, c, w, h, ho => by
    have hh : ((d : Int) + 1) - 1 = (d : Int) := by omega
    have h1 := right_okof d e ((d : Int) + 1) rfl (by omega) (fun l v nv zs w h hn hz ho => by
      rw [hh]
      exact rkids_ok d e d (right_ok d e (by omega)) l v nv zs w h hn hz ho) x c w h ho
    exact h1
set_option maxRecDepth 100000 in
theorem rx_right (e : Nat) (x : Pat) (c : List Value) (w : World) (h : rxR e w w.heap.size c x) (ho : okR 48 x = true) : Calls Try.prog 17 #[.agg c.toArray] w (fun e w' => e = .returned (.bool true) ∧ Below w.heap.size w w') := by
  obtain ⟨ko, kn, kc, rfl⟩ := rx_form h
  obtain ⟨W2, hW2⟩ : ∃ W, W = w.alloc (.cells #[.int .i64 x.k, .int .u64 x.cl.a, .int .u64 x.cl.b, .int .u64 x.cl.c, .int .u64 x.cl.d, .slice ko kn kc, .int .i64 x.mn, .int .i64 x.mx] 28) := ⟨_, rfl⟩
  have b2 : Below w.heap.size w W2 := by rw [hW2]; exact below1
  have x2 : W2.heap[w.heap.size]? = some (.cells #[.int .i64 x.k, .int .u64 x.cl.a, .int .u64 x.cl.b, .int .u64 x.cl.c, .int .u64 x.cl.d, .slice ko kn kc, .int .i64 x.mn, .int .i64 x.mx] 28) := by rw [hW2]; exact heap_alloc_new _ _
  have H : Hid (Calls Try.prog 24 #[.agg #[.int .i64 x.k, .int .u64 x.cl.a, .int .u64 x.cl.b, .int .u64 x.cl.c, .int .u64 x.cl.d, .slice ko kn kc, .int .i64 x.mn, .int .i64 x.mx], .int .i64 48] W2 (fun e w' => e = .returned (.bool true) ∧ Below W2.heap.size W2 w')) := right_ok 48 e (by omega) x _ W2 (rxR_steady e _ _ _ _ _ _ h b2 b2.size) ho
  have c0 := boxc x2 0 _ rfl
  have c1 := boxc x2 1 _ rfl
  have c2 := boxc x2 2 _ rfl
  have c3 := boxc x2 3 _ rfl
  have c4 := boxc x2 4 _ rfl
  have c5 := boxc x2 5 _ rfl
  have c6 := boxc x2 6 _ rfl
  have c7 := boxc x2 7 _ rfl
  rw [hW2] at c0 c1 c2 c3 c4 c5 c6 c7
  have B2 := Lib.hid b2
  have HW2 := Lib.hid hW2
  clear h ho b2 x2 hW2
  go_enter Try.func17, Try.ntmps17
  go_wp2_with fail
  rw [← HW2.out]
  (with_reducible refine H.out.mono ?_)
  rintro e1 w1 ⟨rfl, b1⟩
  have B5 := Lib.hid (B2.out.trans (b1.mono B2.out.size))
  clear b1 c0 c1 c2 c3 c4 c5 c6 c7
  go_wp2
  go_ret
  exact ⟨rfl, B5.out⟩
end Go.Proofs.Ytbccejlemhgioaa
