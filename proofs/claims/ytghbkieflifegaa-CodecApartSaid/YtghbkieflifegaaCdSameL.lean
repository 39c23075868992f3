/- codec's law: two messages compared whose numbers, texts and lengths are the same. -/
import Derived.Test.YtghbkieflifegaaCdSame
namespace Go.Proofs.Ytghbkieflifegaa
open Go Go.RowKit Go.ChangeShapes cl
set_option maxHeartbeats 25600000 in
set_option maxRecDepth 100000 in
theorem same_len (k f to g n ki er : Int) (mn mv : ByteArray) (e e' : List cd.Ent) (al al' dv dv' dc dc' v v' c c' : List cd.D) (s s' : List ByteArray) (ne sn : Nat) (ae : Option Addr) (ce : Nat) (aa : Option Addr) (na ca : Nat) (p1 : Option Addr) (m1 k1 : Nat) (p2 : Option Addr) (m2 k2 : Nat) (p3 : Option Addr) (m3 k3 : Nat) (p4 : Option Addr) (m4 k4 : Nat) (sa : Option Addr) (sc : Nat) (ae' : Option Addr) (ce' : Nat) (aa' : Option Addr) (na' ca' : Nat) (p1' : Option Addr) (m1' k1' : Nat) (p2' : Option Addr) (m2' k2' : Nat) (p3' : Option Addr) (m3' k3' : Nat) (p4' : Option Addr) (m4' k4' : Nat) (sa' : Option Addr) (sc' : Nat) (w : World)
    (h1 : RowsAt 5 entR w w.heap.size (.slice ae ne ce) e) (h2 : RowsAt 2 dotR w w.heap.size (.slice aa na ca) al) (h3 : RowsAt 2 dotR w w.heap.size (.slice p1 m1 k1) dv) (h4 : RowsAt 2 dotR w w.heap.size (.slice p2 m2 k2) dc) (h5 : RowsAt 2 dotR w w.heap.size (.slice p3 m3 k3) v) (h6 : RowsAt 2 dotR w w.heap.size (.slice p4 m4 k4) c) (h9 : RowsAt 1 strR w w.heap.size (.slice sa sn sc) s)
    (h1' : RowsAt 5 entR w w.heap.size (.slice ae' ne ce') e') (h2' : RowsAt 2 dotR w w.heap.size (.slice aa' na' ca') al') (h3' : RowsAt 2 dotR w w.heap.size (.slice p1' m1' k1') dv') (h4' : RowsAt 2 dotR w w.heap.size (.slice p2' m2' k2') dc') (h5' : RowsAt 2 dotR w w.heap.size (.slice p3' m3' k3') v') (h6' : RowsAt 2 dotR w w.heap.size (.slice p4' m4' k4') c') (h9' : RowsAt 1 strR w w.heap.size (.slice sa' sn sc') s')
    (R : Bool) (HF : Hid (¬ (al = al' ∧ (dv = dv' ∧ dc = dc') ∧ (v = v' ∧ c = c') ∧ s = s' ∧ e = e') → R = false)) (hne : ¬ (al = al' ∧ (dv = dv' ∧ dc = dc') ∧ (v = v' ∧ c = c') ∧ s = s' ∧ e = e')) :
    Calls Try.prog 14 #[.agg #[.int .i64 k, .int .i64 f, .int .i64 to, .int .i64 g, .int .i64 n, .slice ae ne ce, .slice aa na ca, .slice p1 m1 k1, .slice p2 m2 k2, .slice p3 m3 k3, .slice p4 m4 k4, .int .i64 ki, .string mn, .string mv, .slice sa sn sc, .int .i64 er], .agg #[.int .i64 k, .int .i64 f, .int .i64 to, .int .i64 g, .int .i64 n, .slice ae' ne ce', .slice aa' na' ca', .slice p1' m1' k1', .slice p2' m2' k2', .slice p3' m3' k3', .slice p4' m4' k4', .int .i64 ki, .string mn, .string mv, .slice sa' sn sc', .int .i64 er]] w (Said R w) := by
  have HNE := Lib.hid hne
  have le := RowsAt.len_eq h1
  have le' := RowsAt.len_eq h1'
  have ls := RowsAt.len_eq h9
  have ls' := RowsAt.len_eq h9'
  obtain ⟨W2, hW2⟩ : ∃ W, W = ((w.alloc (.cells #[.int .i64 k, .int .i64 f, .int .i64 to, .int .i64 g, .int .i64 n, .slice ae ne ce, .slice aa na ca, .slice p1 m1 k1, .slice p2 m2 k2, .slice p3 m3 k3, .slice p4 m4 k4, .int .i64 ki, .string mn, .string mv, .slice sa sn sc, .int .i64 er] 33)).alloc (.cells #[.int .i64 k, .int .i64 f, .int .i64 to, .int .i64 g, .int .i64 n, .slice ae' ne ce', .slice aa' na' ca', .slice p1' m1' k1', .slice p2' m2' k2', .slice p3' m3' k3', .slice p4' m4' k4', .int .i64 ki, .string mn, .string mv, .slice sa' sn sc', .int .i64 er] 33)) := ⟨_, rfl⟩
  have b1 : Below w.heap.size w (w.alloc (.cells #[.int .i64 k, .int .i64 f, .int .i64 to, .int .i64 g, .int .i64 n, .slice ae ne ce, .slice aa na ca, .slice p1 m1 k1, .slice p2 m2 k2, .slice p3 m3 k3, .slice p4 m4 k4, .int .i64 ki, .string mn, .string mv, .slice sa sn sc, .int .i64 er] 33)) := below1
  have b2 : Below (w.alloc (.cells #[.int .i64 k, .int .i64 f, .int .i64 to, .int .i64 g, .int .i64 n, .slice ae ne ce, .slice aa na ca, .slice p1 m1 k1, .slice p2 m2 k2, .slice p3 m3 k3, .slice p4 m4 k4, .int .i64 ki, .string mn, .string mv, .slice sa sn sc, .int .i64 er] 33)).heap.size (w.alloc (.cells #[.int .i64 k, .int .i64 f, .int .i64 to, .int .i64 g, .int .i64 n, .slice ae ne ce, .slice aa na ca, .slice p1 m1 k1, .slice p2 m2 k2, .slice p3 m3 k3, .slice p4 m4 k4, .int .i64 ki, .string mn, .string mv, .slice sa sn sc, .int .i64 er] 33)) W2 := by rw [hW2]; exact below1
  have E2 := b1.trans (b2.mono b1.size)
  have x1 : W2.heap[w.heap.size]? = some (.cells #[.int .i64 k, .int .i64 f, .int .i64 to, .int .i64 g, .int .i64 n, .slice ae ne ce, .slice aa na ca, .slice p1 m1 k1, .slice p2 m2 k2, .slice p3 m3 k3, .slice p4 m4 k4, .int .i64 ki, .string mn, .string mv, .slice sa sn sc, .int .i64 er] 33) := (b2.block _ (by simp)).trans (heap_alloc_new w _)
  have x2 : W2.heap[w.heap.size + 1]? = some (.cells #[.int .i64 k, .int .i64 f, .int .i64 to, .int .i64 g, .int .i64 n, .slice ae' ne ce', .slice aa' na' ca', .slice p1' m1' k1', .slice p2' m2' k2', .slice p3' m3' k3', .slice p4' m4' k4', .int .i64 ki, .string mn, .string mv, .slice sa' sn sc', .int .i64 er] 33) := by
    have := heap_alloc_new (w.alloc (.cells #[.int .i64 k, .int .i64 f, .int .i64 to, .int .i64 g, .int .i64 n, .slice ae ne ce, .slice aa na ca, .slice p1 m1 k1, .slice p2 m2 k2, .slice p3 m3 k3, .slice p4 m4 k4, .int .i64 ki, .string mn, .string mv, .slice sa sn sc, .int .i64 er] 33)) (.cells #[.int .i64 k, .int .i64 f, .int .i64 to, .int .i64 g, .int .i64 n, .slice ae' ne ce', .slice aa' na' ca', .slice p1' m1' k1', .slice p2' m2' k2', .slice p3' m3' k3', .slice p4' m4' k4', .int .i64 ki, .string mn, .string mv, .slice sa' sn sc', .int .i64 er] 33)
    rw [World.size_alloc] at this
    rw [hW2]; exact this
  have HX : Hid (∀ W, Below W2.heap.size W2 W → W.heap[w.heap.size]? = some (.cells #[.int .i64 k, .int .i64 f, .int .i64 to, .int .i64 g, .int .i64 n, .slice ae ne ce, .slice aa na ca, .slice p1 m1 k1, .slice p2 m2 k2, .slice p3 m3 k3, .slice p4 m4 k4, .int .i64 ki, .string mn, .string mv, .slice sa sn sc, .int .i64 er] 33) ∧ W.heap[w.heap.size + 1]? = some (.cells #[.int .i64 k, .int .i64 f, .int .i64 to, .int .i64 g, .int .i64 n, .slice ae' ne ce', .slice aa' na' ca', .slice p1' m1' k1', .slice p2' m2' k2', .slice p3' m3' k3', .slice p4' m4' k4', .int .i64 ki, .string mn, .string mv, .slice sa' sn sc', .int .i64 er] 33)) := fun W hW => ⟨(hW.block _ (lt_of_block x1)).trans x1, (hW.block _ (lt_of_block x2)).trans x2⟩
  have HE2 := Lib.hid E2
  have HW2 := Lib.hid hW2
  have q1 := Lib.hid (RowsAt.next entR_steady h1 E2)
  have r1 := Lib.hid (RowsAt.next entR_steady h1' E2)
  have q2 := Lib.hid (RowsAt.next dotR_steady h2 E2)
  have r2 := Lib.hid (RowsAt.next dotR_steady h2' E2)
  have q3 := Lib.hid (RowsAt.next dotR_steady h3 E2)
  have r3 := Lib.hid (RowsAt.next dotR_steady h3' E2)
  have q4 := Lib.hid (RowsAt.next dotR_steady h4 E2)
  have r4 := Lib.hid (RowsAt.next dotR_steady h4' E2)
  have q5 := Lib.hid (RowsAt.next dotR_steady h5 E2)
  have r5 := Lib.hid (RowsAt.next dotR_steady h5' E2)
  have q6 := Lib.hid (RowsAt.next dotR_steady h6 E2)
  have r6 := Lib.hid (RowsAt.next dotR_steady h6' E2)
  have q9 := Lib.hid (RowsAt.next strR_steady h9 E2)
  have r9 := Lib.hid (RowsAt.next strR_steady h9' E2)
  have hm1 := le.2
  have hm2 := ls.2
  unfold maxLen at hm1 hm2
  have HLE : Hid (ne = e.length ∧ ne = e'.length ∧ sn = s.length ∧ sn = s'.length) := ⟨le.1, le'.1, ls.1, ls'.1⟩
  clear hne h1 h2 h3 h4 h5 h6 h9 h1' h2' h3' h4' h5' h6' h9' le le' ls ls' hW2 b1 b2 E2 x1 x2
  have HD := Lib.hid (ldots_any al al' _ _ _ q2.out r2.out)
  go_enter Try.func14, Try.ntmps14
  go_wp2_with fail
  rw [← HW2.out]
  (with_reducible refine HD.out.mono ?_)
  rintro e w1 ⟨rfl, b1⟩
  by_cases cal : al = al'
  rotate_left
  · have HE : Hid (R = false) := HF.out (fun h => cal h.1)
    rw [decide_eq_false cal]
    go_wp2
    go_ret
    rw [HE.out]
    exact ⟨rfl, HE2.out.trans (b1.mono HE2.out.size)⟩
  rw [decide_eq_true cal]
  have HCal := Lib.hid cal
  clear cal
  have HB1 := Lib.hid b1
  have HK1 := Lib.hid (contexts_any dv dc dv' dc' _ _ _ _ _ _ _ _ _ _ _ _ _ (q3.out.next dotR_steady b1) (q4.out.next dotR_steady b1) (r3.out.next dotR_steady b1) (r4.out.next dotR_steady b1))
  have hx := HX.out _ b1
  have u7 := boxc hx.1 7 _ rfl
  have t7 := boxc hx.2 7 _ rfl
  have u8 := boxc hx.1 8 _ rfl
  have t8 := boxc hx.2 8 _ rfl
  clear hx
  clear b1 HD
  go_wp2_with fail
  (with_reducible refine HK1.out.mono ?_)
  rintro e w2 ⟨rfl, b2⟩
  have B2 := HB1.out.trans (b2.mono HB1.out.size)
  by_cases cdv : dv = dv' ∧ dc = dc'
  rotate_left
  · have HE : Hid (R = false) := HF.out (fun h => cdv h.2.1)
    rw [decide_eq_false cdv]
    go_wp2
    go_ret
    rw [HE.out]
    exact ⟨rfl, HE2.out.trans (B2.mono HE2.out.size)⟩
  rw [decide_eq_true cdv]
  have HCdv := Lib.hid cdv
  clear cdv
  have HB2 := Lib.hid B2
  have HK2 := Lib.hid (contexts_any v c v' c' _ _ _ _ _ _ _ _ _ _ _ _ _ (q5.out.next dotR_steady B2) (q6.out.next dotR_steady B2) (r5.out.next dotR_steady B2) (r6.out.next dotR_steady B2))
  have hx := HX.out _ B2
  have u9 := boxc hx.1 9 _ rfl
  have t9 := boxc hx.2 9 _ rfl
  have u10 := boxc hx.1 10 _ rfl
  have t10 := boxc hx.2 10 _ rfl
  clear hx
  clear u7 u8 t7 t8 b2 B2 HK1
  go_wp2_with fail
  (with_reducible refine HK2.out.mono ?_)
  rintro e w3 ⟨rfl, b3⟩
  have B3 := HB2.out.trans (b3.mono HB2.out.size)
  by_cases cv : v = v' ∧ c = c'
  rotate_left
  · have HE : Hid (R = false) := HF.out (fun h => cv h.2.2.1)
    rw [decide_eq_false cv]
    go_wp2
    go_ret
    rw [HE.out]
    exact ⟨rfl, HE2.out.trans (B3.mono HE2.out.size)⟩
  rw [decide_eq_true cv]
  have HCv := Lib.hid cv
  clear cv
  have hx := HX.out _ B3
  have u14 := boxc hx.1 14 _ rfl
  have t14 := boxc hx.2 14 _ rfl
  clear hx
  clear u9 u10 t9 t10 b3 HK2
  as_aux_lemma =>
    go_wp2
    clear u14 t14
    go_loopw [108, 122] (fun i _ wr => ∃ j : Nat, i = .int .i64 j ∧ j ≤ sn ∧ Hid (s.take j = s'.take j) ∧ Below W2.heap.size W2 wr) (fun i _ _ => sn - (intOf i).toNat)
    case atStart => exact ⟨0, rfl, by omega, rfl, B3⟩
    case round =>
      obtain ⟨j, rfl, hj, HTk, hbl⟩ := hrel
      have hx := HX.out _ hbl
      have u14 := boxc hx.1 14 _ rfl
      have t14 := boxc hx.2 14 _ rfl
      have u5 := boxc hx.1 5 _ rfl
      clear hx
      by_cases hlt : j < sn
      · have hjI : (j : Int) < (sn : Int) := by omega
        obtain ⟨ba, oa, c1, rfl, hBa, _, ⟨rfl, _⟩, hc⟩ := (q9.out.next strR_steady hbl).get HLE.out.2.2.1 hlt .empty
        obtain ⟨bb, ob, c2, rfl, hBb, _, ⟨rfl, _⟩, hc'⟩ := (r9.out.next strR_steady hbl).get HLE.out.2.2.2 hlt .empty
        have y0 : wr.cell? ⟨ba, oa + j, none⟩ = some (.string (s.getD j .empty)) := by simpa using hc 0 _ rfl
        have z0 : wr.cell? ⟨bb, ob + j, none⟩ = some (.string (s'.getD j .empty)) := by simpa using hc' 0 _ rfl
        clear hc hc'
        by_cases hse : s.getD j .empty = s'.getD j .empty
        · have HT' : Hid (s.take (j + 1) = s'.take (j + 1)) := take_eq .empty (by rw [← HLE.out.2.2.1, ← HLE.out.2.2.2]) (by rw [← HLE.out.2.2.1]; exact hlt) HTk.out hse
          rw [← hse] at z0
          obtain ⟨x, hx⟩ : ∃ x, x = s.getD j .empty := ⟨_, rfl⟩
          rw [← hx] at y0 z0
          clear hx hse
          go_wp2
          go_quiet (fail)
          go_wp2
          go_roundw
          case rel => exact ⟨j + 1, by go_num, by omega, HT', below_drewN hbl _⟩
          case measure => simp [intOf]; omega
        · have HE : Hid (R = false) := HF.out (fun h => hse (by rw [h.2.2.2.1]))
          obtain ⟨x, hx⟩ : ∃ x, x = s.getD j .empty := ⟨_, rfl⟩
          obtain ⟨y, hy⟩ : ∃ x, x = s'.getD j .empty := ⟨_, rfl⟩
          rw [← hx] at y0 hse
          rw [← hy] at z0 hse
          obtain ⟨g1, g2⟩ := neText hse
          clear hx hy
          go_wp2
          go_quiet (fail)
          go_wp2
          go_ret
          rw [HE.out]
          exact ⟨rfl, HE2.out.trans ((below_drewN hbl _).mono HE2.out.size)⟩
      · have HS : Hid (s = s') := by
          have := HTk.out
          rwa [List.take_of_length_le (by rw [← HLE.out.2.2.1]; omega), List.take_of_length_le (by rw [← HLE.out.2.2.2]; omega)] at this
        clear u14 t14
        as_aux_lemma =>
          go_wp2
          clear u5
          rename World => wo
          go_loopw [127, 184] (fun i _ wr => ∃ j : Nat, i = .int .i64 j ∧ j ≤ ne ∧ Hid (e.take j = e'.take j) ∧ Below W2.heap.size W2 wr) (fun i _ _ => ne - (intOf i).toNat)
          case atStart => exact ⟨0, rfl, by omega, rfl, hbl⟩
          case round =>
            clear hbl hlt hj
            obtain ⟨j2, rfl, hj, HTE, hbl⟩ := hrel
            by_cases hlt : j2 < ne
            · have hjI : (j2 : Int) < (ne : Int) := by omega
              have hx := HX.out _ hbl
              have t5 := boxc hx.2 5 _ rfl
              have hq2 := lt_of_block hx.2
              clear hx
              obtain ⟨ba, oa, c1, rfl, hBa, _, ⟨lo, ln, lc, rfl, _, hL⟩, hc⟩ := (q1.out.next entR_steady hbl).get HLE.out.1 hlt e0
              obtain ⟨bb, ob, c2, rfl, hBb, _, ⟨lo', lm, lc', rfl, _, hL'⟩, hc'⟩ := (r1.out.next entR_steady hbl).get HLE.out.2.1 hlt e0
              obtain ⟨⟨xs, ⟨xa, xb⟩, xt, xl⟩, hxe⟩ : ∃ x, x = e.getD j2 e0 := ⟨_, rfl⟩
              obtain ⟨⟨ys, ⟨ya, yb⟩, yt, yl⟩, hye⟩ : ∃ x, x = e'.getD j2 e0 := ⟨_, rfl⟩
              rw [← hxe] at hL hc
              rw [← hye] at hL' hc'
              have HEQ : Hid (e = e' → xs = ys ∧ xa = ya ∧ xb = yb ∧ xt = yt ∧ xl = yl) := fun h => by
                rw [h, ← hye] at hxe
                simp only [cd.Ent.mk.injEq, Prod.mk.injEq] at hxe
                exact ⟨hxe.1, hxe.2.1.1, hxe.2.1.2, hxe.2.2.1, hxe.2.2.2⟩
              have HTK : Hid (xs = ys ∧ xa = ya ∧ xb = yb ∧ xt = yt ∧ xl = yl → e.take (j2 + 1) = e'.take (j2 + 1)) := fun h => take_eq e0 (by rw [← HLE.out.1, ← HLE.out.2.1]) (by rw [← HLE.out.1]; exact hlt) HTE.out (by
                obtain ⟨a1, a2, a3, a4, a5⟩ := h
                rw [← hxe, ← hye, a1, a2, a3, a4, a5])
              simp only at hL hL' hc hc'
              have y0 : wr.cell? ⟨ba, oa + j2 * 5, none⟩ = some (.string xs) := by simpa using hc 0 _ rfl
              have y1 := hc 1 _ rfl
              have y2 := hc 2 _ rfl
              have y3 := hc 3 _ rfl
              have y4 := hc 4 _ rfl
              have z0 : wr.cell? ⟨bb, ob + j2 * 5, none⟩ = some (.string ys) := by simpa using hc' 0 _ rfl
              have z1 := hc' 1 _ rfl
              have z2 := hc' 2 _ rfl
              have z3 := hc' 3 _ rfl
              have z4 := hc' 4 _ rfl
              obtain ⟨lq, lmm⟩ := RowsAt.len_eq hL
              obtain ⟨lq', _⟩ := RowsAt.len_eq hL'
              unfold maxLen at lmm
              have HL0 := Lib.hid hL
              have HL0' := Lib.hid hL'
              have HLN := Lib.hid lq
              have HLN' := Lib.hid lq'
              clear hc hc' hL hL' hxe hye lq lq'
              by_cases g1 : xs = ys
              rotate_left
              · have HE : Hid (R = false) := HF.out (fun h => g1 (HEQ.out h.2.2.2.2).1)
                have hB5 : Below W2.heap.size W2 ((wr.alloc (.cells #[.string xs, .int .i64 xa, .int .i64 xb, .int .i64 xt, .slice lo ln lc] 50)).alloc (.cells #[.string ys, .int .i64 ya, .int .i64 yb, .int .i64 yt, .slice lo' lm lc'] 50)) := hbl.trans ((below1.trans (below1.mono (by simp))).mono hbl.size)
                obtain ⟨d1, d2⟩ := neText g1
                clear HL0 HL0'
                go_wp2
                go_ret
                rw [HE.out]
                exact ⟨rfl, HE2.out.trans (hB5.mono HE2.out.size)⟩
              subst g1
              by_cases ga : xa = ya
              rotate_left
              · have HE : Hid (R = false) := HF.out (fun h => ga (HEQ.out h.2.2.2.2).2.1)
                have hB5 : Below W2.heap.size W2 ((wr.alloc (.cells #[.string xs, .int .i64 xa, .int .i64 xb, .int .i64 xt, .slice lo ln lc] 50)).alloc (.cells #[.string xs, .int .i64 ya, .int .i64 yb, .int .i64 yt, .slice lo' lm lc'] 50)) := hbl.trans ((below1.trans (below1.mono (by simp))).mono hbl.size)
                have d1 : (xa == ya) = false := beq_eq_false_iff_ne.2 ga
                clear HL0 HL0'
                go_wp2
                go_ret
                rw [HE.out]
                exact ⟨rfl, HE2.out.trans (hB5.mono HE2.out.size)⟩
              subst ga
              by_cases gb : xb = yb
              rotate_left
              · have HE : Hid (R = false) := HF.out (fun h => gb (HEQ.out h.2.2.2.2).2.2.1)
                have hB5 : Below W2.heap.size W2 ((wr.alloc (.cells #[.string xs, .int .i64 xa, .int .i64 xb, .int .i64 xt, .slice lo ln lc] 50)).alloc (.cells #[.string xs, .int .i64 xa, .int .i64 yb, .int .i64 yt, .slice lo' lm lc'] 50)) := hbl.trans ((below1.trans (below1.mono (by simp))).mono hbl.size)
                have d1 : (xb == yb) = false := beq_eq_false_iff_ne.2 gb
                clear HL0 HL0'
                go_wp2
                go_ret
                rw [HE.out]
                exact ⟨rfl, HE2.out.trans (hB5.mono HE2.out.size)⟩
              subst gb
              by_cases gt : xt = yt
              rotate_left
              · have HE : Hid (R = false) := HF.out (fun h => gt (HEQ.out h.2.2.2.2).2.2.2.1)
                have hB5 : Below W2.heap.size W2 ((wr.alloc (.cells #[.string xs, .int .i64 xa, .int .i64 xb, .int .i64 xt, .slice lo ln lc] 50)).alloc (.cells #[.string xs, .int .i64 xa, .int .i64 xb, .int .i64 yt, .slice lo' lm lc'] 50)) := hbl.trans ((below1.trans (below1.mono (by simp))).mono hbl.size)
                have d1 : (xt == yt) = false := beq_eq_false_iff_ne.2 gt
                clear HL0 HL0'
                go_wp2
                go_ret
                rw [HE.out]
                exact ⟨rfl, HE2.out.trans (hB5.mono HE2.out.size)⟩
              subst gt
              by_cases gl : ln = lm
              rotate_left
              · have HE : Hid (R = false) := HF.out (fun h => gl (by rw [HLN.out, HLN'.out, (HEQ.out h.2.2.2.2).2.2.2.2]))
                have hB5 : Below W2.heap.size W2 ((wr.alloc (.cells #[.string xs, .int .i64 xa, .int .i64 xb, .int .i64 xt, .slice lo ln lc] 50)).alloc (.cells #[.string xs, .int .i64 xa, .int .i64 xb, .int .i64 xt, .slice lo' lm lc'] 50)) := hbl.trans ((below1.trans (below1.mono (by simp))).mono hbl.size)
                have d1 : ((ln : Int) == (lm : Int)) = false := by simp; omega
                have d2 : ((ln : Int) != (lm : Int)) = true := by simp; omega
                clear HL0 HL0'
                go_wp2
                go_ret
                rw [HE.out]
                exact ⟨rfl, HE2.out.trans (hB5.mono HE2.out.size)⟩
              subst gl
              obtain ⟨W5, hW5⟩ : ∃ W, W = (wr.alloc (.cells #[.string xs, .int .i64 xa, .int .i64 xb, .int .i64 xt, .slice lo ln lc] 50)).alloc (.cells #[.string xs, .int .i64 xa, .int .i64 xb, .int .i64 xt, .slice lo' ln lc'] 50) := ⟨_, rfl⟩
              have b1 : Below wr.heap.size wr (wr.alloc (.cells #[.string xs, .int .i64 xa, .int .i64 xb, .int .i64 xt, .slice lo ln lc] 50)) := below1
              have b2 : Below (wr.alloc (.cells #[.string xs, .int .i64 xa, .int .i64 xb, .int .i64 xt, .slice lo ln lc] 50)).heap.size (wr.alloc (.cells #[.string xs, .int .i64 xa, .int .i64 xb, .int .i64 xt, .slice lo ln lc] 50)) W5 := by rw [hW5]; exact below1
              have E5 := b1.trans (b2.mono b1.size)
              have x1 := (b2.block wr.heap.size (by simp)).trans (heap_alloc_new wr (.cells #[.string xs, .int .i64 xa, .int .i64 xb, .int .i64 xt, .slice lo ln lc] 50))
              have x2 : W5.heap[wr.heap.size + 1]? = some (.cells #[.string xs, .int .i64 xa, .int .i64 xb, .int .i64 xt, .slice lo' ln lc'] 50) := by
                have := heap_alloc_new (wr.alloc (.cells #[.string xs, .int .i64 xa, .int .i64 xb, .int .i64 xt, .slice lo ln lc] 50)) (.cells #[.string xs, .int .i64 xa, .int .i64 xb, .int .i64 xt, .slice lo' ln lc'] 50)
                rw [World.size_alloc] at this
                rw [hW5]; exact this
              have HX5 : Hid (∀ W, Below W5.heap.size W5 W → W.heap[wr.heap.size]? = some (.cells #[.string xs, .int .i64 xa, .int .i64 xb, .int .i64 xt, .slice lo ln lc] 50) ∧ W.heap[wr.heap.size + 1]? = some (.cells #[.string xs, .int .i64 xa, .int .i64 xb, .int .i64 xt, .slice lo' ln lc'] 50)) := fun W hW => ⟨(hW.block _ (lt_of_block x1)).trans x1, (hW.block _ (lt_of_block x2)).trans x2⟩
              have HL := Lib.hid (HL0.out.next lnkR_steady E5)
              have HL' := Lib.hid (HL0'.out.next lnkR_steady E5)
              have HE5 := Lib.hid (hbl.trans (E5.mono hbl.size))
              have HW5 := Lib.hid hW5
              clear hW5 b1 b2 E5 x1 x2 HL0 HL0'
              go_wp2
              clear y0 y1 y2 y3 y4 z0 z1 z2 z3 z4 t5 hq2
              generalize wr.heap.size = bx at *
              clear hbl
              go_loopw [169, 183] (fun i _ wz => ∃ j : Nat, i = .int .i64 j ∧ j ≤ ln ∧ Hid (xl.take j = yl.take j) ∧ Below W5.heap.size W5 wz) (fun i _ _ => ln - (intOf i).toNat)
              case atStart => exact ⟨0, rfl, by omega, rfl, by rw [← HW5.out]; exact Below.refl _ _⟩
              case round =>
                obtain ⟨j3, rfl, hj3, HTL, hb3⟩ := hrel
                have hx := HX5.out _ hb3
                have u4 := boxc hx.1 4 _ rfl
                have t4 := boxc hx.2 4 _ rfl
                clear hx
                by_cases hlt3 : j3 < ln
                · have hjI3 : (j3 : Int) < (ln : Int) := by omega
                  obtain ⟨ba, oa, c1, rfl, hBa, _, rfl, hc⟩ := (HL.out.next lnkR_steady hb3).get HLN.out hlt3 (0, 0, 0)
                  obtain ⟨bb, ob, c2, rfl, hBb, _, rfl, hc'⟩ := (HL'.out.next lnkR_steady hb3).get HLN'.out hlt3 (0, 0, 0)
                  have y0 := hc 0 _ rfl
                  have y1 := hc 1 _ rfl
                  have y2 := hc 2 _ rfl
                  have z0 := hc' 0 _ rfl
                  have z1 := hc' 1 _ rfl
                  have z2 := hc' 2 _ rfl
                  rw [Nat.add_zero] at y0 z0
                  clear hc hc'
                  by_cases hle : xl.getD j3 (0, 0, 0) = yl.getD j3 (0, 0, 0)
                  · have HT' : Hid (xl.take (j3 + 1) = yl.take (j3 + 1)) := take_eq (0, 0, 0) (by rw [← HLN.out, ← HLN'.out]) (by rw [← HLN.out]; exact hlt3) HTL.out hle
                    rw [← hle] at z0 z1 z2
                    obtain ⟨⟨x0, x1, x2⟩, hxe⟩ : ∃ x, x = xl.getD j3 (0, 0, 0) := ⟨_, rfl⟩
                    rw [← hxe] at y0 y1 y2 z0 z1 z2
                    simp only at y0 y1 y2 z0 z1 z2
                    clear hxe hle
                    go_wp2
                    go_quiet (fail)
                    go_wp2
                    go_roundw
                    case rel => exact ⟨j3 + 1, by go_num, by omega, HT', below_drewN hb3 _⟩
                    case measure => simp [intOf]; omega
                  · have HE : Hid (R = false) := HF.out (fun h => hle (by rw [(HEQ.out h.2.2.2.2).2.2.2.2]))
                    obtain ⟨⟨x0, x1, x2⟩, hxe⟩ : ∃ x, x = xl.getD j3 (0, 0, 0) := ⟨_, rfl⟩
                    obtain ⟨⟨v0, v1, v2⟩, hye⟩ : ∃ x, x = yl.getD j3 (0, 0, 0) := ⟨_, rfl⟩
                    rw [← hxe] at y0 y1 y2 hle
                    rw [← hye] at z0 z1 z2 hle
                    simp only at y0 y1 y2 z0 z1 z2
                    have hB3 := HE2.out.trans ((HE5.out.trans ((below_drewN hb3 1).mono HE5.out.size)).mono HE2.out.size)
                    clear hxe hye
                    by_cases l0 : x0 = v0
                    · subst l0
                      by_cases l1 : x1 = v1
                      · subst l1
                        have l2 : ¬ x2 = v2 := fun h => hle (by rw [h])
                        have l2b : (x2 == v2) = false := beq_eq_false_iff_ne.2 l2
                        go_wp2
                        go_quiet (fail)
                        go_wp2
                        go_ret
                        rw [HE.out]
                        exact ⟨rfl, HE2.out.trans ((HE5.out.trans ((below_drewN hb3 _).mono HE5.out.size)).mono HE2.out.size)⟩
                      · have l2b : (x1 == v1) = false := beq_eq_false_iff_ne.2 l1
                        go_wp2
                        go_quiet (fail)
                        go_wp2
                        go_ret
                        rw [HE.out]
                        exact ⟨rfl, HE2.out.trans ((HE5.out.trans ((below_drewN hb3 _).mono HE5.out.size)).mono HE2.out.size)⟩
                    · have l2b : (x0 == v0) = false := beq_eq_false_iff_ne.2 l0
                      go_wp2
                      go_quiet (fail)
                      go_wp2
                      go_ret
                      rw [HE.out]
                      exact ⟨rfl, HE2.out.trans ((HE5.out.trans ((below_drewN hb3 _).mono HE5.out.size)).mono HE2.out.size)⟩
                · have HLL : Hid (xl = yl) := by
                    have := HTL.out
                    rwa [List.take_of_length_le (by rw [← HLN.out]; omega), List.take_of_length_le (by rw [← HLN'.out]; omega)] at this
                  have HT2 := Lib.hid (HTK.out (by first | exact ⟨rfl, rfl, rfl, rfl, HLL.out⟩ | exact ⟨trivial, trivial, trivial, trivial, HLL.out⟩ | simpa using HLL.out))
                  clear u4 t4
                  go_wp2
                  go_roundw
                  case rel => exact ⟨j2 + 1, by go_num, by omega, HT2, HE5.out.trans (hb3.mono HE5.out.size)⟩
                  case measure => simp [intOf]; omega
            · have HEE : e = e' := by
                have := HTE.out
                rwa [List.take_of_length_le (by rw [← HLE.out.1]; omega), List.take_of_length_le (by rw [← HLE.out.2.1]; omega)] at this
              exact (HNE.out ⟨HCal.out, HCdv.out, HCv.out, HS.out, HEE⟩).elim
end Go.Proofs.Ytghbkieflifegaa
