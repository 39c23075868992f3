/- codec's law: two messages that are the same, compared. -/
import Derived.Test.YtghbkieflifegaaCdL1
namespace Go.Proofs.Ytghbkieflifegaa
open Go.RowKit Go.ChangeShapes cl
theorem RowsAt.len_eq {α : Type} {k n c : Nat} {R : Rel α} {w : World} {B : Nat} {ao : Option Addr} {l : List α} (h : RowsAt k R w B (.slice ao n c) l) : n = l.length ∧ n ≤ maxLen := by
  obtain ⟨_, _, e, _, hm⟩ := h.form
  simp only [Value.slice.injEq] at e
  rw [e.2.1]; exact ⟨rfl, hm⟩
theorem neText {x y : ByteArray} (h : ¬ x = y) : ¬ x.toList = y.toList ∧ (x.toList == y.toList) = false := by
  have h1 : ¬ x.toList = y.toList := fun e => h (by
    rw [ByteArray.toList_eq, ByteArray.toList_eq] at e
    exact WideShapes.bytes_inj e)
  exact ⟨h1, by simpa using h1⟩
abbrev e0 : cd.Ent := ⟨.empty, (0, 0), 0, []⟩
set_option maxHeartbeats 25600000 in
set_option maxRecDepth 100000 in
theorem same_eq (m : cd.Msg) (c c' : List Value) (w : World) (h : msgRel w w.heap.size c m) (h' : msgRel w w.heap.size c' m) :
    Calls Try.prog 14 #[.agg c.toArray, .agg c'.toArray] w (Said true w) := by
  obtain ⟨ae, ne, ce, aa, na, ca, p1, m1, k1, p2, m2, k2, p3, m3, k3, p4, m4, k4, sa, sn, sc, rfl, h1, h2, h3, h4, h5, h6, _, _, h9⟩ := h
  obtain ⟨ae', ne', ce', aa', na', ca', p1', m1', k1', p2', m2', k2', p3', m3', k3', p4', m4', k4', sa', sn', sc', rfl, h1', h2', h3', h4', h5', h6', _, _, h9'⟩ := h'
  obtain ⟨k, f, to, g, n, e, al, dv, dc, v, c, ki, mn, mv, s, er⟩ := m
  simp only at h1 h2 h3 h4 h5 h6 h9 h1' h2' h3' h4' h5' h6' h9'
  have le := RowsAt.len_eq h1
  have le' := RowsAt.len_eq h1'
  have ls := RowsAt.len_eq h9
  have ls' := RowsAt.len_eq h9'
  obtain rfl : ne = ne' := le.1.trans le'.1.symm
  obtain rfl : sn = sn' := ls.1.trans ls'.1.symm
  obtain ⟨W2, hW2⟩ : ∃ W, W = ((w.alloc (.cells #[.int .i64 k, .int .i64 f, .int .i64 to, .int .i64 g, .int .i64 n, .slice ae ne ce, .slice aa na ca, .slice p1 m1 k1, .slice p2 m2 k2, .slice p3 m3 k3, .slice p4 m4 k4, .int .i64 ki, .string mn, .string mv, .slice sa sn sc, .int .i64 er] 33)).alloc (.cells #[.int .i64 k, .int .i64 f, .int .i64 to, .int .i64 g, .int .i64 n, .slice ae' ne ce', .slice aa' na' ca', .slice p1' m1' k1', .slice p2' m2' k2', .slice p3' m3' k3', .slice p4' m4' k4', .int .i64 ki, .string mn, .string mv, .slice sa' sn sc', .int .i64 er] 33)) := ⟨_, rfl⟩
  have b1 : Below w.heap.size w (w.alloc (.cells #[.int .i64 k, .int .i64 f, .int .i64 to, .int .i64 g, .int .i64 n, .slice ae ne ce, .slice aa na ca, .slice p1 m1 k1, .slice p2 m2 k2, .slice p3 m3 k3, .slice p4 m4 k4, .int .i64 ki, .string mn, .string mv, .slice sa sn sc, .int .i64 er] 33)) := below1
  have b2 : Below (w.alloc (.cells #[.int .i64 k, .int .i64 f, .int .i64 to, .int .i64 g, .int .i64 n, .slice ae ne ce, .slice aa na ca, .slice p1 m1 k1, .slice p2 m2 k2, .slice p3 m3 k3, .slice p4 m4 k4, .int .i64 ki, .string mn, .string mv, .slice sa sn sc, .int .i64 er] 33)).heap.size (w.alloc (.cells #[.int .i64 k, .int .i64 f, .int .i64 to, .int .i64 g, .int .i64 n, .slice ae ne ce, .slice aa na ca, .slice p1 m1 k1, .slice p2 m2 k2, .slice p3 m3 k3, .slice p4 m4 k4, .int .i64 ki, .string mn, .string mv, .slice sa sn sc, .int .i64 er] 33)) W2 := by rw [hW2]; exact below1
  have E2 := b1.trans (b2.mono b1.size)
  have x1 : W2.heap[w.heap.size]? = some (.cells #[.int .i64 k, .int .i64 f, .int .i64 to, .int .i64 g, .int .i64 n, .slice ae ne ce, .slice aa na ca, .slice p1 m1 k1, .slice p2 m2 k2, .slice p3 m3 k3, .slice p4 m4 k4, .int .i64 ki, .string mn, .string mv, .slice sa sn sc, .int .i64 er] 33) := (b2.block _ (by simp)).trans (heap_alloc_new w _)
  have x2 : W2.heap[w.heap.size + 1]? = some (.cells #[.int .i64 k, .int .i64 f, .int .i64 to, .int .i64 g, .int .i64 n, .slice ae' ne ce', .slice aa' na' ca', .slice p1' m1' k1', .slice p2' m2' k2', .slice p3' m3' k3', .slice p4' m4' k4', .int .i64 ki, .string mn, .string mv, .slice sa' sn sc', .int .i64 er] 33) := by
    have := heap_alloc_new (w.alloc (.cells #[.int .i64 k, .int .i64 f, .int .i64 to, .int .i64 g, .int .i64 n, .slice ae ne ce, .slice aa na ca, .slice p1 m1 k1, .slice p2 m2 k2, .slice p3 m3 k3, .slice p4 m4 k4, .int .i64 ki, .string mn, .string mv, .slice sa sn sc, .int .i64 er] 33)) (.cells #[.int .i64 k, .int .i64 f, .int .i64 to, .int .i64 g, .int .i64 n, .slice ae' ne ce', .slice aa' na' ca', .slice p1' m1' k1', .slice p2' m2' k2', .slice p3' m3' k3', .slice p4' m4' k4', .int .i64 ki, .string mn, .string mv, .slice sa' sn sc', .int .i64 er] 33)
    rw [World.size_alloc] at this
    rw [hW2]; exact this
  have HX : Hid (∀ W, Below W2.heap.size W2 W → W.heap[w.heap.size]? = some (.cells #[.int .i64 k, .int .i64 f, .int .i64 to, .int .i64 g, .int .i64 n, .slice ae ne ce, .slice aa na ca, .slice p1 m1 k1, .slice p2 m2 k2, .slice p3 m3 k3, .slice p4 m4 k4, .int .i64 ki, .string mn, .string mv, .slice sa sn sc, .int .i64 er] 33) ∧ W.heap[w.heap.size + 1]? = some (.cells #[.int .i64 k, .int .i64 f, .int .i64 to, .int .i64 g, .int .i64 n, .slice ae' ne ce', .slice aa' na' ca', .slice p1' m1' k1', .slice p2' m2' k2', .slice p3' m3' k3', .slice p4' m4' k4', .int .i64 ki, .string mn, .string mv, .slice sa' sn sc', .int .i64 er] 33)) := fun W hW => ⟨(hW.block _ (lt_of_block x1)).trans x1, (hW.block _ (lt_of_block x2)).trans x2⟩
  have HE2 := Lib.hid E2
  have HW2 := Lib.hid hW2
  have q1 := Lib.hid (RowsAt.next entR_steady h1 E2)
  have q2 := Lib.hid (RowsAt.next dotR_steady h2 E2)
  have q3 := Lib.hid (RowsAt.next dotR_steady h3 E2)
  have q4 := Lib.hid (RowsAt.next dotR_steady h4 E2)
  have q5 := Lib.hid (RowsAt.next dotR_steady h5 E2)
  have q6 := Lib.hid (RowsAt.next dotR_steady h6 E2)
  have q9 := Lib.hid (RowsAt.next strR_steady h9 E2)
  have r1 := Lib.hid (RowsAt.next entR_steady h1' E2)
  have r2 := Lib.hid (RowsAt.next dotR_steady h2' E2)
  have r3 := Lib.hid (RowsAt.next dotR_steady h3' E2)
  have r4 := Lib.hid (RowsAt.next dotR_steady h4' E2)
  have r5 := Lib.hid (RowsAt.next dotR_steady h5' E2)
  have r6 := Lib.hid (RowsAt.next dotR_steady h6' E2)
  have r9 := Lib.hid (RowsAt.next strR_steady h9' E2)
  have hm1 := le.2
  have hm2 := ls.2
  unfold maxLen at hm1 hm2
  have HLE : Hid (ne = e.length ∧ sn = s.length) := ⟨le.1, ls.1⟩
  clear h1 h2 h3 h4 h5 h6 h9 h1' h2' h3' h4' h5' h6' h9' le le' ls ls' hW2 b1 b2 E2 x1 x2
  have HD := Lib.hid (ldots_any al al _ _ _ q2.out r2.out)
  rw [decide_eq_true (rfl : al = al)] at HD
  go_enter Try.func14, Try.ntmps14
  go_wp2_with fail
  rw [← HW2.out]
  (with_reducible refine HD.out.mono ?_)
  rintro e w1 ⟨rfl, b1⟩
  have HB1 := Lib.hid b1
  have HC1 := Lib.hid (contexts_any dv dc dv dc _ _ _ _ _ _ _ _ _ _ _ _ _ (q3.out.next dotR_steady b1) (q4.out.next dotR_steady b1) (r3.out.next dotR_steady b1) (r4.out.next dotR_steady b1))
  rw [decide_eq_true (⟨rfl, rfl⟩ : dv = dv ∧ dc = dc)] at HC1
  have hx := HX.out _ b1
  have u7 := boxc hx.1 7 _ rfl
  have t7 := boxc hx.2 7 _ rfl
  have u8 := boxc hx.1 8 _ rfl
  have t8 := boxc hx.2 8 _ rfl
  clear hx
  clear b1 HD
  go_wp2_with fail
  (with_reducible refine HC1.out.mono ?_)
  rintro e w2 ⟨rfl, b2⟩
  have B2 := HB1.out.trans (b2.mono HB1.out.size)
  have HB2 := Lib.hid B2
  have HC2 := Lib.hid (contexts_any v c v c _ _ _ _ _ _ _ _ _ _ _ _ _ (q5.out.next dotR_steady B2) (q6.out.next dotR_steady B2) (r5.out.next dotR_steady B2) (r6.out.next dotR_steady B2))
  rw [decide_eq_true (⟨rfl, rfl⟩ : v = v ∧ c = c)] at HC2
  have hx := HX.out _ B2
  have u9 := boxc hx.1 9 _ rfl
  have t9 := boxc hx.2 9 _ rfl
  have u10 := boxc hx.1 10 _ rfl
  have t10 := boxc hx.2 10 _ rfl
  clear hx
  clear u7 u8 t7 t8 b2 B2 HC1
  go_wp2_with fail
  (with_reducible refine HC2.out.mono ?_)
  rintro e w3 ⟨rfl, b3⟩
  have B3 := HB2.out.trans (b3.mono HB2.out.size)
  have hx := HX.out _ B3
  have u14 := boxc hx.1 14 _ rfl
  have t14 := boxc hx.2 14 _ rfl
  clear hx
  clear u9 u10 t9 t10 b3 HC2
  go_wp2
  clear u14 t14
  go_loopw [108, 122] (fun i _ wr => ∃ j : Nat, i = .int .i64 j ∧ j ≤ sn ∧ Below W2.heap.size W2 wr) (fun i _ _ => sn - (intOf i).toNat)
  case atStart => exact ⟨0, rfl, by omega, B3⟩
  case round =>
    obtain ⟨j, rfl, hj, hbl⟩ := hrel
    have hx := HX.out _ hbl
    have u14 := boxc hx.1 14 _ rfl
    have t14 := boxc hx.2 14 _ rfl
    have u5 := boxc hx.1 5 _ rfl
    clear hx
    by_cases hlt : j < sn
    · have hjI : (j : Int) < (sn : Int) := by omega
      obtain ⟨ba, oa, c1, rfl, hBa, _, ⟨rfl, _⟩, hc⟩ := (q9.out.next strR_steady hbl).get HLE.out.2 hlt .empty
      obtain ⟨bb, ob, c2, rfl, hBb, _, ⟨rfl, _⟩, hc'⟩ := (r9.out.next strR_steady hbl).get HLE.out.2 hlt .empty
      have y0 : wr.cell? ⟨ba, oa + j, none⟩ = some (.string (s.getD j .empty)) := by simpa using hc 0 _ rfl
      have z0 : wr.cell? ⟨bb, ob + j, none⟩ = some (.string (s.getD j .empty)) := by simpa using hc' 0 _ rfl
      clear hc hc'
      obtain ⟨x, hx⟩ : ∃ x, x = s.getD j .empty := ⟨_, rfl⟩
      rw [← hx] at y0 z0
      clear hx
      go_wp2
      go_quiet (fail)
      go_wp2
      go_roundw
      case rel => exact ⟨j + 1, by go_num, by omega, below_drewN hbl _⟩
      case measure => simp [intOf]; omega
    · clear u14 t14
      go_wp2
      clear u5
      rename World => wo
      go_loopw [127, 184] (fun i _ wr => ∃ j : Nat, i = .int .i64 j ∧ j ≤ ne ∧ Below W2.heap.size W2 wr) (fun i _ _ => ne - (intOf i).toNat)
      case atStart => exact ⟨0, rfl, by omega, hbl⟩
      case round =>
        clear hbl hlt hj
        obtain ⟨j2, rfl, hj, hbl⟩ := hrel
        by_cases hlt : j2 < ne
        · have hjI : (j2 : Int) < (ne : Int) := by omega
          have hx := HX.out _ hbl
          have t5 := boxc hx.2 5 _ rfl
          have hq2 := lt_of_block hx.2
          clear hx
          obtain ⟨ba, oa, c1, rfl, hBa, _, ⟨lo, ln, lc, rfl, _, hL⟩, hc⟩ := (q1.out.next entR_steady hbl).get HLE.out.1 hlt e0
          obtain ⟨bb, ob, c2, rfl, hBb, _, ⟨lo', ln', lc', rfl, _, hL'⟩, hc'⟩ := (r1.out.next entR_steady hbl).get HLE.out.1 hlt e0
          obtain ⟨⟨xs, ⟨xa, xb⟩, xt, xl⟩, hxe⟩ : ∃ x, x = e.getD j2 e0 := ⟨_, rfl⟩
          rw [← hxe] at hL hL' hc hc'
          simp only at hL hL' hc hc'
          have y0 : wr.cell? ⟨ba, oa + j2 * 5, none⟩ = some (.string xs) := by simpa using hc 0 _ rfl
          have y1 := hc 1 _ rfl
          have y2 := hc 2 _ rfl
          have y3 := hc 3 _ rfl
          have y4 := hc 4 _ rfl
          have z0 : wr.cell? ⟨bb, ob + j2 * 5, none⟩ = some (.string xs) := by simpa using hc' 0 _ rfl
          have z1 := hc' 1 _ rfl
          have z2 := hc' 2 _ rfl
          have z3 := hc' 3 _ rfl
          have z4 := hc' 4 _ rfl
          obtain ⟨lq, lm⟩ := RowsAt.len_eq hL
          obtain ⟨lq', _⟩ := RowsAt.len_eq hL'
          obtain rfl : ln = ln' := lq.trans lq'.symm
          unfold maxLen at lm
          obtain ⟨W5, hW5⟩ : ∃ W, W = (wr.alloc (.cells #[.string xs, .int .i64 xa, .int .i64 xb, .int .i64 xt, .slice lo ln lc] 50)).alloc (.cells #[.string xs, .int .i64 xa, .int .i64 xb, .int .i64 xt, .slice lo' ln lc'] 50) := ⟨_, rfl⟩
          have b1 : Below wr.heap.size wr (wr.alloc (.cells #[.string xs, .int .i64 xa, .int .i64 xb, .int .i64 xt, .slice lo ln lc] 50)) := below1
          have b2 : Below (wr.alloc (.cells #[.string xs, .int .i64 xa, .int .i64 xb, .int .i64 xt, .slice lo ln lc] 50)).heap.size (wr.alloc (.cells #[.string xs, .int .i64 xa, .int .i64 xb, .int .i64 xt, .slice lo ln lc] 50)) W5 := by rw [hW5]; exact below1
          have E5 := b1.trans (b2.mono b1.size)
          have x1 := (b2.block wr.heap.size (by simp)).trans (heap_alloc_new wr (.cells #[.string xs, .int .i64 xa, .int .i64 xb, .int .i64 xt, .slice lo ln lc] 50))
          have x2 : W5.heap[wr.heap.size + 1]? = some (.cells #[.string xs, .int .i64 xa, .int .i64 xb, .int .i64 xt, .slice lo' ln lc'] 50) := by
            have := heap_alloc_new (wr.alloc (.cells #[.string xs, .int .i64 xa, .int .i64 xb, .int .i64 xt, .slice lo ln lc] 50)) (.cells #[.string xs, .int .i64 xa, .int .i64 xb, .int .i64 xt, .slice lo' ln lc'] 50)
            rw [World.size_alloc] at this
            rw [hW5]; exact this
          have HX5 : Hid (∀ W, Below W5.heap.size W5 W → W.heap[wr.heap.size]? = some (.cells #[.string xs, .int .i64 xa, .int .i64 xb, .int .i64 xt, .slice lo ln lc] 50) ∧ W.heap[wr.heap.size + 1]? = some (.cells #[.string xs, .int .i64 xa, .int .i64 xb, .int .i64 xt, .slice lo' ln lc'] 50)) := fun W hW => ⟨(hW.block _ (lt_of_block x1)).trans x1, (hW.block _ (lt_of_block x2)).trans x2⟩
          have HL := Lib.hid (hL.next lnkR_steady E5)
          have HL' := Lib.hid (hL'.next lnkR_steady E5)
          have HLQ := Lib.hid lq
          have HE5 := Lib.hid (hbl.trans (E5.mono hbl.size))
          have HW5 := Lib.hid hW5
          have hb5 : Below W5.heap.size W5 W5 := Below.refl _ _
          rw [hW5] at hb5
          have HB5 := Lib.hid hb5
          clear hc hc' hL hL' hxe lq lq' hW5 b1 b2 E5 x1 x2 hb5
          go_wp2
          clear y0 y1 y2 y3 y4 z0 z1 z2 z3 z4 t5 hq2
          generalize wr.heap.size = bx at *
          clear hbl
          go_loopw [169, 183] (fun i _ wz => ∃ j : Nat, i = .int .i64 j ∧ j ≤ ln ∧ Below W5.heap.size W5 wz) (fun i _ _ => ln - (intOf i).toNat)
          case atStart => exact ⟨0, rfl, by omega, by rw [← HW5.out]; exact Below.refl _ _⟩
          case round =>
            obtain ⟨j3, rfl, hj3, hb3⟩ := hrel
            have hx := HX5.out _ hb3
            have u4 := boxc hx.1 4 _ rfl
            have t4 := boxc hx.2 4 _ rfl
            clear hx
            by_cases hlt3 : j3 < ln
            · have hjI3 : (j3 : Int) < (ln : Int) := by omega
              obtain ⟨ba, oa, c1, rfl, hBa, _, rfl, hc⟩ := (HL.out.next lnkR_steady hb3).get HLQ.out hlt3 (0, 0, 0)
              obtain ⟨bb, ob, c2, rfl, hBb, _, rfl, hc'⟩ := (HL'.out.next lnkR_steady hb3).get HLQ.out hlt3 (0, 0, 0)
              obtain ⟨⟨x0, x1, x2⟩, hxe⟩ : ∃ x, x = xl.getD j3 (0, 0, 0) := ⟨_, rfl⟩
              rw [← hxe] at hc hc'
              simp only at hc hc'
              have y0 := hc 0 _ rfl
              have y1 := hc 1 _ rfl
              have y2 := hc 2 _ rfl
              have z0 := hc' 0 _ rfl
              have z1 := hc' 1 _ rfl
              have z2 := hc' 2 _ rfl
              rw [Nat.add_zero] at y0 z0
              clear hc hc' hxe
              go_wp2
              go_quiet (fail)
              go_wp2
              go_roundw
              case rel => exact ⟨j3 + 1, by go_num, by omega, below_drewN hb3 _⟩
              case measure => simp [intOf]; omega
            · clear u4 t4
              go_wp2
              go_roundw
              case rel => exact ⟨j2 + 1, by go_num, by omega, HE5.out.trans (hb3.mono HE5.out.size)⟩
              case measure => simp [intOf]; omega
        · go_wp2
          go_ret
          exact ⟨rfl, HE2.out.trans (hbl.mono HE2.out.size)⟩
end Go.Proofs.Ytghbkieflifegaa
