/- codec's law: far ends. -/
import Derived.Test.YtghbkieflifegaaCdL1
namespace Go.Proofs.Ytghbkieflifegaa
open Go.RowKit Go.ChangeShapes cl
def Ends (w : World) (e : Ending) (w' : World) : Prop := (∃ r, e = .returned (.bool r)) ∧ Below w.heap.size w w'
theorem RowsAt.lenq {α : Type} {k n c : Nat} {R : Rel α} {w : World} {B : Nat} {ao : Option Addr} {l : List α} (h : RowsAt k R w B (.slice ao n c) l) : n = l.length ∧ n ≤ maxLen := by
  obtain ⟨_, _, e, _, hm⟩ := h.form
  simp only [Value.slice.injEq] at e
  rw [e.2.1]; exact ⟨rfl, hm⟩
set_option maxHeartbeats 25600000 in
set_option maxRecDepth 100000 in
theorem far_any (m : cd.Msg) (c : List Value) (w : World) (h : msgRel w w.heap.size c m) : Calls Try.prog 8 #[.agg c.toArray] w (Ends w) := by
  obtain ⟨ae, ne, ce, aa, na, ca, p1, m1, k1, p2, m2, k2, p3, m3, k3, p4, m4, k4, sa, sn, sc, rfl, h1, h2, h3, h4, h5, h6, _, _, h9⟩ := h
  obtain ⟨k, f, to, g, n, e, al, dv, dc, v, c, ki, mn, mv, s, er⟩ := m
  simp only at h1 h2 h3 h4 h5 h6 h9
  have hb1 : Below w.heap.size w (w.alloc (.cells #[.int .i64 k, .int .i64 f, .int .i64 to, .int .i64 g, .int .i64 n, .slice ae ne ce, .slice aa na ca, .slice p1 m1 k1, .slice p2 m2 k2, .slice p3 m3 k3, .slice p4 m4 k4, .int .i64 ki, .string mn, .string mv, .slice sa sn sc, .int .i64 er] 33)) := below1
  by_cases q0 : (100 : Int) < (sn : Int)
  · clear h1 h2 h3 h4 h5 h6 h9
    go_enter Try.func8, Try.ntmps8
    go_wp2
    go_ret
    exact ⟨⟨_, rfl⟩, hb1⟩
  by_cases q1 : (60 : Int) < (ne : Int)
  · clear h1 h2 h3 h4 h5 h6 h9
    go_enter Try.func8, Try.ntmps8
    go_wp2
    go_ret
    exact ⟨⟨_, rfl⟩, hb1⟩
  by_cases q2 : (200 : Int) < wrap64 ((na : Int) + (m3 : Int))
  · clear h1 h2 h3 h4 h5 h6 h9
    go_enter Try.func8, Try.ntmps8
    go_wp2
    go_ret
    exact ⟨⟨_, rfl⟩, hb1⟩
  by_cases q3 : (200 : Int) < wrap64 ((m4 : Int) + (m1 : Int))
  · clear h1 h2 h3 h4 h5 h6 h9
    go_enter Try.func8, Try.ntmps8
    go_wp2
    go_ret
    exact ⟨⟨_, rfl⟩, hb1⟩
  by_cases q4 : (200 : Int) < (m2 : Int)
  · clear h1 h2 h3 h4 h5 h6 h9
    go_enter Try.func8, Try.ntmps8
    go_wp2
    go_ret
    exact ⟨⟨_, rfl⟩, hb1⟩
  by_cases q5 : (9000 : Int) < wrap64 ((mn.size : Int) + (mv.size : Int))
  · clear h1 h2 h3 h4 h5 h6 h9
    go_enter Try.func8, Try.ntmps8
    go_wp2
    go_ret
    exact ⟨⟨_, rfl⟩, hb1⟩
  obtain ⟨W2, hW2⟩ : ∃ W, W = (w.alloc (.cells #[.int .i64 k, .int .i64 f, .int .i64 to, .int .i64 g, .int .i64 n, .slice ae ne ce, .slice aa na ca, .slice p1 m1 k1, .slice p2 m2 k2, .slice p3 m3 k3, .slice p4 m4 k4, .int .i64 ki, .string mn, .string mv, .slice sa sn sc, .int .i64 er] 33)) := ⟨_, rfl⟩
  rw [← hW2] at hb1
  have x1 : W2.heap[w.heap.size]? = some (.cells #[.int .i64 k, .int .i64 f, .int .i64 to, .int .i64 g, .int .i64 n, .slice ae ne ce, .slice aa na ca, .slice p1 m1 k1, .slice p2 m2 k2, .slice p3 m3 k3, .slice p4 m4 k4, .int .i64 ki, .string mn, .string mv, .slice sa sn sc, .int .i64 er] 33) := by rw [hW2]; exact heap_alloc_new w _
  have HX : Hid (∀ W, Below W2.heap.size W2 W → W.heap[w.heap.size]? = some (.cells #[.int .i64 k, .int .i64 f, .int .i64 to, .int .i64 g, .int .i64 n, .slice ae ne ce, .slice aa na ca, .slice p1 m1 k1, .slice p2 m2 k2, .slice p3 m3 k3, .slice p4 m4 k4, .int .i64 ki, .string mn, .string mv, .slice sa sn sc, .int .i64 er] 33)) := fun W hW => (hW.block _ (lt_of_block x1)).trans x1
  have HE2 := Lib.hid hb1
  have Q1 := Lib.hid (RowsAt.next entR_steady h1 hb1)
  have Q9 := Lib.hid (RowsAt.next strR_steady h9 hb1)
  obtain ⟨le, hm1⟩ := RowsAt.lenq h1
  obtain ⟨ls, hm2⟩ := RowsAt.lenq h9
  unfold maxLen at hm1 hm2
  have HLE := Lib.hid le
  have HLS := Lib.hid ls
  have HW2 := Lib.hid hW2
  clear h1 h2 h3 h4 h5 h6 h9 le ls hW2 hb1 x1
  go_enter Try.func8, Try.ntmps8
  go_wp2
  rw [← HW2.out]
  go_loopw [3, 68, 79] (fun z i _ wr => ∃ (j : Nat) (x : Int), z = .int .i64 x ∧ i = .int .i64 j ∧ j ≤ sn ∧ Below W2.heap.size W2 wr) (fun _ i _ _ => sn - (intOf i).toNat)
  case atStart => exact ⟨0, _, rfl, rfl, by omega, Below.refl _ _⟩
  case round =>
    obtain ⟨j, x, rfl, rfl, hj, hbl⟩ := hrel
    by_cases hlt : j < sn
    · have hjI : (j : Int) < (sn : Int) := by omega
      obtain ⟨ba, oa, c1, rfl, hBa, _, ⟨rfl, _⟩, hc⟩ := (Q9.out.next strR_steady hbl).get HLS.out hlt .empty
      have y0 : wr.cell? ⟨ba, oa + j, none⟩ = some (.string (s.getD j .empty)) := by simpa using hc 0 _ rfl
      clear hc
      obtain ⟨y, hy⟩ : ∃ x, x = s.getD j .empty := ⟨_, rfl⟩
      rw [← hy] at y0
      clear hy
      by_cases h5 : (5000 : Int) < (y.size : Int)
      · go_wp2
        go_ret
        exact ⟨⟨_, rfl⟩, HE2.out.trans (hbl.mono HE2.out.size)⟩
      · go_wp2
        go_roundw
        case rel => exact ⟨j + 1, _, rfl, by go_num, by omega, hbl⟩
        case measure => simp [intOf]; omega
    · have u5 := boxc (HX.out _ hbl) 5 _ rfl
      go_wp2
      clear u5
      rename World => wo
      go_loopw [3, 84, 103] (fun z i _ wr => ∃ (j : Nat) (x : Int), z = .int .i64 x ∧ i = .int .i64 j ∧ j ≤ ne ∧ Below W2.heap.size W2 wr) (fun _ i _ _ => ne - (intOf i).toNat)
      case atStart => exact ⟨0, _, rfl, rfl, by omega, hbl⟩
      case round =>
        clear hbl hlt hj
        obtain ⟨j2, x2, rfl, rfl, hj, hbl⟩ := hrel
        by_cases hlt : j2 < ne
        · have hjI : (j2 : Int) < (ne : Int) := by omega
          obtain ⟨ba, oa, c1, rfl, hBa, _, ⟨lo, ln, lc, rfl, _, hL⟩, hc⟩ := (Q1.out.next entR_steady hbl).get HLE.out hlt default
          obtain ⟨⟨xs, ⟨xa, xb⟩, xt, xl⟩, hxe⟩ : ∃ x, x = e.getD j2 default := ⟨_, rfl⟩
          rw [← hxe] at hL hc
          simp only at hL hc
          have y0 : wr.cell? ⟨ba, oa + j2 * 5, none⟩ = some (.string xs) := by simpa using hc 0 _ rfl
          have y1 := hc 1 _ rfl
          have y2 := hc 2 _ rfl
          have y3 := hc 3 _ rfl
          have y4 := hc 4 _ rfl
          have hB : Below W2.heap.size W2 (wr.alloc (.cells #[.string xs, .int .i64 xa, .int .i64 xb, .int .i64 xt, .slice lo ln lc] 50)) := hbl.trans (below1.mono hbl.size)
          clear hc hL hxe
          by_cases h5 : (5000 : Int) < (xs.size : Int)
          · go_wp2
            go_ret
            exact ⟨⟨_, rfl⟩, HE2.out.trans (hB.mono HE2.out.size)⟩
          · by_cases h6 : (60 : Int) < (ln : Int)
            · go_wp2
              go_ret
              exact ⟨⟨_, rfl⟩, HE2.out.trans (hB.mono HE2.out.size)⟩
            · go_wp2
              go_roundw
              case rel => exact ⟨j2 + 1, _, rfl, by go_num, by omega, hB⟩
              case measure => simp [intOf]; omega
        · go_wp2
          go_ret
          exact ⟨⟨_, rfl⟩, HE2.out.trans (hbl.mono HE2.out.size)⟩
end Go.Proofs.Ytghbkieflifegaa
