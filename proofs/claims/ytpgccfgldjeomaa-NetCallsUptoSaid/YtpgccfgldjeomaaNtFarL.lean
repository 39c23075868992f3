/- net's law: far, and what is known where it is false. -/
import Derived.Test.YtpgccfgldjeomaaNtAp0
namespace Go.Proofs.Ytpgccfgldjeomaa
open Go Go.RowKit Go.ChangeShapes cl
def FarL (N : Nat) (w : World) (e : Ending) (w' : World) : Prop := (∃ r : Bool, e = .returned (.bool r) ∧ (r = false → N ≤ 60)) ∧ Below w.heap.size w w'
set_option maxHeartbeats 6400000 in
set_option maxRecDepth 100000 in
theorem far_len (l : List cd.Msg) (v : Value) (w : World) (hl : RowsAt 16 msgRel w w.heap.size v l) : Calls Try.prog 7 #[v] w (FarL l.length w) := by
  obtain ⟨n, hn⟩ : ∃ n, n = l.length := ⟨_, rfl⟩
  obtain ⟨ao, cap, rfl, hnc, hnm⟩ := hl.form' hn
  unfold maxLen at hnm
  have HL := Lib.hid hl
  have HN := Lib.hid hn
  clear hl hn
  by_cases h60 : (60 : Int) < (n : Int)
  · go_enter Try.func7, Try.ntmps7
    go_wp2
    go_loopw [7, 22] (fun i _ wr => ∃ k : Nat, i = .int .i64 k ∧ k ≤ n ∧ Below w.heap.size w wr) (fun i _ _ => n - (intOf i).toNat)
    case atStart => exact ⟨0, rfl, by omega, Below.refl _ _⟩
    case round =>
      obtain ⟨k, rfl, hk, hbl⟩ := hrel
      by_cases hlt : k < n
      · have hkI : (k : Int) < (n : Int) := by omega
        obtain ⟨m, hm⟩ : ∃ x, x = l.getD k default := ⟨_, rfl⟩
        obtain ⟨ba, oa, c, rfl, hR, hC⟩ := rows_cells (HL.out.next msgRel_steady hbl) HN.out hlt hm.symm
        obtain ⟨ae, ne, ce, aa, na, ca, p1, n1, c1, p2, n2, c2, p3, n3, c3, p4, n4, c4, sa, sn, sc, rfl, g⟩ := hR
        obtain ⟨_, _, e1, _⟩ := g.1.form
        have q0 : wr.cell? ⟨ba, oa + k * 16, none⟩ = _ := hC wr (Below.refl _ _) 0 _ rfl
        have q1 := hC wr (Below.refl _ _) 1 _ rfl
        have q2 := hC wr (Below.refl _ _) 2 _ rfl
        have q3 := hC wr (Below.refl _ _) 3 _ rfl
        have q4 := hC wr (Below.refl _ _) 4 _ rfl
        have q5 := hC wr (Below.refl _ _) 5 _ rfl
        have q6 := hC wr (Below.refl _ _) 6 _ rfl
        have q7 := hC wr (Below.refl _ _) 7 _ rfl
        have q8 := hC wr (Below.refl _ _) 8 _ rfl
        have q9 := hC wr (Below.refl _ _) 9 _ rfl
        have q10 := hC wr (Below.refl _ _) 10 _ rfl
        have q11 := hC wr (Below.refl _ _) 11 _ rfl
        have q12 := hC wr (Below.refl _ _) 12 _ rfl
        have q13 := hC wr (Below.refl _ _) 13 _ rfl
        have q14 := hC wr (Below.refl _ _) 14 _ rfl
        have q15 := hC wr (Below.refl _ _) 15 _ rfl
        have hB : Below w.heap.size w (wr.alloc (.cells #[.int .i64 m.k, .int .i64 m.f, .int .i64 m.to, .int .i64 m.g, .int .i64 m.n, .slice ae ne ce, .slice aa na ca, .slice p1 n1 c1, .slice p2 n2 c2, .slice p3 n3 c3, .slice p4 n4 c4, .int .i64 m.ki, .string m.mn, .string m.mv, .slice sa sn sc, .int .i64 m.er] 34)) := hbl.trans (below1.mono hbl.size)
        clear g hC e1 hm
        by_cases h1 : (40 : Int) < (sn : Int)
        · go_wp2
          go_ret
          exact ⟨⟨true, rfl, fun h => absurd h (by decide)⟩, hB⟩
        · by_cases h2 : (40 : Int) < (ne : Int)
          · go_wp2
            go_ret
            exact ⟨⟨true, rfl, fun h => absurd h (by decide)⟩, hB⟩
          · go_wp2
            go_roundw
            case rel => exact ⟨k + 1, by go_num, by omega, hB⟩
            case measure => simp [intOf]; omega
      · go_wp2
        go_ret
        exact ⟨⟨true, rfl, fun h => absurd h (by decide)⟩, hbl⟩
  · go_enter Try.func7, Try.ntmps7
    go_wp2
    go_loopw [7, 22] (fun i _ wr => ∃ k : Nat, i = .int .i64 k ∧ k ≤ n ∧ Below w.heap.size w wr) (fun i _ _ => n - (intOf i).toNat)
    case atStart => exact ⟨0, rfl, by omega, Below.refl _ _⟩
    case round =>
      obtain ⟨k, rfl, hk, hbl⟩ := hrel
      by_cases hlt : k < n
      · have hkI : (k : Int) < (n : Int) := by omega
        obtain ⟨m, hm⟩ : ∃ x, x = l.getD k default := ⟨_, rfl⟩
        obtain ⟨ba, oa, c, rfl, hR, hC⟩ := rows_cells (HL.out.next msgRel_steady hbl) HN.out hlt hm.symm
        obtain ⟨ae, ne, ce, aa, na, ca, p1, n1, c1, p2, n2, c2, p3, n3, c3, p4, n4, c4, sa, sn, sc, rfl, g⟩ := hR
        obtain ⟨_, _, e1, _⟩ := g.1.form
        have q0 : wr.cell? ⟨ba, oa + k * 16, none⟩ = _ := hC wr (Below.refl _ _) 0 _ rfl
        have q1 := hC wr (Below.refl _ _) 1 _ rfl
        have q2 := hC wr (Below.refl _ _) 2 _ rfl
        have q3 := hC wr (Below.refl _ _) 3 _ rfl
        have q4 := hC wr (Below.refl _ _) 4 _ rfl
        have q5 := hC wr (Below.refl _ _) 5 _ rfl
        have q6 := hC wr (Below.refl _ _) 6 _ rfl
        have q7 := hC wr (Below.refl _ _) 7 _ rfl
        have q8 := hC wr (Below.refl _ _) 8 _ rfl
        have q9 := hC wr (Below.refl _ _) 9 _ rfl
        have q10 := hC wr (Below.refl _ _) 10 _ rfl
        have q11 := hC wr (Below.refl _ _) 11 _ rfl
        have q12 := hC wr (Below.refl _ _) 12 _ rfl
        have q13 := hC wr (Below.refl _ _) 13 _ rfl
        have q14 := hC wr (Below.refl _ _) 14 _ rfl
        have q15 := hC wr (Below.refl _ _) 15 _ rfl
        have hB : Below w.heap.size w (wr.alloc (.cells #[.int .i64 m.k, .int .i64 m.f, .int .i64 m.to, .int .i64 m.g, .int .i64 m.n, .slice ae ne ce, .slice aa na ca, .slice p1 n1 c1, .slice p2 n2 c2, .slice p3 n3 c3, .slice p4 n4 c4, .int .i64 m.ki, .string m.mn, .string m.mv, .slice sa sn sc, .int .i64 m.er] 34)) := hbl.trans (below1.mono hbl.size)
        clear g hC e1 hm
        by_cases h1 : (40 : Int) < (sn : Int)
        · go_wp2
          go_ret
          exact ⟨⟨true, rfl, fun h => absurd h (by decide)⟩, hB⟩
        · by_cases h2 : (40 : Int) < (ne : Int)
          · go_wp2
            go_ret
            exact ⟨⟨true, rfl, fun h => absurd h (by decide)⟩, hB⟩
          · go_wp2
            go_roundw
            case rel => exact ⟨k + 1, by go_num, by omega, hB⟩
            case measure => simp [intOf]; omega
      · go_wp2
        go_ret
        exact ⟨⟨decide ((60 : Int) < (n : Int)), rfl, fun _ => by rw [← HN.out]; omega⟩, hbl⟩
end Go.Proofs.Ytpgccfgldjeomaa
