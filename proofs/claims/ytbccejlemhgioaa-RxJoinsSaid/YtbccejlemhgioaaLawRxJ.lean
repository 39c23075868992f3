/- the law of joined patterns: its walk. -/
import Derived.Test.YtbccejlemhgioaaRxFlat
import Derived.Test.YtbccejlemhgioaaRxSame
import Derived.Test.YtbccejlemhgioaaRxTwo
import Derived.Test.YtbccejlemhgioaaRfPar
import Derived.Test.YtbccejlemhgioaaRfJoin
import Derived.Test.YtbccejlemhgioaaRxAwk2
namespace Go.Proofs.Ytbccejlemhgioaa
open Go Go.RowKit Go.ChangeShapes cl rx
open rf
theorem parse_sz {s : List Nat} {x : Pat} (h : Ok s x) : sz x ≤ 2000 := by
  obtain ⟨h60, t, hr, _, hp, _⟩ := h
  have hg := (rows_good (once_good (s := s) 12) ⟨0, 0, 0⟩ (Nat.zero_le _)).2.2
  rw [hr] at hg
  simp only [hp] at hg
  have : (2 * 12 + 1 + 1) * (s.length - 0) ≤ (2 * 12 + 1 + 1) * 60 := Nat.mul_le_mul_left _ (by omega)
  omega
set_option maxHeartbeats 25600000 in
set_option maxRecDepth 100000 in
theorem law_joins (s t : ByteArray) (w : World) : Calls Try.prog 6 #[.string s, .string t] w (Said true w) := by
  have HAW : Hid (∀ W, Calls Try.prog 7 #[] W (Said true W)) := awake_any
  obtain ⟨z, hz⟩ : ∃ z, z = IntKind.i64.wrap ((s.size : Int) + (t.size : Int)) := ⟨_, rfl⟩
  have hze := hz.symm
  have HZ := Lib.hid hz
  clear hz
  by_cases hz50 : 50 < z
  · go_enter Try.func6, Try.ntmps6
    go_wp2_with fail
    (with_reducible refine (HAW.out _).mono ?_)
    rintro e1 w1 ⟨rfl, b1⟩
    have B1 := Lib.hid b1
    clear b1
    go_wp2
    go_ret
    exact ⟨rfl, B1.out⟩
  have hsl : (kit.bytes s).length = s.size := by simp [kit.bytes]
  have htl : (kit.bytes t).length = t.size := by simp [kit.bytes]
  obtain ⟨a, p1, e, hpa⟩ : ∃ a p e, rf.parse (kit.bytes s) = (a, p, e) := ⟨_, _, _, rfl⟩
  obtain ⟨b, p2, f, hpb⟩ : ∃ a p e, rf.parse (kit.bytes t) = (a, p, e) := ⟨_, _, _, rfl⟩
  have HP1 : Hid (∀ W, Calls Try.prog 8 #[.string s] W (fun eE w' => ∃ c, eE = .returned (.tuple #[.agg (List.toArray c), .int .i64 p1, .int .i64 e]) ∧ Fre W.heap.size w' (fun W => rxR 40 W W.heap.size c a) ∧ Below W.heap.size W w')) := fun W => by have h := rf_parse_any s W; rw [hpa] at h; exact h
  have HP3 : Hid (∀ W, Calls Try.prog 8 #[.string t] W (fun eE w' => ∃ c, eE = .returned (.tuple #[.agg (List.toArray c), .int .i64 p2, .int .i64 f]) ∧ Fre W.heap.size w' (fun W => rxR 40 W W.heap.size c b) ∧ Below W.heap.size W w')) := fun W => by have h := rf_parse_any t W; rw [hpb] at h; exact h
  by_cases hef : e = 0 ∧ f = 0
  rotate_left
  · by_cases he : e = 0
    · have hf : ¬ f = 0 := fun h => hef ⟨he, h⟩
      have be : (e != 0) = false := by simp [he]
      have bf : (f != 0) = true := by simp [hf]
      clear hpa hpb hef he hf hsl htl HZ
      go_enter Try.func6, Try.ntmps6
      go_wp2_with fail
      (with_reducible refine (HP1.out _).mono ?_)
      rintro e1 w1 ⟨c1, rfl, f1, b1⟩
      obtain ⟨ko1, kn1, kc1, rfl⟩ := rx_form f1.at
      have F1 := Lib.hid f1.at
      have D1 := Lib.hid (b1)
      clear f1 b1
      go_wp2_with fail
      obtain ⟨qa, hq2⟩ : ∃ z, z = w1.heap.size := ⟨_, rfl⟩
      obtain ⟨w2, hw2⟩ : ∃ W, W = w1.alloc (.cells #[.int .i64 a.k, .int .u64 a.cl.a, .int .u64 a.cl.b, .int .u64 a.cl.c, .int .u64 a.cl.d, .slice ko1 kn1 kc1, .int .i64 a.mn, .int .i64 a.mx] 28) := ⟨_, rfl⟩
      have b2 : Below w1.heap.size w1 w2 := by rw [hw2]; exact below1
      have XA2 : Hid (w2.heap[qa]? = some (.cells #[.int .i64 a.k, .int .u64 a.cl.a, .int .u64 a.cl.b, .int .u64 a.cl.c, .int .u64 a.cl.d, .slice ko1 kn1 kc1, .int .i64 a.mn, .int .i64 a.mx] 28)) := by show _ = _; rw [hw2, hq2]; exact heap_alloc_new _ _
      have RA2 := Lib.hid (rxR_steady 40 _ _ _ _ _ _ F1.out b2 b2.size)
      have D2 := Lib.hid (D1.out.trans (b2.mono D1.out.size))
      have HW2 := Lib.hid hw2
      have HQ2 := Lib.hid hq2
      clear b2 hw2 hq2
      rw [← HW2.out, ← HQ2.out]
      (with_reducible refine (HP3.out _).mono ?_)
      rintro e3 w3 ⟨c3, rfl, f3, b3⟩
      obtain ⟨ko2, kn2, kc2, rfl⟩ := rx_form f3.at
      have F3 := Lib.hid f3.at
      have D3 := Lib.hid (D2.out.trans (b3.mono D2.out.size))
      have XA3 := Lib.hid ((b3.block _ (lt_of_block XA2.out)).trans XA2.out)
      have RA3 := Lib.hid (rxR_steady 40 _ _ _ _ _ _ RA2.out b3 b3.size)
      clear f3 b3
      go_wp2_with fail
      obtain ⟨qb, hq4⟩ : ∃ z, z = w3.heap.size := ⟨_, rfl⟩
      obtain ⟨w4, hw4⟩ : ∃ W, W = w3.alloc (.cells #[.int .i64 b.k, .int .u64 b.cl.a, .int .u64 b.cl.b, .int .u64 b.cl.c, .int .u64 b.cl.d, .slice ko2 kn2 kc2, .int .i64 b.mn, .int .i64 b.mx] 28) := ⟨_, rfl⟩
      have b4 : Below w3.heap.size w3 w4 := by rw [hw4]; exact below1
      have XB4 : Hid (w4.heap[qb]? = some (.cells #[.int .i64 b.k, .int .u64 b.cl.a, .int .u64 b.cl.b, .int .u64 b.cl.c, .int .u64 b.cl.d, .slice ko2 kn2 kc2, .int .i64 b.mn, .int .i64 b.mx] 28)) := by show _ = _; rw [hw4, hq4]; exact heap_alloc_new _ _
      have RB4 := Lib.hid (rxR_steady 40 _ _ _ _ _ _ F3.out b4 b4.size)
      have D4 := Lib.hid (D3.out.trans (b4.mono D3.out.size))
      have XA4 := Lib.hid ((b4.block _ (lt_of_block XA3.out)).trans XA3.out)
      have RA4 := Lib.hid (rxR_steady 40 _ _ _ _ _ _ RA3.out b4 b4.size)
      have HW4 := Lib.hid hw4
      have HQ4 := Lib.hid hq4
      clear b4 hw4 hq4
      rw [← HW4.out, ← HQ4.out]
      (with_reducible refine (HAW.out _).mono ?_)
      rintro e5 w5 ⟨rfl, b5⟩
      have B5 := Lib.hid (D4.out.trans (b5.mono D4.out.size))
      clear b5
      go_wp2
      go_ret
      exact ⟨rfl, B5.out⟩
    · have be : (e != 0) = true := by simp [he]
      clear hpa hpb hef he hsl htl HZ
      go_enter Try.func6, Try.ntmps6
      go_wp2_with fail
      (with_reducible refine (HP1.out _).mono ?_)
      rintro e1 w1 ⟨c1, rfl, f1, b1⟩
      obtain ⟨ko1, kn1, kc1, rfl⟩ := rx_form f1.at
      have F1 := Lib.hid f1.at
      have D1 := Lib.hid (b1)
      clear f1 b1
      go_wp2_with fail
      obtain ⟨qa, hq2⟩ : ∃ z, z = w1.heap.size := ⟨_, rfl⟩
      obtain ⟨w2, hw2⟩ : ∃ W, W = w1.alloc (.cells #[.int .i64 a.k, .int .u64 a.cl.a, .int .u64 a.cl.b, .int .u64 a.cl.c, .int .u64 a.cl.d, .slice ko1 kn1 kc1, .int .i64 a.mn, .int .i64 a.mx] 28) := ⟨_, rfl⟩
      have b2 : Below w1.heap.size w1 w2 := by rw [hw2]; exact below1
      have XA2 : Hid (w2.heap[qa]? = some (.cells #[.int .i64 a.k, .int .u64 a.cl.a, .int .u64 a.cl.b, .int .u64 a.cl.c, .int .u64 a.cl.d, .slice ko1 kn1 kc1, .int .i64 a.mn, .int .i64 a.mx] 28)) := by show _ = _; rw [hw2, hq2]; exact heap_alloc_new _ _
      have RA2 := Lib.hid (rxR_steady 40 _ _ _ _ _ _ F1.out b2 b2.size)
      have D2 := Lib.hid (D1.out.trans (b2.mono D1.out.size))
      have HW2 := Lib.hid hw2
      have HQ2 := Lib.hid hq2
      clear b2 hw2 hq2
      rw [← HW2.out, ← HQ2.out]
      (with_reducible refine (HP3.out _).mono ?_)
      rintro e3 w3 ⟨c3, rfl, f3, b3⟩
      obtain ⟨ko2, kn2, kc2, rfl⟩ := rx_form f3.at
      have F3 := Lib.hid f3.at
      have D3 := Lib.hid (D2.out.trans (b3.mono D2.out.size))
      have XA3 := Lib.hid ((b3.block _ (lt_of_block XA2.out)).trans XA2.out)
      have RA3 := Lib.hid (rxR_steady 40 _ _ _ _ _ _ RA2.out b3 b3.size)
      clear f3 b3
      go_wp2_with fail
      obtain ⟨qb, hq4⟩ : ∃ z, z = w3.heap.size := ⟨_, rfl⟩
      obtain ⟨w4, hw4⟩ : ∃ W, W = w3.alloc (.cells #[.int .i64 b.k, .int .u64 b.cl.a, .int .u64 b.cl.b, .int .u64 b.cl.c, .int .u64 b.cl.d, .slice ko2 kn2 kc2, .int .i64 b.mn, .int .i64 b.mx] 28) := ⟨_, rfl⟩
      have b4 : Below w3.heap.size w3 w4 := by rw [hw4]; exact below1
      have XB4 : Hid (w4.heap[qb]? = some (.cells #[.int .i64 b.k, .int .u64 b.cl.a, .int .u64 b.cl.b, .int .u64 b.cl.c, .int .u64 b.cl.d, .slice ko2 kn2 kc2, .int .i64 b.mn, .int .i64 b.mx] 28)) := by show _ = _; rw [hw4, hq4]; exact heap_alloc_new _ _
      have RB4 := Lib.hid (rxR_steady 40 _ _ _ _ _ _ F3.out b4 b4.size)
      have D4 := Lib.hid (D3.out.trans (b4.mono D3.out.size))
      have XA4 := Lib.hid ((b4.block _ (lt_of_block XA3.out)).trans XA3.out)
      have RA4 := Lib.hid (rxR_steady 40 _ _ _ _ _ _ RA3.out b4 b4.size)
      have HW4 := Lib.hid hw4
      have HQ4 := Lib.hid hq4
      clear b4 hw4 hq4
      rw [← HW4.out, ← HQ4.out]
      (with_reducible refine (HAW.out _).mono ?_)
      rintro e5 w5 ⟨rfl, b5⟩
      have B5 := Lib.hid (D4.out.trans (b5.mono D4.out.size))
      clear b5
      go_wp2
      go_ret
      exact ⟨rfl, B5.out⟩
  obtain ⟨rfl, rfl⟩ := hef
  have oa : Ok (kit.bytes s) a := by have h := parse_ok (s := kit.bytes s) (by rw [hpa]); rw [hpa] at h; exact h
  have ob : Ok (kit.bytes t) b := by have h := parse_ok (s := kit.bytes t) (by rw [hpb]); rw [hpb] at h; exact h
  have hs60 : s.size ≤ 60 := by have := oa.1; omega
  have ht60 : t.size ≤ 60 := by have := ob.1; omega
  have hsum : s.size + t.size ≤ 50 := by
    have h1 : z = (s.size : Int) + (t.size : Int) := by rw [HZ.out]; exact IntWalk.i64_in _ (by omega)
    omega
  have hj := join_or oa ob (by omega)
  have hk := join_then oa ob (by omega)
  have e3 : kit.bytes (s ++ ⟨#[124]⟩ ++ t) = kit.bytes s ++ 124 :: kit.bytes t := by rw [kit.bytes_app, kit.bytes_app, List.append_assoc]; rfl
  have e4 : kit.bytes (⟨#[40]⟩ ++ s ++ ⟨#[41, 40]⟩ ++ t ++ ⟨#[41]⟩) = [40] ++ kit.bytes s ++ [41, 40] ++ kit.bytes t ++ [41] := by rw [kit.bytes_app, kit.bytes_app, kit.bytes_app, kit.bytes_app]; rfl
  rw [← e3] at hj
  rw [← e4] at hk
  have hsz : szs [a, b] ≤ 100000 := by have := parse_sz oa; have := parse_sz ob; simp only [szs]; omega
  obtain ⟨x, hx⟩ : ∃ x, x = Pat.gather 4 [a, b] := ⟨_, rfl⟩
  have HF4 : Hid (∀ (W : World) (v : Value), RowsAt 8 (rxR 41) W W.heap.size v [a, b] → Calls Try.prog 19 #[.int .i64 4, v] W (fun e w' => ∃ c, e = .returned (.agg (List.toArray c)) ∧ rxR 42 w' w'.heap.size c x ∧ Below W.heap.size W w')) := fun W v h => by rw [hx, ← lf_or]; exact flat_any 4 40 [a, b] v W h hsz
  have HSM : Hid (∀ (W : World) (c c' : List Value) (x : Pat), rxR 42 W W.heap.size c x → rxR 42 W W.heap.size c' x → Calls Try.prog 10 #[.agg c.toArray, .agg c'.toArray] W (Said true W)) := fun W c c' x h h' => same_any 42 x c c' W h h'
  have HP5 : Hid (∀ W, Calls Try.prog 8 #[.string (s ++ ⟨#[124]⟩ ++ t)] W (fun eE w' => ∃ c, eE = .returned (.tuple #[.agg (List.toArray c), .int .i64 0, .int .i64 0]) ∧ Fre W.heap.size w' (fun W => rxR 40 W W.heap.size c x) ∧ Below W.heap.size W w')) := fun W => by have h := rf_parse_any (s ++ ⟨#[124]⟩ ++ t) W; rw [ok_parse hj, ← hx] at h; exact h
  have l1 : ¬ (9223372036854775807 : Int) < (s.size : Int) + 1 := by omega
  have n1 : ¬ 9223372036854775807 < s.size + 1 := by omega
  have n2 : ¬ 9223372036854775807 < s.size + 1 + t.size := by omega
  have n3 : ¬ 9223372036854775807 < 1 + s.size := by omega
  have n4 : ¬ 9223372036854775807 < 1 + s.size + 2 := by omega
  have n5 : ¬ 9223372036854775807 < 1 + s.size + 2 + t.size := by omega
  have n6 : ¬ 9223372036854775807 < 1 + s.size + 2 + t.size + 1 := by omega
  rcases hk with hk | hk
  · obtain ⟨y, p4, g, hpy⟩ : ∃ a p e, rf.parse (kit.bytes (⟨#[40]⟩ ++ s ++ ⟨#[41, 40]⟩ ++ t ++ ⟨#[41]⟩)) = (a, p, e) := ⟨_, _, _, rfl⟩
    have hg : g = 11 := by rw [hpy] at hk; exact hk
    subst hg
    have HP7 : Hid (∀ W, Calls Try.prog 8 #[.string (⟨#[40]⟩ ++ s ++ ⟨#[41, 40]⟩ ++ t ++ ⟨#[41]⟩)] W (fun eE w' => ∃ c, eE = .returned (.tuple #[.agg (List.toArray c), .int .i64 p4, .int .i64 11]) ∧ Fre W.heap.size w' (fun W => rxR 40 W W.heap.size c y) ∧ Below W.heap.size W w')) := fun W => by have h := rf_parse_any (⟨#[40]⟩ ++ s ++ ⟨#[41, 40]⟩ ++ t ++ ⟨#[41]⟩) W; rw [hpy] at h; exact h
    clear hpa hpb hsl htl HZ oa ob hj hk e3 e4 hsz hx hpy l1 hsum
    go_enter Try.func6, Try.ntmps6
    go_wp2_with fail
    (with_reducible refine (HP1.out _).mono ?_)
    rintro e1 w1 ⟨c1, rfl, f1, b1⟩
    obtain ⟨ko1, kn1, kc1, rfl⟩ := rx_form f1.at
    have F1 := Lib.hid f1.at
    have D1 := Lib.hid (b1)
    clear f1 b1
    go_wp2_with fail
    obtain ⟨qa, hq2⟩ : ∃ z, z = w1.heap.size := ⟨_, rfl⟩
    obtain ⟨w2, hw2⟩ : ∃ W, W = w1.alloc (.cells #[.int .i64 a.k, .int .u64 a.cl.a, .int .u64 a.cl.b, .int .u64 a.cl.c, .int .u64 a.cl.d, .slice ko1 kn1 kc1, .int .i64 a.mn, .int .i64 a.mx] 28) := ⟨_, rfl⟩
    have b2 : Below w1.heap.size w1 w2 := by rw [hw2]; exact below1
    have XA2 : Hid (w2.heap[qa]? = some (.cells #[.int .i64 a.k, .int .u64 a.cl.a, .int .u64 a.cl.b, .int .u64 a.cl.c, .int .u64 a.cl.d, .slice ko1 kn1 kc1, .int .i64 a.mn, .int .i64 a.mx] 28)) := by show _ = _; rw [hw2, hq2]; exact heap_alloc_new _ _
    have RA2 := Lib.hid (rxR_steady 40 _ _ _ _ _ _ F1.out b2 b2.size)
    have D2 := Lib.hid (D1.out.trans (b2.mono D1.out.size))
    have HW2 := Lib.hid hw2
    have HQ2 := Lib.hid hq2
    clear b2 hw2 hq2
    rw [← HW2.out, ← HQ2.out]
    (with_reducible refine (HP3.out _).mono ?_)
    rintro e3 w3 ⟨c3, rfl, f3, b3⟩
    obtain ⟨ko2, kn2, kc2, rfl⟩ := rx_form f3.at
    have F3 := Lib.hid f3.at
    have D3 := Lib.hid (D2.out.trans (b3.mono D2.out.size))
    have XA3 := Lib.hid ((b3.block _ (lt_of_block XA2.out)).trans XA2.out)
    have RA3 := Lib.hid (rxR_steady 40 _ _ _ _ _ _ RA2.out b3 b3.size)
    clear f3 b3
    go_wp2_with fail
    obtain ⟨qb, hq4⟩ : ∃ z, z = w3.heap.size := ⟨_, rfl⟩
    obtain ⟨w4, hw4⟩ : ∃ W, W = w3.alloc (.cells #[.int .i64 b.k, .int .u64 b.cl.a, .int .u64 b.cl.b, .int .u64 b.cl.c, .int .u64 b.cl.d, .slice ko2 kn2 kc2, .int .i64 b.mn, .int .i64 b.mx] 28) := ⟨_, rfl⟩
    have b4 : Below w3.heap.size w3 w4 := by rw [hw4]; exact below1
    have XB4 : Hid (w4.heap[qb]? = some (.cells #[.int .i64 b.k, .int .u64 b.cl.a, .int .u64 b.cl.b, .int .u64 b.cl.c, .int .u64 b.cl.d, .slice ko2 kn2 kc2, .int .i64 b.mn, .int .i64 b.mx] 28)) := by show _ = _; rw [hw4, hq4]; exact heap_alloc_new _ _
    have RB4 := Lib.hid (rxR_steady 40 _ _ _ _ _ _ F3.out b4 b4.size)
    have D4 := Lib.hid (D3.out.trans (b4.mono D3.out.size))
    have XA4 := Lib.hid ((b4.block _ (lt_of_block XA3.out)).trans XA3.out)
    have RA4 := Lib.hid (rxR_steady 40 _ _ _ _ _ _ RA3.out b4 b4.size)
    have HW4 := Lib.hid hw4
    have HQ4 := Lib.hid hq4
    clear b4 hw4 hq4
    rw [← HW4.out, ← HQ4.out]
    (with_reducible refine (HP5.out _).mono ?_)
    rintro e5 w5 ⟨c5, rfl, f5, b5⟩
    obtain ⟨ko3, kn3, kc3, rfl⟩ := rx_form f5.at
    have F5 := Lib.hid f5.at
    have D5 := Lib.hid (D4.out.trans (b5.mono D4.out.size))
    have XA5 := Lib.hid ((b5.block _ (lt_of_block XA4.out)).trans XA4.out)
    have RA5 := Lib.hid (rxR_steady 40 _ _ _ _ _ _ RA4.out b5 b5.size)
    have XB5 := Lib.hid ((b5.block _ (lt_of_block XB4.out)).trans XB4.out)
    have RB5 := Lib.hid (rxR_steady 40 _ _ _ _ _ _ RB4.out b5 b5.size)
    clear f5 b5
    go_wp2_with fail
    obtain ⟨qo, hq6⟩ : ∃ z, z = w5.heap.size := ⟨_, rfl⟩
    obtain ⟨w6, hw6⟩ : ∃ W, W = w5.alloc (.cells #[.int .i64 x.k, .int .u64 x.cl.a, .int .u64 x.cl.b, .int .u64 x.cl.c, .int .u64 x.cl.d, .slice ko3 kn3 kc3, .int .i64 x.mn, .int .i64 x.mx] 28) := ⟨_, rfl⟩
    have b6 : Below w5.heap.size w5 w6 := by rw [hw6]; exact below1
    have XO6 : Hid (w6.heap[qo]? = some (.cells #[.int .i64 x.k, .int .u64 x.cl.a, .int .u64 x.cl.b, .int .u64 x.cl.c, .int .u64 x.cl.d, .slice ko3 kn3 kc3, .int .i64 x.mn, .int .i64 x.mx] 28)) := by show _ = _; rw [hw6, hq6]; exact heap_alloc_new _ _
    have RO6 := Lib.hid (rxR_steady 40 _ _ _ _ _ _ F5.out b6 b6.size)
    have D6 := Lib.hid (D5.out.trans (b6.mono D5.out.size))
    have XA6 := Lib.hid ((b6.block _ (lt_of_block XA5.out)).trans XA5.out)
    have RA6 := Lib.hid (rxR_steady 40 _ _ _ _ _ _ RA5.out b6 b6.size)
    have XB6 := Lib.hid ((b6.block _ (lt_of_block XB5.out)).trans XB5.out)
    have RB6 := Lib.hid (rxR_steady 40 _ _ _ _ _ _ RB5.out b6 b6.size)
    have HW6 := Lib.hid hw6
    have HQ6 := Lib.hid hq6
    clear b6 hw6 hq6
    rw [← HW6.out, ← HQ6.out]
    (with_reducible refine (HP7.out _).mono ?_)
    rintro e7 w7 ⟨c7, rfl, f7, b7⟩
    obtain ⟨ko4, kn4, kc4, rfl⟩ := rx_form f7.at
    have F7 := Lib.hid f7.at
    have D7 := Lib.hid (D6.out.trans (b7.mono D6.out.size))
    have XA7 := Lib.hid ((b7.block _ (lt_of_block XA6.out)).trans XA6.out)
    have RA7 := Lib.hid (rxR_steady 40 _ _ _ _ _ _ RA6.out b7 b7.size)
    have XB7 := Lib.hid ((b7.block _ (lt_of_block XB6.out)).trans XB6.out)
    have RB7 := Lib.hid (rxR_steady 40 _ _ _ _ _ _ RB6.out b7 b7.size)
    have XO7 := Lib.hid ((b7.block _ (lt_of_block XO6.out)).trans XO6.out)
    have RO7 := Lib.hid (rxR_steady 40 _ _ _ _ _ _ RO6.out b7 b7.size)
    clear f7 b7
    go_wp2
    obtain ⟨qt, hq8⟩ : ∃ z, z = w7.heap.size := ⟨_, rfl⟩
    obtain ⟨w8, hw8⟩ : ∃ W, W = w7.alloc (.cells #[.int .i64 y.k, .int .u64 y.cl.a, .int .u64 y.cl.b, .int .u64 y.cl.c, .int .u64 y.cl.d, .slice ko4 kn4 kc4, .int .i64 y.mn, .int .i64 y.mx] 28) := ⟨_, rfl⟩
    have b8 : Below w7.heap.size w7 w8 := by rw [hw8]; exact below1
    have XT8 : Hid (w8.heap[qt]? = some (.cells #[.int .i64 y.k, .int .u64 y.cl.a, .int .u64 y.cl.b, .int .u64 y.cl.c, .int .u64 y.cl.d, .slice ko4 kn4 kc4, .int .i64 y.mn, .int .i64 y.mx] 28)) := by show _ = _; rw [hw8, hq8]; exact heap_alloc_new _ _
    have RT8 := Lib.hid (rxR_steady 40 _ _ _ _ _ _ F7.out b8 b8.size)
    have D8 := Lib.hid (D7.out.trans (b8.mono D7.out.size))
    have XA8 := Lib.hid ((b8.block _ (lt_of_block XA7.out)).trans XA7.out)
    have RA8 := Lib.hid (rxR_steady 40 _ _ _ _ _ _ RA7.out b8 b8.size)
    have XB8 := Lib.hid ((b8.block _ (lt_of_block XB7.out)).trans XB7.out)
    have RB8 := Lib.hid (rxR_steady 40 _ _ _ _ _ _ RB7.out b8 b8.size)
    have XO8 := Lib.hid ((b8.block _ (lt_of_block XO7.out)).trans XO7.out)
    have RO8 := Lib.hid (rxR_steady 40 _ _ _ _ _ _ RO7.out b8 b8.size)
    have HW8 := Lib.hid hw8
    have HQ8 := Lib.hid hq8
    clear b8 hw8 hq8
    rw [← HW8.out, ← HQ8.out]
    obtain ⟨w9, h9⟩ : ∃ W, W = w8 := ⟨_, rfl⟩
    have XA := XA8
    have XB := XB8
    have XO := XO8
    have XT := XT8
    rw [← h9] at XA XB XO XT ⊢
    have HRA : Hid (∀ W, Below w9.heap.size w9 W → rxR 41 W W.heap.size [.int .i64 a.k, .int .u64 a.cl.a, .int .u64 a.cl.b, .int .u64 a.cl.c, .int .u64 a.cl.d, .slice ko1 kn1 kc1, .int .i64 a.mn, .int .i64 a.mx] a) := fun W hW => rxR_le (by decide) (rxR_steady 40 _ _ _ _ _ _ RA8.out (by rw [← h9]; exact hW) (by rw [← h9]; exact hW.size))
    have HRB : Hid (∀ W, Below w9.heap.size w9 W → rxR 41 W W.heap.size [.int .i64 b.k, .int .u64 b.cl.a, .int .u64 b.cl.b, .int .u64 b.cl.c, .int .u64 b.cl.d, .slice ko2 kn2 kc2, .int .i64 b.mn, .int .i64 b.mx] b) := fun W hW => rxR_le (by decide) (rxR_steady 40 _ _ _ _ _ _ RB8.out (by rw [← h9]; exact hW) (by rw [← h9]; exact hW.size))
    have HRO : Hid (∀ W, Below w9.heap.size w9 W → rxR 40 W W.heap.size [.int .i64 x.k, .int .u64 x.cl.a, .int .u64 x.cl.b, .int .u64 x.cl.c, .int .u64 x.cl.d, .slice ko3 kn3 kc3, .int .i64 x.mn, .int .i64 x.mx] x) := fun W hW => rxR_steady 40 _ _ _ _ _ _ RO8.out (by rw [← h9]; exact hW) (by rw [← h9]; exact hW.size)
    have HRT : Hid (∀ W, Below w9.heap.size w9 W → rxR 40 W W.heap.size [.int .i64 y.k, .int .u64 y.cl.a, .int .u64 y.cl.b, .int .u64 y.cl.c, .int .u64 y.cl.d, .slice ko4 kn4 kc4, .int .i64 y.mn, .int .i64 y.mx] y) := fun W hW => rxR_steady 40 _ _ _ _ _ _ RT8.out (by rw [← h9]; exact hW) (by rw [← h9]; exact hW.size)
    have D9 : Hid (Below w.heap.size w w9) := by show Below _ _ _; rw [h9]; exact D8.out
    clear h9
    go_wp2
    refine wp_flow 21 (fun _ => 1000) (fun ww => Below w9.heap.size w9 ww) (fun _ w w' => (fun (w w' : World) => RowKit.Below w.heap.size w w') w w') (fun kF vF wF => match kF with | 0 => (vF = .agg #[.int .i64 x.k, .int .u64 x.cl.a, .int .u64 x.cl.b, .int .u64 x.cl.c, .int .u64 x.cl.d, .slice ko3 kn3 kc3, .int .i64 x.mn, .int .i64 x.mx]) | 1 => (vF = .agg #[.int .i64 a.k, .int .u64 a.cl.a, .int .u64 a.cl.b, .int .u64 a.cl.c, .int .u64 a.cl.d, .slice ko1 kn1 kc1, .int .i64 a.mn, .int .i64 a.mx]) | 2 => (vF = .agg #[.int .i64 b.k, .int .u64 b.cl.a, .int .u64 b.cl.b, .int .u64 b.cl.c, .int .u64 b.cl.d, .slice ko2 kn2 kc2, .int .i64 b.mn, .int .i64 b.mx]) | 3 => (∃ g, vF = .slice (some ⟨g, 0, none⟩) 2 2 ∧ wF.heap[g]? = some (.cells #[.int .i64 a.k, .int .u64 a.cl.a, .int .u64 a.cl.b, .int .u64 a.cl.c, .int .u64 a.cl.d, .slice ko1 kn1 kc1, .int .i64 a.mn, .int .i64 a.mx, .int .i64 b.k, .int .u64 b.cl.a, .int .u64 b.cl.b, .int .u64 b.cl.c, .int .u64 b.cl.d, .slice ko2 kn2 kc2, .int .i64 b.mn, .int .i64 b.mx] 28)) | 4 => (∃ fo fn fc, vF = .agg #[.int .i64 x.k, .int .u64 x.cl.a, .int .u64 x.cl.b, .int .u64 x.cl.c, .int .u64 x.cl.d, .slice fo fn fc, .int .i64 x.mn, .int .i64 x.mx] ∧ rxR 42 wF wF.heap.size [.int .i64 x.k, .int .u64 x.cl.a, .int .u64 x.cl.b, .int .u64 x.cl.c, .int .u64 x.cl.d, .slice fo fn fc, .int .i64 x.mn, .int .i64 x.mx] x) | 5 => (vF = .bool true) | 6 => (vF = .bool true) | 7 => (vF = .int .i64 11) | 8 => (vF = .bool true) | 9 => (vF = .bool true) | 10 => (vF = undef) | 11 => (vF = undef) | 12 => (vF = undef) | 13 => (vF = undef) | 14 => (vF = undef) | 15 => (vF = undef) | 16 => (vF = .bool true) | 17 => (vF = .bool true) | 18 => (vF = .bool true) | 19 => (vF = .bool true) | 20 => (vF = .bool true) | _ => True) (fun _ _ _ _ => True) (by kernel_rfl) (by kernel_rfl) ?_ ?_ ?_ ?_ ?_
    · exact (Below.refl _ _).drew
    · intro iF wF1 wF2 hR hT; exact hR.trans (Below.mono hT (Below.size hR))
    · intro kF hkF iF hiF hne hdd hanc hdan vF wF1 wF2 h hT
      rcases (by omega : kF = 0 ∨ kF = 1 ∨ kF = 2 ∨ kF = 3 ∨ kF = 4 ∨ kF = 5 ∨ kF = 6 ∨ kF = 7 ∨ kF = 8 ∨ kF = 9 ∨ kF = 10 ∨ kF = 11 ∨ kF = 12 ∨ kF = 13 ∨ kF = 14 ∨ kF = 15 ∨ kF = 16 ∨ kF = 17 ∨ kF = 18 ∨ kF = 19 ∨ kF = 20) with rfl | rfl | rfl | rfl | rfl | rfl | rfl | rfl | rfl | rfl | rfl | rfl | rfl | rfl | rfl | rfl | rfl | rfl | rfl | rfl | rfl
      · exact h
      · exact h
      · exact h
      · have h : (∃ g, vF = .slice (some ⟨g, 0, none⟩) 2 2 ∧ wF1.heap[g]? = some (.cells #[.int .i64 a.k, .int .u64 a.cl.a, .int .u64 a.cl.b, .int .u64 a.cl.c, .int .u64 a.cl.d, .slice ko1 kn1 kc1, .int .i64 a.mn, .int .i64 a.mx, .int .i64 b.k, .int .u64 b.cl.a, .int .u64 b.cl.b, .int .u64 b.cl.c, .int .u64 b.cl.d, .slice ko2 kn2 kc2, .int .i64 b.mn, .int .i64 b.mx] 28)) := h
        show (∃ g, vF = .slice (some ⟨g, 0, none⟩) 2 2 ∧ wF2.heap[g]? = some (.cells #[.int .i64 a.k, .int .u64 a.cl.a, .int .u64 a.cl.b, .int .u64 a.cl.c, .int .u64 a.cl.d, .slice ko1 kn1 kc1, .int .i64 a.mn, .int .i64 a.mx, .int .i64 b.k, .int .u64 b.cl.a, .int .u64 b.cl.b, .int .u64 b.cl.c, .int .u64 b.cl.d, .slice ko2 kn2 kc2, .int .i64 b.mn, .int .i64 b.mx] 28))
        have hT : (fun (w w' : World) => RowKit.Below w.heap.size w w') wF1 wF2 := hT
        simp only at hT
        obtain ⟨g, e, hg⟩ := h
        exact ⟨g, e, (hT.block _ (lt_of_block hg)).trans hg⟩
      · have h : (∃ fo fn fc, vF = .agg #[.int .i64 x.k, .int .u64 x.cl.a, .int .u64 x.cl.b, .int .u64 x.cl.c, .int .u64 x.cl.d, .slice fo fn fc, .int .i64 x.mn, .int .i64 x.mx] ∧ rxR 42 wF1 wF1.heap.size [.int .i64 x.k, .int .u64 x.cl.a, .int .u64 x.cl.b, .int .u64 x.cl.c, .int .u64 x.cl.d, .slice fo fn fc, .int .i64 x.mn, .int .i64 x.mx] x) := h
        show (∃ fo fn fc, vF = .agg #[.int .i64 x.k, .int .u64 x.cl.a, .int .u64 x.cl.b, .int .u64 x.cl.c, .int .u64 x.cl.d, .slice fo fn fc, .int .i64 x.mn, .int .i64 x.mx] ∧ rxR 42 wF2 wF2.heap.size [.int .i64 x.k, .int .u64 x.cl.a, .int .u64 x.cl.b, .int .u64 x.cl.c, .int .u64 x.cl.d, .slice fo fn fc, .int .i64 x.mn, .int .i64 x.mx] x)
        have hT : (fun (w w' : World) => RowKit.Below w.heap.size w w') wF1 wF2 := hT
        simp only at hT
        obtain ⟨a, b, c, e, hr⟩ := h
        exact ⟨a, b, c, e, rxR_steady 42 _ _ _ _ _ _ hr hT hT.size⟩
      · exact h
      · exact h
      · exact h
      · exact h
      · exact h
      · exact h
      · exact h
      · exact h
      · exact h
      · exact h
      · exact h
      · exact h
      · exact h
      · exact h
      · exact h
      · exact h
    · generalize hAF : fillOf _ _ _ = AF
      replace hAF := fun x => congrFun hAF x
      simp only [List.take_succ_cons, List.take_zero, fillOf, Act.put, List.setIfInBounds_toArray, List.set_cons_zero, List.set_cons_succ, Nat.reduceAdd, Nat.zero_add] at hAF
      refine FlowAll.cons ?_ ?_
      · intro xF wz hR hd K hK
        clear hd
        simp only [← hAF, Act.put, List.setIfInBounds_toArray, List.set_cons_zero, List.set_cons_succ] at hK ⊢
        clear hAF
        try simp only [Nat.zero_add] at hK ⊢
        try simp only [Nat.reduceAdd] at hK ⊢
        obtain hbR := id hR
        have hxa := (hbR.block _ (lt_of_block XO.out)).trans XO.out
        have c90 := boxc hxa 0 _ rfl
        have c91 := boxc hxa 1 _ rfl
        have c92 := boxc hxa 2 _ rfl
        have c93 := boxc hxa 3 _ rfl
        have c94 := boxc hxa 4 _ rfl
        have c95 := boxc hxa 5 _ rfl
        have c96 := boxc hxa 6 _ rfl
        have c97 := boxc hxa 7 _ rfl
        clear hxa
        rw [if_pos (by rfl)]
        go_simp
        exact hK.out _ _ (Below.refl _ _) (rfl) (fun _ _ _ => ⟨trivial, trivial⟩)
      refine FlowAll.cons ?_ ?_
      · intro xF wz hR hd K hK
        clear hd
        simp only [← hAF, Act.put, List.setIfInBounds_toArray, List.set_cons_zero, List.set_cons_succ] at hK ⊢
        clear hAF
        try simp only [Nat.zero_add] at hK ⊢
        try simp only [Nat.reduceAdd] at hK ⊢
        obtain hbR := id hR
        have hxa := (hbR.block _ (lt_of_block XA.out)).trans XA.out
        have c90 := boxc hxa 0 _ rfl
        have c91 := boxc hxa 1 _ rfl
        have c92 := boxc hxa 2 _ rfl
        have c93 := boxc hxa 3 _ rfl
        have c94 := boxc hxa 4 _ rfl
        have c95 := boxc hxa 5 _ rfl
        have c96 := boxc hxa 6 _ rfl
        have c97 := boxc hxa 7 _ rfl
        clear hxa
        rw [if_pos (by rfl)]
        go_simp
        exact hK.out _ _ (Below.refl _ _) (rfl) (fun _ _ _ => ⟨trivial, trivial⟩)
      refine FlowAll.cons ?_ ?_
      · intro xF wz hR hd K hK
        clear hd
        simp only [← hAF, Act.put, List.setIfInBounds_toArray, List.set_cons_zero, List.set_cons_succ] at hK ⊢
        clear hAF
        try simp only [Nat.zero_add] at hK ⊢
        try simp only [Nat.reduceAdd] at hK ⊢
        obtain hbR := id hR
        have hxa := (hbR.block _ (lt_of_block XB.out)).trans XB.out
        have c90 := boxc hxa 0 _ rfl
        have c91 := boxc hxa 1 _ rfl
        have c92 := boxc hxa 2 _ rfl
        have c93 := boxc hxa 3 _ rfl
        have c94 := boxc hxa 4 _ rfl
        have c95 := boxc hxa 5 _ rfl
        have c96 := boxc hxa 6 _ rfl
        have c97 := boxc hxa 7 _ rfl
        clear hxa
        rw [if_pos (by rfl)]
        go_simp
        exact hK.out _ _ (Below.refl _ _) (rfl) (fun _ _ _ => ⟨trivial, trivial⟩)
      refine FlowAll.cons ?_ ?_
      · intro xF wz hR hd K hK
        have dd1 : ((xF 1) = .agg #[.int .i64 a.k, .int .u64 a.cl.a, .int .u64 a.cl.b, .int .u64 a.cl.c, .int .u64 a.cl.d, .slice ko1 kn1 kc1, .int .i64 a.mn, .int .i64 a.mx]) := hd 1 (by kernel_rfl)
        have dd2 : ((xF 2) = .agg #[.int .i64 b.k, .int .u64 b.cl.a, .int .u64 b.cl.b, .int .u64 b.cl.c, .int .u64 b.cl.d, .slice ko2 kn2 kc2, .int .i64 b.mn, .int .i64 b.mx]) := hd 2 (by kernel_rfl)
        clear hd
        simp only [← hAF, Act.put, List.setIfInBounds_toArray, List.set_cons_zero, List.set_cons_succ] at hK ⊢
        clear hAF
        try simp only [Nat.zero_add] at hK ⊢
        try simp only [Nat.reduceAdd] at hK ⊢
        try generalize xF 1 = yy1 at *
        try generalize xF 2 = yy2 at *
        obtain rfl := dd1
        obtain rfl := dd2
        obtain hbR := id hR
        rw [if_pos (by rfl)]
        refine rtwo_wp rfl rfl ?_
        simp only [Act.put, List.setIfInBounds_toArray, List.set_cons_zero, List.set_cons_succ]
        exact hK.out _ _ (below1) (⟨_, rfl, heap_alloc_new _ _⟩) (fun _ _ _ => ⟨trivial, trivial⟩)
      refine FlowAll.cons ?_ ?_
      · intro xF wz hR hd K hK
        have dd3 : (∃ g, (xF 3) = .slice (some ⟨g, 0, none⟩) 2 2 ∧ wz.heap[g]? = some (.cells #[.int .i64 a.k, .int .u64 a.cl.a, .int .u64 a.cl.b, .int .u64 a.cl.c, .int .u64 a.cl.d, .slice ko1 kn1 kc1, .int .i64 a.mn, .int .i64 a.mx, .int .i64 b.k, .int .u64 b.cl.a, .int .u64 b.cl.b, .int .u64 b.cl.c, .int .u64 b.cl.d, .slice ko2 kn2 kc2, .int .i64 b.mn, .int .i64 b.mx] 28)) := hd 3 (by kernel_rfl)
        clear hd
        simp only [← hAF, Act.put, List.setIfInBounds_toArray, List.set_cons_zero, List.set_cons_succ] at hK ⊢
        clear hAF
        try simp only [Nat.zero_add] at hK ⊢
        try simp only [Nat.reduceAdd] at hK ⊢
        try generalize xF 3 = yy3 at *
        obtain ⟨g3, rfl, hg3⟩ := dd3
        obtain hbR := id hR
        rw [if_pos (by rfl)]
        go_simp
        (go_at_call 19; (with_reducible refine (HF4.out _ _ (rows_two hg3 (HRA.out _ hbR) (HRB.out _ hbR))).mono ?_); rintro e wK ⟨cK, rfl, hcK, hbK⟩; obtain ⟨foK, fnK, fcK, rfl⟩ := rx_form hcK)
        try go_wp2_with fail
        exact hK.out _ _ (hbK) (⟨_, _, _, rfl, hcK⟩) (fun _ _ _ => ⟨trivial, trivial⟩)
      refine FlowAll.cons ?_ ?_
      · intro xF wz hR hd K hK
        have dd0 : ((xF 0) = .agg #[.int .i64 x.k, .int .u64 x.cl.a, .int .u64 x.cl.b, .int .u64 x.cl.c, .int .u64 x.cl.d, .slice ko3 kn3 kc3, .int .i64 x.mn, .int .i64 x.mx]) := hd 0 (by kernel_rfl)
        have dd4 : (∃ fo fn fc, (xF 4) = .agg #[.int .i64 x.k, .int .u64 x.cl.a, .int .u64 x.cl.b, .int .u64 x.cl.c, .int .u64 x.cl.d, .slice fo fn fc, .int .i64 x.mn, .int .i64 x.mx] ∧ rxR 42 wz wz.heap.size [.int .i64 x.k, .int .u64 x.cl.a, .int .u64 x.cl.b, .int .u64 x.cl.c, .int .u64 x.cl.d, .slice fo fn fc, .int .i64 x.mn, .int .i64 x.mx] x) := hd 4 (by kernel_rfl)
        clear hd
        simp only [← hAF, Act.put, List.setIfInBounds_toArray, List.set_cons_zero, List.set_cons_succ] at hK ⊢
        clear hAF
        try simp only [Nat.zero_add] at hK ⊢
        try simp only [Nat.reduceAdd] at hK ⊢
        try generalize xF 0 = yy0 at *
        try generalize xF 4 = yy4 at *
        obtain rfl := dd0
        obtain ⟨fo4, fn4, fc4, rfl, hf4⟩ := dd4
        obtain hbR := id hR
        rw [if_pos (by rfl)]
        go_simp
        (go_at_call 10; (with_reducible refine (HSM.out _ _ _ _ (rxR_le (by decide) (HRO.out _ hbR)) hf4).mono ?_); rintro e wK ⟨rfl, hbK⟩)
        try go_wp2_with fail
        exact hK.out _ _ (hbK) (rfl) (fun _ _ _ => ⟨trivial, trivial⟩)
      refine FlowAll.cons ?_ ?_
      · intro xF wz hR hd K hK
        have dd5 : ((xF 5) = .bool true) := hd 5 (by kernel_rfl)
        clear hd
        simp only [← hAF, Act.put, List.setIfInBounds_toArray, List.set_cons_zero, List.set_cons_succ] at hK ⊢
        clear hAF
        try simp only [Nat.zero_add] at hK ⊢
        try simp only [Nat.reduceAdd] at hK ⊢
        try generalize xF 5 = yy5 at *
        obtain rfl := dd5
        obtain hbR := id hR
        rw [if_pos (by rfl)]
        go_simp
        exact hK.out _ _ (Below.refl _ _) (rfl) (fun _ _ _ => ⟨trivial, trivial⟩)
      refine FlowAll.cons ?_ ?_
      · intro xF wz hR hd K hK
        have dd6 : ((xF 6) = .bool true) := hd 6 (by kernel_rfl)
        clear hd
        simp only [← hAF, Act.put, List.setIfInBounds_toArray, List.set_cons_zero, List.set_cons_succ] at hK ⊢
        clear hAF
        try simp only [Nat.zero_add] at hK ⊢
        try simp only [Nat.reduceAdd] at hK ⊢
        try generalize xF 6 = yy6 at *
        obtain rfl := dd6
        obtain hbR := id hR
        rw [if_pos (by rfl)]
        go_simp
        exact hK.out _ _ (Below.refl _ _) (rfl) (fun _ _ _ => ⟨trivial, trivial⟩)
      refine FlowAll.cons ?_ ?_
      · intro xF wz hR hd K hK
        have dd6 : ((xF 6) = .bool true) := hd 6 (by kernel_rfl)
        have dd7 : ((xF 7) = .int .i64 11) := hd 7 (by kernel_rfl)
        clear hd
        simp only [← hAF, Act.put, List.setIfInBounds_toArray, List.set_cons_zero, List.set_cons_succ] at hK ⊢
        clear hAF
        try simp only [Nat.zero_add] at hK ⊢
        try simp only [Nat.reduceAdd] at hK ⊢
        try generalize xF 6 = yy6 at *
        try generalize xF 7 = yy7 at *
        obtain rfl := dd6
        obtain rfl := dd7
        obtain hbR := id hR
        rw [if_pos (by rfl)]
        go_simp
        exact hK.out _ _ (Below.refl _ _) (rfl) (fun _ _ _ => ⟨trivial, trivial⟩)
      refine FlowAll.cons ?_ ?_
      · intro xF wz hR hd K hK
        have dd6 : ((xF 6) = .bool true) := hd 6 (by kernel_rfl)
        have dd8 : ((xF 8) = .bool true) := hd 8 (by kernel_rfl)
        clear hd
        simp only [← hAF, Act.put, List.setIfInBounds_toArray, List.set_cons_zero, List.set_cons_succ] at hK ⊢
        clear hAF
        try simp only [Nat.zero_add] at hK ⊢
        try simp only [Nat.reduceAdd] at hK ⊢
        try generalize xF 6 = yy6 at *
        try generalize xF 8 = yy8 at *
        obtain rfl := dd6
        obtain rfl := dd8
        obtain hbR := id hR
        rw [if_pos (by rfl)]
        go_simp
        exact hK.out _ _ (Below.refl _ _) (rfl) (fun _ _ _ => ⟨trivial, trivial⟩)
      refine FlowAll.cons ?_ ?_
      · intro xF wz hR hd K hK
        have dd9 : ((xF 9) = .bool true) := hd 9 (by kernel_rfl)
        clear hd
        simp only [← hAF, Act.put, List.setIfInBounds_toArray, List.set_cons_zero, List.set_cons_succ] at hK ⊢
        clear hAF
        try simp only [Nat.zero_add] at hK ⊢
        try simp only [Nat.reduceAdd] at hK ⊢
        try generalize xF 9 = yy9 at *
        obtain rfl := dd9
        obtain hbR := id hR
        rw [if_neg (by intro h; exact absurd (show false = true from h) Bool.false_ne_true)]
        try simp only [Act.put, List.setIfInBounds_toArray, List.set_cons_zero, List.set_cons_succ]
        exact hK.out _ _ (Below.refl _ _) (rfl) (fun _ _ _ => ⟨trivial, trivial⟩)
      refine FlowAll.cons ?_ ?_
      · intro xF wz hR hd K hK
        have dd9 : ((xF 9) = .bool true) := hd 9 (by kernel_rfl)
        clear hd
        simp only [← hAF, Act.put, List.setIfInBounds_toArray, List.set_cons_zero, List.set_cons_succ] at hK ⊢
        clear hAF
        try simp only [Nat.zero_add] at hK ⊢
        try simp only [Nat.reduceAdd] at hK ⊢
        try generalize xF 9 = yy9 at *
        obtain rfl := dd9
        obtain hbR := id hR
        rw [if_neg (by intro h; exact absurd (show false = true from h) Bool.false_ne_true)]
        try simp only [Act.put, List.setIfInBounds_toArray, List.set_cons_zero, List.set_cons_succ]
        exact hK.out _ _ (Below.refl _ _) (rfl) (fun _ _ _ => ⟨trivial, trivial⟩)
      refine FlowAll.cons ?_ ?_
      · intro xF wz hR hd K hK
        have dd9 : ((xF 9) = .bool true) := hd 9 (by kernel_rfl)
        clear hd
        simp only [← hAF, Act.put, List.setIfInBounds_toArray, List.set_cons_zero, List.set_cons_succ] at hK ⊢
        clear hAF
        try simp only [Nat.zero_add] at hK ⊢
        try simp only [Nat.reduceAdd] at hK ⊢
        try generalize xF 9 = yy9 at *
        obtain rfl := dd9
        obtain hbR := id hR
        rw [if_neg (by intro h; exact absurd (show false = true from h) Bool.false_ne_true)]
        try simp only [Act.put, List.setIfInBounds_toArray, List.set_cons_zero, List.set_cons_succ]
        exact hK.out _ _ (Below.refl _ _) (rfl) (fun _ _ _ => ⟨trivial, trivial⟩)
      refine FlowAll.cons ?_ ?_
      · intro xF wz hR hd K hK
        have dd9 : ((xF 9) = .bool true) := hd 9 (by kernel_rfl)
        clear hd
        simp only [← hAF, Act.put, List.setIfInBounds_toArray, List.set_cons_zero, List.set_cons_succ] at hK ⊢
        clear hAF
        try simp only [Nat.zero_add] at hK ⊢
        try simp only [Nat.reduceAdd] at hK ⊢
        try generalize xF 9 = yy9 at *
        obtain rfl := dd9
        obtain hbR := id hR
        rw [if_neg (by intro h; exact absurd (show false = true from h) Bool.false_ne_true)]
        try simp only [Act.put, List.setIfInBounds_toArray, List.set_cons_zero, List.set_cons_succ]
        exact hK.out _ _ (Below.refl _ _) (rfl) (fun _ _ _ => ⟨trivial, trivial⟩)
      refine FlowAll.cons ?_ ?_
      · intro xF wz hR hd K hK
        have dd9 : ((xF 9) = .bool true) := hd 9 (by kernel_rfl)
        clear hd
        simp only [← hAF, Act.put, List.setIfInBounds_toArray, List.set_cons_zero, List.set_cons_succ] at hK ⊢
        clear hAF
        try simp only [Nat.zero_add] at hK ⊢
        try simp only [Nat.reduceAdd] at hK ⊢
        try generalize xF 9 = yy9 at *
        obtain rfl := dd9
        obtain hbR := id hR
        rw [if_neg (by intro h; exact absurd (show false = true from h) Bool.false_ne_true)]
        try simp only [Act.put, List.setIfInBounds_toArray, List.set_cons_zero, List.set_cons_succ]
        exact hK.out _ _ (Below.refl _ _) (rfl) (fun _ _ _ => ⟨trivial, trivial⟩)
      refine FlowAll.cons ?_ ?_
      · intro xF wz hR hd K hK
        have dd9 : ((xF 9) = .bool true) := hd 9 (by kernel_rfl)
        clear hd
        simp only [← hAF, Act.put, List.setIfInBounds_toArray, List.set_cons_zero, List.set_cons_succ] at hK ⊢
        clear hAF
        try simp only [Nat.zero_add] at hK ⊢
        try simp only [Nat.reduceAdd] at hK ⊢
        try generalize xF 9 = yy9 at *
        obtain rfl := dd9
        obtain hbR := id hR
        rw [if_neg (by intro h; exact absurd (show false = true from h) Bool.false_ne_true)]
        try simp only [Act.put, List.setIfInBounds_toArray, List.set_cons_zero, List.set_cons_succ]
        exact hK.out _ _ (Below.refl _ _) (rfl) (fun _ _ _ => ⟨trivial, trivial⟩)
      refine FlowAll.cons ?_ ?_
      · intro xF wz hR hd K hK
        have dd6 : ((xF 6) = .bool true) := hd 6 (by kernel_rfl)
        have dd9 : ((xF 9) = .bool true) := hd 9 (by kernel_rfl)
        have dd15 : ((xF 15) = undef) := hd 15 (by kernel_rfl)
        clear hd
        simp only [← hAF, Act.put, List.setIfInBounds_toArray, List.set_cons_zero, List.set_cons_succ] at hK ⊢
        clear hAF
        try simp only [Nat.zero_add] at hK ⊢
        try simp only [Nat.reduceAdd] at hK ⊢
        try generalize xF 6 = yy6 at *
        try generalize xF 9 = yy9 at *
        try generalize xF 15 = yy15 at *
        obtain rfl := dd6
        obtain rfl := dd9
        obtain rfl := dd15
        obtain hbR := id hR
        rw [if_pos (by rfl)]
        go_simp
        exact hK.out _ _ (Below.refl _ _) (rfl) (fun _ _ _ => ⟨trivial, trivial⟩)
      refine FlowAll.cons ?_ ?_
      · intro xF wz hR hd K hK
        have dd6 : ((xF 6) = .bool true) := hd 6 (by kernel_rfl)
        have dd16 : ((xF 16) = .bool true) := hd 16 (by kernel_rfl)
        clear hd
        simp only [← hAF, Act.put, List.setIfInBounds_toArray, List.set_cons_zero, List.set_cons_succ] at hK ⊢
        clear hAF
        try simp only [Nat.zero_add] at hK ⊢
        try simp only [Nat.reduceAdd] at hK ⊢
        try generalize xF 6 = yy6 at *
        try generalize xF 16 = yy16 at *
        obtain rfl := dd6
        obtain rfl := dd16
        obtain hbR := id hR
        rw [if_pos (by rfl)]
        go_simp
        exact hK.out _ _ (Below.refl _ _) (rfl) (fun _ _ _ => ⟨trivial, trivial⟩)
      refine FlowAll.cons ?_ ?_
      · intro xF wz hR hd K hK
        have dd17 : ((xF 17) = .bool true) := hd 17 (by kernel_rfl)
        clear hd
        simp only [← hAF, Act.put, List.setIfInBounds_toArray, List.set_cons_zero, List.set_cons_succ] at hK ⊢
        clear hAF
        try simp only [Nat.zero_add] at hK ⊢
        try simp only [Nat.reduceAdd] at hK ⊢
        try generalize xF 17 = yy17 at *
        obtain rfl := dd17
        obtain hbR := id hR
        rw [if_pos (by rfl)]
        go_simp
        exact hK.out _ _ (Below.refl _ _) (rfl) (fun _ _ _ => ⟨trivial, trivial⟩)
      refine FlowAll.cons ?_ ?_
      · intro xF wz hR hd K hK
        have dd18 : ((xF 18) = .bool true) := hd 18 (by kernel_rfl)
        clear hd
        simp only [← hAF, Act.put, List.setIfInBounds_toArray, List.set_cons_zero, List.set_cons_succ] at hK ⊢
        clear hAF
        try simp only [Nat.zero_add] at hK ⊢
        try simp only [Nat.reduceAdd] at hK ⊢
        try generalize xF 18 = yy18 at *
        obtain rfl := dd18
        obtain hbR := id hR
        rw [if_pos (by rfl)]
        go_simp
        (go_at_call 7; (with_reducible refine (HAW.out _).mono ?_); rintro e wK ⟨rfl, hbK⟩)
        try go_wp2_with fail
        exact hK.out _ _ (hbK) (rfl) (fun _ _ _ => ⟨trivial, trivial⟩)
      refine FlowAll.cons ?_ ?_
      · intro xF wz hR hd K hK
        have dd18 : ((xF 18) = .bool true) := hd 18 (by kernel_rfl)
        have dd19 : ((xF 19) = .bool true) := hd 19 (by kernel_rfl)
        clear hd
        simp only [← hAF, Act.put, List.setIfInBounds_toArray, List.set_cons_zero, List.set_cons_succ] at hK ⊢
        clear hAF
        try simp only [Nat.zero_add] at hK ⊢
        try simp only [Nat.reduceAdd] at hK ⊢
        try generalize xF 18 = yy18 at *
        try generalize xF 19 = yy19 at *
        obtain rfl := dd18
        obtain rfl := dd19
        obtain hbR := id hR
        rw [if_pos (by rfl)]
        go_simp
        exact hK.out _ _ (Below.refl _ _) (rfl) (fun _ _ _ => ⟨trivial, trivial⟩)
      exact FlowAll.nil
    intro xF wz hR hF hP
    clear hP
    have dd0 : ((xF 0) = .agg #[.int .i64 x.k, .int .u64 x.cl.a, .int .u64 x.cl.b, .int .u64 x.cl.c, .int .u64 x.cl.d, .slice ko3 kn3 kc3, .int .i64 x.mn, .int .i64 x.mx]) := hF 0 (by omega) (by decide)
    have dd1 : ((xF 1) = .agg #[.int .i64 a.k, .int .u64 a.cl.a, .int .u64 a.cl.b, .int .u64 a.cl.c, .int .u64 a.cl.d, .slice ko1 kn1 kc1, .int .i64 a.mn, .int .i64 a.mx]) := hF 1 (by omega) (by decide)
    have dd2 : ((xF 2) = .agg #[.int .i64 b.k, .int .u64 b.cl.a, .int .u64 b.cl.b, .int .u64 b.cl.c, .int .u64 b.cl.d, .slice ko2 kn2 kc2, .int .i64 b.mn, .int .i64 b.mx]) := hF 2 (by omega) (by decide)
    have dd3 : (∃ g, (xF 3) = .slice (some ⟨g, 0, none⟩) 2 2 ∧ wz.heap[g]? = some (.cells #[.int .i64 a.k, .int .u64 a.cl.a, .int .u64 a.cl.b, .int .u64 a.cl.c, .int .u64 a.cl.d, .slice ko1 kn1 kc1, .int .i64 a.mn, .int .i64 a.mx, .int .i64 b.k, .int .u64 b.cl.a, .int .u64 b.cl.b, .int .u64 b.cl.c, .int .u64 b.cl.d, .slice ko2 kn2 kc2, .int .i64 b.mn, .int .i64 b.mx] 28)) := hF 3 (by omega) (by decide)
    have dd4 : (∃ fo fn fc, (xF 4) = .agg #[.int .i64 x.k, .int .u64 x.cl.a, .int .u64 x.cl.b, .int .u64 x.cl.c, .int .u64 x.cl.d, .slice fo fn fc, .int .i64 x.mn, .int .i64 x.mx] ∧ rxR 42 wz wz.heap.size [.int .i64 x.k, .int .u64 x.cl.a, .int .u64 x.cl.b, .int .u64 x.cl.c, .int .u64 x.cl.d, .slice fo fn fc, .int .i64 x.mn, .int .i64 x.mx] x) := hF 4 (by omega) (by decide)
    have dd5 : ((xF 5) = .bool true) := hF 5 (by omega) (by decide)
    have dd6 : ((xF 6) = .bool true) := hF 6 (by omega) (by decide)
    have dd7 : ((xF 7) = .int .i64 11) := hF 7 (by omega) (by decide)
    have dd8 : ((xF 8) = .bool true) := hF 8 (by omega) (by decide)
    have dd9 : ((xF 9) = .bool true) := hF 9 (by omega) (by decide)
    have dd10 : ((xF 10) = undef) := hF 10 (by omega) (by decide)
    have dd11 : ((xF 11) = undef) := hF 11 (by omega) (by decide)
    have dd12 : ((xF 12) = undef) := hF 12 (by omega) (by decide)
    have dd13 : ((xF 13) = undef) := hF 13 (by omega) (by decide)
    have dd14 : ((xF 14) = undef) := hF 14 (by omega) (by decide)
    have dd15 : ((xF 15) = undef) := hF 15 (by omega) (by decide)
    have dd16 : ((xF 16) = .bool true) := hF 16 (by omega) (by decide)
    have dd17 : ((xF 17) = .bool true) := hF 17 (by omega) (by decide)
    have dd18 : ((xF 18) = .bool true) := hF 18 (by omega) (by decide)
    have dd19 : ((xF 19) = .bool true) := hF 19 (by omega) (by decide)
    have dd20 : ((xF 20) = .bool true) := hF 20 (by omega) (by decide)
    clear hF
    simp only [List.take_succ_cons, List.take_zero, List.drop_succ_cons, List.drop_zero, fillOf, Act.put, List.setIfInBounds_toArray, List.set_cons_zero, List.set_cons_succ, Nat.reduceAdd, Nat.zero_add]
    try generalize xF 0 = yy0 at *
    try generalize xF 1 = yy1 at *
    try generalize xF 2 = yy2 at *
    try generalize xF 3 = yy3 at *
    try generalize xF 4 = yy4 at *
    try generalize xF 5 = yy5 at *
    try generalize xF 6 = yy6 at *
    try generalize xF 7 = yy7 at *
    try generalize xF 8 = yy8 at *
    try generalize xF 9 = yy9 at *
    try generalize xF 10 = yy10 at *
    try generalize xF 11 = yy11 at *
    try generalize xF 12 = yy12 at *
    try generalize xF 13 = yy13 at *
    try generalize xF 14 = yy14 at *
    try generalize xF 15 = yy15 at *
    try generalize xF 16 = yy16 at *
    try generalize xF 17 = yy17 at *
    try generalize xF 18 = yy18 at *
    try generalize xF 19 = yy19 at *
    try generalize xF 20 = yy20 at *
    clear xF
    obtain rfl := dd0
    obtain rfl := dd1
    obtain rfl := dd2
    obtain ⟨g3, rfl, hg3⟩ := dd3
    obtain ⟨fo4, fn4, fc4, rfl, hf4⟩ := dd4
    obtain rfl := dd5
    obtain rfl := dd6
    obtain rfl := dd7
    obtain rfl := dd8
    obtain rfl := dd9
    obtain rfl := dd10
    obtain rfl := dd11
    obtain rfl := dd12
    obtain rfl := dd13
    obtain rfl := dd14
    obtain rfl := dd15
    obtain rfl := dd16
    obtain rfl := dd17
    obtain rfl := dd18
    obtain rfl := dd19
    obtain rfl := dd20
    have hRE := Lib.hid hR
    clear hR
    go_wp2
    go_ret
    exact ⟨rfl, D9.out.trans (hRE.out.mono D9.out.size)⟩
  · obtain ⟨y, hy⟩ : ∃ y, y = Pat.gather 3 ([a, b].filter (fun x => x.k != 1)) := ⟨_, rfl⟩
    have HF3 : Hid (∀ (W : World) (v : Value), RowsAt 8 (rxR 41) W W.heap.size v [a, b] → Calls Try.prog 19 #[.int .i64 3, v] W (fun e w' => ∃ c, e = .returned (.agg (List.toArray c)) ∧ rxR 42 w' w'.heap.size c y ∧ Below W.heap.size W w')) := fun W v h => by rw [hy, ← lf_then]; exact flat_any 3 40 [a, b] v W h hsz
    have HP7 : Hid (∀ W, Calls Try.prog 8 #[.string (⟨#[40]⟩ ++ s ++ ⟨#[41, 40]⟩ ++ t ++ ⟨#[41]⟩)] W (fun eE w' => ∃ c, eE = .returned (.tuple #[.agg (List.toArray c), .int .i64 0, .int .i64 0]) ∧ Fre W.heap.size w' (fun W => rxR 40 W W.heap.size c y) ∧ Below W.heap.size W w')) := fun W => by have h := rf_parse_any (⟨#[40]⟩ ++ s ++ ⟨#[41, 40]⟩ ++ t ++ ⟨#[41]⟩) W; rw [ok_parse hk, ← hy] at h; exact h
    clear hpa hpb hsl htl HZ oa ob hj hk e3 e4 hsz hx hy l1 hsum
    go_enter Try.func6, Try.ntmps6
    go_wp2_with fail
    (with_reducible refine (HP1.out _).mono ?_)
    rintro e1 w1 ⟨c1, rfl, f1, b1⟩
    obtain ⟨ko1, kn1, kc1, rfl⟩ := rx_form f1.at
    have F1 := Lib.hid f1.at
    have D1 := Lib.hid (b1)
    clear f1 b1
    go_wp2_with fail
    obtain ⟨qa, hq2⟩ : ∃ z, z = w1.heap.size := ⟨_, rfl⟩
    obtain ⟨w2, hw2⟩ : ∃ W, W = w1.alloc (.cells #[.int .i64 a.k, .int .u64 a.cl.a, .int .u64 a.cl.b, .int .u64 a.cl.c, .int .u64 a.cl.d, .slice ko1 kn1 kc1, .int .i64 a.mn, .int .i64 a.mx] 28) := ⟨_, rfl⟩
    have b2 : Below w1.heap.size w1 w2 := by rw [hw2]; exact below1
    have XA2 : Hid (w2.heap[qa]? = some (.cells #[.int .i64 a.k, .int .u64 a.cl.a, .int .u64 a.cl.b, .int .u64 a.cl.c, .int .u64 a.cl.d, .slice ko1 kn1 kc1, .int .i64 a.mn, .int .i64 a.mx] 28)) := by show _ = _; rw [hw2, hq2]; exact heap_alloc_new _ _
    have RA2 := Lib.hid (rxR_steady 40 _ _ _ _ _ _ F1.out b2 b2.size)
    have D2 := Lib.hid (D1.out.trans (b2.mono D1.out.size))
    have HW2 := Lib.hid hw2
    have HQ2 := Lib.hid hq2
    clear b2 hw2 hq2
    rw [← HW2.out, ← HQ2.out]
    (with_reducible refine (HP3.out _).mono ?_)
    rintro e3 w3 ⟨c3, rfl, f3, b3⟩
    obtain ⟨ko2, kn2, kc2, rfl⟩ := rx_form f3.at
    have F3 := Lib.hid f3.at
    have D3 := Lib.hid (D2.out.trans (b3.mono D2.out.size))
    have XA3 := Lib.hid ((b3.block _ (lt_of_block XA2.out)).trans XA2.out)
    have RA3 := Lib.hid (rxR_steady 40 _ _ _ _ _ _ RA2.out b3 b3.size)
    clear f3 b3
    go_wp2_with fail
    obtain ⟨qb, hq4⟩ : ∃ z, z = w3.heap.size := ⟨_, rfl⟩
    obtain ⟨w4, hw4⟩ : ∃ W, W = w3.alloc (.cells #[.int .i64 b.k, .int .u64 b.cl.a, .int .u64 b.cl.b, .int .u64 b.cl.c, .int .u64 b.cl.d, .slice ko2 kn2 kc2, .int .i64 b.mn, .int .i64 b.mx] 28) := ⟨_, rfl⟩
    have b4 : Below w3.heap.size w3 w4 := by rw [hw4]; exact below1
    have XB4 : Hid (w4.heap[qb]? = some (.cells #[.int .i64 b.k, .int .u64 b.cl.a, .int .u64 b.cl.b, .int .u64 b.cl.c, .int .u64 b.cl.d, .slice ko2 kn2 kc2, .int .i64 b.mn, .int .i64 b.mx] 28)) := by show _ = _; rw [hw4, hq4]; exact heap_alloc_new _ _
    have RB4 := Lib.hid (rxR_steady 40 _ _ _ _ _ _ F3.out b4 b4.size)
    have D4 := Lib.hid (D3.out.trans (b4.mono D3.out.size))
    have XA4 := Lib.hid ((b4.block _ (lt_of_block XA3.out)).trans XA3.out)
    have RA4 := Lib.hid (rxR_steady 40 _ _ _ _ _ _ RA3.out b4 b4.size)
    have HW4 := Lib.hid hw4
    have HQ4 := Lib.hid hq4
    clear b4 hw4 hq4
    rw [← HW4.out, ← HQ4.out]
    (with_reducible refine (HP5.out _).mono ?_)
    rintro e5 w5 ⟨c5, rfl, f5, b5⟩
    obtain ⟨ko3, kn3, kc3, rfl⟩ := rx_form f5.at
    have F5 := Lib.hid f5.at
    have D5 := Lib.hid (D4.out.trans (b5.mono D4.out.size))
    have XA5 := Lib.hid ((b5.block _ (lt_of_block XA4.out)).trans XA4.out)
    have RA5 := Lib.hid (rxR_steady 40 _ _ _ _ _ _ RA4.out b5 b5.size)
    have XB5 := Lib.hid ((b5.block _ (lt_of_block XB4.out)).trans XB4.out)
    have RB5 := Lib.hid (rxR_steady 40 _ _ _ _ _ _ RB4.out b5 b5.size)
    clear f5 b5
    go_wp2_with fail
    obtain ⟨qo, hq6⟩ : ∃ z, z = w5.heap.size := ⟨_, rfl⟩
    obtain ⟨w6, hw6⟩ : ∃ W, W = w5.alloc (.cells #[.int .i64 x.k, .int .u64 x.cl.a, .int .u64 x.cl.b, .int .u64 x.cl.c, .int .u64 x.cl.d, .slice ko3 kn3 kc3, .int .i64 x.mn, .int .i64 x.mx] 28) := ⟨_, rfl⟩
    have b6 : Below w5.heap.size w5 w6 := by rw [hw6]; exact below1
    have XO6 : Hid (w6.heap[qo]? = some (.cells #[.int .i64 x.k, .int .u64 x.cl.a, .int .u64 x.cl.b, .int .u64 x.cl.c, .int .u64 x.cl.d, .slice ko3 kn3 kc3, .int .i64 x.mn, .int .i64 x.mx] 28)) := by show _ = _; rw [hw6, hq6]; exact heap_alloc_new _ _
    have RO6 := Lib.hid (rxR_steady 40 _ _ _ _ _ _ F5.out b6 b6.size)
    have D6 := Lib.hid (D5.out.trans (b6.mono D5.out.size))
    have XA6 := Lib.hid ((b6.block _ (lt_of_block XA5.out)).trans XA5.out)
    have RA6 := Lib.hid (rxR_steady 40 _ _ _ _ _ _ RA5.out b6 b6.size)
    have XB6 := Lib.hid ((b6.block _ (lt_of_block XB5.out)).trans XB5.out)
    have RB6 := Lib.hid (rxR_steady 40 _ _ _ _ _ _ RB5.out b6 b6.size)
    have HW6 := Lib.hid hw6
    have HQ6 := Lib.hid hq6
    clear b6 hw6 hq6
    rw [← HW6.out, ← HQ6.out]
    (with_reducible refine (HP7.out _).mono ?_)
    rintro e7 w7 ⟨c7, rfl, f7, b7⟩
    obtain ⟨ko4, kn4, kc4, rfl⟩ := rx_form f7.at
    have F7 := Lib.hid f7.at
    have D7 := Lib.hid (D6.out.trans (b7.mono D6.out.size))
    have XA7 := Lib.hid ((b7.block _ (lt_of_block XA6.out)).trans XA6.out)
    have RA7 := Lib.hid (rxR_steady 40 _ _ _ _ _ _ RA6.out b7 b7.size)
    have XB7 := Lib.hid ((b7.block _ (lt_of_block XB6.out)).trans XB6.out)
    have RB7 := Lib.hid (rxR_steady 40 _ _ _ _ _ _ RB6.out b7 b7.size)
    have XO7 := Lib.hid ((b7.block _ (lt_of_block XO6.out)).trans XO6.out)
    have RO7 := Lib.hid (rxR_steady 40 _ _ _ _ _ _ RO6.out b7 b7.size)
    clear f7 b7
    go_wp2
    obtain ⟨qt, hq8⟩ : ∃ z, z = w7.heap.size := ⟨_, rfl⟩
    obtain ⟨w8, hw8⟩ : ∃ W, W = w7.alloc (.cells #[.int .i64 y.k, .int .u64 y.cl.a, .int .u64 y.cl.b, .int .u64 y.cl.c, .int .u64 y.cl.d, .slice ko4 kn4 kc4, .int .i64 y.mn, .int .i64 y.mx] 28) := ⟨_, rfl⟩
    have b8 : Below w7.heap.size w7 w8 := by rw [hw8]; exact below1
    have XT8 : Hid (w8.heap[qt]? = some (.cells #[.int .i64 y.k, .int .u64 y.cl.a, .int .u64 y.cl.b, .int .u64 y.cl.c, .int .u64 y.cl.d, .slice ko4 kn4 kc4, .int .i64 y.mn, .int .i64 y.mx] 28)) := by show _ = _; rw [hw8, hq8]; exact heap_alloc_new _ _
    have RT8 := Lib.hid (rxR_steady 40 _ _ _ _ _ _ F7.out b8 b8.size)
    have D8 := Lib.hid (D7.out.trans (b8.mono D7.out.size))
    have XA8 := Lib.hid ((b8.block _ (lt_of_block XA7.out)).trans XA7.out)
    have RA8 := Lib.hid (rxR_steady 40 _ _ _ _ _ _ RA7.out b8 b8.size)
    have XB8 := Lib.hid ((b8.block _ (lt_of_block XB7.out)).trans XB7.out)
    have RB8 := Lib.hid (rxR_steady 40 _ _ _ _ _ _ RB7.out b8 b8.size)
    have XO8 := Lib.hid ((b8.block _ (lt_of_block XO7.out)).trans XO7.out)
    have RO8 := Lib.hid (rxR_steady 40 _ _ _ _ _ _ RO7.out b8 b8.size)
    have HW8 := Lib.hid hw8
    have HQ8 := Lib.hid hq8
    clear b8 hw8 hq8
    rw [← HW8.out, ← HQ8.out]
    obtain ⟨w9, h9⟩ : ∃ W, W = w8 := ⟨_, rfl⟩
    have XA := XA8
    have XB := XB8
    have XO := XO8
    have XT := XT8
    rw [← h9] at XA XB XO XT ⊢
    have HRA : Hid (∀ W, Below w9.heap.size w9 W → rxR 41 W W.heap.size [.int .i64 a.k, .int .u64 a.cl.a, .int .u64 a.cl.b, .int .u64 a.cl.c, .int .u64 a.cl.d, .slice ko1 kn1 kc1, .int .i64 a.mn, .int .i64 a.mx] a) := fun W hW => rxR_le (by decide) (rxR_steady 40 _ _ _ _ _ _ RA8.out (by rw [← h9]; exact hW) (by rw [← h9]; exact hW.size))
    have HRB : Hid (∀ W, Below w9.heap.size w9 W → rxR 41 W W.heap.size [.int .i64 b.k, .int .u64 b.cl.a, .int .u64 b.cl.b, .int .u64 b.cl.c, .int .u64 b.cl.d, .slice ko2 kn2 kc2, .int .i64 b.mn, .int .i64 b.mx] b) := fun W hW => rxR_le (by decide) (rxR_steady 40 _ _ _ _ _ _ RB8.out (by rw [← h9]; exact hW) (by rw [← h9]; exact hW.size))
    have HRO : Hid (∀ W, Below w9.heap.size w9 W → rxR 40 W W.heap.size [.int .i64 x.k, .int .u64 x.cl.a, .int .u64 x.cl.b, .int .u64 x.cl.c, .int .u64 x.cl.d, .slice ko3 kn3 kc3, .int .i64 x.mn, .int .i64 x.mx] x) := fun W hW => rxR_steady 40 _ _ _ _ _ _ RO8.out (by rw [← h9]; exact hW) (by rw [← h9]; exact hW.size)
    have HRT : Hid (∀ W, Below w9.heap.size w9 W → rxR 40 W W.heap.size [.int .i64 y.k, .int .u64 y.cl.a, .int .u64 y.cl.b, .int .u64 y.cl.c, .int .u64 y.cl.d, .slice ko4 kn4 kc4, .int .i64 y.mn, .int .i64 y.mx] y) := fun W hW => rxR_steady 40 _ _ _ _ _ _ RT8.out (by rw [← h9]; exact hW) (by rw [← h9]; exact hW.size)
    have D9 : Hid (Below w.heap.size w w9) := by show Below _ _ _; rw [h9]; exact D8.out
    clear h9
    go_wp2
    refine wp_flow 21 (fun _ => 1000) (fun ww => Below w9.heap.size w9 ww) (fun _ w w' => (fun (w w' : World) => RowKit.Below w.heap.size w w') w w') (fun kF vF wF => match kF with | 0 => (vF = .agg #[.int .i64 x.k, .int .u64 x.cl.a, .int .u64 x.cl.b, .int .u64 x.cl.c, .int .u64 x.cl.d, .slice ko3 kn3 kc3, .int .i64 x.mn, .int .i64 x.mx]) | 1 => (vF = .agg #[.int .i64 a.k, .int .u64 a.cl.a, .int .u64 a.cl.b, .int .u64 a.cl.c, .int .u64 a.cl.d, .slice ko1 kn1 kc1, .int .i64 a.mn, .int .i64 a.mx]) | 2 => (vF = .agg #[.int .i64 b.k, .int .u64 b.cl.a, .int .u64 b.cl.b, .int .u64 b.cl.c, .int .u64 b.cl.d, .slice ko2 kn2 kc2, .int .i64 b.mn, .int .i64 b.mx]) | 3 => (∃ g, vF = .slice (some ⟨g, 0, none⟩) 2 2 ∧ wF.heap[g]? = some (.cells #[.int .i64 a.k, .int .u64 a.cl.a, .int .u64 a.cl.b, .int .u64 a.cl.c, .int .u64 a.cl.d, .slice ko1 kn1 kc1, .int .i64 a.mn, .int .i64 a.mx, .int .i64 b.k, .int .u64 b.cl.a, .int .u64 b.cl.b, .int .u64 b.cl.c, .int .u64 b.cl.d, .slice ko2 kn2 kc2, .int .i64 b.mn, .int .i64 b.mx] 28)) | 4 => (∃ fo fn fc, vF = .agg #[.int .i64 x.k, .int .u64 x.cl.a, .int .u64 x.cl.b, .int .u64 x.cl.c, .int .u64 x.cl.d, .slice fo fn fc, .int .i64 x.mn, .int .i64 x.mx] ∧ rxR 42 wF wF.heap.size [.int .i64 x.k, .int .u64 x.cl.a, .int .u64 x.cl.b, .int .u64 x.cl.c, .int .u64 x.cl.d, .slice fo fn fc, .int .i64 x.mn, .int .i64 x.mx] x) | 5 => (vF = .bool true) | 6 => (vF = .bool true) | 7 => (vF = .int .i64 0) | 8 => (vF = .bool false) | 9 => (vF = .bool false) | 10 => (vF = .agg #[.int .i64 y.k, .int .u64 y.cl.a, .int .u64 y.cl.b, .int .u64 y.cl.c, .int .u64 y.cl.d, .slice ko4 kn4 kc4, .int .i64 y.mn, .int .i64 y.mx]) | 11 => (vF = .agg #[.int .i64 a.k, .int .u64 a.cl.a, .int .u64 a.cl.b, .int .u64 a.cl.c, .int .u64 a.cl.d, .slice ko1 kn1 kc1, .int .i64 a.mn, .int .i64 a.mx]) | 12 => (vF = .agg #[.int .i64 b.k, .int .u64 b.cl.a, .int .u64 b.cl.b, .int .u64 b.cl.c, .int .u64 b.cl.d, .slice ko2 kn2 kc2, .int .i64 b.mn, .int .i64 b.mx]) | 13 => (∃ g, vF = .slice (some ⟨g, 0, none⟩) 2 2 ∧ wF.heap[g]? = some (.cells #[.int .i64 a.k, .int .u64 a.cl.a, .int .u64 a.cl.b, .int .u64 a.cl.c, .int .u64 a.cl.d, .slice ko1 kn1 kc1, .int .i64 a.mn, .int .i64 a.mx, .int .i64 b.k, .int .u64 b.cl.a, .int .u64 b.cl.b, .int .u64 b.cl.c, .int .u64 b.cl.d, .slice ko2 kn2 kc2, .int .i64 b.mn, .int .i64 b.mx] 28)) | 14 => (∃ fo fn fc, vF = .agg #[.int .i64 y.k, .int .u64 y.cl.a, .int .u64 y.cl.b, .int .u64 y.cl.c, .int .u64 y.cl.d, .slice fo fn fc, .int .i64 y.mn, .int .i64 y.mx] ∧ rxR 42 wF wF.heap.size [.int .i64 y.k, .int .u64 y.cl.a, .int .u64 y.cl.b, .int .u64 y.cl.c, .int .u64 y.cl.d, .slice fo fn fc, .int .i64 y.mn, .int .i64 y.mx] y) | 15 => (vF = .bool true) | 16 => (vF = .bool true) | 17 => (vF = .bool true) | 18 => (vF = .bool true) | 19 => (vF = .bool true) | 20 => (vF = .bool true) | _ => True) (fun _ _ _ _ => True) (by kernel_rfl) (by kernel_rfl) ?_ ?_ ?_ ?_ ?_
    · exact (Below.refl _ _).drew
    · intro iF wF1 wF2 hR hT; exact hR.trans (Below.mono hT (Below.size hR))
    · intro kF hkF iF hiF hne hdd hanc hdan vF wF1 wF2 h hT
      rcases (by omega : kF = 0 ∨ kF = 1 ∨ kF = 2 ∨ kF = 3 ∨ kF = 4 ∨ kF = 5 ∨ kF = 6 ∨ kF = 7 ∨ kF = 8 ∨ kF = 9 ∨ kF = 10 ∨ kF = 11 ∨ kF = 12 ∨ kF = 13 ∨ kF = 14 ∨ kF = 15 ∨ kF = 16 ∨ kF = 17 ∨ kF = 18 ∨ kF = 19 ∨ kF = 20) with rfl | rfl | rfl | rfl | rfl | rfl | rfl | rfl | rfl | rfl | rfl | rfl | rfl | rfl | rfl | rfl | rfl | rfl | rfl | rfl | rfl
      · exact h
      · exact h
      · exact h
      · have h : (∃ g, vF = .slice (some ⟨g, 0, none⟩) 2 2 ∧ wF1.heap[g]? = some (.cells #[.int .i64 a.k, .int .u64 a.cl.a, .int .u64 a.cl.b, .int .u64 a.cl.c, .int .u64 a.cl.d, .slice ko1 kn1 kc1, .int .i64 a.mn, .int .i64 a.mx, .int .i64 b.k, .int .u64 b.cl.a, .int .u64 b.cl.b, .int .u64 b.cl.c, .int .u64 b.cl.d, .slice ko2 kn2 kc2, .int .i64 b.mn, .int .i64 b.mx] 28)) := h
        show (∃ g, vF = .slice (some ⟨g, 0, none⟩) 2 2 ∧ wF2.heap[g]? = some (.cells #[.int .i64 a.k, .int .u64 a.cl.a, .int .u64 a.cl.b, .int .u64 a.cl.c, .int .u64 a.cl.d, .slice ko1 kn1 kc1, .int .i64 a.mn, .int .i64 a.mx, .int .i64 b.k, .int .u64 b.cl.a, .int .u64 b.cl.b, .int .u64 b.cl.c, .int .u64 b.cl.d, .slice ko2 kn2 kc2, .int .i64 b.mn, .int .i64 b.mx] 28))
        have hT : (fun (w w' : World) => RowKit.Below w.heap.size w w') wF1 wF2 := hT
        simp only at hT
        obtain ⟨g, e, hg⟩ := h
        exact ⟨g, e, (hT.block _ (lt_of_block hg)).trans hg⟩
      · have h : (∃ fo fn fc, vF = .agg #[.int .i64 x.k, .int .u64 x.cl.a, .int .u64 x.cl.b, .int .u64 x.cl.c, .int .u64 x.cl.d, .slice fo fn fc, .int .i64 x.mn, .int .i64 x.mx] ∧ rxR 42 wF1 wF1.heap.size [.int .i64 x.k, .int .u64 x.cl.a, .int .u64 x.cl.b, .int .u64 x.cl.c, .int .u64 x.cl.d, .slice fo fn fc, .int .i64 x.mn, .int .i64 x.mx] x) := h
        show (∃ fo fn fc, vF = .agg #[.int .i64 x.k, .int .u64 x.cl.a, .int .u64 x.cl.b, .int .u64 x.cl.c, .int .u64 x.cl.d, .slice fo fn fc, .int .i64 x.mn, .int .i64 x.mx] ∧ rxR 42 wF2 wF2.heap.size [.int .i64 x.k, .int .u64 x.cl.a, .int .u64 x.cl.b, .int .u64 x.cl.c, .int .u64 x.cl.d, .slice fo fn fc, .int .i64 x.mn, .int .i64 x.mx] x)
        have hT : (fun (w w' : World) => RowKit.Below w.heap.size w w') wF1 wF2 := hT
        simp only at hT
        obtain ⟨a, b, c, e, hr⟩ := h
        exact ⟨a, b, c, e, rxR_steady 42 _ _ _ _ _ _ hr hT hT.size⟩
      · exact h
      · exact h
      · exact h
      · exact h
      · exact h
      · exact h
      · exact h
      · exact h
      · have h : (∃ g, vF = .slice (some ⟨g, 0, none⟩) 2 2 ∧ wF1.heap[g]? = some (.cells #[.int .i64 a.k, .int .u64 a.cl.a, .int .u64 a.cl.b, .int .u64 a.cl.c, .int .u64 a.cl.d, .slice ko1 kn1 kc1, .int .i64 a.mn, .int .i64 a.mx, .int .i64 b.k, .int .u64 b.cl.a, .int .u64 b.cl.b, .int .u64 b.cl.c, .int .u64 b.cl.d, .slice ko2 kn2 kc2, .int .i64 b.mn, .int .i64 b.mx] 28)) := h
        show (∃ g, vF = .slice (some ⟨g, 0, none⟩) 2 2 ∧ wF2.heap[g]? = some (.cells #[.int .i64 a.k, .int .u64 a.cl.a, .int .u64 a.cl.b, .int .u64 a.cl.c, .int .u64 a.cl.d, .slice ko1 kn1 kc1, .int .i64 a.mn, .int .i64 a.mx, .int .i64 b.k, .int .u64 b.cl.a, .int .u64 b.cl.b, .int .u64 b.cl.c, .int .u64 b.cl.d, .slice ko2 kn2 kc2, .int .i64 b.mn, .int .i64 b.mx] 28))
        have hT : (fun (w w' : World) => RowKit.Below w.heap.size w w') wF1 wF2 := hT
        simp only at hT
        obtain ⟨g, e, hg⟩ := h
        exact ⟨g, e, (hT.block _ (lt_of_block hg)).trans hg⟩
      · have h : (∃ fo fn fc, vF = .agg #[.int .i64 y.k, .int .u64 y.cl.a, .int .u64 y.cl.b, .int .u64 y.cl.c, .int .u64 y.cl.d, .slice fo fn fc, .int .i64 y.mn, .int .i64 y.mx] ∧ rxR 42 wF1 wF1.heap.size [.int .i64 y.k, .int .u64 y.cl.a, .int .u64 y.cl.b, .int .u64 y.cl.c, .int .u64 y.cl.d, .slice fo fn fc, .int .i64 y.mn, .int .i64 y.mx] y) := h
        show (∃ fo fn fc, vF = .agg #[.int .i64 y.k, .int .u64 y.cl.a, .int .u64 y.cl.b, .int .u64 y.cl.c, .int .u64 y.cl.d, .slice fo fn fc, .int .i64 y.mn, .int .i64 y.mx] ∧ rxR 42 wF2 wF2.heap.size [.int .i64 y.k, .int .u64 y.cl.a, .int .u64 y.cl.b, .int .u64 y.cl.c, .int .u64 y.cl.d, .slice fo fn fc, .int .i64 y.mn, .int .i64 y.mx] y)
        have hT : (fun (w w' : World) => RowKit.Below w.heap.size w w') wF1 wF2 := hT
        simp only at hT
        obtain ⟨a, b, c, e, hr⟩ := h
        exact ⟨a, b, c, e, rxR_steady 42 _ _ _ _ _ _ hr hT hT.size⟩
      · exact h
      · exact h
      · exact h
      · exact h
      · exact h
      · exact h
    · generalize hAF : fillOf _ _ _ = AF
      replace hAF := fun x => congrFun hAF x
      simp only [List.take_succ_cons, List.take_zero, fillOf, Act.put, List.setIfInBounds_toArray, List.set_cons_zero, List.set_cons_succ, Nat.reduceAdd, Nat.zero_add] at hAF
      refine FlowAll.cons ?_ ?_
      · intro xF wz hR hd K hK
        clear hd
        simp only [← hAF, Act.put, List.setIfInBounds_toArray, List.set_cons_zero, List.set_cons_succ] at hK ⊢
        clear hAF
        try simp only [Nat.zero_add] at hK ⊢
        try simp only [Nat.reduceAdd] at hK ⊢
        obtain hbR := id hR
        have hxa := (hbR.block _ (lt_of_block XO.out)).trans XO.out
        have c90 := boxc hxa 0 _ rfl
        have c91 := boxc hxa 1 _ rfl
        have c92 := boxc hxa 2 _ rfl
        have c93 := boxc hxa 3 _ rfl
        have c94 := boxc hxa 4 _ rfl
        have c95 := boxc hxa 5 _ rfl
        have c96 := boxc hxa 6 _ rfl
        have c97 := boxc hxa 7 _ rfl
        clear hxa
        rw [if_pos (by rfl)]
        go_simp
        exact hK.out _ _ (Below.refl _ _) (rfl) (fun _ _ _ => ⟨trivial, trivial⟩)
      refine FlowAll.cons ?_ ?_
      · intro xF wz hR hd K hK
        clear hd
        simp only [← hAF, Act.put, List.setIfInBounds_toArray, List.set_cons_zero, List.set_cons_succ] at hK ⊢
        clear hAF
        try simp only [Nat.zero_add] at hK ⊢
        try simp only [Nat.reduceAdd] at hK ⊢
        obtain hbR := id hR
        have hxa := (hbR.block _ (lt_of_block XA.out)).trans XA.out
        have c90 := boxc hxa 0 _ rfl
        have c91 := boxc hxa 1 _ rfl
        have c92 := boxc hxa 2 _ rfl
        have c93 := boxc hxa 3 _ rfl
        have c94 := boxc hxa 4 _ rfl
        have c95 := boxc hxa 5 _ rfl
        have c96 := boxc hxa 6 _ rfl
        have c97 := boxc hxa 7 _ rfl
        clear hxa
        rw [if_pos (by rfl)]
        go_simp
        exact hK.out _ _ (Below.refl _ _) (rfl) (fun _ _ _ => ⟨trivial, trivial⟩)
      refine FlowAll.cons ?_ ?_
      · intro xF wz hR hd K hK
        clear hd
        simp only [← hAF, Act.put, List.setIfInBounds_toArray, List.set_cons_zero, List.set_cons_succ] at hK ⊢
        clear hAF
        try simp only [Nat.zero_add] at hK ⊢
        try simp only [Nat.reduceAdd] at hK ⊢
        obtain hbR := id hR
        have hxa := (hbR.block _ (lt_of_block XB.out)).trans XB.out
        have c90 := boxc hxa 0 _ rfl
        have c91 := boxc hxa 1 _ rfl
        have c92 := boxc hxa 2 _ rfl
        have c93 := boxc hxa 3 _ rfl
        have c94 := boxc hxa 4 _ rfl
        have c95 := boxc hxa 5 _ rfl
        have c96 := boxc hxa 6 _ rfl
        have c97 := boxc hxa 7 _ rfl
        clear hxa
        rw [if_pos (by rfl)]
        go_simp
        exact hK.out _ _ (Below.refl _ _) (rfl) (fun _ _ _ => ⟨trivial, trivial⟩)
      refine FlowAll.cons ?_ ?_
      · intro xF wz hR hd K hK
        have dd1 : ((xF 1) = .agg #[.int .i64 a.k, .int .u64 a.cl.a, .int .u64 a.cl.b, .int .u64 a.cl.c, .int .u64 a.cl.d, .slice ko1 kn1 kc1, .int .i64 a.mn, .int .i64 a.mx]) := hd 1 (by kernel_rfl)
        have dd2 : ((xF 2) = .agg #[.int .i64 b.k, .int .u64 b.cl.a, .int .u64 b.cl.b, .int .u64 b.cl.c, .int .u64 b.cl.d, .slice ko2 kn2 kc2, .int .i64 b.mn, .int .i64 b.mx]) := hd 2 (by kernel_rfl)
        clear hd
        simp only [← hAF, Act.put, List.setIfInBounds_toArray, List.set_cons_zero, List.set_cons_succ] at hK ⊢
        clear hAF
        try simp only [Nat.zero_add] at hK ⊢
        try simp only [Nat.reduceAdd] at hK ⊢
        try generalize xF 1 = yy1 at *
        try generalize xF 2 = yy2 at *
        obtain rfl := dd1
        obtain rfl := dd2
        obtain hbR := id hR
        rw [if_pos (by rfl)]
        refine rtwo_wp rfl rfl ?_
        simp only [Act.put, List.setIfInBounds_toArray, List.set_cons_zero, List.set_cons_succ]
        exact hK.out _ _ (below1) (⟨_, rfl, heap_alloc_new _ _⟩) (fun _ _ _ => ⟨trivial, trivial⟩)
      refine FlowAll.cons ?_ ?_
      · intro xF wz hR hd K hK
        have dd3 : (∃ g, (xF 3) = .slice (some ⟨g, 0, none⟩) 2 2 ∧ wz.heap[g]? = some (.cells #[.int .i64 a.k, .int .u64 a.cl.a, .int .u64 a.cl.b, .int .u64 a.cl.c, .int .u64 a.cl.d, .slice ko1 kn1 kc1, .int .i64 a.mn, .int .i64 a.mx, .int .i64 b.k, .int .u64 b.cl.a, .int .u64 b.cl.b, .int .u64 b.cl.c, .int .u64 b.cl.d, .slice ko2 kn2 kc2, .int .i64 b.mn, .int .i64 b.mx] 28)) := hd 3 (by kernel_rfl)
        clear hd
        simp only [← hAF, Act.put, List.setIfInBounds_toArray, List.set_cons_zero, List.set_cons_succ] at hK ⊢
        clear hAF
        try simp only [Nat.zero_add] at hK ⊢
        try simp only [Nat.reduceAdd] at hK ⊢
        try generalize xF 3 = yy3 at *
        obtain ⟨g3, rfl, hg3⟩ := dd3
        obtain hbR := id hR
        rw [if_pos (by rfl)]
        go_simp
        (go_at_call 19; (with_reducible refine (HF4.out _ _ (rows_two hg3 (HRA.out _ hbR) (HRB.out _ hbR))).mono ?_); rintro e wK ⟨cK, rfl, hcK, hbK⟩; obtain ⟨foK, fnK, fcK, rfl⟩ := rx_form hcK)
        try go_wp2_with fail
        exact hK.out _ _ (hbK) (⟨_, _, _, rfl, hcK⟩) (fun _ _ _ => ⟨trivial, trivial⟩)
      refine FlowAll.cons ?_ ?_
      · intro xF wz hR hd K hK
        have dd0 : ((xF 0) = .agg #[.int .i64 x.k, .int .u64 x.cl.a, .int .u64 x.cl.b, .int .u64 x.cl.c, .int .u64 x.cl.d, .slice ko3 kn3 kc3, .int .i64 x.mn, .int .i64 x.mx]) := hd 0 (by kernel_rfl)
        have dd4 : (∃ fo fn fc, (xF 4) = .agg #[.int .i64 x.k, .int .u64 x.cl.a, .int .u64 x.cl.b, .int .u64 x.cl.c, .int .u64 x.cl.d, .slice fo fn fc, .int .i64 x.mn, .int .i64 x.mx] ∧ rxR 42 wz wz.heap.size [.int .i64 x.k, .int .u64 x.cl.a, .int .u64 x.cl.b, .int .u64 x.cl.c, .int .u64 x.cl.d, .slice fo fn fc, .int .i64 x.mn, .int .i64 x.mx] x) := hd 4 (by kernel_rfl)
        clear hd
        simp only [← hAF, Act.put, List.setIfInBounds_toArray, List.set_cons_zero, List.set_cons_succ] at hK ⊢
        clear hAF
        try simp only [Nat.zero_add] at hK ⊢
        try simp only [Nat.reduceAdd] at hK ⊢
        try generalize xF 0 = yy0 at *
        try generalize xF 4 = yy4 at *
        obtain rfl := dd0
        obtain ⟨fo4, fn4, fc4, rfl, hf4⟩ := dd4
        obtain hbR := id hR
        rw [if_pos (by rfl)]
        go_simp
        (go_at_call 10; (with_reducible refine (HSM.out _ _ _ _ (rxR_le (by decide) (HRO.out _ hbR)) hf4).mono ?_); rintro e wK ⟨rfl, hbK⟩)
        try go_wp2_with fail
        exact hK.out _ _ (hbK) (rfl) (fun _ _ _ => ⟨trivial, trivial⟩)
      refine FlowAll.cons ?_ ?_
      · intro xF wz hR hd K hK
        have dd5 : ((xF 5) = .bool true) := hd 5 (by kernel_rfl)
        clear hd
        simp only [← hAF, Act.put, List.setIfInBounds_toArray, List.set_cons_zero, List.set_cons_succ] at hK ⊢
        clear hAF
        try simp only [Nat.zero_add] at hK ⊢
        try simp only [Nat.reduceAdd] at hK ⊢
        try generalize xF 5 = yy5 at *
        obtain rfl := dd5
        obtain hbR := id hR
        rw [if_pos (by rfl)]
        go_simp
        exact hK.out _ _ (Below.refl _ _) (rfl) (fun _ _ _ => ⟨trivial, trivial⟩)
      refine FlowAll.cons ?_ ?_
      · intro xF wz hR hd K hK
        have dd6 : ((xF 6) = .bool true) := hd 6 (by kernel_rfl)
        clear hd
        simp only [← hAF, Act.put, List.setIfInBounds_toArray, List.set_cons_zero, List.set_cons_succ] at hK ⊢
        clear hAF
        try simp only [Nat.zero_add] at hK ⊢
        try simp only [Nat.reduceAdd] at hK ⊢
        try generalize xF 6 = yy6 at *
        obtain rfl := dd6
        obtain hbR := id hR
        rw [if_pos (by rfl)]
        go_simp
        exact hK.out _ _ (Below.refl _ _) (rfl) (fun _ _ _ => ⟨trivial, trivial⟩)
      refine FlowAll.cons ?_ ?_
      · intro xF wz hR hd K hK
        have dd6 : ((xF 6) = .bool true) := hd 6 (by kernel_rfl)
        have dd7 : ((xF 7) = .int .i64 0) := hd 7 (by kernel_rfl)
        clear hd
        simp only [← hAF, Act.put, List.setIfInBounds_toArray, List.set_cons_zero, List.set_cons_succ] at hK ⊢
        clear hAF
        try simp only [Nat.zero_add] at hK ⊢
        try simp only [Nat.reduceAdd] at hK ⊢
        try generalize xF 6 = yy6 at *
        try generalize xF 7 = yy7 at *
        obtain rfl := dd6
        obtain rfl := dd7
        obtain hbR := id hR
        rw [if_pos (by rfl)]
        go_simp
        exact hK.out _ _ (Below.refl _ _) (rfl) (fun _ _ _ => ⟨trivial, trivial⟩)
      refine FlowAll.cons ?_ ?_
      · intro xF wz hR hd K hK
        have dd6 : ((xF 6) = .bool true) := hd 6 (by kernel_rfl)
        have dd8 : ((xF 8) = .bool false) := hd 8 (by kernel_rfl)
        clear hd
        simp only [← hAF, Act.put, List.setIfInBounds_toArray, List.set_cons_zero, List.set_cons_succ] at hK ⊢
        clear hAF
        try simp only [Nat.zero_add] at hK ⊢
        try simp only [Nat.reduceAdd] at hK ⊢
        try generalize xF 6 = yy6 at *
        try generalize xF 8 = yy8 at *
        obtain rfl := dd6
        obtain rfl := dd8
        obtain hbR := id hR
        rw [if_pos (by rfl)]
        go_simp
        exact hK.out _ _ (Below.refl _ _) (rfl) (fun _ _ _ => ⟨trivial, trivial⟩)
      refine FlowAll.cons ?_ ?_
      · intro xF wz hR hd K hK
        have dd9 : ((xF 9) = .bool false) := hd 9 (by kernel_rfl)
        clear hd
        simp only [← hAF, Act.put, List.setIfInBounds_toArray, List.set_cons_zero, List.set_cons_succ] at hK ⊢
        clear hAF
        try simp only [Nat.zero_add] at hK ⊢
        try simp only [Nat.reduceAdd] at hK ⊢
        try generalize xF 9 = yy9 at *
        obtain rfl := dd9
        obtain hbR := id hR
        have hxa := (hbR.block _ (lt_of_block XT.out)).trans XT.out
        have c90 := boxc hxa 0 _ rfl
        have c91 := boxc hxa 1 _ rfl
        have c92 := boxc hxa 2 _ rfl
        have c93 := boxc hxa 3 _ rfl
        have c94 := boxc hxa 4 _ rfl
        have c95 := boxc hxa 5 _ rfl
        have c96 := boxc hxa 6 _ rfl
        have c97 := boxc hxa 7 _ rfl
        clear hxa
        rw [if_pos (by rfl)]
        go_simp
        exact hK.out _ _ (Below.refl _ _) (rfl) (fun _ _ _ => ⟨trivial, trivial⟩)
      refine FlowAll.cons ?_ ?_
      · intro xF wz hR hd K hK
        have dd9 : ((xF 9) = .bool false) := hd 9 (by kernel_rfl)
        clear hd
        simp only [← hAF, Act.put, List.setIfInBounds_toArray, List.set_cons_zero, List.set_cons_succ] at hK ⊢
        clear hAF
        try simp only [Nat.zero_add] at hK ⊢
        try simp only [Nat.reduceAdd] at hK ⊢
        try generalize xF 9 = yy9 at *
        obtain rfl := dd9
        obtain hbR := id hR
        have hxa := (hbR.block _ (lt_of_block XA.out)).trans XA.out
        have c90 := boxc hxa 0 _ rfl
        have c91 := boxc hxa 1 _ rfl
        have c92 := boxc hxa 2 _ rfl
        have c93 := boxc hxa 3 _ rfl
        have c94 := boxc hxa 4 _ rfl
        have c95 := boxc hxa 5 _ rfl
        have c96 := boxc hxa 6 _ rfl
        have c97 := boxc hxa 7 _ rfl
        clear hxa
        rw [if_pos (by rfl)]
        go_simp
        exact hK.out _ _ (Below.refl _ _) (rfl) (fun _ _ _ => ⟨trivial, trivial⟩)
      refine FlowAll.cons ?_ ?_
      · intro xF wz hR hd K hK
        have dd9 : ((xF 9) = .bool false) := hd 9 (by kernel_rfl)
        clear hd
        simp only [← hAF, Act.put, List.setIfInBounds_toArray, List.set_cons_zero, List.set_cons_succ] at hK ⊢
        clear hAF
        try simp only [Nat.zero_add] at hK ⊢
        try simp only [Nat.reduceAdd] at hK ⊢
        try generalize xF 9 = yy9 at *
        obtain rfl := dd9
        obtain hbR := id hR
        have hxa := (hbR.block _ (lt_of_block XB.out)).trans XB.out
        have c90 := boxc hxa 0 _ rfl
        have c91 := boxc hxa 1 _ rfl
        have c92 := boxc hxa 2 _ rfl
        have c93 := boxc hxa 3 _ rfl
        have c94 := boxc hxa 4 _ rfl
        have c95 := boxc hxa 5 _ rfl
        have c96 := boxc hxa 6 _ rfl
        have c97 := boxc hxa 7 _ rfl
        clear hxa
        rw [if_pos (by rfl)]
        go_simp
        exact hK.out _ _ (Below.refl _ _) (rfl) (fun _ _ _ => ⟨trivial, trivial⟩)
      refine FlowAll.cons ?_ ?_
      · intro xF wz hR hd K hK
        have dd9 : ((xF 9) = .bool false) := hd 9 (by kernel_rfl)
        have dd11 : ((xF 11) = .agg #[.int .i64 a.k, .int .u64 a.cl.a, .int .u64 a.cl.b, .int .u64 a.cl.c, .int .u64 a.cl.d, .slice ko1 kn1 kc1, .int .i64 a.mn, .int .i64 a.mx]) := hd 11 (by kernel_rfl)
        have dd12 : ((xF 12) = .agg #[.int .i64 b.k, .int .u64 b.cl.a, .int .u64 b.cl.b, .int .u64 b.cl.c, .int .u64 b.cl.d, .slice ko2 kn2 kc2, .int .i64 b.mn, .int .i64 b.mx]) := hd 12 (by kernel_rfl)
        clear hd
        simp only [← hAF, Act.put, List.setIfInBounds_toArray, List.set_cons_zero, List.set_cons_succ] at hK ⊢
        clear hAF
        try simp only [Nat.zero_add] at hK ⊢
        try simp only [Nat.reduceAdd] at hK ⊢
        try generalize xF 9 = yy9 at *
        try generalize xF 11 = yy11 at *
        try generalize xF 12 = yy12 at *
        obtain rfl := dd9
        obtain rfl := dd11
        obtain rfl := dd12
        obtain hbR := id hR
        rw [if_pos (by rfl)]
        refine rtwo_wp rfl rfl ?_
        simp only [Act.put, List.setIfInBounds_toArray, List.set_cons_zero, List.set_cons_succ]
        exact hK.out _ _ (below1) (⟨_, rfl, heap_alloc_new _ _⟩) (fun _ _ _ => ⟨trivial, trivial⟩)
      refine FlowAll.cons ?_ ?_
      · intro xF wz hR hd K hK
        have dd9 : ((xF 9) = .bool false) := hd 9 (by kernel_rfl)
        have dd13 : (∃ g, (xF 13) = .slice (some ⟨g, 0, none⟩) 2 2 ∧ wz.heap[g]? = some (.cells #[.int .i64 a.k, .int .u64 a.cl.a, .int .u64 a.cl.b, .int .u64 a.cl.c, .int .u64 a.cl.d, .slice ko1 kn1 kc1, .int .i64 a.mn, .int .i64 a.mx, .int .i64 b.k, .int .u64 b.cl.a, .int .u64 b.cl.b, .int .u64 b.cl.c, .int .u64 b.cl.d, .slice ko2 kn2 kc2, .int .i64 b.mn, .int .i64 b.mx] 28)) := hd 13 (by kernel_rfl)
        clear hd
        simp only [← hAF, Act.put, List.setIfInBounds_toArray, List.set_cons_zero, List.set_cons_succ] at hK ⊢
        clear hAF
        try simp only [Nat.zero_add] at hK ⊢
        try simp only [Nat.reduceAdd] at hK ⊢
        try generalize xF 9 = yy9 at *
        try generalize xF 13 = yy13 at *
        obtain rfl := dd9
        obtain ⟨g13, rfl, hg13⟩ := dd13
        obtain hbR := id hR
        rw [if_pos (by rfl)]
        go_simp
        (go_at_call 19; (with_reducible refine (HF3.out _ _ (rows_two hg13 (HRA.out _ hbR) (HRB.out _ hbR))).mono ?_); rintro e wK ⟨cK, rfl, hcK, hbK⟩; obtain ⟨foK, fnK, fcK, rfl⟩ := rx_form hcK)
        try go_wp2_with fail
        exact hK.out _ _ (hbK) (⟨_, _, _, rfl, hcK⟩) (fun _ _ _ => ⟨trivial, trivial⟩)
      refine FlowAll.cons ?_ ?_
      · intro xF wz hR hd K hK
        have dd9 : ((xF 9) = .bool false) := hd 9 (by kernel_rfl)
        have dd10 : ((xF 10) = .agg #[.int .i64 y.k, .int .u64 y.cl.a, .int .u64 y.cl.b, .int .u64 y.cl.c, .int .u64 y.cl.d, .slice ko4 kn4 kc4, .int .i64 y.mn, .int .i64 y.mx]) := hd 10 (by kernel_rfl)
        have dd14 : (∃ fo fn fc, (xF 14) = .agg #[.int .i64 y.k, .int .u64 y.cl.a, .int .u64 y.cl.b, .int .u64 y.cl.c, .int .u64 y.cl.d, .slice fo fn fc, .int .i64 y.mn, .int .i64 y.mx] ∧ rxR 42 wz wz.heap.size [.int .i64 y.k, .int .u64 y.cl.a, .int .u64 y.cl.b, .int .u64 y.cl.c, .int .u64 y.cl.d, .slice fo fn fc, .int .i64 y.mn, .int .i64 y.mx] y) := hd 14 (by kernel_rfl)
        clear hd
        simp only [← hAF, Act.put, List.setIfInBounds_toArray, List.set_cons_zero, List.set_cons_succ] at hK ⊢
        clear hAF
        try simp only [Nat.zero_add] at hK ⊢
        try simp only [Nat.reduceAdd] at hK ⊢
        try generalize xF 9 = yy9 at *
        try generalize xF 10 = yy10 at *
        try generalize xF 14 = yy14 at *
        obtain rfl := dd9
        obtain rfl := dd10
        obtain ⟨fo14, fn14, fc14, rfl, hf14⟩ := dd14
        obtain hbR := id hR
        rw [if_pos (by rfl)]
        go_simp
        (go_at_call 10; (with_reducible refine (HSM.out _ _ _ _ (rxR_le (by decide) (HRT.out _ hbR)) hf14).mono ?_); rintro e wK ⟨rfl, hbK⟩)
        try go_wp2_with fail
        exact hK.out _ _ (hbK) (rfl) (fun _ _ _ => ⟨trivial, trivial⟩)
      refine FlowAll.cons ?_ ?_
      · intro xF wz hR hd K hK
        have dd6 : ((xF 6) = .bool true) := hd 6 (by kernel_rfl)
        have dd9 : ((xF 9) = .bool false) := hd 9 (by kernel_rfl)
        have dd15 : ((xF 15) = .bool true) := hd 15 (by kernel_rfl)
        clear hd
        simp only [← hAF, Act.put, List.setIfInBounds_toArray, List.set_cons_zero, List.set_cons_succ] at hK ⊢
        clear hAF
        try simp only [Nat.zero_add] at hK ⊢
        try simp only [Nat.reduceAdd] at hK ⊢
        try generalize xF 6 = yy6 at *
        try generalize xF 9 = yy9 at *
        try generalize xF 15 = yy15 at *
        obtain rfl := dd6
        obtain rfl := dd9
        obtain rfl := dd15
        obtain hbR := id hR
        rw [if_pos (by rfl)]
        go_simp
        exact hK.out _ _ (Below.refl _ _) (rfl) (fun _ _ _ => ⟨trivial, trivial⟩)
      refine FlowAll.cons ?_ ?_
      · intro xF wz hR hd K hK
        have dd6 : ((xF 6) = .bool true) := hd 6 (by kernel_rfl)
        have dd16 : ((xF 16) = .bool true) := hd 16 (by kernel_rfl)
        clear hd
        simp only [← hAF, Act.put, List.setIfInBounds_toArray, List.set_cons_zero, List.set_cons_succ] at hK ⊢
        clear hAF
        try simp only [Nat.zero_add] at hK ⊢
        try simp only [Nat.reduceAdd] at hK ⊢
        try generalize xF 6 = yy6 at *
        try generalize xF 16 = yy16 at *
        obtain rfl := dd6
        obtain rfl := dd16
        obtain hbR := id hR
        rw [if_pos (by rfl)]
        go_simp
        exact hK.out _ _ (Below.refl _ _) (rfl) (fun _ _ _ => ⟨trivial, trivial⟩)
      refine FlowAll.cons ?_ ?_
      · intro xF wz hR hd K hK
        have dd17 : ((xF 17) = .bool true) := hd 17 (by kernel_rfl)
        clear hd
        simp only [← hAF, Act.put, List.setIfInBounds_toArray, List.set_cons_zero, List.set_cons_succ] at hK ⊢
        clear hAF
        try simp only [Nat.zero_add] at hK ⊢
        try simp only [Nat.reduceAdd] at hK ⊢
        try generalize xF 17 = yy17 at *
        obtain rfl := dd17
        obtain hbR := id hR
        rw [if_pos (by rfl)]
        go_simp
        exact hK.out _ _ (Below.refl _ _) (rfl) (fun _ _ _ => ⟨trivial, trivial⟩)
      refine FlowAll.cons ?_ ?_
      · intro xF wz hR hd K hK
        have dd18 : ((xF 18) = .bool true) := hd 18 (by kernel_rfl)
        clear hd
        simp only [← hAF, Act.put, List.setIfInBounds_toArray, List.set_cons_zero, List.set_cons_succ] at hK ⊢
        clear hAF
        try simp only [Nat.zero_add] at hK ⊢
        try simp only [Nat.reduceAdd] at hK ⊢
        try generalize xF 18 = yy18 at *
        obtain rfl := dd18
        obtain hbR := id hR
        rw [if_pos (by rfl)]
        go_simp
        (go_at_call 7; (with_reducible refine (HAW.out _).mono ?_); rintro e wK ⟨rfl, hbK⟩)
        try go_wp2_with fail
        exact hK.out _ _ (hbK) (rfl) (fun _ _ _ => ⟨trivial, trivial⟩)
      refine FlowAll.cons ?_ ?_
      · intro xF wz hR hd K hK
        have dd18 : ((xF 18) = .bool true) := hd 18 (by kernel_rfl)
        have dd19 : ((xF 19) = .bool true) := hd 19 (by kernel_rfl)
        clear hd
        simp only [← hAF, Act.put, List.setIfInBounds_toArray, List.set_cons_zero, List.set_cons_succ] at hK ⊢
        clear hAF
        try simp only [Nat.zero_add] at hK ⊢
        try simp only [Nat.reduceAdd] at hK ⊢
        try generalize xF 18 = yy18 at *
        try generalize xF 19 = yy19 at *
        obtain rfl := dd18
        obtain rfl := dd19
        obtain hbR := id hR
        rw [if_pos (by rfl)]
        go_simp
        exact hK.out _ _ (Below.refl _ _) (rfl) (fun _ _ _ => ⟨trivial, trivial⟩)
      exact FlowAll.nil
    intro xF wz hR hF hP
    clear hP
    have dd0 : ((xF 0) = .agg #[.int .i64 x.k, .int .u64 x.cl.a, .int .u64 x.cl.b, .int .u64 x.cl.c, .int .u64 x.cl.d, .slice ko3 kn3 kc3, .int .i64 x.mn, .int .i64 x.mx]) := hF 0 (by omega) (by decide)
    have dd1 : ((xF 1) = .agg #[.int .i64 a.k, .int .u64 a.cl.a, .int .u64 a.cl.b, .int .u64 a.cl.c, .int .u64 a.cl.d, .slice ko1 kn1 kc1, .int .i64 a.mn, .int .i64 a.mx]) := hF 1 (by omega) (by decide)
    have dd2 : ((xF 2) = .agg #[.int .i64 b.k, .int .u64 b.cl.a, .int .u64 b.cl.b, .int .u64 b.cl.c, .int .u64 b.cl.d, .slice ko2 kn2 kc2, .int .i64 b.mn, .int .i64 b.mx]) := hF 2 (by omega) (by decide)
    have dd3 : (∃ g, (xF 3) = .slice (some ⟨g, 0, none⟩) 2 2 ∧ wz.heap[g]? = some (.cells #[.int .i64 a.k, .int .u64 a.cl.a, .int .u64 a.cl.b, .int .u64 a.cl.c, .int .u64 a.cl.d, .slice ko1 kn1 kc1, .int .i64 a.mn, .int .i64 a.mx, .int .i64 b.k, .int .u64 b.cl.a, .int .u64 b.cl.b, .int .u64 b.cl.c, .int .u64 b.cl.d, .slice ko2 kn2 kc2, .int .i64 b.mn, .int .i64 b.mx] 28)) := hF 3 (by omega) (by decide)
    have dd4 : (∃ fo fn fc, (xF 4) = .agg #[.int .i64 x.k, .int .u64 x.cl.a, .int .u64 x.cl.b, .int .u64 x.cl.c, .int .u64 x.cl.d, .slice fo fn fc, .int .i64 x.mn, .int .i64 x.mx] ∧ rxR 42 wz wz.heap.size [.int .i64 x.k, .int .u64 x.cl.a, .int .u64 x.cl.b, .int .u64 x.cl.c, .int .u64 x.cl.d, .slice fo fn fc, .int .i64 x.mn, .int .i64 x.mx] x) := hF 4 (by omega) (by decide)
    have dd5 : ((xF 5) = .bool true) := hF 5 (by omega) (by decide)
    have dd6 : ((xF 6) = .bool true) := hF 6 (by omega) (by decide)
    have dd7 : ((xF 7) = .int .i64 0) := hF 7 (by omega) (by decide)
    have dd8 : ((xF 8) = .bool false) := hF 8 (by omega) (by decide)
    have dd9 : ((xF 9) = .bool false) := hF 9 (by omega) (by decide)
    have dd10 : ((xF 10) = .agg #[.int .i64 y.k, .int .u64 y.cl.a, .int .u64 y.cl.b, .int .u64 y.cl.c, .int .u64 y.cl.d, .slice ko4 kn4 kc4, .int .i64 y.mn, .int .i64 y.mx]) := hF 10 (by omega) (by decide)
    have dd11 : ((xF 11) = .agg #[.int .i64 a.k, .int .u64 a.cl.a, .int .u64 a.cl.b, .int .u64 a.cl.c, .int .u64 a.cl.d, .slice ko1 kn1 kc1, .int .i64 a.mn, .int .i64 a.mx]) := hF 11 (by omega) (by decide)
    have dd12 : ((xF 12) = .agg #[.int .i64 b.k, .int .u64 b.cl.a, .int .u64 b.cl.b, .int .u64 b.cl.c, .int .u64 b.cl.d, .slice ko2 kn2 kc2, .int .i64 b.mn, .int .i64 b.mx]) := hF 12 (by omega) (by decide)
    have dd13 : (∃ g, (xF 13) = .slice (some ⟨g, 0, none⟩) 2 2 ∧ wz.heap[g]? = some (.cells #[.int .i64 a.k, .int .u64 a.cl.a, .int .u64 a.cl.b, .int .u64 a.cl.c, .int .u64 a.cl.d, .slice ko1 kn1 kc1, .int .i64 a.mn, .int .i64 a.mx, .int .i64 b.k, .int .u64 b.cl.a, .int .u64 b.cl.b, .int .u64 b.cl.c, .int .u64 b.cl.d, .slice ko2 kn2 kc2, .int .i64 b.mn, .int .i64 b.mx] 28)) := hF 13 (by omega) (by decide)
    have dd14 : (∃ fo fn fc, (xF 14) = .agg #[.int .i64 y.k, .int .u64 y.cl.a, .int .u64 y.cl.b, .int .u64 y.cl.c, .int .u64 y.cl.d, .slice fo fn fc, .int .i64 y.mn, .int .i64 y.mx] ∧ rxR 42 wz wz.heap.size [.int .i64 y.k, .int .u64 y.cl.a, .int .u64 y.cl.b, .int .u64 y.cl.c, .int .u64 y.cl.d, .slice fo fn fc, .int .i64 y.mn, .int .i64 y.mx] y) := hF 14 (by omega) (by decide)
    have dd15 : ((xF 15) = .bool true) := hF 15 (by omega) (by decide)
    have dd16 : ((xF 16) = .bool true) := hF 16 (by omega) (by decide)
    have dd17 : ((xF 17) = .bool true) := hF 17 (by omega) (by decide)
    have dd18 : ((xF 18) = .bool true) := hF 18 (by omega) (by decide)
    have dd19 : ((xF 19) = .bool true) := hF 19 (by omega) (by decide)
    have dd20 : ((xF 20) = .bool true) := hF 20 (by omega) (by decide)
    clear hF
    simp only [List.take_succ_cons, List.take_zero, List.drop_succ_cons, List.drop_zero, fillOf, Act.put, List.setIfInBounds_toArray, List.set_cons_zero, List.set_cons_succ, Nat.reduceAdd, Nat.zero_add]
    try generalize xF 0 = yy0 at *
    try generalize xF 1 = yy1 at *
    try generalize xF 2 = yy2 at *
    try generalize xF 3 = yy3 at *
    try generalize xF 4 = yy4 at *
    try generalize xF 5 = yy5 at *
    try generalize xF 6 = yy6 at *
    try generalize xF 7 = yy7 at *
    try generalize xF 8 = yy8 at *
    try generalize xF 9 = yy9 at *
    try generalize xF 10 = yy10 at *
    try generalize xF 11 = yy11 at *
    try generalize xF 12 = yy12 at *
    try generalize xF 13 = yy13 at *
    try generalize xF 14 = yy14 at *
    try generalize xF 15 = yy15 at *
    try generalize xF 16 = yy16 at *
    try generalize xF 17 = yy17 at *
    try generalize xF 18 = yy18 at *
    try generalize xF 19 = yy19 at *
    try generalize xF 20 = yy20 at *
    clear xF
    obtain rfl := dd0
    obtain rfl := dd1
    obtain rfl := dd2
    obtain ⟨g3, rfl, hg3⟩ := dd3
    obtain ⟨fo4, fn4, fc4, rfl, hf4⟩ := dd4
    obtain rfl := dd5
    obtain rfl := dd6
    obtain rfl := dd7
    obtain rfl := dd8
    obtain rfl := dd9
    obtain rfl := dd10
    obtain rfl := dd11
    obtain rfl := dd12
    obtain ⟨g13, rfl, hg13⟩ := dd13
    obtain ⟨fo14, fn14, fc14, rfl, hf14⟩ := dd14
    obtain rfl := dd15
    obtain rfl := dd16
    obtain rfl := dd17
    obtain rfl := dd18
    obtain rfl := dd19
    obtain rfl := dd20
    have hRE := Lib.hid hR
    clear hR
    go_wp2
    go_ret
    exact ⟨rfl, D9.out.trans (hRE.out.mono D9.out.size)⟩
end Go.Proofs.Ytbccejlemhgioaa
