/- net's law: as many as may be. -/
import Derived.Test.YtpgccfgldjeomaaNtAwk
namespace Go.Proofs.Ytpgccfgldjeomaa
open Go Go.RowKit Go.ChangeShapes cl
def zeroC : Array Value := #[.int .i64 0, .int .i64 0, .int .i64 0, .int .i64 0, .int .i64 0, .slice none 0 0, .slice none 0 0, .slice none 0 0, .slice none 0 0, .slice none 0 0, .slice none 0 0, .int .i64 0, .string ⟨#[]⟩, .string ⟨#[]⟩, .slice none 0 0, .int .i64 0]
theorem zero_at (w : World) (B : Nat) : msgRel w B zeroC.toList default :=
  ⟨_, _, _, _, _, _, _, _, _, _, _, _, _, _, _, _, _, _, _, _, _, rfl, RowsAt.nil _ _, RowsAt.nil _ _, RowsAt.nil _ _, RowsAt.nil _ _, RowsAt.nil _ _, RowsAt.nil _ _, Nat.zero_le _, Nat.zero_le _, RowsAt.nil _ _⟩
theorem fit_zero : Fit default := by
  refine ⟨Nat.zero_le _, fun x hx => ?_, Nat.zero_le _, Nat.zero_le _, Nat.zero_le _, Nat.zero_le _, Nat.zero_le _, Nat.zero_le _⟩
  cases hx
theorem made_flat (z : Array Value) (k : Nat) (hk : z.size = k) (h0 : 0 < k) (n : Nat) : (madeCells z (n * k)).toList = (List.replicate n z.toList).flatten := by
  have hall : ∀ c ∈ List.replicate n z.toList, c.length = k := by
    intro c hc; rw [List.eq_of_mem_replicate hc, Array.length_toList, hk]
  have hl := flat_len _ hall
  rw [List.length_replicate] at hl
  apply List.ext_getElem?
  intro j
  by_cases hj : j < n * k
  · have hq : j / k < n := Nat.div_lt_of_lt_mul (by rw [Nat.mul_comm]; exact hj)
    have hr := Nat.mod_lt j h0
    have hg := flat_get _ hall (j / k) z.toList (j % k) (by rw [List.getElem?_replicate, if_pos hq]) hr
    rw [Nat.div_add_mod'] at hg
    have hz : j % k < z.size := by omega
    rw [hg, Array.getElem?_toList, Array.getElem?_toList, Array.getElem?_eq_getElem hz]
    have hs : j < (madeCells z (n * k)).size := by rw [size_madeCells]; exact hj
    rw [Array.getElem?_eq_getElem hs]
    simp only [madeCells, Array.getElem_map, Array.getElem_range, hk]
    rw [getElem!_pos z (j % k) hz]
  · rw [List.getElem?_eq_none (by rw [Array.length_toList, size_madeCells]; omega), List.getElem?_eq_none (by omega)]
/-- Send where no more may be -/
def NoP (v : Value) (w : World) (e : Ending) (w' : World) : Prop := e = .returned (.tuple #[v, .int .i64 7]) ∧ Below w.heap.size w w'
theorem send_no (L : List cd.Msg) (m : cd.Msg) (v : Value) (c : List Value) (w : World) (hL : RowsAt 16 msgRel w w.heap.size v L) (hl : L.length = 600) :
    Calls Try.prog 9 #[v, .agg c.toArray] w (NoP v w) :=
  (send_full L m v c w hL (by omega)).mono fun e w' h => by
    obtain ⟨hb, ⟨_, he⟩ | ⟨h, _⟩⟩ := h
    · exact ⟨he, hb⟩
    · omega
theorem twice_no (L : List cd.Msg) (v : Value) (k : Nat) (w : World) (hL : RowsAt 16 msgRel w w.heap.size v L) (hf : ∀ x ∈ L, Fit x) (hk : k < L.length) (hl : L.length = 600) :
    Calls Try.prog 15 #[v, .int .i64 (k : Int)] w (NoP v w) :=
  (twice_any L v k w hL hf).mono fun e w' h => by
    rcases h with ⟨h, _⟩ | ⟨j, hj, hjl, hb, ⟨_, he⟩ | ⟨h, _⟩⟩
    · omega
    · exact ⟨he, hb⟩
    · omega
set_option maxHeartbeats 6400000 in
set_option maxRecDepth 100000 in
theorem full_any (x : Int) (w : World) : Calls Try.prog 5 #[.int .i64 x] w (Said true w) := by
  obtain ⟨m1, hm1⟩ : ∃ x, x = msgN 1 := ⟨_, rfl⟩
  obtain ⟨m2, hm2⟩ : ∃ x, x = msgN 2 := ⟨_, rfl⟩
  have HM1 : Hid (∀ W : World, Calls Try.prog 23 #[.int .i64 1] W fun e w' => ∃ c, e = .returned (.agg (List.toArray c)) ∧ msgRel w' w'.heap.size c m1 ∧ Below W.heap.size W w') := by
    intro W; rw [hm1]; exact message_any 1 W (by decide) (by decide)
  have F1 : Hid (Fit m1) := by show Fit _; rw [hm1]; exact fit_msgN 1
  have HM2 : Hid (∀ W : World, Calls Try.prog 23 #[.int .i64 2] W fun e w' => ∃ c, e = .returned (.agg (List.toArray c)) ∧ msgRel w' w'.heap.size c m2 ∧ Below W.heap.size W w') := by
    intro W; rw [hm2]; exact message_any 2 W (by decide) (by decide)
  have F2 : Hid (Fit m2) := by show Fit _; rw [hm2]; exact fit_msgN 2
  clear hm1 hm2
  obtain ⟨L0, hL0⟩ : ∃ x, x = List.replicate 599 (default : cd.Msg) := ⟨_, rfl⟩
  have hlen : L0.length = 599 := by rw [hL0, List.length_replicate]
  have FL : Hid (∀ x ∈ L0 ++ [m1], Fit x) := by
    intro x hx
    rcases List.mem_append.1 hx with h | h
    · rw [hL0] at h; rw [List.eq_of_mem_replicate h]; exact fit_zero
    · rw [List.mem_singleton.1 h]; exact F1.out
  have hlen1 : (L0 ++ [m1]).length = 600 := by rw [List.length_append, hlen]; rfl
  have HL := Lib.hid (And.intro hlen hlen1)
  have HL0 := Lib.hid hL0
  obtain ⟨j, hj, hjx⟩ := kit.umod x (m := 600) (by omega)
  have hjx2 : (IntKind.u64.wrap x).tmod 600 = (j : Int) := hjx
  have hji : IntKind.i64.wrap (j : Int) = (j : Int) := IntWalk.i64_in _ (by omega)
  obtain ⟨i0, hi, hi0, hi1, hi2⟩ := info_parts ninfo_msg
  have HI := Lib.hid (And.intro hi (And.intro hi0 (And.intro hi1 hi2)))
  clear hjx hi hi0 hi1 hi2 hL0 hlen hlen1
  go_enter Try.func5, Try.ntmps5
  go_wp2_with (at_make; refine wpList_make_full _ rfl _ _ 22 rfl w.heap.size 34 i0 (.agg #[.int .i64 0, .int .i64 0, .int .i64 0, .int .i64 0, .int .i64 0, .slice none 0 0, .slice none 0 0, .slice none 0 0, .slice none 0 0, .slice none 0 0, .slice none 0 0, .int .i64 0, .string ⟨#[]⟩, .string ⟨#[]⟩, .slice none 0 0, .int .i64 0]) 16 Try.underlying22 HI.out.1 HI.out.2.1 HI.out.2.2.1 .i64 .i64 _ _ 599 rfl rfl (by omega) (by omega) (by rw [HI.out.2.2.2]; omega) (by unfold maxLen; omega) (by omega) ?_)
  intro w1 hown hgrow
  have b1 : Below w.heap.size w w1 := (Below.refl _ _).grown hgrow (by omega) (fun j hj => by cases hj)
  have R1 : Hid (RowsAt 16 msgRel w1 w1.heap.size (.slice (some ⟨w.heap.size, 0, none⟩) 599 599) L0) := by
    refine RowsAt.own (e := 34) (base := w.heap.size) (n := 599) (cs := List.replicate 599 zeroC.toList) HL.out.1.symm (by rw [HL.out.1, List.length_replicate]) (fun j c x hc hx => ?_) ?_
    · have hc := List.mem_of_getElem? hc
      have hx := List.mem_of_getElem? hx
      rw [HL0.out] at hx
      rw [List.eq_of_mem_replicate hc, List.eq_of_mem_replicate hx]
      exact ⟨rfl, zero_at _ _⟩
    · rw [← made_flat zeroC 16 rfl (by omega)]; exact hown
  have B1 := Lib.hid b1
  clear hown hgrow b1
  obtain ⟨g, hg⟩ : ∃ g, g = w.heap.size := ⟨_, rfl⟩
  rw [← hg] at R1 ⊢
  clear hg
  go_wp2_with fail
  (with_reducible refine (HM1.out _).mono ?_)
  rintro e w2 ⟨c2, rfl, h2, b2⟩
  have B2 := Lib.hid (B1.out.trans (b2.mono B1.out.size))
  have H2 := Lib.hid (send_short L0 m1 (.slice (some ⟨g, 0, none⟩) 599 599) c2 w2 (R1.out.next msgRel_steady b2) h2 F1.out (by rw [HL.out.1]; omega))
  clear h2 b2
  go_wp2_with fail
  (with_reducible refine H2.out.mono ?_)
  rintro e w3 ⟨a3, n3, q3, rfl, h3, hn3, b3⟩
  obtain rfl : n3 = 600 := hn3.trans HL.out.2
  clear hn3
  have B3 := Lib.hid (B2.out.trans (b3.mono B2.out.size))
  have R3 := Lib.hid h3
  clear h3 b3
  go_wp2_with fail
  (with_reducible refine (HM2.out _).mono ?_)
  rintro e w4 ⟨c4, rfl, h4, b4⟩
  have B4 := Lib.hid (B3.out.trans (b4.mono B3.out.size))
  have R4 := Lib.hid (R3.out.next msgRel_steady b4)
  have H4 := Lib.hid (send_no (L0 ++ [m1]) m2 (.slice a3 600 q3) c4 w4 R4.out HL.out.2)
  clear h4 b4
  go_wp2_with fail
  (with_reducible refine H4.out.mono ?_)
  rintro e w5 ⟨rfl, b5⟩
  have B5 := Lib.hid (B4.out.trans (b5.mono B4.out.size))
  have R5 := Lib.hid (R4.out.next msgRel_steady b5)
  have H5 := Lib.hid (twice_no (L0 ++ [m1]) (.slice a3 600 q3) j w5 R5.out FL.out (by rw [HL.out.2]; exact hj) HL.out.2)
  clear b5
  go_wp2_with fail
  (with_reducible refine H5.out.mono ?_)
  rintro e w6 ⟨rfl, b6⟩
  have B6 := Lib.hid (B5.out.trans (b6.mono B5.out.size))
  have HAW := Lib.hid (awake_any w6)
  clear b6
  go_wp2_with fail
  (with_reducible refine HAW.out.mono ?_)
  rintro e w7 ⟨rfl, b7⟩
  go_wp2
  go_ret
  exact ⟨rfl, B6.out.trans (b7.mono B6.out.size)⟩
end Go.Proofs.Ytpgccfgldjeomaa
