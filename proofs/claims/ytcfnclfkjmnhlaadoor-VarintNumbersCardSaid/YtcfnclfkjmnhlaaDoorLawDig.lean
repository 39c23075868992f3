/- VarintDigits: the walk of the law. -/
import Derived.Test.YtcfnclfkjmnhlaaDoorLawBack
import Derived.Test.YtcfnclfkjmnhlaaDoorDigMath
namespace Go.Proofs.YtcfnclfkjmnhlaaDoor
open Go.RowKit Go.ChangeShapes

theorem itoa_str (n : Int) : (⟨(Lib.itoa n).toArray⟩ : ByteArray) = kit.str (nm.di n) := by
  have : (fun x : UInt8 => UInt8.ofNat x.toNat) = id := funext fun x => by simp
  simp only [kit.str, nm.di, List.map_map, Function.comp_def]
  rw [this]; simp
theorem di_lt (n : Int) : ∀ x ∈ nm.di n, x < 256 := by
  intro x hx
  obtain ⟨y, _, rfl⟩ := List.mem_map.1 hx
  exact y.toNat_lt
theorem di_len (n : Int) (h0 : -9223372036854775808 ≤ n) (h1 : n ≤ 9223372036854775807) : (nm.di n).length ≤ 21 := by
  simp only [nm.di, List.length_map]; exact Lib.itoa_length_le n h0 h1

/-- Number of the digits of n -/
theorem num_dig (n : Int) (D : ByteArray) (hD : D = ⟨(Lib.itoa n).toArray⟩) (h0 : -9223372036854775808 ≤ n) (h1 : n ≤ 9223372036854775807) (w : World) :
    Calls Tryd.prog 20 #[.string D] w (Pair (nm.number (nm.di n)) w) := by
  have hl := di_len n h0 h1
  have := number_any D w (by rw [hD, itoa_str, kit.str_size]; omega)
  rw [hD, itoa_str, kit.bytes_str _ (di_lt n)] at this
  rw [hD, itoa_str]; exact this

/-- the second half: what the text says, and its digits -/
theorem text_dig (s : ByteArray) (h : (nm.number (kit.bytes s)).2 = 0) : (⟨(Lib.itoa ((nm.number (kit.bytes s)).1 : Int)).toArray⟩ : ByteArray) = s := by
  rw [itoa_str, (nm.number_back h).1, kit.str_bytes]

def Good (w : World) (e : Ending) (w' : World) : Prop := e = .returned (.bool true) ∧ Below w.heap.size w w'

set_option maxRecDepth 100000 in
theorem digs_long (n : Int) (s : ByteArray) (w : World) (hs : s.size ≤ 9223372036854775807) (ht : Tab w) (h : 6000 < s.size) :
    Calls Tryd.prog 9 #[.int .i64 n, .string s] w (Good w) := by
  go_enter Tryd.func9, Tryd.ntmps9
  go_wp2_with (first | (go_at_call 10; refine (long_yes s _ hs h).mono ?_; rintro e w' ⟨rfl, rfl⟩) | (go_at_call 11; refine (awake_any _ (by assumption)).mono ?_; rintro e w1 ⟨rfl, hb⟩))
  go_ret
  exact ⟨rfl, hb⟩

/-- what is asked of the first half -/
def First (n : Int) (m c : Nat) : Prop := n < 0 ∧ c = 3 ∨ (0 ≤ n ∧ n ≤ 1099511627776 ∧ c = 0 ∧ (m : Int) = n) ∨ 1099511627776 < n

set_option maxHeartbeats 1600000 in
set_option maxRecDepth 100000 in
theorem digs_a (n : Int) (s : ByteArray) (w : World) (ht : Tab w) (hs : s.size ≤ 6000) (h0 : -9223372036854775808 ≤ n) (h1 : n ≤ 9223372036854775807)
    (m c : Nat) (hn : nm.number (nm.di n) = (m, c)) (hcase : First n m c) (k : Nat) (hr : nm.number (kit.bytes s) = (k, 0)) :
    Calls Tryd.prog 9 #[.int .i64 n, .string s] w (Good w) := by
  obtain ⟨D, hD⟩ : ∃ D : ByteArray, D = ⟨(Lib.itoa n).toArray⟩ := ⟨_, rfl⟩
  have HD1 : Hid (∀ W : World, Tab W → Calls Tryd.prog 22 #[.int .i64 n] W fun e w' => e = .returned (.string D) ∧ Below W.heap.size W w') := fun W hW => by rw [hD]; exact digits_any n W h0 h1 hW
  have HN1 : Hid (∀ W : World, Calls Tryd.prog 20 #[.string D] W fun e w' => e = .returned (.tuple #[.int .i64 m, .int .i64 c]) ∧ W = w') := fun W => by have := num_dig n D hD h0 h1 W; rw [hn] at this; exact this
  have HN2 : Hid (∀ W : World, Calls Tryd.prog 20 #[.string s] W fun e w' => e = .returned (.tuple #[.int .i64 k, .int .i64 0]) ∧ W = w') := fun W => by have := number_any s W (by omega); rw [hr] at this; exact this
  have hk := (nm.number_back (l := kit.bytes s) (by rw [hr])).2
  rw [hr] at hk
  have hk' : k ≤ 1099511627776 := hk
  have hds := text_dig s (by rw [hr])
  rw [hr] at hds
  have HD2 : Hid (∀ W : World, Tab W → Calls Tryd.prog 22 #[.int .i64 k] W fun e w' => e = .returned (.string s) ∧ Below W.heap.size W w') := fun W hW => by
    have := digits_any k W (by omega) (by omega) hW
    unfold DigitsOk at this
    rw [show (⟨(Lib.itoa (k : Int)).toArray⟩ : ByteArray) = s from hds] at this
    exact this
  clear hds hr hn hD hk hk' h0 h1
  rcases hcase with ⟨hlt, rfl⟩ | ⟨hge, hle, rfl, hmn⟩ | hgt
  · go_enter Tryd.func9, Tryd.ntmps9
    go_wp2_with (first | (go_at_call 10; refine (long_no _ _ hs).mono ?_; rintro e w' ⟨rfl, rfl⟩) | (go_at_call 22; ((with_reducible refine (HD1.out _ (by assumption)).mono ?_); rintro e w1 ⟨rfl, hb1⟩; have hw1 := ht.below hb1 (Nat.le_refl _))) | (go_at_call 20; ((with_reducible refine (HN1.out _).mono ?_); rintro e w' ⟨rfl, rfl⟩)) | (go_at_call 20; ((with_reducible refine (HN2.out _).mono ?_); rintro e w' ⟨rfl, rfl⟩)) | (go_at_call 22; ((with_reducible refine (HD2.out _ hw1).mono ?_); rintro e w2 ⟨rfl, hb2⟩; have hw2 := hw1.below hb2 (Nat.le_refl _))) | (go_at_call 11; refine (awake_any _ (by assumption)).mono ?_; rintro e w3 ⟨rfl, hb3⟩))
    go_ret
    exact ⟨rfl, (hb1.trans (hb2.mono hb1.size)).trans (hb3.mono (Nat.le_trans hb1.size hb2.size))⟩
  · subst hmn
    go_enter Tryd.func9, Tryd.ntmps9
    go_wp2_with (first | (go_at_call 10; refine (long_no _ _ hs).mono ?_; rintro e w' ⟨rfl, rfl⟩) | (go_at_call 22; ((with_reducible refine (HD1.out _ (by assumption)).mono ?_); rintro e w1 ⟨rfl, hb1⟩; have hw1 := ht.below hb1 (Nat.le_refl _))) | (go_at_call 20; ((with_reducible refine (HN1.out _).mono ?_); rintro e w' ⟨rfl, rfl⟩)) | (go_at_call 20; ((with_reducible refine (HN2.out _).mono ?_); rintro e w' ⟨rfl, rfl⟩)) | (go_at_call 22; ((with_reducible refine (HD2.out _ hw1).mono ?_); rintro e w2 ⟨rfl, hb2⟩; have hw2 := hw1.below hb2 (Nat.le_refl _))) | (go_at_call 11; refine (awake_any _ (by assumption)).mono ?_; rintro e w3 ⟨rfl, hb3⟩))
    go_ret
    exact ⟨rfl, (hb1.trans (hb2.mono hb1.size)).trans (hb3.mono (Nat.le_trans hb1.size hb2.size))⟩
  · have hge : 0 ≤ n := by omega
    go_enter Tryd.func9, Tryd.ntmps9
    go_wp2_with (first | (go_at_call 10; refine (long_no _ _ hs).mono ?_; rintro e w' ⟨rfl, rfl⟩) | (go_at_call 22; ((with_reducible refine (HD1.out _ (by assumption)).mono ?_); rintro e w1 ⟨rfl, hb1⟩; have hw1 := ht.below hb1 (Nat.le_refl _))) | (go_at_call 20; ((with_reducible refine (HN1.out _).mono ?_); rintro e w' ⟨rfl, rfl⟩)) | (go_at_call 20; ((with_reducible refine (HN2.out _).mono ?_); rintro e w' ⟨rfl, rfl⟩)) | (go_at_call 22; ((with_reducible refine (HD2.out _ hw1).mono ?_); rintro e w2 ⟨rfl, hb2⟩; have hw2 := hw1.below hb2 (Nat.le_refl _))) | (go_at_call 11; refine (awake_any _ (by assumption)).mono ?_; rintro e w3 ⟨rfl, hb3⟩))
    go_ret
    exact ⟨rfl, (hb1.trans (hb2.mono hb1.size)).trans (hb3.mono (Nat.le_trans hb1.size hb2.size))⟩

set_option maxHeartbeats 1600000 in
set_option maxRecDepth 100000 in
theorem digs_b (n : Int) (s : ByteArray) (w : World) (ht : Tab w) (hs : s.size ≤ 6000) (h0 : -9223372036854775808 ≤ n) (h1 : n ≤ 9223372036854775807)
    (m c : Nat) (hn : nm.number (nm.di n) = (m, c)) (hcase : First n m c) (k f : Nat) (hr : nm.number (kit.bytes s) = (k, f)) (hf : f ≠ 0) :
    Calls Tryd.prog 9 #[.int .i64 n, .string s] w (Good w) := by
  obtain ⟨D, hD⟩ : ∃ D : ByteArray, D = ⟨(Lib.itoa n).toArray⟩ := ⟨_, rfl⟩
  have HD1 : Hid (∀ W : World, Tab W → Calls Tryd.prog 22 #[.int .i64 n] W fun e w' => e = .returned (.string D) ∧ Below W.heap.size W w') := fun W hW => by rw [hD]; exact digits_any n W h0 h1 hW
  have HN1 : Hid (∀ W : World, Calls Tryd.prog 20 #[.string D] W fun e w' => e = .returned (.tuple #[.int .i64 m, .int .i64 c]) ∧ W = w') := fun W => by have := num_dig n D hD h0 h1 W; rw [hn] at this; exact this
  have HN2 : Hid (∀ W : World, Calls Tryd.prog 20 #[.string s] W fun e w' => e = .returned (.tuple #[.int .i64 k, .int .i64 f]) ∧ W = w') := fun W => by have := number_any s W (by omega); rw [hr] at this; exact this
  have hf1 : ((f : Int) == 0) = false := by simp; omega
  have hf2 : ((f : Int) != 0) = true := by simp; omega
  clear hr hn hD h0 h1 hf
  rcases hcase with ⟨hlt, rfl⟩ | ⟨hge, hle, rfl, hmn⟩ | hgt
  · go_enter Tryd.func9, Tryd.ntmps9
    go_wp2_with (first | (go_at_call 10; refine (long_no _ _ hs).mono ?_; rintro e w' ⟨rfl, rfl⟩) | (go_at_call 22; ((with_reducible refine (HD1.out _ (by assumption)).mono ?_); rintro e w1 ⟨rfl, hb1⟩; have hw1 := ht.below hb1 (Nat.le_refl _))) | (go_at_call 20; ((with_reducible refine (HN1.out _).mono ?_); rintro e w' ⟨rfl, rfl⟩)) | (go_at_call 20; ((with_reducible refine (HN2.out _).mono ?_); rintro e w' ⟨rfl, rfl⟩)) | (go_at_call 11; refine (awake_any _ (by assumption)).mono ?_; rintro e w3 ⟨rfl, hb3⟩))
    go_ret
    exact ⟨rfl, hb1.trans (hb3.mono hb1.size)⟩
  · subst hmn
    go_enter Tryd.func9, Tryd.ntmps9
    go_wp2_with (first | (go_at_call 10; refine (long_no _ _ hs).mono ?_; rintro e w' ⟨rfl, rfl⟩) | (go_at_call 22; ((with_reducible refine (HD1.out _ (by assumption)).mono ?_); rintro e w1 ⟨rfl, hb1⟩; have hw1 := ht.below hb1 (Nat.le_refl _))) | (go_at_call 20; ((with_reducible refine (HN1.out _).mono ?_); rintro e w' ⟨rfl, rfl⟩)) | (go_at_call 20; ((with_reducible refine (HN2.out _).mono ?_); rintro e w' ⟨rfl, rfl⟩)) | (go_at_call 11; refine (awake_any _ (by assumption)).mono ?_; rintro e w3 ⟨rfl, hb3⟩))
    go_ret
    exact ⟨rfl, hb1.trans (hb3.mono hb1.size)⟩
  · have hge : 0 ≤ n := by omega
    go_enter Tryd.func9, Tryd.ntmps9
    go_wp2_with (first | (go_at_call 10; refine (long_no _ _ hs).mono ?_; rintro e w' ⟨rfl, rfl⟩) | (go_at_call 22; ((with_reducible refine (HD1.out _ (by assumption)).mono ?_); rintro e w1 ⟨rfl, hb1⟩; have hw1 := ht.below hb1 (Nat.le_refl _))) | (go_at_call 20; ((with_reducible refine (HN1.out _).mono ?_); rintro e w' ⟨rfl, rfl⟩)) | (go_at_call 20; ((with_reducible refine (HN2.out _).mono ?_); rintro e w' ⟨rfl, rfl⟩)) | (go_at_call 11; refine (awake_any _ (by assumption)).mono ?_; rintro e w3 ⟨rfl, hb3⟩))
    go_ret
    exact ⟨rfl, hb1.trans (hb3.mono hb1.size)⟩

theorem digs_any (n : Int) (s : ByteArray) (w : World) (ht : Tab w) (hs : s.size ≤ 9223372036854775807) (h0 : -9223372036854775808 ≤ n) (h1 : n ≤ 9223372036854775807) :
    Calls Tryd.prog 9 #[.int .i64 n, .string s] w (Good w) := by
  by_cases hl : 6000 < s.size
  · exact digs_long n s w hs ht hl
  have hcase : First n (nm.number (nm.di n)).1 (nm.number (nm.di n)).2 := by
    by_cases hn : n < 0
    · rw [nm.number_di_neg hn]; exact Or.inl ⟨hn, rfl⟩
    · by_cases hm : n ≤ 1099511627776
      · obtain ⟨u, rfl⟩ : ∃ u : Nat, n = (u : Int) := ⟨n.toNat, by omega⟩
        rw [nm.di_nat, nm.number_dd (by omega)]
        exact Or.inr (Or.inl ⟨by omega, hm, rfl, rfl⟩)
      · exact Or.inr (Or.inr (by omega))
  by_cases hf : (nm.number (kit.bytes s)).2 = 0
  · exact digs_a n s w ht (by omega) h0 h1 _ _ rfl hcase _ (Prod.ext rfl hf)
  · exact digs_b n s w ht (by omega) h0 h1 _ _ rfl hcase _ _ rfl hf
end Go.Proofs.YtcfnclfkjmnhlaaDoor
