/- VarintGets, VarintPuts, VarintNumbers: the walks of the laws. -/
import Derived.Test.YtcfnclfkjmnhlaaDoorRefText
import Derived.Test.YtcfnclfkjmnhlaaDoorRefNumber
import Derived.Test.YtcfnclfkjmnhlaaDoorRefDig
namespace Go.Proofs.YtcfnclfkjmnhlaaDoor
open Go.RowKit Go.ChangeShapes

set_option maxRecDepth 100000 in
theorem gets_long (s : ByteArray) (a : Int) (w : World) (hs : s.size ≤ 9223372036854775807) (ht : Tab w) (h : 6000 < s.size) :
    Calls Tryd.prog 4 #[.string s, .int .i64 a] w (Good w) := by
  go_enter Tryd.func4, Tryd.ntmps4
  go_wp2_with (first | (go_at_call 10; refine (long_yes s _ hs h).mono ?_; rintro e w' ⟨rfl, rfl⟩) | (go_at_call 11; refine (awake_any _ (by assumption)).mono ?_; rintro e wA ⟨rfl, hbA⟩))
  go_ret
  exact ⟨rfl, hbA⟩
set_option maxRecDepth 100000 in
theorem puts_long (n : Int) (s : ByteArray) (w : World) (hs : s.size ≤ 9223372036854775807) (ht : Tab w) (h : 6000 < s.size) :
    Calls Tryd.prog 3 #[.int .i64 n, .string s] w (Good w) := by
  go_enter Tryd.func3, Tryd.ntmps3
  go_wp2_with (first | (go_at_call 10; refine (long_yes s _ hs h).mono ?_; rintro e w' ⟨rfl, rfl⟩) | (go_at_call 11; refine (awake_any _ (by assumption)).mono ?_; rintro e wA ⟨rfl, hbA⟩))
  go_ret
  exact ⟨rfl, hbA⟩
set_option maxRecDepth 100000 in
theorem numbers_long (n : Int) (s : ByteArray) (w : World) (hs : s.size ≤ 9223372036854775807) (ht : Tab w) (h : 6000 < s.size) :
    Calls Tryd.prog 5 #[.int .i64 n, .string s] w (Good w) := by
  go_enter Tryd.func5, Tryd.ntmps5
  go_wp2_with (first | (go_at_call 10; refine (long_yes s _ hs h).mono ?_; rintro e w' ⟨rfl, rfl⟩) | (go_at_call 11; refine (awake_any _ (by assumption)).mono ?_; rintro e wA ⟨rfl, hbA⟩))
  go_ret
  exact ⟨rfl, hbA⟩

set_option maxHeartbeats 1600000 in
set_option maxRecDepth 100000 in
theorem gets_go (s : ByteArray) (a : Int) (w : World) (ht : Tab w) (hs : s.size ≤ 6000) :
    Calls Tryd.prog 4 #[.string s, .int .i64 a] w (Good w) := by
  obtain ⟨⟨n, k, c⟩, hg⟩ : ∃ r, r = vm.get (kit.bytes s) a := ⟨_, rfl⟩
  obtain ⟨⟨t, l, d⟩, hq⟩ : ∃ r, r = vm.getText (kit.bytes s) a := ⟨_, rfl⟩
  obtain ⟨t', ht'⟩ : ∃ t', t' = kit.str t := ⟨_, rfl⟩
  have HG : Hid (∀ W : World, Calls Tryd.prog 16 #[.string s, .int .i64 a] W fun e w' => e = .returned (.tuple #[.int .i64 n, .int .i64 k, .int .i64 c]) ∧ W = w') := fun W => by have := get_any s a W (by omega); rw [← hg] at this; exact this
  have HR : Hid (∀ W : World, Calls Tryd.prog 17 #[.string s, .int .i64 a] W fun e w' => e = .returned (.tuple #[.int .i64 n, .int .i64 k, .int .i64 c]) ∧ W = w') := fun W => by have := rget_any s a W (by omega); rw [← hg] at this; exact this
  have HT : Hid (∀ W : World, Calls Tryd.prog 18 #[.string s, .int .i64 a] W fun e w' => e = .returned (.tuple #[.string t', .int .i64 l, .int .i64 d]) ∧ W = w') := fun W => by have := getText_any s a W (by omega); rw [← hq] at this; rw [ht']; exact this
  have HU : Hid (∀ W : World, Calls Tryd.prog 19 #[.string s, .int .i64 a] W fun e w' => e = .returned (.tuple #[.string t', .int .i64 l, .int .i64 d]) ∧ W = w') := fun W => by have := rgetText_any s a W (by omega); rw [← hq] at this; rw [ht']; exact this
  clear hg hq ht'
  go_enter Tryd.func4, Tryd.ntmps4
  go_wp2_with (first | (go_at_call 10; refine (long_no _ _ hs).mono ?_; rintro e w' ⟨rfl, rfl⟩) | (go_at_call 16; refine (HG.out _).mono ?_; rintro e w' ⟨rfl, rfl⟩) | (go_at_call 17; refine (HR.out _).mono ?_; rintro e w' ⟨rfl, rfl⟩) | (go_at_call 18; refine (HT.out _).mono ?_; rintro e w' ⟨rfl, rfl⟩) | (go_at_call 19; refine (HU.out _).mono ?_; rintro e w' ⟨rfl, rfl⟩) | (go_at_call 11; refine (awake_any _ (by assumption)).mono ?_; rintro e wA ⟨rfl, hbA⟩))
  go_ret
  exact ⟨rfl, hbA⟩
theorem gets_any (s : ByteArray) (a : Int) (w : World) (ht : Tab w) (hs : s.size ≤ 9223372036854775807) :
    Calls Tryd.prog 4 #[.string s, .int .i64 a] w (Good w) := by
  by_cases hl : 6000 < s.size
  · exact gets_long s a w hs ht hl
  · exact gets_go s a w ht (by omega)

/-- what Put answers, the program's and the document's -/
theorem put_two (n : Int) : ∃ (b : ByteArray) (c : Int), (∀ W : World, Calls Tryd.prog 12 #[.int .i64 n] W fun e w' => e = .returned (.tuple #[.string b, .int .i64 c]) ∧ Below W.heap.size W w') ∧
    (∀ W : World, Calls Tryd.prog 13 #[.int .i64 n] W fun e w' => e = .returned (.tuple #[.string b, .int .i64 c]) ∧ Below W.heap.size W w') := by
  by_cases h : n < 0 ∨ 1099511627776 < n
  · exact ⟨_, _, fun W => (put_bad n W h).mono fun e w' ⟨h1, h2⟩ => ⟨h1, h2 ▸ Below.refl _ _⟩, fun W => (rput_bad n W h).mono fun e w' ⟨h1, h2⟩ => ⟨h1, h2 ▸ Below.refl _ _⟩⟩
  · obtain ⟨k, rfl⟩ : ∃ k : Nat, n = (k : Int) := ⟨n.toNat, by omega⟩
    exact ⟨_, _, fun W => put_ok k W (by omega), fun W => rput_ok k W (by omega)⟩
theorem text_two (s : ByteArray) (hs : s.size ≤ 6000) : ∃ (b : ByteArray) (c : Int), (∀ W : World, Calls Tryd.prog 14 #[.string s] W fun e w' => e = .returned (.tuple #[.string b, .int .i64 c]) ∧ Below W.heap.size W w') ∧
    (∀ W : World, Calls Tryd.prog 15 #[.string s] W fun e w' => e = .returned (.tuple #[.string b, .int .i64 c]) ∧ Below W.heap.size W w') := by
  by_cases h : 4000 < s.size
  · exact ⟨_, _, fun W => (putText_long s W (by omega) h).mono fun e w' ⟨h1, h2⟩ => ⟨h1, h2 ▸ Below.refl _ _⟩, fun W => (rputText_long s W (by omega) h).mono fun e w' ⟨h1, h2⟩ => ⟨h1, h2 ▸ Below.refl _ _⟩⟩
  · exact ⟨_, _, fun W => putText_ok s W (by omega), fun W => rputText_ok s W (by omega)⟩

set_option maxHeartbeats 1600000 in
set_option maxRecDepth 100000 in
theorem puts_go (n : Int) (s : ByteArray) (w : World) (ht : Tab w) (hs : s.size ≤ 6000) :
    Calls Tryd.prog 3 #[.int .i64 n, .string s] w (Good w) := by
  obtain ⟨a, c, h1, h2⟩ := put_two n
  obtain ⟨b, d, h3, h4⟩ := text_two s hs
  have H1 := Lib.hid h1; clear h1
  have H2 := Lib.hid h2; clear h2
  have H3 := Lib.hid h3; clear h3
  have H4 := Lib.hid h4; clear h4
  go_enter Tryd.func3, Tryd.ntmps3
  go_wp2_with (first | (go_at_call 10; refine (long_no _ _ hs).mono ?_; rintro e w' ⟨rfl, rfl⟩) | (go_at_call 12; refine (H1.out _).mono ?_; rintro e w1 ⟨rfl, hb1⟩; have hw1 := ht.below hb1 (Nat.le_refl _)) | (go_at_call 13; refine (H2.out _).mono ?_; rintro e w2 ⟨rfl, hb2⟩; have hw2 := hw1.below hb2 (Nat.le_refl _)) | (go_at_call 14; refine (H3.out _).mono ?_; rintro e w3 ⟨rfl, hb3⟩; have hw3 := hw2.below hb3 (Nat.le_refl _)) | (go_at_call 15; refine (H4.out _).mono ?_; rintro e w4 ⟨rfl, hb4⟩; have hw4 := hw3.below hb4 (Nat.le_refl _)) | (go_at_call 11; refine (awake_any _ hw4).mono ?_; rintro e wA ⟨rfl, hbA⟩))
  go_ret
  have s1 := hb1.size
  have s2 := hb2.size
  have s3 := hb3.size
  have s4 := hb4.size
  exact ⟨rfl, (((hb1.trans (hb2.mono s1)).trans (hb3.mono (by omega))).trans (hb4.mono (by omega))).trans (hbA.mono (by omega))⟩
theorem puts_any (n : Int) (s : ByteArray) (w : World) (ht : Tab w) (hs : s.size ≤ 9223372036854775807) :
    Calls Tryd.prog 3 #[.int .i64 n, .string s] w (Good w) := by
  by_cases hl : 6000 < s.size
  · exact puts_long n s w hs ht hl
  · exact puts_go n s w ht (by omega)

set_option maxHeartbeats 1600000 in
set_option maxRecDepth 100000 in
theorem numbers_go (n : Int) (s : ByteArray) (w : World) (ht : Tab w) (hs : s.size ≤ 6000) (h0 : -9223372036854775808 ≤ n) (h1 : n ≤ 9223372036854775807) :
    Calls Tryd.prog 5 #[.int .i64 n, .string s] w (Good w) := by
  obtain ⟨⟨k, c⟩, hk⟩ : ∃ r, r = nm.number (kit.bytes s) := ⟨_, rfl⟩
  obtain ⟨D, hD⟩ : ∃ D : ByteArray, D = ⟨(Lib.itoa n).toArray⟩ := ⟨_, rfl⟩
  have H1 : Hid (∀ W : World, Calls Tryd.prog 20 #[.string s] W fun e w' => e = .returned (.tuple #[.int .i64 k, .int .i64 c]) ∧ W = w') := fun W => by have := number_any s W (by omega); rw [← hk] at this; exact this
  have H2 : Hid (∀ W : World, Calls Tryd.prog 21 #[.string s] W fun e w' => e = .returned (.tuple #[.int .i64 k, .int .i64 c]) ∧ W = w') := fun W => by have := rnumber_any s W (by omega); rw [← hk] at this; exact this
  have H3 : Hid (∀ W : World, Tab W → Calls Tryd.prog 22 #[.int .i64 n] W fun e w' => e = .returned (.string D) ∧ Below W.heap.size W w') := fun W hW => by rw [hD]; exact digits_any n W h0 h1 hW
  have H4 : Hid (∀ W : World, Calls Tryd.prog 23 #[.int .i64 n] W fun e w' => e = .returned (.string D) ∧ Below W.heap.size W w') := fun W => by rw [hD]; exact rdigits_any n W h0 h1
  clear hk hD h0 h1
  go_enter Tryd.func5, Tryd.ntmps5
  go_wp2_with (first | (go_at_call 10; refine (long_no _ _ hs).mono ?_; rintro e w' ⟨rfl, rfl⟩) | (go_at_call 20; refine (H1.out _).mono ?_; rintro e w' ⟨rfl, rfl⟩) | (go_at_call 21; refine (H2.out _).mono ?_; rintro e w' ⟨rfl, rfl⟩) | (go_at_call 22; refine (H3.out _ ht).mono ?_; rintro e w3 ⟨rfl, hb3⟩; have hw3 := ht.below hb3 (Nat.le_refl _)) | (go_at_call 23; refine (H4.out _).mono ?_; rintro e w4 ⟨rfl, hb4⟩; have hw4 := hw3.below hb4 (Nat.le_refl _)) | (go_at_call 11; refine (awake_any _ hw4).mono ?_; rintro e wA ⟨rfl, hbA⟩))
  go_ret
  have s3 := hb3.size
  have s4 := hb4.size
  exact ⟨rfl, (hb3.trans (hb4.mono s3)).trans (hbA.mono (by omega))⟩
theorem numbers_any (n : Int) (s : ByteArray) (w : World) (ht : Tab w) (hs : s.size ≤ 9223372036854775807) (h0 : -9223372036854775808 ≤ n) (h1 : n ≤ 9223372036854775807) :
    Calls Tryd.prog 5 #[.int .i64 n, .string s] w (Good w) := by
  by_cases hl : 6000 < s.size
  · exact numbers_long n s w hs ht hl
  · exact numbers_go n s w ht (by omega) h0 h1
end Go.Proofs.YtcfnclfkjmnhlaaDoor
