/- VarintBack: the walk of the law, and its statement: for every number and texts the law returns true. -/
import Derived.Test.YtcfnclfkjmnhlaaDoorAwake
namespace Go.Proofs.YtcfnclfkjmnhlaaDoor
open Go.RowKit Go.ChangeShapes

theorem long_any (s : ByteArray) (w : World) (hs : s.size ≤ 9223372036854775807) :
    Calls Tryd.prog 10 #[.string s] w fun e w' => e = .returned (.bool (decide (6000 < s.size))) ∧ w = w' := by
  go_enter Tryd.func10, Tryd.ntmps10
  go_wp2
  go_ret
  exact ⟨by simp; omega, rfl⟩
theorem long_yes (s : ByteArray) (w : World) (hs : s.size ≤ 9223372036854775807) (h : 6000 < s.size) :
    Calls Tryd.prog 10 #[.string s] w fun e w' => e = .returned (.bool true) ∧ w = w' := by
  have := long_any s w hs
  rw [decide_eq_true h] at this
  exact this
theorem long_no (s : ByteArray) (w : World) (h : s.size ≤ 6000) :
    Calls Tryd.prog 10 #[.string s] w fun e w' => e = .returned (.bool false) ∧ w = w' := by
  have := long_any s w (by omega)
  rw [decide_eq_false (by omega)] at this
  exact this

theorem back_get (n : Nat) (noise a b : ByteArray) (ha : a = kit.str (vm.enc n)) (hn : n ≤ 1099511627776) (hno : noise.size ≤ 6000) (hb : b.size ≤ 4006) (w : World) :
    Calls Tryd.prog 16 #[.string (noise ++ a ++ b ++ noise), .int .i64 noise.size] w fun e w' => e = .returned (.tuple #[.int .i64 n, .int .i64 ((noise.size : Int) + a.size), .int .i64 0]) ∧ w = w' := by
  have h6 := vm.enc_six hn
  have ha6 : a.size ≤ 6 := by rw [ha, kit.str_size]; exact h6
  have hc := get_any (noise ++ a ++ b ++ noise) noise.size w (by simp only [ByteArray.size_append]; omega)
  rw [vm.get_back (kit.bytes (noise ++ a ++ b ++ noise)) noise.size n (kit.bytes b ++ kit.bytes noise) ?_ hn (by rw [kit.bytes_len]; simp only [ByteArray.size_append]; omega)] at hc
  · unfold Trip at hc
    rw [ha, kit.str_size, ← Int.natCast_add]
    rw [ha] at hc
    exact hc
  · rw [kit.bytes_app, kit.bytes_app, kit.bytes_app, List.append_assoc, List.append_assoc, List.drop_left' (kit.bytes_len noise), ha, kit.bytes_str _ (vm.enc_byte n)]

theorem back_text (s noise a b : ByteArray) (ha : a.size ≤ 6) (hb : b = kit.str (vm.enc s.size) ++ s) (hs : s.size ≤ 4000) (hno : noise.size ≤ 6000) (w : World) :
    Calls Tryd.prog 18 #[.string (noise ++ a ++ b ++ noise), .int .i64 ((noise.size : Int) + a.size)] w fun e w' => e = .returned (.tuple #[.string s, .int .i64 ((noise.size : Int) + a.size + b.size), .int .i64 0]) ∧ w = w' := by
  have h6 := vm.enc_six (n := s.size) (by omega)
  have hbs : b.size = (vm.enc s.size).length + s.size := by rw [hb, ByteArray.size_append, kit.str_size]
  have hc := getText_any (noise ++ a ++ b ++ noise) ((noise.size + a.size : Nat) : Int) w (by simp only [ByteArray.size_append]; omega)
  have hd : (kit.bytes (noise ++ a ++ b ++ noise)).drop (noise.size + a.size) = vm.enc s.size ++ (kit.bytes s ++ kit.bytes noise) := by
    rw [kit.bytes_app, kit.bytes_app, List.append_assoc, List.drop_left' (by rw [kit.bytes_len, ByteArray.size_append]), hb, kit.bytes_app, kit.bytes_str _ (vm.enc_byte _), List.append_assoc]
  have hg := vm.get_back (kit.bytes (noise ++ a ++ b ++ noise)) (noise.size + a.size) s.size _ hd (by omega) (by rw [kit.bytes_len]; simp only [ByteArray.size_append]; omega)
  rw [vm.getText_ok hg (by omega) (by rw [kit.bytes_len]; simp only [ByteArray.size_append]; omega), ← List.drop_drop, hd, List.drop_left' rfl, List.take_left' (kit.bytes_len s)] at hc
  refine hc.mono fun e w' ⟨h1, h2⟩ => ⟨?_, h2⟩
  rw [h1, kit.str_bytes]
  congr 4
  rw [hbs]; simp only [Int.natCast_add]; congr 2; omega

set_option maxRecDepth 100000 in
theorem back_long1 (n : Int) (s noise : ByteArray) (w : World) (hs : s.size ≤ 9223372036854775807) (ht : Tab w) (h : 6000 < s.size) :
    Calls Tryd.prog 6 #[.int .i64 n, .string s, .string noise] w fun e w' => e = .returned (.bool true) ∧ Below w.heap.size w w' := by
  go_enter Tryd.func6, Tryd.ntmps6
  go_wp2_with (first | (go_at_call 10; refine (long_yes s _ hs h).mono ?_; rintro e w' ⟨rfl, rfl⟩) | (go_at_call 11; refine (awake_any _ (by assumption)).mono ?_; rintro e w1 ⟨rfl, hb⟩))
  go_ret
  exact ⟨rfl, hb⟩

set_option maxRecDepth 100000 in
theorem back_long2 (n : Int) (s noise : ByteArray) (w : World) (hs : s.size ≤ 6000) (hno : noise.size ≤ 9223372036854775807) (ht : Tab w) (h : 6000 < noise.size) :
    Calls Tryd.prog 6 #[.int .i64 n, .string s, .string noise] w fun e w' => e = .returned (.bool true) ∧ Below w.heap.size w w' := by
  go_enter Tryd.func6, Tryd.ntmps6
  go_wp2_with fail
  refine (long_no _ _ hs).mono ?_
  rintro e w' ⟨rfl, rfl⟩
  go_wp2_with fail
  refine (long_yes _ _ hno h).mono ?_
  rintro e w' ⟨rfl, rfl⟩
  go_wp2_with (go_at_call 11; refine (awake_any _ (by assumption)).mono ?_; rintro e w1 ⟨rfl, hb⟩)
  go_ret
  exact ⟨rfl, hb⟩

set_option maxHeartbeats 800000 in
set_option maxRecDepth 100000 in
theorem back_bad1 (n : Int) (s noise : ByteArray) (w : World) (ht : Tab w) (hs : s.size ≤ 4000) (hno : noise.size ≤ 6000) (hn : n < 0 ∨ 1099511627776 < n) :
    Calls Tryd.prog 6 #[.int .i64 n, .string s, .string noise] w fun e w' => e = .returned (.bool true) ∧ Below w.heap.size w w' := by
  have HN : Hid (n < 0 ∨ 1099511627776 < n) := hn
  rcases hn with hn | hn
  · go_enter Tryd.func6, Tryd.ntmps6
    go_wp2_with (first | (go_at_call 10; refine (long_no _ _ (by omega)).mono ?_; rintro e w' ⟨rfl, rfl⟩) | (go_at_call 12; refine (put_bad n _ HN.out).mono ?_; rintro e w' ⟨rfl, rfl⟩) | (go_at_call 14; refine (putText_ok s _ hs).mono ?_; rintro e w2 ⟨rfl, hb2⟩; have hw2 := ht.below hb2 (Nat.le_refl _)) | (go_at_call 11; refine (awake_any _ hw2).mono ?_; rintro e w3 ⟨rfl, hb3⟩))
    go_ret
    exact ⟨rfl, hb2.trans (hb3.mono hb2.size)⟩
  · have h0 : 0 ≤ n := by omega
    go_enter Tryd.func6, Tryd.ntmps6
    go_wp2_with (first | (go_at_call 10; refine (long_no _ _ (by omega)).mono ?_; rintro e w' ⟨rfl, rfl⟩) | (go_at_call 12; refine (put_bad n _ HN.out).mono ?_; rintro e w' ⟨rfl, rfl⟩) | (go_at_call 14; refine (putText_ok s _ hs).mono ?_; rintro e w2 ⟨rfl, hb2⟩; have hw2 := ht.below hb2 (Nat.le_refl _)) | (go_at_call 11; refine (awake_any _ hw2).mono ?_; rintro e w3 ⟨rfl, hb3⟩))
    go_ret
    exact ⟨rfl, hb2.trans (hb3.mono hb2.size)⟩

set_option maxHeartbeats 800000 in
set_option maxRecDepth 100000 in
theorem back_bad2 (n : Int) (s noise : ByteArray) (w : World) (ht : Tab w) (hs : s.size ≤ 6000) (hs4 : 4000 < s.size) (hno : noise.size ≤ 6000) (hn : n < 0 ∨ 1099511627776 < n) :
    Calls Tryd.prog 6 #[.int .i64 n, .string s, .string noise] w fun e w' => e = .returned (.bool true) ∧ Below w.heap.size w w' := by
  have HN : Hid (n < 0 ∨ 1099511627776 < n) := hn
  rcases hn with hn | hn
  · go_enter Tryd.func6, Tryd.ntmps6
    go_wp2_with (first | (go_at_call 10; refine (long_no _ _ (by omega)).mono ?_; rintro e w' ⟨rfl, rfl⟩) | (go_at_call 12; refine (put_bad n _ HN.out).mono ?_; rintro e w' ⟨rfl, rfl⟩) | (go_at_call 14; refine (putText_long s _ (by omega) hs4).mono ?_; rintro e w' ⟨rfl, rfl⟩) | (go_at_call 11; refine (awake_any _ ht).mono ?_; rintro e w3 ⟨rfl, hb3⟩))
    go_ret
    exact ⟨rfl, hb3⟩
  · have h0 : 0 ≤ n := by omega
    go_enter Tryd.func6, Tryd.ntmps6
    go_wp2_with (first | (go_at_call 10; refine (long_no _ _ (by omega)).mono ?_; rintro e w' ⟨rfl, rfl⟩) | (go_at_call 12; refine (put_bad n _ HN.out).mono ?_; rintro e w' ⟨rfl, rfl⟩) | (go_at_call 14; refine (putText_long s _ (by omega) hs4).mono ?_; rintro e w' ⟨rfl, rfl⟩) | (go_at_call 11; refine (awake_any _ ht).mono ?_; rintro e w3 ⟨rfl, hb3⟩))
    go_ret
    exact ⟨rfl, hb3⟩

set_option maxHeartbeats 800000 in
set_option maxRecDepth 100000 in
theorem back_bad3 (n : Nat) (s noise : ByteArray) (w : World) (ht : Tab w) (hs : s.size ≤ 6000) (hs4 : 4000 < s.size) (hno : noise.size ≤ 6000) (hn : n ≤ 1099511627776) :
    Calls Tryd.prog 6 #[.int .i64 n, .string s, .string noise] w fun e w' => e = .returned (.bool true) ∧ Below w.heap.size w w' := by
  go_enter Tryd.func6, Tryd.ntmps6
  go_wp2_with (first | (go_at_call 10; refine (long_no _ _ (by omega)).mono ?_; rintro e w' ⟨rfl, rfl⟩) | (go_at_call 12; refine (put_ok n _ hn).mono ?_; rintro e w2 ⟨rfl, hb2⟩; have hw2 := ht.below hb2 (Nat.le_refl _)) | (go_at_call 14; refine (putText_long s _ (by omega) hs4).mono ?_; rintro e w' ⟨rfl, rfl⟩) | (go_at_call 11; refine (awake_any _ hw2).mono ?_; rintro e w3 ⟨rfl, hb3⟩))
  go_ret
  exact ⟨rfl, hb2.trans (hb3.mono hb2.size)⟩

set_option maxHeartbeats 800000 in
set_option maxRecDepth 100000 in
theorem back_ok (n : Nat) (s noise : ByteArray) (w : World) (ht : Tab w) (hs : s.size ≤ 4000) (hno : noise.size ≤ 6000) (hn : n ≤ 1099511627776) :
    Calls Tryd.prog 6 #[.int .i64 n, .string s, .string noise] w fun e w' => e = .returned (.bool true) ∧ Below w.heap.size w w' := by
  obtain ⟨a, ha⟩ : ∃ a, a = kit.str (vm.enc n) := ⟨_, rfl⟩
  obtain ⟨b, hb⟩ : ∃ b, b = kit.str (vm.enc s.size) ++ s := ⟨_, rfl⟩
  have ha6 : a.size ≤ 6 := by rw [ha, kit.str_size]; exact vm.enc_six hn
  have hb6 : b.size ≤ 4006 := by
    have h6 := vm.enc_six (n := s.size) (by omega)
    rw [hb, ByteArray.size_append, kit.str_size]; omega
  have HA : Hid (a = kit.str (vm.enc n)) := ha
  have HB : Hid (b = kit.str (vm.enc s.size) ++ s) := hb
  have hput : ∀ W : World, Calls Tryd.prog 12 #[.int .i64 n] W fun e w' => e = .returned (.tuple #[.string a, .int .i64 0]) ∧ Below W.heap.size W w' := fun W => by rw [ha]; exact put_ok n W hn
  have hpt : ∀ W : World, Calls Tryd.prog 14 #[.string s] W fun e w' => e = .returned (.tuple #[.string b, .int .i64 0]) ∧ Below W.heap.size W w' := fun W => by rw [hb]; exact putText_ok s W hs
  clear ha hb
  have HP := Lib.hid hput; clear hput
  have HT := Lib.hid hpt; clear hpt
  go_enter Tryd.func6, Tryd.ntmps6
  go_wp2_with (first | (go_at_call 10; refine (long_no _ _ (by omega)).mono ?_; rintro e w' ⟨rfl, rfl⟩) | (go_at_call 12; refine (HP.out _).mono ?_; rintro e w1 ⟨rfl, hb1⟩) | (go_at_call 14; refine (HT.out _).mono ?_; rintro e w2 ⟨rfl, hb2⟩; have hw2 := (ht.below hb1 (Nat.le_refl _)).below hb2 (Nat.le_refl _)) | (go_at_call 16; refine (back_get n noise a b HA.out hn hno hb6 _).mono ?_; rintro e w' ⟨rfl, rfl⟩) | (go_at_call 18; refine (back_text s noise a b ha6 HB.out hs hno _).mono ?_; rintro e w' ⟨rfl, rfl⟩) | (go_at_call 11; refine (awake_any _ hw2).mono ?_; rintro e w3 ⟨rfl, hb3⟩))
  go_ret
  exact ⟨rfl, (hb1.trans (hb2.mono hb1.size)).trans (hb3.mono (Nat.le_trans hb1.size hb2.size))⟩

theorem back_any (n : Int) (s noise : ByteArray) (w : World) (ht : Tab w) (hs : s.size ≤ 9223372036854775807) (hno : noise.size ≤ 9223372036854775807) :
    Calls Tryd.prog 6 #[.int .i64 n, .string s, .string noise] w fun e w' => e = .returned (.bool true) ∧ Below w.heap.size w w' := by
  by_cases h1 : 6000 < s.size
  · exact back_long1 n s noise w hs ht h1
  by_cases h2 : 6000 < noise.size
  · exact back_long2 n s noise w (by omega) hno ht h2
  by_cases h3 : n < 0 ∨ 1099511627776 < n
  · by_cases h4 : 4000 < s.size
    · exact back_bad2 n s noise w ht (by omega) h4 (by omega) h3
    · exact back_bad1 n s noise w ht (by omega) (by omega) h3
  · obtain ⟨k, rfl⟩ : ∃ k : Nat, n = (k : Int) := ⟨n.toNat, by omega⟩
    by_cases h4 : 4000 < s.size
    · exact back_bad3 k s noise w ht (by omega) h4 (by omega) (by omega)
    · exact back_ok k s noise w ht (by omega) (by omega) (by omega)
end Go.Proofs.YtcfnclfkjmnhlaaDoor
