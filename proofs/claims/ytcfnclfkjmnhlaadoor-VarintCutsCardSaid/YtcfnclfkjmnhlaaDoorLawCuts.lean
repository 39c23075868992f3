/- VarintCuts and VarintDigits: the walks of the laws. -/
import Derived.Test.YtcfnclfkjmnhlaaDoorLawBack
namespace Go.Proofs.YtcfnclfkjmnhlaaDoor
open Go.RowKit Go.ChangeShapes

theorem cut_get (n j : Nat) (a : ByteArray) (ha : a = kit.str (vm.enc n)) (hn : n ≤ 1099511627776) (hj : j < a.size) (w : World) :
    Calls Tryd.prog 16 #[.string (a.extract 0 j), .int .i64 0] w fun e w' => e = .returned (.tuple #[.int .i64 0, .int .i64 0, .int .i64 2]) ∧ w = w' := by
  have hl : a.size = (vm.enc n).length := by rw [ha, kit.str_size]
  have h6 := vm.enc_six hn
  have hx : a.extract 0 j = kit.str ((vm.enc n).take j) := by
    have := extract_str a 0 j (by omega)
    rw [Nat.zero_add] at this
    rw [this, ha, kit.bytes_str _ (vm.enc_byte n), List.drop_zero]
  have hc := get_any (a.extract 0 j) ((0 : Nat) : Int) w (by simp only [ByteArray.size_extract]; omega)
  rw [hx, kit.bytes_str _ (fun x hx => vm.enc_byte n x (List.mem_of_mem_take hx))] at hc
  have hs := vm.get_short n j hn (by omega)
  rw [show ((0 : Nat) : Int) = 0 from rfl, hs] at hc
  rw [hx]
  exact hc

def a_ext (b : ByteArray) (j : Nat) : List Nat := kit.bytes (b.extract 0 j)
theorem cut_text (s b : ByteArray) (j : Nat) (hb : b = kit.str (vm.enc s.size) ++ s) (hs : s.size ≤ 4000) (hj : j < b.size) (w : World) :
    Calls Tryd.prog 18 #[.string (b.extract 0 j), .int .i64 0] w fun e w' => e = .returned (.tuple #[.string ⟨#[]⟩, .int .i64 0, .int .i64 2]) ∧ w = w' := by
  have h6 := vm.enc_six (n := s.size) (by omega)
  have hbs : b.size = (vm.enc s.size).length + s.size := by rw [hb, ByteArray.size_append, kit.str_size]
  have hbb : kit.bytes b = vm.enc s.size ++ kit.bytes s := by rw [hb, kit.bytes_app, kit.bytes_str _ (vm.enc_byte _)]
  have hx : a_ext b j = (vm.enc s.size ++ kit.bytes s).take j := by
    unfold a_ext
    have := extract_str b 0 j (by omega)
    rw [Nat.zero_add] at this
    rw [this, kit.bytes_str _ (fun x hx => kit.bytes_lt b x (List.mem_of_mem_drop (List.mem_of_mem_take hx))), List.drop_zero, hbb]
  have hc := getText_any (b.extract 0 j) ((0 : Nat) : Int) w (by simp only [ByteArray.size_extract]; omega)
  have e2 : vm.getText (kit.bytes (b.extract 0 j)) ((0 : Nat) : Int) = ([], 0, 2) := by
    by_cases h1 : j < (vm.enc s.size).length
    · have ht : kit.bytes (b.extract 0 j) = (vm.enc s.size).take j := by
        rw [show kit.bytes (b.extract 0 j) = a_ext b j from rfl, hx, List.take_append_of_le_length (by omega)]
      rw [ht]
      exact vm.getText_err (vm.get_short s.size j (by omega) h1) (by omega)
    · have ht : kit.bytes (b.extract 0 j) = vm.enc s.size ++ (kit.bytes s).take (j - (vm.enc s.size).length) := by
        rw [show kit.bytes (b.extract 0 j) = a_ext b j from rfl, hx, List.take_append, List.take_of_length_le (by omega)]
      have hg := vm.get_back (kit.bytes (b.extract 0 j)) 0 s.size _ (by rw [List.drop_zero]; exact ht) (by omega) (Nat.zero_le _)
      refine vm.getText_short hg (by omega) ?_
      rw [kit.bytes_len]; simp only [ByteArray.size_extract]; omega
  rw [e2] at hc
  exact hc

set_option maxHeartbeats 800000 in
set_option maxRecDepth 100000 in
theorem cuts_ok (n : Nat) (s : ByteArray) (cut : Int) (w : World) (ht : Tab w) (hs : s.size ≤ 4000) (hn : n ≤ 1099511627776) :
    Calls Tryd.prog 8 #[.int .i64 n, .string s, .int .i64 cut] w fun e w' => e = .returned (.bool true) ∧ Below w.heap.size w w' := by
  obtain ⟨a, ha⟩ : ∃ a, a = kit.str (vm.enc n) := ⟨_, rfl⟩
  obtain ⟨b, hb⟩ : ∃ b, b = kit.str (vm.enc s.size) ++ s := ⟨_, rfl⟩
  have ha6 : a.size ≤ 6 := by rw [ha, kit.str_size]; exact vm.enc_six hn
  have ha0 : 0 < a.size := by rw [ha, kit.str_size]; exact vm.enc_pos n
  have h6 := vm.enc_six (n := s.size) (by omega)
  have hp := vm.enc_pos s.size
  have hb6 : b.size ≤ 4006 := by rw [hb, ByteArray.size_append, kit.str_size]; omega
  have hb0 : 0 < b.size := by rw [hb, ByteArray.size_append, kit.str_size]; omega
  have HA : Hid (a = kit.str (vm.enc n)) := ha
  have HB : Hid (b = kit.str (vm.enc s.size) ++ s) := hb
  have hput : ∀ W : World, Calls Tryd.prog 12 #[.int .i64 n] W fun e w' => e = .returned (.tuple #[.string a, .int .i64 0]) ∧ Below W.heap.size W w' := fun W => by rw [ha]; exact put_ok n W hn
  have hpt : ∀ W : World, Calls Tryd.prog 14 #[.string s] W fun e w' => e = .returned (.tuple #[.string b, .int .i64 0]) ∧ Below W.heap.size W w' := fun W => by rw [hb]; exact putText_ok s W hs
  clear ha hb h6 hp
  have HP := Lib.hid hput; clear hput
  have HT := Lib.hid hpt; clear hpt
  obtain ⟨j, hj, hja⟩ := kit.umod cut ha0
  obtain ⟨k, hk, hkb⟩ := kit.umod cut hb0
  obtain ⟨ea1, ea2, _⟩ := kit.ne_empty ha0
  obtain ⟨eb1, eb2, _⟩ := kit.ne_empty hb0
  clear ha0 hb0
  go_enter Tryd.func8, Tryd.ntmps8
  go_wp2_with (first | (go_at_call 10; refine (long_no _ _ (by omega)).mono ?_; rintro e w' ⟨rfl, rfl⟩) | (go_at_call 12; refine (HP.out _).mono ?_; rintro e w1 ⟨rfl, hb1⟩) | (go_at_call 14; refine (HT.out _).mono ?_; rintro e w2 ⟨rfl, hb2⟩; have hw2 := (ht.below hb1 (Nat.le_refl _)).below hb2 (Nat.le_refl _)) | (go_at_call 16; refine (cut_get n j a HA.out hn hj _).mono ?_; rintro e w' ⟨rfl, rfl⟩) | (go_at_call 18; refine (cut_text s b k HB.out hs hk _).mono ?_; rintro e w' ⟨rfl, rfl⟩) | (go_at_call 11; refine (awake_any _ hw2).mono ?_; rintro e w3 ⟨rfl, hb3⟩))
  go_ret
  exact ⟨rfl, (hb1.trans (hb2.mono hb1.size)).trans (hb3.mono (Nat.le_trans hb1.size hb2.size))⟩

set_option maxRecDepth 100000 in
theorem cuts_long (n : Int) (s : ByteArray) (cut : Int) (w : World) (hs : s.size ≤ 9223372036854775807) (ht : Tab w) (h : 6000 < s.size) :
    Calls Tryd.prog 8 #[.int .i64 n, .string s, .int .i64 cut] w fun e w' => e = .returned (.bool true) ∧ Below w.heap.size w w' := by
  go_enter Tryd.func8, Tryd.ntmps8
  go_wp2_with (first | (go_at_call 10; refine (long_yes s _ hs h).mono ?_; rintro e w' ⟨rfl, rfl⟩) | (go_at_call 11; refine (awake_any _ (by assumption)).mono ?_; rintro e w1 ⟨rfl, hb⟩))
  go_ret
  exact ⟨rfl, hb⟩

/-- PutText, whatever the text: an error, or none -/
theorem putText_some (s : ByteArray) (w : World) (hs : s.size ≤ 100000) :
    Calls Tryd.prog 14 #[.string s] w fun e w' => (∃ (b : ByteArray) (c : Int), e = .returned (.tuple #[.string b, .int .i64 c])) ∧ Below w.heap.size w w' := by
  by_cases h : 4000 < s.size
  · exact (putText_long s w hs h).mono fun e w' ⟨h1, h2⟩ => ⟨⟨_, _, h1⟩, h2 ▸ Below.refl _ _⟩
  · exact (putText_ok s w (by omega)).mono fun e w' ⟨h1, h2⟩ => ⟨⟨_, _, h1⟩, h2⟩

set_option maxHeartbeats 800000 in
set_option maxRecDepth 100000 in
theorem cuts_bad (n : Int) (s : ByteArray) (cut : Int) (w : World) (ht : Tab w) (hs : s.size ≤ 6000) (hn : n < 0 ∨ 1099511627776 < n) :
    Calls Tryd.prog 8 #[.int .i64 n, .string s, .int .i64 cut] w fun e w' => e = .returned (.bool true) ∧ Below w.heap.size w w' := by
  have HN : Hid (n < 0 ∨ 1099511627776 < n) := hn
  clear hn
  go_enter Tryd.func8, Tryd.ntmps8
  go_wp2_with (first | (go_at_call 10; refine (long_no _ _ (by omega)).mono ?_; rintro e w' ⟨rfl, rfl⟩) | (go_at_call 12; refine (put_bad n _ HN.out).mono ?_; rintro e w' ⟨rfl, rfl⟩) | (go_at_call 14; refine (putText_some s _ (by omega)).mono ?_; rintro e w2 ⟨⟨b, c, rfl⟩, hb2⟩; have hw2 := ht.below hb2 (Nat.le_refl _)) | (go_at_call 11; refine (awake_any _ hw2).mono ?_; rintro e w3 ⟨rfl, hb3⟩))
  go_ret
  exact ⟨rfl, hb2.trans (hb3.mono hb2.size)⟩

set_option maxHeartbeats 800000 in
set_option maxRecDepth 100000 in
theorem cuts_bad2 (n : Nat) (s : ByteArray) (cut : Int) (w : World) (ht : Tab w) (hs : s.size ≤ 6000) (hs4 : 4000 < s.size) (hn : n ≤ 1099511627776) :
    Calls Tryd.prog 8 #[.int .i64 n, .string s, .int .i64 cut] w fun e w' => e = .returned (.bool true) ∧ Below w.heap.size w w' := by
  go_enter Tryd.func8, Tryd.ntmps8
  go_wp2_with (first | (go_at_call 10; refine (long_no _ _ (by omega)).mono ?_; rintro e w' ⟨rfl, rfl⟩) | (go_at_call 12; refine (put_ok n _ hn).mono ?_; rintro e w2 ⟨rfl, hb2⟩; have hw2 := ht.below hb2 (Nat.le_refl _)) | (go_at_call 14; refine (putText_long s _ (by omega) hs4).mono ?_; rintro e w' ⟨rfl, rfl⟩) | (go_at_call 11; refine (awake_any _ hw2).mono ?_; rintro e w3 ⟨rfl, hb3⟩))
  go_ret
  exact ⟨rfl, hb2.trans (hb3.mono hb2.size)⟩

theorem cuts_any (n : Int) (s : ByteArray) (cut : Int) (w : World) (ht : Tab w) (hs : s.size ≤ 9223372036854775807) :
    Calls Tryd.prog 8 #[.int .i64 n, .string s, .int .i64 cut] w fun e w' => e = .returned (.bool true) ∧ Below w.heap.size w w' := by
  by_cases h1 : 6000 < s.size
  · exact cuts_long n s cut w hs ht h1
  by_cases h3 : n < 0 ∨ 1099511627776 < n
  · exact cuts_bad n s cut w ht (by omega) h3
  · obtain ⟨k, rfl⟩ : ∃ k : Nat, n = (k : Int) := ⟨n.toNat, by omega⟩
    by_cases h4 : 4000 < s.size
    · exact cuts_bad2 k s cut w ht (by omega) h4 (by omega)
    · exact cuts_ok k s cut w ht (by omega) (by omega)
end Go.Proofs.YtcfnclfkjmnhlaaDoor
