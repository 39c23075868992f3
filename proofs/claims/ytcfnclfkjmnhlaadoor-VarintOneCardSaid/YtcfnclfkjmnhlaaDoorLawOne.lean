/- VarintOne: the walk of the law. -/
import Derived.Test.YtcfnclfkjmnhlaaDoorLawBack
namespace Go.Proofs.YtcfnclfkjmnhlaaDoor
open Go.RowKit Go.ChangeShapes

set_option maxRecDepth 100000 in
theorem one_long (s : ByteArray) (a : Int) (w : World) (hs : s.size ≤ 9223372036854775807) (ht : Tab w) (h : 6000 < s.size) :
    Calls Tryd.prog 7 #[.string s, .int .i64 a] w fun e w' => e = .returned (.bool true) ∧ Below w.heap.size w w' := by
  go_enter Tryd.func7, Tryd.ntmps7
  go_wp2_with (first | (go_at_call 10; refine (long_yes s _ hs h).mono ?_; rintro e w' ⟨rfl, rfl⟩) | (go_at_call 11; refine (awake_any _ (by assumption)).mono ?_; rintro e w1 ⟨rfl, hb⟩))
  go_ret
  exact ⟨rfl, hb⟩

set_option maxHeartbeats 800000 in
set_option maxRecDepth 100000 in
theorem one_err (s : ByteArray) (a : Int) (w : World) (ht : Tab w) (hs : s.size ≤ 6000) (er : Nat) (h1 : 1 ≤ er) (he : vm.get (kit.bytes s) a = (0, 0, er)) :
    Calls Tryd.prog 7 #[.string s, .int .i64 a] w fun e w' => e = .returned (.bool true) ∧ Below w.heap.size w w' := by
  have HG : Hid (∀ W : World, Calls Tryd.prog 16 #[.string s, .int .i64 a] W fun e w' => e = .returned (.tuple #[.int .i64 0, .int .i64 0, .int .i64 er]) ∧ W = w') := fun W => by have := get_any s a W (by omega); rw [he] at this; exact this
  have HT : Hid (∀ W : World, Calls Tryd.prog 18 #[.string s, .int .i64 a] W fun e w' => e = .returned (.tuple #[.string ⟨#[]⟩, .int .i64 0, .int .i64 er]) ∧ W = w') := fun W => by have := getText_any s a W (by omega); rw [vm.getText_err he h1] at this; exact this
  have e1 : ((er : Int) == 0) = false := by simp; omega
  have e2 : ((er : Int) != 0) = true := by simp; omega
  clear he
  go_enter Tryd.func7, Tryd.ntmps7
  go_wp2_with (first | (go_at_call 10; refine (long_no _ _ hs).mono ?_; rintro e w' ⟨rfl, rfl⟩) | (go_at_call 16; refine (HG.out _).mono ?_; rintro e w' ⟨rfl, rfl⟩) | (go_at_call 18; refine (HT.out _).mono ?_; rintro e w' ⟨rfl, rfl⟩) | (go_at_call 11; refine (awake_any _ (by assumption)).mono ?_; rintro e w1 ⟨rfl, hb⟩))
  go_ret
  exact ⟨rfl, hb⟩

/-- the number's bytes stand in the text -/
theorem cut_enc (s : ByteArray) (a n : Nat) (ht : ((kit.bytes s).drop a).take (vm.enc n).length = vm.enc n) (hle : a + (vm.enc n).length ≤ s.size) : s.extract a (a + (vm.enc n).length) = kit.str (vm.enc n) := by
  rw [extract_str s a _ hle, ht]

set_option maxHeartbeats 1600000 in
set_option maxRecDepth 100000 in
theorem one_num (s b : ByteArray) (a n to_ er : Nat) (w : World) (ht : Tab w) (hs : s.size ≤ 6000) (hn : n ≤ 1099511627776) (hto : a < to_) (hle : to_ ≤ s.size)
    (hg : vm.get (kit.bytes s) a = (n, to_, 0)) (hb : b = kit.str (vm.enc n)) (hx : s.extract a to_ = b) (h1 : 1 ≤ er) (he : vm.getText (kit.bytes s) a = ([], 0, er)) :
    Calls Tryd.prog 7 #[.string s, .int .i64 a] w fun e w' => e = .returned (.bool true) ∧ Below w.heap.size w w' := by
  have HG : Hid (∀ W : World, Calls Tryd.prog 16 #[.string s, .int .i64 a] W fun e w' => e = .returned (.tuple #[.int .i64 n, .int .i64 to_, .int .i64 0]) ∧ W = w') := fun W => by have := get_any s a W (by omega); rw [hg] at this; exact this
  have HT : Hid (∀ W : World, Calls Tryd.prog 18 #[.string s, .int .i64 a] W fun e w' => e = .returned (.tuple #[.string ⟨#[]⟩, .int .i64 0, .int .i64 er]) ∧ W = w') := fun W => by have := getText_any s a W (by omega); rw [he] at this; exact this
  have HP : Hid (∀ W : World, Calls Tryd.prog 12 #[.int .i64 n] W fun e w' => e = .returned (.tuple #[.string b, .int .i64 0]) ∧ Below W.heap.size W w') := fun W => by rw [hb]; exact put_ok n W hn
  have e1 : ((er : Int) == 0) = false := by simp; omega
  have e2 : ((er : Int) != 0) = true := by simp; omega
  clear he hg hb
  go_enter Tryd.func7, Tryd.ntmps7
  go_wp2_with (first | (go_at_call 10; refine (long_no _ _ hs).mono ?_; rintro e w' ⟨rfl, rfl⟩) | (go_at_call 16; refine (HG.out _).mono ?_; rintro e w' ⟨rfl, rfl⟩) | (go_at_call 12; refine (HP.out _).mono ?_; rintro e w1 ⟨rfl, hb1⟩; have hw1 := ht.below hb1 (Nat.le_refl _)) | (go_at_call 18; refine (HT.out _).mono ?_; rintro e w' ⟨rfl, rfl⟩) | (go_at_call 11; refine (awake_any _ hw1).mono ?_; rintro e w3 ⟨rfl, hb3⟩))
  go_ret
  exact ⟨rfl, hb1.trans (hb3.mono hb1.size)⟩

set_option maxHeartbeats 1600000 in
set_option maxRecDepth 100000 in
theorem one_text (s b t c : ByteArray) (a n to_ tt : Nat) (w : World) (ht : Tab w) (hs : s.size ≤ 6000) (hn : n ≤ 4000) (hto : a < to_) (hle : to_ ≤ tt) (htt : tt ≤ s.size)
    (hg : vm.get (kit.bytes s) a = (n, to_, 0)) (hb : b = kit.str (vm.enc n)) (hx : s.extract a to_ = b) (he : vm.getText (kit.bytes s) a = (kit.bytes t, tt, 0)) (htn : t.size = n) (hc : c = b ++ t) (hx2 : s.extract a tt = c) :
    Calls Tryd.prog 7 #[.string s, .int .i64 a] w fun e w' => e = .returned (.bool true) ∧ Below w.heap.size w w' := by
  have HG : Hid (∀ W : World, Calls Tryd.prog 16 #[.string s, .int .i64 a] W fun e w' => e = .returned (.tuple #[.int .i64 n, .int .i64 to_, .int .i64 0]) ∧ W = w') := fun W => by have := get_any s a W (by omega); rw [hg] at this; exact this
  have HT : Hid (∀ W : World, Calls Tryd.prog 18 #[.string s, .int .i64 a] W fun e w' => e = .returned (.tuple #[.string t, .int .i64 tt, .int .i64 0]) ∧ W = w') := fun W => by
    have := getText_any s a W (by omega)
    rw [he] at this
    refine this.mono fun e w' ⟨h1, h2⟩ => ⟨?_, h2⟩
    rw [h1, kit.str_bytes]; rfl
  have HP : Hid (∀ W : World, Calls Tryd.prog 12 #[.int .i64 n] W fun e w' => e = .returned (.tuple #[.string b, .int .i64 0]) ∧ Below W.heap.size W w') := fun W => by rw [hb]; exact put_ok n W (by omega)
  have HQ : Hid (∀ W : World, Calls Tryd.prog 14 #[.string t] W fun e w' => e = .returned (.tuple #[.string c, .int .i64 0]) ∧ Below W.heap.size W w') := fun W => by
    rw [hc, hb, ← htn]; exact putText_ok t W (by omega)
  clear he hg hb hc htn
  go_enter Tryd.func7, Tryd.ntmps7
  go_wp2_with (first | (go_at_call 10; refine (long_no _ _ hs).mono ?_; rintro e w' ⟨rfl, rfl⟩) | (go_at_call 16; refine (HG.out _).mono ?_; rintro e w' ⟨rfl, rfl⟩) | (go_at_call 12; refine (HP.out _).mono ?_; rintro e w1 ⟨rfl, hb1⟩; have hw1 := ht.below hb1 (Nat.le_refl _)) | (go_at_call 18; refine (HT.out _).mono ?_; rintro e w' ⟨rfl, rfl⟩) | (go_at_call 14; refine (HQ.out _).mono ?_; rintro e w2 ⟨rfl, hb2⟩; have hw2 := hw1.below hb2 (Nat.le_refl _)) | (go_at_call 11; refine (awake_any _ hw2).mono ?_; rintro e w3 ⟨rfl, hb3⟩))
  go_ret
  exact ⟨rfl, (hb1.trans (hb2.mono hb1.size)).trans (hb3.mono (Nat.le_trans hb1.size hb2.size))⟩

theorem one_any (s : ByteArray) (a : Int) (w : World) (ht : Tab w) (hs : s.size ≤ 9223372036854775807) :
    Calls Tryd.prog 7 #[.string s, .int .i64 a] w fun e w' => e = .returned (.bool true) ∧ Below w.heap.size w w' := by
  by_cases hl : 6000 < s.size
  · exact one_long s a w hs ht hl
  rcases vm.get_cases (kit.bytes s) a (kit.bytes_lt s) with ⟨er, he, h1, _⟩ | ⟨n, a', rfl, he, hn, htk, hle⟩
  · exact one_err s a w ht (by omega) er h1 he
  · rw [kit.bytes_len] at hle
    have hp := vm.enc_pos n
    have hx := cut_enc s a' n htk hle
    by_cases h4 : 4000 < n
    · exact one_num s _ a' n _ 4 w ht (by omega) hn (by omega) hle he rfl hx (by omega) (vm.getText_long he h4)
    by_cases h5 : s.size < a' + (vm.enc n).length + n
    · exact one_num s _ a' n _ 2 w ht (by omega) hn (by omega) hle he rfl hx (by omega) (vm.getText_short he h4 (by rw [kit.bytes_len]; exact h5))
    · have hb256 : ∀ x ∈ ((kit.bytes s).drop (a' + (vm.enc n).length)).take n, x < 256 := fun x hx => kit.bytes_lt s x (List.mem_of_mem_drop (List.mem_of_mem_take hx))
      refine one_text s _ (kit.str (((kit.bytes s).drop (a' + (vm.enc n).length)).take n)) _ a' n _ (a' + (vm.enc n).length + n) w ht (by omega) (by omega) (by omega) (by omega) (by omega) he rfl hx ?_ ?_ rfl ?_
      · rw [vm.getText_ok he h4 (by rw [kit.bytes_len]; exact h5), kit.bytes_str _ hb256]
      · rw [kit.str_size, List.length_take, List.length_drop, kit.bytes_len]; omega
      · apply kit.bytes_inj
        rw [Nat.add_assoc, extract_str s a' _ (by omega), kit.bytes_app, kit.bytes_str _ (vm.enc_byte n), kit.bytes_str _ hb256, kit.bytes_str _ (fun x hx => kit.bytes_lt s x (List.mem_of_mem_drop (List.mem_of_mem_take hx))), List.take_add, htk, List.drop_drop]
end Go.Proofs.YtcfnclfkjmnhlaaDoor
