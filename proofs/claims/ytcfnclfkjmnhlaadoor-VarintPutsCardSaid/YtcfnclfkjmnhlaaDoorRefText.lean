/- gleanerref01.PutText, GetText by their contracts: as the program's. -/
import Derived.Test.YtcfnclfkjmnhlaaDoorText
import Derived.Test.YtcfnclfkjmnhlaaDoorRefPut
import Derived.Test.YtcfnclfkjmnhlaaDoorRefGet
namespace Go.Proofs.YtcfnclfkjmnhlaaDoor
open Go.RowKit Go.ChangeShapes

theorem rputText_long (s : ByteArray) (w : World) (hs : s.size ≤ 100000) (h : 4000 < s.size) :
    Calls Tryd.prog 15 #[.string s] w fun e w' => e = .returned (.tuple #[.string ⟨#[]⟩, .int .i64 4]) ∧ w = w' := by
  go_enter Tryd.func15, Tryd.ntmps15
  go_wp2
  go_ret2
  exact ⟨rfl, rfl⟩

set_option maxRecDepth 100000 in
theorem rputText_ok (s : ByteArray) (w : World) (h : s.size ≤ 4000) :
    Calls Tryd.prog 15 #[.string s] w (PutTextOk s w) := by
  have h6 := vm.enc_six (n := s.size) (by omega)
  have hsz : (kit.str (vm.enc s.size)).size ≤ 6 := by rw [kit.str_size]; exact h6
  clear h6
  go_enter Tryd.func15, Tryd.ntmps15
  go_wp2_with (go_at_call 13; refine (rput_ok s.size _ (by omega)).mono ?_; rintro e w1 ⟨rfl, hb⟩)
  go_ret2
  exact ⟨rfl, by assumption⟩

set_option maxHeartbeats 800000 in
set_option maxRecDepth 100000 in
theorem rgetText_any (s : ByteArray) (a : Int) (w : World) (hs : s.size ≤ 100000) :
    Calls Tryd.prog 19 #[.string s, .int .i64 a] w (TripT (vm.getText (kit.bytes s) a) w) := by
  have hc := rget_any s a w hs
  have hlen := kit.bytes_len s
  rcases vm.get_cases (kit.bytes s) a (kit.bytes_lt s) with ⟨er, he, h1, h4⟩ | ⟨n, a', rfl, he, hn, ht, hle⟩
  · have HT : Hid (vm.getText (kit.bytes s) a = ([], 0, er)) := vm.getText_err he h1
    rw [he] at hc
    have hne : ((er : Int) == 0) = false := by simp; omega
    have hne2 : ((er : Int) != 0) = true := by simp; omega
    clear he hlen
    go_enter Tryd.func19, Tryd.ntmps19
    go_wp2_with (go_at_call 17; refine hc.mono ?_; rintro e w' ⟨rfl, rfl⟩)
    go_ret3
    rw [HT.out]; exact ⟨rfl, rfl⟩
  · obtain ⟨to_, hto⟩ : ∃ t, t = a' + (vm.enc n).length := ⟨_, rfl⟩
    rw [← hto] at he hle
    rw [he] at hc
    rw [hlen] at hle
    by_cases hl : 4000 < n
    · have HT : Hid (vm.getText (kit.bytes s) a' = ([], 0, 4)) := vm.getText_long he hl
      clear he hlen hto ht
      go_enter Tryd.func19, Tryd.ntmps19
      go_wp2_with (go_at_call 17; refine hc.mono ?_; rintro e w' ⟨rfl, rfl⟩)
      go_ret3
      rw [HT.out]; exact ⟨rfl, rfl⟩
    · by_cases hsh : s.size < to_ + n
      · have HT : Hid (vm.getText (kit.bytes s) a' = ([], 0, 2)) := vm.getText_short he hl (by rw [hlen]; exact hsh)
        clear he hlen hto ht
        go_enter Tryd.func19, Tryd.ntmps19
        go_wp2_with (go_at_call 17; refine hc.mono ?_; rintro e w' ⟨rfl, rfl⟩)
        go_ret3
        rw [HT.out]; exact ⟨rfl, rfl⟩
      · have HT : Hid (vm.getText (kit.bytes s) a' = (((kit.bytes s).drop to_).take n, to_ + n, 0)) := vm.getText_ok he hl (by rw [hlen]; exact hsh)
        have HX : Hid (s.extract to_ (to_ + n) = kit.str (((kit.bytes s).drop to_).take n)) := extract_str s to_ n (by omega)
        clear he hlen hto ht
        go_enter Tryd.func19, Tryd.ntmps19
        go_wp2_with (go_at_call 17; refine hc.mono ?_; rintro e w' ⟨rfl, rfl⟩)
        go_ret3
        rw [HT.out]; exact ⟨tripT_mk HX.out (by simp) rfl, rfl⟩
end Go.Proofs.YtcfnclfkjmnhlaaDoor
