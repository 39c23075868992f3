/- gleanerref01.GetText by its contract: as the program's. -/
import Derived.Test.YtghbkieflifegaaGetText
import Derived.Test.YtghbkieflifegaaRefGet
namespace Go.Proofs.Ytghbkieflifegaa
open Go.RowKit Go.ChangeShapes

set_option maxHeartbeats 800000 in
set_option maxRecDepth 100000 in
theorem rgetText_any (s : ByteArray) (a : Int) (w : World) (hs : s.size ≤ 100000) :
    Calls Try.prog 62 #[.string s, .int .i64 a] w (TripT (vm.getText (kit.bytes s) a) w) := by
  have hc := rget_any s a w hs
  have hlen := kit.bytes_len s
  rcases vm.get_cases (kit.bytes s) a (kit.bytes_lt s) with ⟨er, he, h1, h4⟩ | ⟨n, a', rfl, he, hn, ht, hle⟩
  · have HT : Hid (vm.getText (kit.bytes s) a = ([], 0, er)) := vm.getText_err he h1
    rw [he] at hc
    have hne : ((er : Int) == 0) = false := by simp; omega
    have hne2 : ((er : Int) != 0) = true := by simp; omega
    clear he hlen
    go_enter Try.func62, Try.ntmps62
    go_wp2_with (go_at_call 59; refine hc.mono ?_; rintro e w' ⟨rfl, rfl⟩)
    go_ret3
    rw [HT.out]; exact ⟨rfl, rfl⟩
  · obtain ⟨to_, hto⟩ : ∃ t, t = a' + (vm.enc n).length := ⟨_, rfl⟩
    rw [← hto] at he hle
    rw [he] at hc
    rw [hlen] at hle
    by_cases hl : 4000 < n
    · have HT : Hid (vm.getText (kit.bytes s) a' = ([], 0, 4)) := vm.getText_long he hl
      clear he hlen hto ht
      go_enter Try.func62, Try.ntmps62
      go_wp2_with (go_at_call 59; refine hc.mono ?_; rintro e w' ⟨rfl, rfl⟩)
      go_ret3
      rw [HT.out]; exact ⟨rfl, rfl⟩
    · by_cases hsh : s.size < to_ + n
      · have HT : Hid (vm.getText (kit.bytes s) a' = ([], 0, 2)) := vm.getText_short he hl (by rw [hlen]; exact hsh)
        clear he hlen hto ht
        go_enter Try.func62, Try.ntmps62
        go_wp2_with (go_at_call 59; refine hc.mono ?_; rintro e w' ⟨rfl, rfl⟩)
        go_ret3
        rw [HT.out]; exact ⟨rfl, rfl⟩
      · have HT : Hid (vm.getText (kit.bytes s) a' = (((kit.bytes s).drop to_).take n, to_ + n, 0)) := vm.getText_ok he hl (by rw [hlen]; exact hsh)
        have HX : Hid (s.extract to_ (to_ + n) = kit.str (((kit.bytes s).drop to_).take n)) := extract_str s to_ n (by omega)
        clear he hlen hto ht
        go_enter Try.func62, Try.ntmps62
        go_wp2_with (go_at_call 59; refine hc.mono ?_; rintro e w' ⟨rfl, rfl⟩)
        go_ret3
        rw [HT.out]; exact ⟨tripT_mk HX.out (by simp) rfl, rfl⟩
end Go.Proofs.Ytghbkieflifegaa
