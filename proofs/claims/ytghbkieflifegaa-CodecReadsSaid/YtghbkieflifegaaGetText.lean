/- varint.GetText by its contract. -/
import Derived.Test.YtghbkieflifegaaPutText
import Derived.Test.YtghbkieflifegaaGet
import Derived.Test.YtghbkieflifegaaBackMath
namespace Go.Proofs.Ytghbkieflifegaa
open Go.RowKit Go.ChangeShapes

/-- a text and two numbers as a result -/
def TripT (r : List Nat × Nat × Nat) (w : World) (e : Ending) (w' : World) : Prop := e = .returned (.tuple #[.string (kit.str r.1), .int .i64 r.2.1, .int .i64 r.2.2]) ∧ w = w'

theorem tripT_mk {a : ByteArray} {b c : Int} {l : List Nat} {x y : Nat} (h1 : a = kit.str l) (h2 : b = (x : Int)) (h3 : c = (y : Int)) :
    Ending.returned (.tuple #[.string a, .int .i64 b, .int .i64 c]) = .returned (.tuple #[.string (kit.str l), .int .i64 x, .int .i64 y]) := by rw [h1, h2, h3]
theorem extract_str (s : ByteArray) (k n : Nat) (_h : k + n ≤ s.size) : s.extract k (k + n) = kit.str (((kit.bytes s).drop k).take n) := by
  apply kit.bytes_inj
  rw [kit.bytes_str _ (fun x hx => kit.bytes_lt s x (List.mem_of_mem_drop (List.mem_of_mem_take hx)))]
  simp only [kit.bytes, ByteArray.data_extract, Array.toList_extract, List.extract_eq_take_drop, List.map_take, List.map_drop]
  congr 1; omega

set_option maxHeartbeats 800000 in
set_option maxRecDepth 100000 in
theorem getText_any (s : ByteArray) (a : Int) (w : World) (hs : s.size ≤ 1099511627776) :
    Calls Try.prog 58 #[.string s, .int .i64 a] w (TripT (vm.getText (kit.bytes s) a) w) := by
  have hc := get_any s a w hs
  have hlen := kit.bytes_len s
  rcases vm.get_cases (kit.bytes s) a (kit.bytes_lt s) with ⟨er, he, h1, h4⟩ | ⟨n, a', rfl, he, hn, ht, hle⟩
  · have HT : Hid (vm.getText (kit.bytes s) a = ([], 0, er)) := vm.getText_err he h1
    rw [he] at hc
    have hne : ((er : Int) == 0) = false := by simp; omega
    have hne2 : ((er : Int) != 0) = true := by simp; omega
    clear he hlen
    go_enter Try.func58, Try.ntmps58
    go_wp2_with (go_at_call 53; refine hc.mono ?_; rintro e w' ⟨rfl, rfl⟩)
    go_ret3
    rw [HT.out]; exact ⟨rfl, rfl⟩
  · obtain ⟨to_, hto⟩ : ∃ t, t = a' + (vm.enc n).length := ⟨_, rfl⟩
    rw [← hto] at he hle
    rw [he] at hc
    rw [hlen] at hle
    by_cases hl : 4000 < n
    · have HT : Hid (vm.getText (kit.bytes s) a' = ([], 0, 4)) := vm.getText_long he hl
      clear he hlen hto ht
      go_enter Try.func58, Try.ntmps58
      go_wp2_with (go_at_call 53; refine hc.mono ?_; rintro e w' ⟨rfl, rfl⟩)
      go_ret3
      rw [HT.out]; exact ⟨rfl, rfl⟩
    · by_cases hsh : s.size < to_ + n
      · have HT : Hid (vm.getText (kit.bytes s) a' = ([], 0, 2)) := vm.getText_short he hl (by rw [hlen]; exact hsh)
        clear he hlen hto ht
        go_enter Try.func58, Try.ntmps58
        go_wp2_with (go_at_call 53; refine hc.mono ?_; rintro e w' ⟨rfl, rfl⟩)
        go_ret3
        rw [HT.out]; exact ⟨rfl, rfl⟩
      · have HT : Hid (vm.getText (kit.bytes s) a' = (((kit.bytes s).drop to_).take n, to_ + n, 0)) := vm.getText_ok he hl (by rw [hlen]; exact hsh)
        have HX : Hid (s.extract to_ (to_ + n) = kit.str (((kit.bytes s).drop to_).take n)) := extract_str s to_ n (by omega)
        clear he hlen hto ht
        go_enter Try.func58, Try.ntmps58
        go_wp2_with (go_at_call 53; refine hc.mono ?_; rintro e w' ⟨rfl, rfl⟩)
        go_ret3
        rw [HT.out]; exact ⟨tripT_mk HX.out (by simp) rfl, rfl⟩
end Go.Proofs.Ytghbkieflifegaa
