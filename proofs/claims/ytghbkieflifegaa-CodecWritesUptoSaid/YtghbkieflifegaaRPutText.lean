/- gleanerref01.PutText by its contract: as the program's. -/
import Derived.Test.YtghbkieflifegaaPutText
import Derived.Test.YtghbkieflifegaaRefPut
namespace Go.Proofs.Ytghbkieflifegaa
open Go.RowKit Go.ChangeShapes

theorem rputText_long (s : ByteArray) (w : World) (hs : s.size ≤ maxLen) (h : 4000 < s.size) :
    Calls Try.prog 52 #[.string s] w fun e w' => e = .returned (.tuple #[.string ⟨#[]⟩, .int .i64 4]) ∧ w = w' := by
  unfold maxLen at hs
  go_enter Try.func52, Try.ntmps52
  go_wp2
  go_ret2
  exact ⟨rfl, rfl⟩

set_option maxRecDepth 100000 in
theorem rputText_ok (s : ByteArray) (w : World) (h : s.size ≤ 4000) :
    Calls Try.prog 52 #[.string s] w (PutTextOk s w) := by
  have h6 := vm.enc_six (n := s.size) (by omega)
  have hsz : (kit.str (vm.enc s.size)).size ≤ 6 := by rw [kit.str_size]; exact h6
  clear h6
  go_enter Try.func52, Try.ntmps52
  go_wp2_with (go_at_call 48; refine (rput_ok s.size _ (by omega)).mono ?_; rintro e w1 ⟨rfl, hb⟩)
  go_ret2
  exact ⟨rfl, by assumption⟩
end Go.Proofs.Ytghbkieflifegaa
