/- varint.PutText by its contract. -/
import Derived.Test.YtpgccfgldjeomaaPut
namespace Go.Proofs.Ytpgccfgldjeomaa
open Go.RowKit Go.ChangeShapes

theorem putText_long (s : ByteArray) (w : World) (hs : s.size ≤ maxLen) (h : 4000 < s.size) :
    Calls Try.prog 45 #[.string s] w fun e w' => e = .returned (.tuple #[.string ⟨#[]⟩, .int .i64 4]) ∧ w = w' := by
  unfold maxLen at hs
  go_enter Try.func45, Try.ntmps45
  go_wp2
  go_ret2
  exact ⟨rfl, rfl⟩

def PutTextOk (s : ByteArray) (w : World) (e : Ending) (w' : World) : Prop := e = .returned (.tuple #[.string (kit.str (vm.enc s.size) ++ s), .int .i64 0]) ∧ Below w.heap.size w w'
set_option maxRecDepth 100000 in
theorem putText_ok (s : ByteArray) (w : World) (h : s.size ≤ 4000) :
    Calls Try.prog 45 #[.string s] w (PutTextOk s w) := by
  have h6 := vm.enc_six (n := s.size) (by omega)
  have hsz : (kit.str (vm.enc s.size)).size ≤ 6 := by rw [kit.str_size]; exact h6
  clear h6
  go_enter Try.func45, Try.ntmps45
  go_wp2_with (go_at_call 39; refine (put_ok s.size _ (by omega)).mono ?_; rintro e w1 ⟨rfl, hb⟩)
  go_ret2
  exact ⟨rfl, by assumption⟩

end Go.Proofs.Ytpgccfgldjeomaa
