/- slices.Clone at dots. -/
import Derived.Test.YtdcmoeklldkccaaDotLess
import Derived.Lib.SmallJoins
namespace Go.Proofs.Ytdcmoeklldkccaa
open Go Go.RowKit Go.ChangeShapes cl Go.Sort

/-- a slice of the call's own -/
def OwnD (l : List Dot) (w : World) (e : Ending) (w' : World) : Prop := ∃ v', e = .returned v' ∧ w'.ownsRow w.heap.size 26 2 v' l.length (dcells l) ∧ Below w.heap.size w w'
set_option maxHeartbeats 800000 in
set_option maxRecDepth 100000 in
theorem clone_any (l : List Dot) (v : Value) (w : World) (h : Dots w w.heap.size v l) (hl : l.length ≤ 1000000) : Calls Try.prog 36 #[v] w (OwnD l w) := by
  obtain ⟨n, hn⟩ : ∃ n, n = l.length := ⟨_, rfl⟩
  have HN := Lib.hid hn
  obtain ⟨ao, cap, rfl⟩ : ∃ ao cap, v = .slice ao n cap := by
    obtain ⟨ao, cap, e, _⟩ := h.form
    exact ⟨ao, cap, by rw [hn]; exact e⟩
  have hn6 : n ≤ 1000000 := by omega
  have q22 : ∀ (w : World) (a : Option Addr) (n c n' c' : Nat), (binOp .eql 22 (.slice a n c) (.slice none n' c')).run Try.prog w = .ok (.bool a.isNone) w := fun w a n c n' c' => Lib.run_eql_slice_nil w _ _ a n c n' c' Try.underlying22
  have HC := Lib.hid h
  cases ao with
  | none =>
    have h0 : n = 0 := (Cells.news' h).1 rfl |>.1
    have hc0 : cap = 0 := (Cells.news' h).1 rfl |>.2
    have HL : Hid (l = []) := List.eq_nil_of_length_eq_zero (by omega)
    subst h0
    subst hc0
    clear h hn hl
    go_enter Try.func36, Try.ntmps36
    go_wp2
    go_ret
    refine ⟨_, rfl, ?_, Below.refl _ _⟩
    rw [HL.out]
    exact ⟨rfl, Or.inl ⟨rfl, rfl⟩⟩
  | some ad =>
    have HNA := Lib.hid (Cells.news' (h.below ((Below.refl _ _).alloc (Nat.le_refl _) (.cells #[] 26))))
    have HO0 : Hid ((w.alloc (.cells #[] 26)).ownsRow w.heap.size 26 2 (.slice (some ⟨w.heap.size, 0, none⟩) 0 0) 0 []) := own_none 26 (Nat.le_refl _) 2
    have HLN : Hid ((dcells l).length = n * 2) := by show _ = _; rw [dcells_len, HN.out]
    have hA : Below w.heap.size w (w.alloc (.cells #[] 26)) := (Below.refl _ _).alloc (Nat.le_refl _) _
    clear h hn hl
    go_enter Try.func36, Try.ntmps36
    go_wp2_with (at_builtin; refine kit.appN (.tmp 5) (.tmp 6) 22 rfl rfl w.heap.size Try.underlying22 infoDot rfl (by decide) (by decide) HO0.out rfl (dcells l) rfl HLN.out HNA.out.1 HNA.out.2 dcells_one (by omega) (by simp) ?_)
    intro v5 w5 hown5 hb5
    have HR : Hid (OwnD l w (.returned v5) w5) := by
      refine ⟨_, rfl, ?_, hA.trans hb5⟩
      rw [← HN.out]
      simpa using hown5
    clear hown5 hb5
    go_wp2
    go_ret
    exact HR.out
end Go.Proofs.Ytdcmoeklldkccaa
