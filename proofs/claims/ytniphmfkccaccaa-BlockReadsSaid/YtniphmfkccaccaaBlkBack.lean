/- What the bytes of rising numbers say again: plain facts, nothing of the program. -/
import Derived.Test.YtniphmfkccaccaaBlkMath
import Derived.Test.YtniphmfkccaccaaBackMath
namespace Go.Proofs.Ytniphmfkccaccaa.bm

theorem dat_pre (l : List Int) {k : Nat} : ∀ {n : Nat}, k ≤ n → ∃ r, dat l n = dat l k ++ r := by
  intro n
  induction n with
  | zero => intro h; obtain rfl : k = 0 := by omega
            exact ⟨[], rfl⟩
  | succ n ih =>
    intro h
    by_cases e : k = n + 1
    · subst e; exact ⟨[], by rw [List.append_nil]⟩
    · obtain ⟨r, hr⟩ := ih (by omega)
      by_cases e : n % 16 = 0
      · exact ⟨r, by rw [dat_head e]; exact hr⟩
      · exact ⟨r ++ vm.enc (gap l n), by rw [dat_next e, hr, List.append_assoc]⟩
theorem dat_get {l : List Int} {q n : Nat} (hr : Rise l n) (hq : q < n) (hm : ¬ q % 16 = 0) :
    vm.get (dat l n) ((dat l q).length : Int) = (gap l q, (dat l (q + 1)).length, 0) := by
  obtain ⟨r, h⟩ := dat_pre l (show q + 1 ≤ n by omega)
  have h1 := dat_next (l := l) hm
  rw [h1, List.append_assoc] at h
  rw [h1, List.length_append]
  refine vm.get_back (dat l n) (dat l q).length (gap l q) r ?_ (gap_le (rise_le hr (by omega : q + 1 ≤ n)) (by omega)).1 ?_
  · rw [h, List.drop_left]
  · rw [h, List.length_append]; omega
end Go.Proofs.Ytniphmfkccaccaa.bm
