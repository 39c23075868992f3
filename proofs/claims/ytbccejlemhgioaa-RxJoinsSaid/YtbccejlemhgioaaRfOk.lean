/- the reader: its bytes are bytes, its classes of 64 bits a word. -/
import Derived.Test.YtbccejlemhgioaaRfEsc
namespace Go.Proofs.Ytbccejlemhgioaa
open Go Go.RowKit Go.ChangeShapes cl rx
open rf
theorem zero_ok : Cls.zero.ok := by unfold Cls.ok; decide
theorem lt0 : 0 < 256 := by decide
theorem hex_lt {s : List Nat} {c v : Nat} {t : T} (h : hex s c t = some v) : v < 256 := by
  unfold hex at h
  split at h
  · split at h
    · split at h
      · rename_i a b _ _ _
        have h1 := dig_le (c := a)
        have h2 := dig_le (c := b)
        have := Option.some.inj h
        omega
      · cases h
    · cases h
  · cases h
section
variable {s : List Nat} (hs : ∀ c ∈ s, c < 256)
include hs
theorem escape_ok (a : Nat) (t : T) : (escape s a t).1.1.ok ∧ (escape s a t).1.2.1 < 256 := by
  unfold escape
  split
  · exact ⟨zero_ok, lt0⟩
  · rename_i c hc
    have hc2 : c < 256 := hs c (List.mem_of_getElem? (nxt_some hc).2.1)
    split
    · exact ⟨one_ok _ hc2, hc2⟩
    · split
      · exact ⟨span_ok' _ _ (by decide) (by decide), lt0⟩
      · split
        · exact ⟨or_ok (or_ok (span_ok' _ _ (by decide) (by decide)) (span_ok' _ _ (by decide) (by decide))) (or_ok (span_ok' _ _ (by decide) (by decide)) (one_ok _ (by decide))), lt0⟩
        · split
          · rename_i v hv
            exact ⟨one_ok _ (hex_lt hv), hex_lt hv⟩
          · exact ⟨zero_ok, lt0⟩
theorem single_ok (t : T) : (single s t).1.1.ok ∧ (single s t).1.2.1 < 256 := by
  unfold single
  split
  · exact ⟨zero_ok, lt0⟩
  · rename_i c hc
    have hc2 : c < 256 := hs c (List.mem_of_getElem? hc)
    split
    · exact escape_ok hs _ _
    · split
      · exact ⟨zero_ok, lt0⟩
      · exact ⟨one_ok _ hc2, hc2⟩
theorem member_ok (t : T) : (member s t).1.ok := by
  have h0 := single_ok hs t
  unfold member
  simp only
  split
  · exact h0.1
  · split
    · exact h0.1
    · split
      · exact h0.1
      · split
        · exact h0.1
        · split
          · exact h0.1
          · have h1 := single_ok hs (meets s 45 (single s t).2).2
            exact span_ok _ _ _ (by omega) zero_ok
theorem mems_ok (a : Nat) : ∀ (f : Nat) (x : Cls) (t : T), x.ok → (mems s a f x t).1.ok
  | 0, _, _, h => h
  | f + 1, x, t, h => by
    unfold mems
    simp only
    split
    · exact h
    · split
      · exact h
      · exact mems_ok a f _ _ (or_ok h (member_ok hs t))
end
end Go.Proofs.Ytbccejlemhgioaa
