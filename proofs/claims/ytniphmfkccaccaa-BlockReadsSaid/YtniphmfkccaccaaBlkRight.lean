/- Which blocks are right: block.Decode whole, block.Right, the law's far. -/
import Derived.Test.YtniphmfkccaccaaBlkDec2
import Derived.Test.YtniphmfkccaccaaSame
namespace Go.Proofs.Ytniphmfkccaccaa
open Go.RowKit Go.ChangeShapes at_ cl

def GoodK (c : Int) (D : ByteArray) (S : List (Int × Int)) (K : List Int) : Prop := K.length ≤ 4000 ∧ bm.Rise K K.length ∧ c = (K.length : Int) ∧ D = kit.str (bm.dat K K.length) ∧ S = bm.skp K K.length
open Classical in
noncomputable def goodB (c : Int) (D : ByteArray) (S : List (Int × Int)) : Bool := decide (∃ K, GoodK c D S K)
open Classical in
theorem goodB_true {c : Int} {D : ByteArray} {S : List (Int × Int)} {K : List Int} (h : GoodK c D S K) : goodB c D S = true := by unfold goodB; exact decide_eq_true ⟨K, h⟩
open Classical in
theorem goodB_false {c : Int} {D : ByteArray} {S : List (Int × Int)} (h : ∀ K, ¬ GoodK c D S K) : goodB c D S = false := by unfold goodB; exact decide_eq_false (fun ⟨K, hk⟩ => h K hk)
def DecF (c : Int) (D : ByteArray) (S : List (Int × Int)) (w : World) (e : Ending) (w' : World) : Prop :=
  (e = .returned (.tuple #[.slice none 0 0, .int .i64 3]) ∧ (∀ K, ¬ GoodK c D S K) ∧ Below w.heap.size w w') ∨
  (∃ (v : Value) (K : List Int), e = .returned (.tuple #[v, .int .i64 0]) ∧ GoodK c D S K ∧ w'.ownsRow w.heap.size 3 1 v K.length (i64s K) ∧ Below w.heap.size w w')
theorem decode_full (c : Int) (D : ByteArray) (S : List (Int × Int)) (vs : Value) (w : World) (hD : D.size ≤ 100000) (hS : S.length ≤ 400) (h : Skps w w.heap.size vs S) :
    Calls Try.prog 13 #[.agg #[.int .i64 c, .string D, vs]] w (DecF c D S w) := by
  by_cases hg : ∃ K, GoodK c D S K
  · obtain ⟨K, hK⟩ := hg
    have hK' := hK
    obtain ⟨h1, h2, rfl, rfl, rfl⟩ := hK'
    exact (decode_right K vs w h1 h2 h).mono fun e w' ⟨v, he, ho, hb⟩ => Or.inr ⟨v, K, he, hK, ho, hb⟩
  · refine (decode_any c D S vs w hD hS h).mono fun e w' hh => ?_
    rcases hh with ⟨he, hb⟩ | ⟨v, K, he, h1, h2, h3, h4, h5, ho, hb⟩
    · exact Or.inl ⟨he, fun K hK => hg ⟨K, hK⟩, hb⟩
    · exact absurd ⟨K, h1, h2, h3, h4, h5⟩ hg

set_option maxHeartbeats 800000 in
set_option maxRecDepth 100000 in
theorem right_any (c : Int) (D : ByteArray) (S : List (Int × Int)) (vs : Value) (w : World) (hD : D.size ≤ 100000) (hS : S.length ≤ 400) (h : Skps w w.heap.size vs S) :
    Calls Try.prog 18 #[.agg #[.int .i64 c, .string D, vs]] w (Said (goodB c D S) w) := by
  have hA : Below w.heap.size w (w.alloc (.cells #[.int .i64 c, .string D, vs] 26)) := (Below.refl _ _).alloc (Nat.le_refl _) _
  have HD := Lib.hid (decode_full c D S vs _ hD hS (h.next hA))
  obtain ⟨ao, cap, rfl, _⟩ := h.form
  have HT : Hid (∀ K W', GoodK c D S K → Below w.heap.size w W' → Said (goodB c D S) w (.returned (.bool true)) W') := fun K W' hk hb => ⟨by rw [goodB_true hk], hb⟩
  have HF : Hid (∀ W', (∀ K, ¬ GoodK c D S K) → Below w.heap.size w W' → Said (goodB c D S) w (.returned (.bool false)) W') := fun W' hk hb => ⟨by rw [goodB_false hk], hb⟩
  clear h
  go_enter Try.func18, Try.ntmps18
  go_wp2_with fail
  refine HD.out.mono ?_
  intro e w1 h1
  rcases h1 with ⟨rfl, hk, hb1⟩ | ⟨v, K, rfl, hk, ho, hb1⟩
  · have hb := hA.trans (hb1.mono hA.size)
    have HK := Lib.hid hk
    clear hk
    go_wp2
    go_ret
    exact HF.out _ HK.out hb
  · have hb := hA.trans (hb1.mono hA.size)
    have HK := Lib.hid hk
    obtain ⟨a1, c1, rfl⟩ := own_slice ho
    clear hk ho
    go_wp2
    go_ret
    exact HT.out K _ HK.out hb

set_option maxHeartbeats 800000 in
set_option maxRecDepth 100000 in
theorem far_any (c : Int) (D : ByteArray) (S : List (Int × Int)) (vs : Value) (w : World) (hD : D.size ≤ maxLen) (h : Skps w w.heap.size vs S) :
    Calls Try.prog 12 #[.agg #[.int .i64 c, .string D, vs]] w (Said (decide (9000 < D.size ∨ 400 < S.length)) w) := by
  have hA : Below w.heap.size w (w.alloc (.cells #[.int .i64 c, .string D, vs] 26)) := (Below.refl _ _).alloc (Nat.le_refl _) _
  obtain ⟨ao, cap, rfl, _, hml⟩ := h.form
  unfold maxLen at hD hml
  obtain ⟨q, hq⟩ : ∃ q, q = S.length := ⟨_, rfl⟩
  rw [← hq] at hml hA ⊢
  clear hq h
  by_cases h1 : 9000 < D.size
  · have h1I : (9000 : Int) < (D.size : Int) := by omega
    rw [show decide (9000 < D.size ∨ 400 < q) = true from decide_eq_true (Or.inl h1)]
    go_enter Try.func12, Try.ntmps12
    go_wp2
    go_ret
    exact ⟨rfl, hA⟩
  · have h1I : ¬ (9000 : Int) < (D.size : Int) := by omega
    by_cases h2 : 400 < q
    · have h2I : (400 : Int) < (q : Int) := by omega
      rw [show decide (9000 < D.size ∨ 400 < q) = true from decide_eq_true (Or.inr h2)]
      go_enter Try.func12, Try.ntmps12
      go_wp2
      go_ret
      exact ⟨rfl, hA⟩
    · have h2I : ¬ (400 : Int) < (q : Int) := by omega
      rw [show decide (9000 < D.size ∨ 400 < q) = false from decide_eq_false (by omega)]
      go_enter Try.func12, Try.ntmps12
      go_wp2
      go_ret
      exact ⟨rfl, hA⟩
end Go.Proofs.Ytniphmfkccaccaa
