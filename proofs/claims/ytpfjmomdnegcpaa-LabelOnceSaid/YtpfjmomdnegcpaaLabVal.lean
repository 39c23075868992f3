/- label: far; the value of a name, the program's and the document's. -/
import Derived.Test.YtpfjmomdnegcpaaRows
import Derived.Test.YtpfjmomdnegcpaaLabels
import Derived.Test.YtpfjmomdnegcpaaKit
namespace Go.Proofs.Ytpfjmomdnegcpaa
open Go.RowKit Go.ChangeShapes cl

/-- few labels, and short ones -/
def Near (l : List Lab) : Prop := l.length ≤ 40 ∧ ∀ x ∈ l, x.1.size ≤ 1000 ∧ x.2.size ≤ 1000
def Far (l : List Lab) (w : World) (e : Ending) (w' : World) : Prop := ∃ r : Bool, e = .returned (.bool r) ∧ Hid (r = false → Near l) ∧ Below w.heap.size w w'
/-- the first label's value of that name -/
def lval : List Lab → ByteArray → ByteArray
  | [], _ => .empty
  | x :: l, n => if x.1 = n then x.2 else lval l n
theorem lval_skip : ∀ (l : List Lab) (k : Nat) (n : ByteArray), (∀ j, j < k → j < l.length → (l.getD j (.empty, .empty)).1 ≠ n) → lval l n = lval (l.drop k) n := by
  intro l
  induction l with
  | nil => intro k n _; simp
  | cons x l ih =>
    intro k n h
    cases k with
    | zero => rfl
    | succ k =>
      have h0 : x.1 ≠ n := by simpa using h 0 (by omega) (by simp)
      show (if x.1 = n then x.2 else lval l n) = _
      rw [if_neg h0, List.drop_succ_cons]
      exact ih k n fun j hj hl => by simpa using h (j + 1) (by omega) (by simpa using hl)
theorem lval_here {l : List Lab} {k : Nat} {n : ByteArray} (hk : k < l.length) (h : ∀ j, j < k → (l.getD j (.empty, .empty)).1 ≠ n) (he : (l.getD k (.empty, .empty)).1 = n) : lval l n = (l.getD k (.empty, .empty)).2 := by
  rw [lval_skip l k n fun j hj _ => h j hj, List.drop_eq_getElem_cons hk]
  have e : l.getD k (.empty, .empty) = l[k] := by simp [List.getD, hk]
  rw [e] at he ⊢
  show (if l[k].1 = n then l[k].2 else _) = _
  rw [if_pos he]
theorem lval_none {l : List Lab} {k : Nat} {n : ByteArray} (hk : l.length ≤ k) (h : ∀ j, j < k → (l.getD j (.empty, .empty)).1 ≠ n) : lval l n = .empty := by
  rw [lval_skip l k n fun j hj _ => h j hj, List.drop_eq_nil_of_le hk]
  rfl

set_option maxHeartbeats 1600000 in
set_option maxRecDepth 100000 in
theorem far_any (l : List Lab) (v : Value) (w : World) (h : Labs w w.heap.size v l) (hs : ∀ x ∈ l, x.1.size ≤ maxLen ∧ x.2.size ≤ maxLen) :
    Calls Try.prog 14 #[v] w (Far l w) := by
  obtain ⟨n, hn⟩ : ∃ n, n = l.length := ⟨_, rfl⟩
  obtain ⟨ao, cap, rfl, hn63⟩ : ∃ ao cap, v = .slice ao n cap ∧ n ≤ 9223372036854775807 := by
    obtain ⟨ao, cap, e, _, h9⟩ := h.form
    unfold maxLen at h9
    exact ⟨ao, cap, by rw [hn]; exact e, by rw [hn]; exact h9⟩
  have HC := Lib.hid h
  have HN := Lib.hid hn
  have HS := Lib.hid hs
  clear h hn hs
  go_enter Try.func14, Try.ntmps14
  go_wp2
  go_loopw [4, 7] (fun _ i wr => ∃ k : Nat, i = .int .i64 k ∧ k ≤ n ∧ Hid (∀ j, j < k → (l.getD j (.empty, .empty)).1.size ≤ 1000 ∧ (l.getD j (.empty, .empty)).2.size ≤ 1000) ∧ Below w.heap.size w wr) (fun _ i _ => n - (intOf i).toNat)
  case atStart => exact ⟨0, rfl, by omega, fun j hj => absurd hj (Nat.not_lt_zero _), Below.refl _ _⟩
  case round =>
    obtain ⟨k, rfl, hk, HK, hbl⟩ := hrel
    have hzr := hbl.size
    by_cases hlt : k < n
    · obtain ⟨b, off, rfl, hB, x0, x1⟩ := HC.out.get HN.out hlt
      have hsz := (HS.out (l.getD k (.empty, .empty)) (by have : k < l.length := by rw [← HN.out]; exact hlt
                                                          simp [List.getD, this]))
      unfold maxLen at hsz
      obtain ⟨⟨xa, xb⟩, hx⟩ : ∃ x, x = l.getD k (.empty, .empty) := ⟨_, rfl⟩
      rw [← hx] at x0 x1 hsz
      have HX := Lib.hid hx
      have c0 := (hbl.cell (p := ⟨b, off + k * 2, none⟩) hB).trans x0
      have c1 := (hbl.cell (p := ⟨b, off + k * 2 + 1, none⟩) hB).trans x1
      simp only at c0 c1 hsz
      obtain ⟨hsa, hsb⟩ := hsz
      have hkI : (k : Int) < (n : Int) := by omega
      have hbl2 := hbl.alloc hzr (.cells #[.string xa, .string xb] 38)
      clear hx x0 x1
      by_cases h1000 : 1000 < xa.size
      · have HF : Hid (true = false → Near l) := fun e => by cases e
        go_wp2
        go_ret
        exact ⟨true, rfl, HF, hbl2⟩
      · by_cases h2000 : 1000 < xb.size
        · have HF : Hid (true = false → Near l) := fun e => by cases e
          go_wp2
          go_ret
          exact ⟨true, rfl, HF, hbl2⟩
        · have HK' : Hid (∀ j, j < k + 1 → (l.getD j (.empty, .empty)).1.size ≤ 1000 ∧ (l.getD j (.empty, .empty)).2.size ≤ 1000) := fun j hj => by
            by_cases e : j = k
            · rw [e, ← HX.out]; exact ⟨show xa.size ≤ 1000 by omega, show xb.size ≤ 1000 by omega⟩
            · exact HK.out j (by omega)
          go_wp2
          go_roundw
          case rel => exact ⟨k + 1, by go_num, by omega, HK', hbl2⟩
          case measure => simp [intOf]; omega
    · obtain ⟨r, hr⟩ : ∃ r, r = decide (40 < n) := ⟨_, rfl⟩
      have HF : Hid (r = false → Near l) := fun e => by
        have h60 : ¬ 40 < n := of_decide_eq_false (by rw [← hr, e])
        refine ⟨by rw [← HN.out]; omega, fun x hx => ?_⟩
        obtain ⟨j, hj, rfl⟩ := List.getElem_of_mem hx
        have := HK.out j (by rw [← HN.out] at hj; omega)
        simpa [List.getD, hj] using this
      have hr2 : decide (40 < n) = r := hr.symm
      have hr3 : decide ((40 : Int) < (n : Int)) = r := by rw [hr]; exact decide_eq_decide.2 (by omega)
      clear hr
      go_wp2
      go_ret
      exact ⟨r, rfl, HF, hbl⟩

/-- a text is answered; what was there stays -/
def SaysT (s : ByteArray) (w : World) (e : Ending) (w' : World) : Prop := e = .returned (.string s) ∧ Below w.heap.size w w'

set_option maxHeartbeats 1600000 in
set_option maxRecDepth 100000 in
theorem value_any (l : List Lab) (v : Value) (x : ByteArray) (w : World) (h : Labs w w.heap.size v l) :
    Calls Try.prog 20 #[v, .string x] w (SaysT (lval l x) w) := by
  obtain ⟨n, hn⟩ : ∃ n, n = l.length := ⟨_, rfl⟩
  obtain ⟨ao, cap, rfl, hn63⟩ : ∃ ao cap, v = .slice ao n cap ∧ n ≤ 9223372036854775807 := by
    obtain ⟨ao, cap, e, _, h9⟩ := h.form
    unfold maxLen at h9
    exact ⟨ao, cap, by rw [hn]; exact e, by rw [hn]; exact h9⟩
  obtain ⟨R, hR⟩ : ∃ R, R = lval l x := ⟨_, rfl⟩
  rw [← hR]
  have HR := Lib.hid hR
  have HC := Lib.hid h
  have HN := Lib.hid hn
  clear h hn hR
  go_enter Try.func20, Try.ntmps20
  go_wp2
  go_loopw [6, 9] (fun _ i wr => ∃ k : Nat, i = .int .i64 k ∧ k ≤ n ∧ Hid (∀ j, j < k → (l.getD j (.empty, .empty)).1 ≠ x) ∧ Below w.heap.size w wr) (fun _ i _ => n - (intOf i).toNat)
  case atStart => exact ⟨0, rfl, by omega, fun j hj => absurd hj (Nat.not_lt_zero _), Below.refl _ _⟩
  case round =>
    obtain ⟨k, rfl, hk, HK, hbl⟩ := hrel
    have hzr := hbl.size
    by_cases hlt : k < n
    · obtain ⟨b, off, rfl, hB, x0, x1⟩ := HC.out.get HN.out hlt
      have HKL : Hid (k < l.length) := by show k < l.length; rw [← HN.out]; exact hlt
      obtain ⟨⟨xa, xb⟩, hx⟩ : ∃ x, x = l.getD k (.empty, .empty) := ⟨_, rfl⟩
      rw [← hx] at x0 x1
      have HX := Lib.hid hx
      have c0 := (hbl.cell (p := ⟨b, off + k * 2, none⟩) hB).trans x0
      have c1 := (hbl.cell (p := ⟨b, off + k * 2 + 1, none⟩) hB).trans x1
      simp only at c0 c1
      have hkI : (k : Int) < (n : Int) := by omega
      have hbl2 := hbl.alloc hzr (.cells #[.string xa, .string xb] 38)
      clear hx x0 x1
      by_cases he : xa = x
      · have HE : Hid (R = xb) := by
          show R = xb
          rw [HR.out, lval_here HKL.out HK.out (by rw [← HX.out]; exact he), ← HX.out]
        subst he
        go_wp2
        go_ret
        rw [HE.out]
        exact ⟨rfl, hbl2⟩
      · have HK' : Hid (∀ j, j < k + 1 → (l.getD j (.empty, .empty)).1 ≠ x) := fun j hj => by
          by_cases e : j = k
          · rw [e, ← HX.out]; exact he
          · exact HK.out j (by omega)
        have hne : ¬ xa.toList = x.toList := fun e => he (ByteArray.ext (Array.ext' (by rw [← ByteArray.toList_eq, ← ByteArray.toList_eq]; exact e)))
        have hneb : (xa.toList == x.toList) = false := by simpa using hne
        clear he
        go_wp2
        go_roundw
        case rel => exact ⟨k + 1, by go_num, by omega, HK', hbl2⟩
        case measure => simp [intOf]; omega
    · have HE : Hid (R = .empty) := by
        show R = .empty
        rw [HR.out, lval_none (k := k) (by rw [← HN.out]; omega) HK.out]
      go_wp2
      go_ret
      rw [HE.out]
      exact ⟨rfl, hbl⟩

set_option maxHeartbeats 1600000 in
set_option maxRecDepth 100000 in
theorem rvalue_any (l : List Lab) (v : Value) (x : ByteArray) (w : World) (h : Labs w w.heap.size v l) :
    Calls Try.prog 21 #[v, .string x] w (SaysT (lval l x) w) := by
  obtain ⟨n, hn⟩ : ∃ n, n = l.length := ⟨_, rfl⟩
  obtain ⟨ao, cap, rfl, hn63⟩ : ∃ ao cap, v = .slice ao n cap ∧ n ≤ 9223372036854775807 := by
    obtain ⟨ao, cap, e, _, h9⟩ := h.form
    unfold maxLen at h9
    exact ⟨ao, cap, by rw [hn]; exact e, by rw [hn]; exact h9⟩
  obtain ⟨R, hR⟩ : ∃ R, R = lval l x := ⟨_, rfl⟩
  rw [← hR]
  have HR := Lib.hid hR
  have HC := Lib.hid h
  have HN := Lib.hid hn
  clear h hn hR
  go_enter Try.func21, Try.ntmps21
  go_wp2
  go_loopw [6, 9] (fun _ i wr => ∃ k : Nat, i = .int .i64 k ∧ k ≤ n ∧ Hid (∀ j, j < k → (l.getD j (.empty, .empty)).1 ≠ x) ∧ Below w.heap.size w wr) (fun _ i _ => n - (intOf i).toNat)
  case atStart => exact ⟨0, rfl, by omega, fun j hj => absurd hj (Nat.not_lt_zero _), Below.refl _ _⟩
  case round =>
    obtain ⟨k, rfl, hk, HK, hbl⟩ := hrel
    have hzr := hbl.size
    by_cases hlt : k < n
    · obtain ⟨b, off, rfl, hB, x0, x1⟩ := HC.out.get HN.out hlt
      have HKL : Hid (k < l.length) := by show k < l.length; rw [← HN.out]; exact hlt
      obtain ⟨⟨xa, xb⟩, hx⟩ : ∃ x, x = l.getD k (.empty, .empty) := ⟨_, rfl⟩
      rw [← hx] at x0 x1
      have HX := Lib.hid hx
      have c0 := (hbl.cell (p := ⟨b, off + k * 2, none⟩) hB).trans x0
      have c1 := (hbl.cell (p := ⟨b, off + k * 2 + 1, none⟩) hB).trans x1
      simp only at c0 c1
      have hkI : (k : Int) < (n : Int) := by omega
      have hbl2 := hbl.alloc hzr (.cells #[.string xa, .string xb] 38)
      clear hx x0 x1
      by_cases he : xa = x
      · have HE : Hid (R = xb) := by
          show R = xb
          rw [HR.out, lval_here HKL.out HK.out (by rw [← HX.out]; exact he), ← HX.out]
        subst he
        go_wp2
        go_ret
        rw [HE.out]
        exact ⟨rfl, hbl2⟩
      · have HK' : Hid (∀ j, j < k + 1 → (l.getD j (.empty, .empty)).1 ≠ x) := fun j hj => by
          by_cases e : j = k
          · rw [e, ← HX.out]; exact he
          · exact HK.out j (by omega)
        have hne : ¬ xa.toList = x.toList := fun e => he (ByteArray.ext (Array.ext' (by rw [← ByteArray.toList_eq, ← ByteArray.toList_eq]; exact e)))
        have hneb : (xa.toList == x.toList) = false := by simpa using hne
        clear he
        go_wp2
        go_roundw
        case rel => exact ⟨k + 1, by go_num, by omega, HK', hbl2⟩
        case measure => simp [intOf]; omega
    · have HE : Hid (R = .empty) := by
        show R = .empty
        rw [HR.out, lval_none (k := k) (by rw [← HN.out]; omega) HK.out]
      go_wp2
      go_ret
      rw [HE.out]
      exact ⟨rfl, hbl⟩
end Go.Proofs.Ytpfjmomdnegcpaa
