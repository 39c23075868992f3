/- Slices of dots, as they lie and as arguments; slices.Equal; which dots may be; their order. -/
import Derived.Test.YtdcmoeklldkccaaCells
import Derived.Test.YtdcmoeklldkccaaRows
import Derived.Deep.SlicePairs
import Derived.WideShapes
import Derived.ChangeArms
namespace Go.Proofs.Ytdcmoeklldkccaa
open Go.RowKit Go.ChangeShapes Go.WideShapes cl

abbrev Dot := Int × Int
def Said (x : Bool) (w : World) (e : Ending) (w' : World) : Prop := e = .returned (.bool x) ∧ Below w.heap.size w w'
theorem below_drewN {B : Nat} {w w' : World} (h : Below B w w') (n : Nat) : Below B w (w'.drewN n) := by
  induction n with
  | zero => exact h
  | succ n ih => exact ih.drew
def dcells (l : List (Int × Int)) : List Value := l.flatMap fun x => [.int .i64 x.1, .int .i64 x.2]
theorem dcells_len : ∀ l : List (Int × Int), (dcells l).length = l.length * 2 := by
  intro l
  induction l with
  | nil => rfl
  | cons x l ih =>
    have e : dcells (x :: l) = .int .i64 x.1 :: .int .i64 x.2 :: dcells l := rfl
    rw [e, List.length_cons, List.length_cons, ih, List.length_cons]; omega
theorem dcells_get : ∀ (l : List (Int × Int)) (j : Nat) (h : j < l.length), (dcells l)[j * 2]? = some (.int .i64 l[j].1) ∧ (dcells l)[j * 2 + 1]? = some (.int .i64 l[j].2) := by
  intro l
  induction l with
  | nil => intro j h; simp at h
  | cons x l ih =>
    intro j h
    have e : dcells (x :: l) = .int .i64 x.1 :: .int .i64 x.2 :: dcells l := rfl
    rw [e]
    cases j with
    | zero => exact ⟨rfl, rfl⟩
    | succ j =>
      have := ih j (by simpa using h)
      rw [Nat.succ_mul]
      simpa using this
abbrev Dots (w : World) (B : Nat) (v : Value) (l : List (Int × Int)) : Prop := Cells w B v l.length 2 (dcells l)
theorem Dots.get {w : World} {B n c : Nat} {ao : Option Addr} {l : List (Int × Int)} (h : Dots w B (.slice ao n c) l) (hn : n = l.length) {j : Nat} (hj : j < n) : ∃ b off, ao = some ⟨b, off, none⟩ ∧ b < B ∧
    w.cell? ⟨b, off + j * 2, none⟩ = some (.int .i64 (l.getD j (0, 0)).1) ∧ w.cell? ⟨b, off + j * 2 + 1, none⟩ = some (.int .i64 (l.getD j (0, 0)).2) := by
  subst hn
  obtain ⟨_, ao', c', e, _, _, h4⟩ := h
  simp only [Value.slice.injEq] at e
  obtain ⟨rfl, _, rfl⟩ := e
  obtain ⟨b, off, rfl, hB, hc⟩ := h4 (by omega)
  obtain ⟨g0, g1⟩ := dcells_get l j hj
  have e : l.getD j (0, 0) = l[j] := by simp [List.getD, hj]
  rw [e]
  exact ⟨b, off, rfl, hB, hc _ _ g0, hc _ _ g1⟩
theorem ptake_eq {a b : List (Int × Int)} {k : Nat} (hl : a.length = b.length) (hk : k < a.length) (h : a.take k = b.take k) (he : a.getD k (0, 0) = b.getD k (0, 0)) : a.take (k + 1) = b.take (k + 1) := by
  have hb : k < b.length := by omega
  rw [List.take_succ_eq_append_getElem hk, List.take_succ_eq_append_getElem hb, h]
  simp only [List.getD, List.getElem?_eq_getElem hk, List.getElem?_eq_getElem hb, Option.getD_some] at he
  rw [he]

set_option maxHeartbeats 1600000 in
set_option maxRecDepth 100000 in
theorem equal_any (a b : List (Int × Int)) (va vb : Value) (w : World) (ha : Dots w w.heap.size va a) (hb : Dots w w.heap.size vb b) :
    Calls Try.prog 41 #[va, vb] w (Said (decide (a = b)) w) := by
  obtain ⟨ao, ca, rfl, _, hla⟩ := ha.form
  obtain ⟨bo, cb, rfl, _, hlb⟩ := hb.form
  unfold maxLen at hla hlb
  by_cases hl : a.length = b.length
  · have HL := Lib.hid hl
    have HCA := Lib.hid ha
    have HCB := Lib.hid hb
    obtain ⟨n, hn⟩ : ∃ n, n = a.length := ⟨_, rfl⟩
    have HN := Lib.hid hn
    have HNB : Hid (n = b.length) := hn.trans hl
    rw [← hl]
    rw [← hn] at hla ⊢
    have HCA2 : Hid (Dots w w.heap.size (.slice ao n ca) a) := by show Dots _ _ _ _; rw [HN.out]; exact HCA.out
    have HCB2 : Hid (Dots w w.heap.size (.slice bo n cb) b) := by show Dots _ _ _ _; rw [HNB.out]; exact HCB.out
    clear hlb hl ha hb hn HCA HCB
    go_enter Try.func41, Try.ntmps41
    go_wp2
    go_loopw [5, 13] (fun _ i wr => ∃ k : Nat, i = .int .i64 k ∧ k ≤ n ∧ Hid (a.take k = b.take k) ∧ Below w.heap.size w wr) (fun _ i _ => n - (intOf i).toNat)
    case atStart => exact ⟨0, rfl, by omega, rfl, Below.refl _ _⟩
    case round =>
      obtain ⟨k, rfl, hk, HT, hbl⟩ := hrel
      by_cases hlt : k < n
      · obtain ⟨ba, oa, rfl, hBa, p0, p1⟩ := Dots.get HCA2.out HN.out hlt
        obtain ⟨bb, ob, rfl, hBb, r0, r1⟩ := Dots.get HCB2.out HNB.out hlt
        have c0 := (hbl.cell (p := ⟨ba, oa + k * 2, none⟩) hBa).trans p0
        have c1 := (hbl.cell (p := ⟨ba, oa + k * 2 + 1, none⟩) hBa).trans p1
        have d0 := (hbl.cell (p := ⟨bb, ob + k * 2, none⟩) hBb).trans r0
        have d1 := (hbl.cell (p := ⟨bb, ob + k * 2 + 1, none⟩) hBb).trans r1
        clear p0 p1 r0 r1
        have hkI : (k : Int) < (n : Int) := by omega
        by_cases he : a.getD k (0, 0) = b.getD k (0, 0)
        · have HT' : Hid (a.take (k + 1) = b.take (k + 1)) := ptake_eq HL.out (by rw [← HN.out]; exact hlt) HT.out he
          rw [← he] at d0 d1
          obtain ⟨⟨x0, x1⟩, hx⟩ : ∃ x, x = a.getD k (0, 0) := ⟨_, rfl⟩
          rw [← hx] at c0 c1 d0 d1
          simp only at c0 c1 d0 d1
          clear hx he
          go_wp2
          go_quiet (fail)
          go_wp2
          go_roundw
          case rel => exact ⟨k + 1, by go_num, by omega, HT', below_drewN hbl _⟩
          case measure => simp [intOf]; omega
        · have HE : Hid (decide (a = b) = false) := decide_eq_false (fun e => he (by rw [e]))
          obtain ⟨⟨x0, x1⟩, hx⟩ : ∃ x, x = a.getD k (0, 0) := ⟨_, rfl⟩
          obtain ⟨⟨y0, y1⟩, hy⟩ : ∃ x, x = b.getD k (0, 0) := ⟨_, rfl⟩
          rw [← hx] at c0 c1
          rw [← hy] at d0 d1
          simp only at c0 c1 d0 d1
          have hne : ¬ (x0 = y0 ∧ x1 = y1) := fun ⟨e0, e1⟩ => he (by rw [← hx, ← hy, e0, e1])
          clear hx hy he
          by_cases h0 : x0 = y0
          · subst h0
            have h1 : ¬ x1 = y1 := fun e => hne ⟨rfl, e⟩
            have h2 : (x1 == y1) = false := beq_eq_false_iff_ne.2 h1
            clear hne
            go_wp2
            go_quiet (fail)
            go_wp2
            go_ret
            rw [HE.out]; exact ⟨rfl, below_drewN hbl _⟩
          · have h2 : (x0 == y0) = false := beq_eq_false_iff_ne.2 h0
            clear hne
            go_wp2
            go_quiet (fail)
            go_wp2
            go_ret
            rw [HE.out]; exact ⟨rfl, below_drewN hbl _⟩
      · have HE : Hid (decide (a = b) = true) := by
          have := HT.out
          rw [List.take_of_length_le (by rw [← HN.out]; omega), List.take_of_length_le (by rw [← HNB.out]; omega)] at this
          exact decide_eq_true this
        go_wp2
        go_ret
        rw [HE.out]; exact ⟨rfl, hbl⟩
  · have HE : Hid (decide (a = b) = false) := decide_eq_false (fun e => hl (by rw [e]))
    have hne : ((a.length : Int) != (b.length : Int)) = true := by simp; omega
    have hne2 : ((a.length : Int) == (b.length : Int)) = false := by simp; omega
    clear hl ha hb
    go_enter Try.func41, Try.ntmps41
    go_wp2
    go_ret
    rw [HE.out]; exact ⟨rfl, Below.refl _ _⟩

theorem dcells_app (a b : List Dot) : dcells (a ++ b) = dcells a ++ dcells b := by simp [dcells]
theorem dcells_one : ∀ {l : List Dot}, ∀ u ∈ dcells l, u.oneCell' = true := by
  intro l u hu
  obtain ⟨x, _, h⟩ := List.mem_flatMap.1 hu
  simp only [List.mem_cons, List.not_mem_nil, or_false] at h
  rcases h with rfl | rfl <;> rfl
theorem infoDot : (Try.prog.info? 26).map (fun i => (i.zero, i.size, i.bytes)) = some (some (.agg #[.int .i64 0, .int .i64 0]), 2, 16) := by kernel_rfl

/-- which dots may be -/
def valid (d : Dot) : Bool := decide (0 ≤ d.1 ∧ d.1 < 16 ∧ 1 ≤ d.2 ∧ d.2 ≤ 1099511627776)
/-- the order of dots -/
def dless (x y : Dot) : Bool := decide (x.1 < y.1 ∨ x.1 = y.1 ∧ x.2 < y.2)

set_option maxHeartbeats 800000 in
set_option maxRecDepth 100000 in
theorem valid_any (d : Dot) (w : World) : Calls Try.prog 12 #[.agg #[.int .i64 d.1, .int .i64 d.2]] w (Said (valid d) w) := by
  obtain ⟨a, b⟩ := d
  have hA : Below w.heap.size w (w.alloc (.cells #[.int .i64 a, .int .i64 b] 26)) := (Below.refl _ _).alloc (Nat.le_refl _) _
  have HV : Hid (∀ r, decide (0 ≤ a ∧ a < 16 ∧ 1 ≤ b ∧ b ≤ 1099511627776) = r → valid (a, b) = r) := fun r h => h
  obtain ⟨R, hR⟩ : ∃ R, R = valid (a, b) := ⟨_, rfl⟩
  rw [← hR] at HV ⊢
  clear hR
  by_cases h1 : 0 ≤ a
  · by_cases h2 : a < 16
    · by_cases h3 : 1 ≤ b
      · by_cases h4 : b ≤ 1099511627776
        · have HR := Lib.hid (HV.out true (decide_eq_true ⟨h1, h2, h3, h4⟩))
          go_enter Try.func12, Try.ntmps12
          go_wp2
          go_ret
          rw [HR.out]; exact ⟨rfl, hA⟩
        · have HR := Lib.hid (HV.out false (decide_eq_false (fun h => h4 h.2.2.2)))
          go_enter Try.func12, Try.ntmps12
          go_wp2
          go_ret
          rw [HR.out]; exact ⟨rfl, hA⟩
      · have HR := Lib.hid (HV.out false (decide_eq_false (fun h => h3 h.2.2.1)))
        go_enter Try.func12, Try.ntmps12
        go_wp2
        go_ret
        rw [HR.out]; exact ⟨rfl, hA⟩
    · have HR := Lib.hid (HV.out false (decide_eq_false (fun h => h2 h.2.1)))
      go_enter Try.func12, Try.ntmps12
      go_wp2
      go_ret
      rw [HR.out]; exact ⟨rfl, hA⟩
  · have HR := Lib.hid (HV.out false (decide_eq_false (fun h => h1 h.1)))
    go_enter Try.func12, Try.ntmps12
    go_wp2
    go_ret
    rw [HR.out]; exact ⟨rfl, hA⟩

set_option maxHeartbeats 800000 in
set_option maxRecDepth 100000 in
theorem rvalid_any (d : Dot) (w : World) : Calls Try.prog 13 #[.agg #[.int .i64 d.1, .int .i64 d.2]] w (Said (valid d) w) := by
  obtain ⟨a, b⟩ := d
  have hA : Below w.heap.size w (w.alloc (.cells #[.int .i64 a, .int .i64 b] 26)) := (Below.refl _ _).alloc (Nat.le_refl _) _
  have HV : Hid (∀ r, decide (0 ≤ a ∧ a < 16 ∧ 1 ≤ b ∧ b ≤ 1099511627776) = r → valid (a, b) = r) := fun r h => h
  obtain ⟨R, hR⟩ : ∃ R, R = valid (a, b) := ⟨_, rfl⟩
  rw [← hR] at HV ⊢
  clear hR
  by_cases h1 : 0 ≤ a
  · by_cases h2 : a < 16
    · by_cases h3 : 1 ≤ b
      · by_cases h4 : b ≤ 1099511627776
        · have HR := Lib.hid (HV.out true (decide_eq_true ⟨h1, h2, h3, h4⟩))
          go_enter Try.func13, Try.ntmps13
          go_wp2
          go_ret
          rw [HR.out]; exact ⟨rfl, hA⟩
        · have HR := Lib.hid (HV.out false (decide_eq_false (fun h => h4 h.2.2.2)))
          go_enter Try.func13, Try.ntmps13
          go_wp2
          go_ret
          rw [HR.out]; exact ⟨rfl, hA⟩
      · have HR := Lib.hid (HV.out false (decide_eq_false (fun h => h3 h.2.2.1)))
        go_enter Try.func13, Try.ntmps13
        go_wp2
        go_ret
        rw [HR.out]; exact ⟨rfl, hA⟩
    · have HR := Lib.hid (HV.out false (decide_eq_false (fun h => h2 h.2.1)))
      go_enter Try.func13, Try.ntmps13
      go_wp2
      go_ret
      rw [HR.out]; exact ⟨rfl, hA⟩
  · have HR := Lib.hid (HV.out false (decide_eq_false (fun h => h1 h.1)))
    go_enter Try.func13, Try.ntmps13
    go_wp2
    go_ret
    rw [HR.out]; exact ⟨rfl, hA⟩
end Go.Proofs.Ytdcmoeklldkccaa
