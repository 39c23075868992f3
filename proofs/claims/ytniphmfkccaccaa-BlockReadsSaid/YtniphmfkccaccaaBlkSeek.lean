/- block.Seek on a right block; the law's same on blocks that are the same. -/
import Derived.Test.YtniphmfkccaccaaBlkDec
import Derived.Test.YtniphmfkccaccaaShelf
namespace Go.Proofs.Ytniphmfkccaccaa
open Go.RowKit Go.ChangeShapes at_ cl

theorem rise_lt {l : List Int} {n : Nat} (h : bm.Rise l n) : ∀ j i, i < j → j < n → l.getD i 0 < l.getD j 0 := by
  intro j
  induction j with
  | zero => intro i hi; omega
  | succ j ih =>
    intro i hi hj
    have h1 := (h (j + 1) hj).2.2 (by omega)
    rw [Nat.add_sub_cancel] at h1
    by_cases e : i = j
    · subst e; exact h1
    · have := ih i (by omega) (by omega)
      omega
theorem rise_pw {l : List Int} (h : bm.Rise l l.length) : l.Pairwise (· ≤ ·) := by
  rw [List.pairwise_iff_getElem]
  intro i j hi hj hij
  have := rise_lt h j i hij hj
  simp only [List.getD, List.getElem?_eq_getElem hi, List.getElem?_eq_getElem hj, Option.getD_some] at this
  omega
def SeekP (l : List Int) (id : Int) (w : World) (e : Ending) (w' : World) : Prop := e = .returned (.tuple #[.int .i64 (if l.countP (· < id) < l.length then l.getD (l.countP (· < id)) 0 else 0), .bool (decide (l.countP (· < id) < l.length))]) ∧ Below w.heap.size w w'
theorem bs_any (l : List Int) (n : Int) (va : Value) (w : World) (ha : At w w.heap.size va l) (hi : bm.Rise l l.length) (hl : l.length ≤ 100000) :
    Calls Try.prog 27 #[va, .int .i64 n] w (fun e w' => (∃ r : Bool, e = .returned (.tuple #[.int .i64 (l.countP (· < n) : Nat), .bool r])) ∧ Below w.heap.size w w') := by
  obtain ⟨ao, ca, rfl, ⟨_, hca⟩, _, ka⟩ := ha
  by_cases h0 : l.length = 0
  · have hn : l = [] := List.eq_nil_of_length_eq_zero h0
    subst hn
    refine (Try.slices_BinarySearch_int_empty ao ca n w).mono ?_
    rintro e w' ⟨rfl, rfl⟩
    exact ⟨⟨_, rfl⟩, Below.refl _ _⟩
  · obtain ⟨ba, oa, rfl, hBa, hcell⟩ := ka (by omega)
    refine (Try.slices_BinarySearch_int ba oa l.length ca l n w (Nat.le_refl _) (by omega) hcell (by rw [List.take_of_length_le (Nat.le_refl _)]; exact rise_pw hi)).mono ?_
    rintro e w' ⟨rfl, q, rfl⟩
    rw [List.take_of_length_le (Nat.le_refl _)]
    exact ⟨⟨_, rfl⟩, below_drewN (Below.refl _ _) _⟩

set_option maxHeartbeats 800000 in
set_option maxRecDepth 100000 in
theorem seek_right (l : List Int) (id : Int) (vs : Value) (w : World) (hl : l.length ≤ 4000) (hr : bm.Rise l l.length) (h : Skps w w.heap.size vs (bm.skp l l.length)) :
    Calls Try.prog 15 #[.agg #[.int .i64 (l.length : Int), .string (kit.str (bm.dat l l.length)), vs], .int .i64 id] w (SeekP l id w) := by
  have HDEC : Hid (∀ W : World, Below w.heap.size w W → Calls Try.prog 13 #[.agg #[.int .i64 (l.length : Int), .string (kit.str (bm.dat l l.length)), vs]] W (DecP l W)) := fun W hb => decode_right l vs W hl hr (h.next hb)
  have HBS : Hid (∀ (v : Value) (W : World), At W W.heap.size v l → _) := fun v W ha => bs_any l id v W ha hr (by omega)
  obtain ⟨ao, cap, rfl, _⟩ := h.form
  obtain ⟨D, hD⟩ : ∃ D, D = kit.str (bm.dat l l.length) := ⟨_, rfl⟩
  obtain ⟨q0, hq0⟩ : ∃ q, q = (bm.skp l l.length).length := ⟨_, rfl⟩
  have hpl : l.countP (· < id) ≤ l.length := List.countP_le_length
  obtain ⟨n, hn⟩ : ∃ n, n = l.length := ⟨_, rfl⟩
  obtain ⟨p, hp⟩ : ∃ p, p = l.countP (· < id) := ⟨_, rfl⟩
  rw [← hp, ← hn] at hpl
  rw [← hD, ← hq0, ← hn] at HDEC
  rw [← hp] at HBS
  have HP : Hid (∀ e w', e = .returned (.tuple #[.int .i64 (if p < n then l.getD p 0 else 0), .bool (decide (p < n))]) ∧ Below w.heap.size w w' → SeekP l id w e w') := fun e w' h => by unfold SeekP; rw [← hp, ← hn]; exact h
  have HN := Lib.hid hn
  rw [← hD, ← hq0, ← hn]
  rw [← hn] at hl
  have hA : Below w.heap.size w (w.alloc (.cells #[.int .i64 n, .string D, .slice ao q0 cap] 26)) := (Below.refl _ _).alloc (Nat.le_refl _) _
  have HD := Lib.hid (HDEC.out _ hA)
  clear hD hq0 hn hp h hr HDEC
  go_enter Try.func15, Try.ntmps15
  go_wp2_with fail
  refine HD.out.mono ?_
  rintro e w1 ⟨v1, rfl, ho1, hb1⟩
  have hbl := hA.trans (hb1.mono hA.size)
  have HAT := Lib.hid (at_.own ho1)
  rw [← HN.out] at ho1
  have HBW := Lib.hid (HBS.out v1 w1 HAT.out)
  obtain ⟨a1, c1, rfl⟩ := own_slice ho1
  clear ho1
  go_wp2_with fail
  refine HBW.out.mono ?_
  rintro e w2 ⟨⟨r, rfl⟩, hb2⟩
  have hbl2 := hbl.trans (hb2.mono hbl.size)
  have hat2 := HAT.out.later hb2 (Nat.le_refl _)
  by_cases hpn : p = n
  · subst hpn
    clear hat2
    go_wp2
    go_ret2
    exact HP.out _ _ ⟨by simp, hbl2⟩
  · have hplt : p < n := by omega
    have hpI : (p : Int) < (n : Int) := by omega
    have hpne : ((p : Int) == (n : Int)) = false := beq_eq_false_iff_ne.2 (by omega)
    obtain ⟨ao', c', e, _, _, hc⟩ := hat2
    simp only [Value.slice.injEq] at e
    obtain ⟨rfl, _, rfl⟩ := e
    obtain ⟨b, o, rfl, _, hcell⟩ := hc (by rw [← HN.out]; omega)
    have cp := hcell p (by rw [← HN.out]; exact hplt)
    clear hcell hc
    obtain ⟨x, hx⟩ : ∃ x, x = l.getD p 0 := ⟨_, rfl⟩
    rw [← hx] at cp
    have HX := Lib.hid hx
    clear hx
    go_wp2
    go_ret2
    exact HP.out _ _ ⟨by rw [if_pos hplt, ← HX.out, decide_eq_true hplt]; rfl, hbl2⟩

theorem boxes (w : World) (x0 x1 x2 y0 y1 y2 : Value) (t : TypeId) : ((w.alloc (.cells #[x0, x1, x2] t)).alloc (.cells #[y0, y1, y2] t)).cell? ⟨w.heap.size, 2, none⟩ = some x2 ∧ ((w.alloc (.cells #[x0, x1, x2] t)).alloc (.cells #[y0, y1, y2] t)).cell? ⟨w.heap.size + 1, 2, none⟩ = some y2 ∧ Below w.heap.size w ((w.alloc (.cells #[x0, x1, x2] t)).alloc (.cells #[y0, y1, y2] t)) := by
  have hb1 : Below (w.heap.size + 1) (w.alloc (.cells #[x0, x1, x2] t)) ((w.alloc (.cells #[x0, x1, x2] t)).alloc (.cells #[y0, y1, y2] t)) := (Below.refl _ _).alloc (by rw [World.size_alloc]; omega) _
  have hb : Below w.heap.size w (w.alloc (.cells #[x0, x1, x2] t)) := (Below.refl _ _).alloc (Nat.le_refl _) _
  obtain ⟨_, _, q2, _⟩ := cl.three (w := w) (t := t) (by rw [World.size_alloc]; exact hb1)
  obtain ⟨_, _, r2, _⟩ := cl.three (w := w.alloc (.cells #[x0, x1, x2] t)) (x := y0) (y := y1) (z := y2) (t := t) (Below.refl _ _)
  rw [World.size_alloc] at r2
  exact ⟨q2, r2, hb.trans (hb1.mono (by omega))⟩

set_option maxHeartbeats 3200000 in
set_option maxRecDepth 100000 in
theorem same_eq (c : Int) (s : ByteArray) (a : List (Int × Int)) (va vb : Value) (w : World) (ha : Skps w w.heap.size va a) (hb : Skps w w.heap.size vb a) :
    Calls Try.prog 11 #[.agg #[.int .i64 c, .string s, va], .agg #[.int .i64 c, .string s, vb]] w (Said true w) := by
  obtain ⟨ao, ca, rfl, _, hla⟩ := ha.form
  obtain ⟨bo, cb, rfl, _, _⟩ := hb.form
  unfold maxLen at hla
  have HCA := Lib.hid ha
  have HCB := Lib.hid hb
  obtain ⟨n, hn⟩ : ∃ n, n = a.length := ⟨_, rfl⟩
  have HN := Lib.hid hn
  rw [← hn] at hla ⊢
  have HCA2 : Hid (Skps w w.heap.size (.slice ao n ca) a) := by show Skps _ _ _ _; rw [HN.out]; exact HCA.out
  have HCB2 : Hid (Skps w w.heap.size (.slice bo n cb) a) := by show Skps _ _ _ _; rw [HN.out]; exact HCB.out
  have HBX := Lib.hid (boxes w (.int .i64 c) (.string s) (.slice ao n ca) (.int .i64 c) (.string s) (.slice bo n cb) 26)
  clear ha hb hn HCA HCB
  go_enter Try.func11, Try.ntmps11
  go_wp2
  go_loopw [5, 30] (fun _ i wr => ∃ k : Nat, i = .int .i64 k ∧ k ≤ n ∧ wr.cell? ⟨w.heap.size, 2, none⟩ = some (.slice ao n ca) ∧ wr.cell? ⟨w.heap.size + 1, 2, none⟩ = some (.slice bo n cb) ∧ Below w.heap.size w wr) (fun _ i _ => n - (intOf i).toNat)
  case atStart => exact ⟨0, rfl, by omega, HBX.out.1, HBX.out.2.1, HBX.out.2.2⟩
  case round =>
    obtain ⟨k, rfl, hk, e0, e1, hbl⟩ := hrel
    by_cases hlt : k < n
    · obtain ⟨ba, oa, rfl, hBa, p0, p1⟩ := Skps.get HCA2.out HN.out hlt
      obtain ⟨bb, ob, rfl, hBb, r0, r1⟩ := Skps.get HCB2.out HN.out hlt
      have c0 := (hbl.cell (p := ⟨ba, oa + k * 2, none⟩) hBa).trans p0
      have c1 := (hbl.cell (p := ⟨ba, oa + k * 2 + 1, none⟩) hBa).trans p1
      have d0 := (hbl.cell (p := ⟨bb, ob + k * 2, none⟩) hBb).trans r0
      have d1 := (hbl.cell (p := ⟨bb, ob + k * 2 + 1, none⟩) hBb).trans r1
      clear p0 p1 r0 r1
      have hkI : (k : Int) < (n : Int) := by omega
      obtain ⟨⟨x0, x1⟩, hx⟩ : ∃ x, x = a.getD k (0, 0) := ⟨_, rfl⟩
      rw [← hx] at c0 c1 d0 d1
      simp only at c0 c1 d0 d1
      clear hx
      go_wp2
      go_quiet (fail)
      go_wp2
      go_roundw
      case rel => exact ⟨k + 1, by go_num, by omega, by simpa using e0, by simpa using e1, below_drewN hbl _⟩
      case measure => simp [intOf]; omega
    · go_wp2
      go_ret
      exact ⟨rfl, hbl⟩
end Go.Proofs.Ytniphmfkccaccaa
