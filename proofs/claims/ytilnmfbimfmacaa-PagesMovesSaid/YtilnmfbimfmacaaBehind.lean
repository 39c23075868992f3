/- behind, and the document's from: how many texts are not above a text. -/
import Derived.Test.YtilnmfbimfmacaaRows
import Derived.Test.YtilnmfbimfmacaaCells
import Derived.Test.YtilnmfbimfmacaaPgMath
import Derived.Test.YtilnmfbimfmacaaShelf
namespace Go.Proofs.Ytilnmfbimfmacaa
open Go.RowKit Go.ChangeShapes cl pg

def Num (n : Nat) (w : World) (e : Ending) (w' : World) : Prop := e = .returned (.int .i64 (n : Int)) ∧ Below w.heap.size w w'

set_option maxHeartbeats 800000 in
set_option maxRecDepth 100000 in
theorem bs_empty (ao : Option Addr) (c : Nat) (x : ByteArray) (w : World) :
    Calls Try.prog 27 #[.slice ao 0 c, .string x] w fun e w' => e = .returned (.tuple #[.int .i64 0, .bool false]) ∧ w = w' := by
  go_enter Try.func27, Try.ntmps27
  go_wp2
  go_loop [7, 8] (fun i j => i = .int .i64 0 ∧ j = .int .i64 0) (fun _ _ => 0)
  case atStart => exact ⟨rfl, rfl⟩
  case round =>
    obtain ⟨rfl, rfl⟩ := hrel
    go_wp2
    go_ret2
    exact ⟨rfl, rfl⟩

theorem bs_any (l : List ByteArray) (b off cap : Nat) (a : ByteArray) (w : World) (h : Strs w w.heap.size (.slice (some ⟨b, off, none⟩) l.length cap) l) (hr : Ris l) (hl : l.length ≤ 200) :
    Calls Try.prog 27 #[.slice (some ⟨b, off, none⟩) l.length cap, .string a] w fun e w' => ∃ (m : Nat) (t : Bool), e = .returned (.tuple #[.int .i64 (m : Int), .bool t]) ∧ m ≤ l.length ∧ Hid (beh l a = if t = true then m + 1 else m) ∧ Below w.heap.size w w' := by
  obtain ⟨m, hm, hml, hcase⟩ := bs_place hr a
  have H := Try.slices_BinarySearch_string b off l.length cap (fun t => l.getD t .empty) a w (by omega) (fun j hj => (h.cell rfl hj).2)
  have hm' : Lib.bsGo (fun t => Op.bytesLess ((fun t => l.getD t .empty) t).toList a.toList) l.length 0 l.length = m := hm
  rw [hm'] at H
  refine H.mono ?_
  rintro e w' ⟨rfl, q, rfl⟩
  have hb : Below w.heap.size w (w.drewN q) := below_drewN (Below.refl _ _) q
  rcases hcase with ⟨h1, h2, h3⟩ | ⟨h1, h3⟩
  · exact ⟨m, true, by rw [decide_eq_true ⟨h1, h2⟩], hml, by rw [h3]; rfl, hb⟩
  · exact ⟨m, false, by rw [decide_eq_false h1], hml, by rw [h3]; rfl, hb⟩

set_option maxHeartbeats 800000 in
set_option maxRecDepth 100000 in
theorem behind_any (l : List ByteArray) (v : Value) (a : ByteArray) (w : World) (h : Strs w w.heap.size v l) (hr : Ris l) (hl : l.length ≤ 200) :
    Calls Try.prog 21 #[v, .string a] w (Num (beh l a) w) := by
  by_cases h0 : l.length = 0
  · obtain rfl : l = [] := List.eq_nil_of_length_eq_zero h0
    obtain ⟨ao, cap, rfl, _, _⟩ := h.form
    have H := Lib.hid (bs_empty ao cap a w)
    clear h hr h0
    go_enter Try.func21, Try.ntmps21
    go_wp2_with fail
    refine H.out.mono ?_
    rintro e w' ⟨rfl, rfl⟩
    go_wp2
    go_ret
    exact ⟨rfl, Below.refl _ _⟩
  · obtain ⟨b, off, cap, rfl, _, _⟩ := h.addr (by omega)
    have H := Lib.hid (bs_any l b off cap a w h hr hl)
    have HL := beh_le l a
    clear h hr h0
    go_enter Try.func21, Try.ntmps21
    go_wp2_with fail
    refine H.out.mono ?_
    rintro e w' ⟨m, t, rfl, hm, HB, hb⟩
    cases t with
    | true =>
      have HB' : Hid (beh l a = m + 1) := HB.out
      go_wp2
      go_ret
      exact ⟨by rw [HB'.out, Int.natCast_add]; rfl, hb⟩
    | false =>
      have HB' : Hid (beh l a = m) := HB.out
      go_wp2
      go_ret
      exact ⟨by rw [HB'.out]; rfl, hb⟩

set_option maxHeartbeats 800000 in
set_option maxRecDepth 100000 in
theorem from_any (l : List ByteArray) (v : Value) (a : ByteArray) (w : World) (h : Strs w w.heap.size v l) (hr : Ris l) (hl : l.length ≤ 200) :
    Calls Try.prog 23 #[v, .string a] w fun e w' => e = .returned (.int .i64 (beh l a : Nat)) ∧ w = w' := by
  have HS := Lib.hid (split_beh hr a)
  have HC := Lib.hid h
  obtain ⟨ao, cap, rfl, hcap, _⟩ := h.form
  obtain ⟨B, hB⟩ : ∃ B, B = beh l a := ⟨_, rfl⟩
  rw [← hB] at HS ⊢
  clear h hr hB
  go_enter Try.func23, Try.ntmps23
  go_wp2
  go_loop [5] (fun i => ∃ k : Nat, i = .int .i64 k ∧ k ≤ B) (fun i => l.length - (intOf i).toNat)
  case atStart => exact ⟨0, rfl, Nat.zero_le _⟩
  case round =>
    obtain ⟨k, rfl, hk⟩ := hrel
    have hBl := HS.out.1
    by_cases hlt : k < l.length
    · obtain ⟨b, off, cap', e, _, _⟩ := HC.out.addr (by omega)
      simp only [Value.slice.injEq] at e
      obtain ⟨rfl, _, rfl⟩ := e
      have c1 := (HC.out.cell rfl hlt).2
      have H3 := Lib.hid (HS.out.2.2 k)
      have H2 := Lib.hid (HS.out.2.1 k)
      obtain ⟨x, hx⟩ : ∃ x, x = l.getD k .empty := ⟨_, rfl⟩
      rw [← hx] at c1 H2 H3
      clear hx
      cases hax : lt a x with
      | true =>
        have hkB : k = B := by
          by_cases e : k < B
          · have := H2.out e; rw [hax] at this; cases this
          · omega
        have n1 : Op.bytesLess x.toList a.toList = false := lt_asymm hax
        have n2 : (x.toList == a.toList) = false := beq_eq_false_iff_ne.2 fun e => by rw [toList_inj e, lt_irrefl] at hax; cases hax
        subst hkB
        clear hax
        go_wp2
        go_ret
        exact ⟨rfl, rfl⟩
      | false =>
        have hkB : k < B := by
          by_cases e : k < B
          · exact e
          · have := H3.out (by omega) hlt; rw [hax] at this; cases this
        cases hxa : lt x a with
        | true =>
          have n1 : Op.bytesLess x.toList a.toList = true := hxa
          clear hax hxa
          go_wp2
          go_round
          case rel => exact ⟨k + 1, by go_num, by omega⟩
          case measure => simp [intOf]; omega
        | false =>
          obtain rfl := eq_of_not hxa hax
          have n1 : Op.bytesLess x.toList x.toList = false := hxa
          clear hax hxa
          go_wp2
          go_round
          case rel => exact ⟨k + 1, by go_num, by omega⟩
          case measure => simp [intOf]; omega
    · have hkB : k = B := by omega
      subst hkB
      go_wp2
      go_ret
      exact ⟨rfl, rfl⟩

theorem clone_any (l : List ByteArray) (v : Value) (w : World) (h : Strs w w.heap.size v l) (hl : l.length ≤ 200) :
    Calls Try.prog 22 #[v] w fun e w' => ∃ v', e = .returned v' ∧ w'.ownsRow w.heap.size 9 1 v' l.length (strs l) ∧ Below w.heap.size w w' := by
  by_cases h0 : l.length = 0
  · obtain rfl : l = [] := List.eq_nil_of_length_eq_zero h0
    obtain ⟨_, ao, c, rfl, _, _, _⟩ := h
    cases ao with
    | none =>
      refine (Try.slices_Clone_string_nil _ c w).mono ?_
      rintro e w' ⟨rfl, rfl⟩
      exact ⟨_, rfl, World.ownsRow_nil _ _ _ _, Below.refl _ _⟩
    | some a =>
      refine (Try.slices_Clone_string_zero a c w).mono ?_
      rintro e w' ⟨v', rfl, ho, _, hb⟩
      exact ⟨v', rfl, ho, hb⟩
  · obtain ⟨b, off, cap, rfl, _, _⟩ := h.addr (by omega)
    refine (Try.slices_Clone_string b off l.length cap l w (Nat.le_refl _) (by omega) (fun j hj => (h.cell rfl hj).2)).mono ?_
    rintro e w' ⟨v', rfl, ho, _, hb⟩
    rw [List.take_of_length_le (Nat.le_refl _)] at ho
    exact ⟨v', rfl, ho, hb⟩
end Go.Proofs.Ytilnmfbimfmacaa
