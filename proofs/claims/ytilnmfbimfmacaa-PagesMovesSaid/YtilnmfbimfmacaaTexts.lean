/- The law's texts and rising. -/
import Derived.Test.YtilnmfbimfmacaaRows
import Derived.Test.YtilnmfbimfmacaaCells
import Derived.Test.YtilnmfbimfmacaaPgMath
namespace Go.Proofs.Ytilnmfbimfmacaa
open Go.RowKit Go.ChangeShapes cl pg

def Said (x : Bool) (w : World) (e : Ending) (w' : World) : Prop := e = .returned (.bool x) ∧ Below w.heap.size w w'
theorem getS_ne {a b : List ByteArray} {k : Nat} (h : a.getD k .empty ≠ b.getD k .empty) : decide (a = b) = false := decide_eq_false (fun e => h (by rw [e]))
theorem takeS_eq {a b : List ByteArray} {k : Nat} (hl : a.length = b.length) (hk : k < a.length) (h : a.take k = b.take k) (he : a.getD k .empty = b.getD k .empty) : a.take (k + 1) = b.take (k + 1) := by
  have hb : k < b.length := by omega
  rw [List.take_succ_eq_append_getElem hk, List.take_succ_eq_append_getElem hb, h]
  simp only [List.getD, List.getElem?_eq_getElem hk, List.getElem?_eq_getElem hb, Option.getD_some] at he
  rw [he]

set_option maxHeartbeats 1600000 in
set_option maxRecDepth 100000 in
theorem texts_q (a b : List ByteArray) (va vb : Value) (w : World) (ha : Strs w w.heap.size va a) (hb : Strs w w.heap.size vb b) :
    Calls Try.prog 14 #[va, vb] w fun e w' => e = .returned (.bool (decide (a = b))) ∧ ∃ n, w' = w.drewN n := by
  have HA := Lib.hid ha
  have HB := Lib.hid hb
  obtain ⟨ao, ca, rfl, _, hla⟩ := ha.form
  obtain ⟨bo, cb, rfl, _, hlb⟩ := hb.form
  unfold maxLen at hla hlb
  clear ha hb
  by_cases hl : a.length = b.length
  · have HL := Lib.hid hl
    have HB' : Hid (Strs w w.heap.size (.slice bo a.length cb) b) := by show Strs _ _ _ _; rw [hl]; exact HB.out
    rw [← hl]
    clear HB hl hlb
    go_enter Try.func14, Try.ntmps14
    go_wp2
    go_loopw [5, 13] (fun _ i wr => ∃ k : Nat, i = .int .i64 k ∧ k ≤ a.length ∧ Hid (a.take k = b.take k) ∧ ∃ q, wr = w.drewN q) (fun _ i _ => a.length - (intOf i).toNat)
    case atStart => exact ⟨0, rfl, by omega, rfl, 0, rfl⟩
    case round =>
      obtain ⟨k, rfl, hk, HT, q, rfl⟩ := hrel
      by_cases hlt : k < a.length
      · obtain ⟨b1, o1, c1, e1, _, hB1, hk1⟩ := HA.out.addr' rfl (by omega)
        obtain ⟨b2, o2, c2, e2, _, hB2, hk2⟩ := HB'.out.addr' HL.out (by omega)
        simp only [Value.slice.injEq, true_and] at e1 e2
        obtain ⟨rfl, rfl⟩ := e1
        obtain ⟨rfl, rfl⟩ := e2
        have q1 : w.cell? ⟨b1, o1 + k, none⟩ = some (.string (a.getD k .empty)) := hk1 k hlt
        have q2 : w.cell? ⟨b2, o2 + k, none⟩ = some (.string (b.getD k .empty)) := hk2 k hlt
        have hkI : (k : Int) < (a.length : Int) := by omega
        clear hk1 hk2
        by_cases he : a.getD k .empty = b.getD k .empty
        · have HT' : Hid (a.take (k + 1) = b.take (k + 1)) := takeS_eq HL.out hlt HT.out he
          rw [← he] at q2
          obtain ⟨x, hx⟩ : ∃ x, x = a.getD k .empty := ⟨_, rfl⟩
          rw [← hx] at q1 q2
          clear hx he
          go_wp2
          go_quiet (fail)
          go_wp2
          go_roundw
          case rel => exact ⟨k + 1, by go_num, by omega, HT', _, rfl⟩
          case measure => simp [intOf]; omega
        · have HE : Hid (decide (a = b) = false) := getS_ne he
          obtain ⟨x, hx⟩ : ∃ x, x = a.getD k .empty := ⟨_, rfl⟩
          obtain ⟨y, hy⟩ : ∃ y, y = b.getD k .empty := ⟨_, rfl⟩
          rw [← hx] at q1
          rw [← hy] at q2
          have hne : (x.toList == y.toList) = false := beq_eq_false_iff_ne.2 fun e => he (by rw [← hx, ← hy]; exact toList_inj e)
          have hne2 : (x.toList != y.toList) = true := by simp only [bne, hne]; rfl
          clear hx hy he
          go_wp2
          go_quiet (fail)
          go_wp2
          go_ret
          rw [HE.out]; exact ⟨rfl, _, by first | rfl | exact World.drewN_drewN ..⟩
      · have HE : Hid (decide (a = b) = true) := by
          have := HT.out
          rw [List.take_of_length_le (by omega), List.take_of_length_le (by have := HL.out; omega)] at this
          exact decide_eq_true this
        go_wp2
        go_ret
        rw [HE.out]; exact ⟨rfl, _, rfl⟩
  · have HE : Hid (decide (a = b) = false) := decide_eq_false (fun e => hl (by rw [e]))
    have hne : ((a.length : Int) != (b.length : Int)) = true := by simp; omega
    have hne2 : ((a.length : Int) == (b.length : Int)) = false := by simp; omega
    clear hl HA HB
    go_enter Try.func14, Try.ntmps14
    go_wp2
    go_ret
    rw [HE.out]; exact ⟨rfl, 0, rfl⟩

theorem texts_any (a b : List ByteArray) (va vb : Value) (w : World) (ha : Strs w w.heap.size va a) (hb : Strs w w.heap.size vb b) :
    Calls Try.prog 14 #[va, vb] w (Said (decide (a = b)) w) :=
  (texts_q a b va vb w ha hb).mono fun _ _ ⟨he, n, hn⟩ => ⟨he, hn ▸ below_drewN (Below.refl _ _) n⟩

theorem okL_of {l : List ByteArray} (h : ∀ j, j < l.length → (l.getD j .empty).size ≤ 700 ∧ l.getD j .empty ≠ .empty ∧ (0 < j → lt (l.getD (j - 1) .empty) (l.getD j .empty) = true)) (hl : l.length ≤ 200) : okL l := by
  have step : ∀ d i, i + (d + 1) < l.length → lt (l.getD i .empty) (l.getD (i + (d + 1)) .empty) = true := by
    intro d
    induction d with
    | zero => intro i hi; have := (h (i + 1) hi).2.2 (by omega); simpa using this
    | succ d ih =>
      intro i hi
      have h1 := ih i (by omega)
      have h2 := (h (i + (d + 1 + 1)) hi).2.2 (by omega)
      exact lt_trans h1 (by simpa [show i + (d + 1 + 1) - 1 = i + (d + 1) by omega] using h2)
  refine ⟨List.pairwise_iff_getElem.2 fun i j hi hj hij => ?_, fun s hs => ?_, hl, fun s hs => ?_⟩
  · have := step (j - i - 1) i (by omega)
    rw [show i + (j - i - 1 + 1) = j by omega] at this
    simpa [List.getD, hi, hj] using this
  · obtain ⟨j, hj, rfl⟩ := get_mem hs
    exact (h j hj).2.1
  · obtain ⟨j, hj, rfl⟩ := get_mem hs
    exact (h j hj).1

def Rise (l : List ByteArray) (w : World) (e : Ending) (w' : World) : Prop := ∃ r : Bool, e = .returned (.bool r) ∧ Hid (r = true → okL l) ∧ w = w'
set_option maxHeartbeats 1600000 in
set_option maxRecDepth 100000 in
theorem rising_any (l : List ByteArray) (v : Value) (w : World) (h : Strs w w.heap.size v l) :
    Calls Try.prog 8 #[v] w (Rise l w) := by
  have HC := Lib.hid h
  obtain ⟨ao, cap, rfl, _, hll⟩ := h.form
  unfold maxLen at hll
  clear h
  go_enter Try.func8, Try.ntmps8
  go_wp2
  go_loop [7, 32] (fun i _ => ∃ k : Nat, i = .int .i64 k ∧ k ≤ l.length ∧ Hid (∀ j, j < k → (l.getD j .empty).size ≤ 700 ∧ l.getD j .empty ≠ .empty ∧ (0 < j → lt (l.getD (j - 1) .empty) (l.getD j .empty) = true))) (fun i _ => l.length - (intOf i).toNat)
  case atStart => exact ⟨0, rfl, by omega, fun j hj => absurd hj (Nat.not_lt_zero _)⟩
  case round =>
    obtain ⟨k, rfl, hk, HK⟩ := hrel
    by_cases hlt : k < l.length
    · obtain ⟨b, o, c, e1, _, hB, hcell⟩ := HC.out.addr' rfl (by omega)
      simp only [Value.slice.injEq, true_and] at e1
      obtain ⟨rfl, rfl⟩ := e1
      have q1 := hcell k hlt
      have hkI : (k : Int) < (l.length : Int) := by omega
      obtain ⟨s, hs⟩ : ∃ s, s = l.getD k .empty := ⟨_, rfl⟩
      rw [← hs] at q1
      have HS := Lib.hid hs
      clear hs
      have HF : Hid (false = true → okL l) := fun e => by cases e
      by_cases h7 : 700 < s.size
      · clear hcell
        go_wp2
        go_ret
        exact ⟨false, rfl, HF.out, rfl⟩
      · by_cases h0 : s.size = 0
        · have hse : s = .empty := kit.bytes_inj (List.eq_nil_of_length_eq_zero (by rw [kit.bytes_len, h0]))
          subst hse
          clear hcell
          go_wp2
          go_ret
          exact ⟨false, rfl, HF.out, rfl⟩
        · obtain ⟨n1, n2, n3⟩ := kit.ne_empty (s := s) (by omega)
          have HSE : Hid (s ≠ .empty) := n3
          by_cases hk0 : k = 0
          · have HK' : Hid (∀ j, j < k + 1 → (l.getD j .empty).size ≤ 700 ∧ l.getD j .empty ≠ .empty ∧ (0 < j → lt (l.getD (j - 1) .empty) (l.getD j .empty) = true)) := fun j hj => by
              have e : j = k := by omega
              rw [e, ← HS.out]
              exact ⟨by omega, HSE.out, fun h => by omega⟩
            subst hk0
            rw [Nat.add_zero] at q1
            clear hcell
            go_wp2
            go_round
            case rel => exact ⟨1, rfl, by omega, HK'⟩
            case measure => simp [intOf]; omega
          · have q2 := hcell (k - 1) (by omega)
            obtain ⟨t, ht⟩ : ∃ t, t = l.getD (k - 1) .empty := ⟨_, rfl⟩
            rw [← ht] at q2
            have HTt := Lib.hid ht
            clear hcell ht
            have hkp : 0 < k := by omega
            cases hc : Op.bytesLess t.toList s.toList with
            | true =>
              have HK' : Hid (∀ j, j < k + 1 → (l.getD j .empty).size ≤ 700 ∧ l.getD j .empty ≠ .empty ∧ (0 < j → lt (l.getD (j - 1) .empty) (l.getD j .empty) = true)) := fun j hj => by
                by_cases e : j = k
                · rw [e, ← HS.out, ← HTt.out]
                  exact ⟨by omega, HSE.out, fun _ => hc⟩
                · exact HK.out j (by omega)
              go_wp2
              go_round
              case rel => exact ⟨k + 1, by go_num, by omega, HK'⟩
              case measure => simp [intOf]; omega
            | false =>
              go_wp2
              go_ret
              exact ⟨false, rfl, HF.out, rfl⟩
    · obtain ⟨r, hr⟩ : ∃ r, r = decide (l.length ≤ 200) := ⟨_, rfl⟩
      have HR : Hid (r = true → okL l) := fun e => okL_of (fun j hj => HK.out j (by omega)) (of_decide_eq_true (by rw [← hr, e]))
      have hr2 : decide (l.length ≤ 200) = r := hr.symm
      have hr3 : decide ((l.length : Int) ≤ 200) = r := by rw [hr]; exact decide_eq_decide.2 (by omega)
      clear hr
      go_wp2
      go_ret
      exact ⟨r, rfl, HR.out, rfl⟩
end Go.Proofs.Ytilnmfbimfmacaa
