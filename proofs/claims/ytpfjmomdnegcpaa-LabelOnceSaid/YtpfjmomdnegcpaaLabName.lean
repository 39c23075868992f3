/- label: which texts are names and values; the program's and the document's. -/
import Derived.Test.YtpfjmomdnegcpaaRows
import Derived.Test.YtpfjmomdnegcpaaKit
import Derived.Lib.OthersKept
import Derived.Laws.RangeAny
namespace Go.Proofs.Ytpfjmomdnegcpaa.lb
/-- the first k bytes may be in a name -/
def NmOk (s : ByteArray) (k : Nat) : Prop := ∀ i, i < k → ((97 ≤ (kit.bytes s).getD i 0 ∧ (kit.bytes s).getD i 0 ≤ 122) ∨ (kit.bytes s).getD i 0 = 95) ∨ (48 ≤ (kit.bytes s).getD i 0 ∧ (kit.bytes s).getD i 0 ≤ 57 ∧ 0 < i)
instance (s : ByteArray) (k : Nat) : Decidable (NmOk s k) := inferInstanceAs (Decidable (∀ i, i < k → _))
def isName (s : ByteArray) : Bool := decide (1 ≤ s.size ∧ s.size ≤ 16 ∧ NmOk s s.size)
def VlOk (s : ByteArray) (k : Nat) : Prop := ∀ i, i < k → 32 ≤ (kit.bytes s).getD i 0 ∧ (kit.bytes s).getD i 0 ≤ 126
instance (s : ByteArray) (k : Nat) : Decidable (VlOk s k) := inferInstanceAs (Decidable (∀ i, i < k → _))
def isVal (s : ByteArray) : Bool := decide (s.size ≤ 32 ∧ VlOk s s.size)
theorem byte_at (s : ByteArray) (k : Nat) (h : k < s.size) : (kit.bytes s).getD k 0 = s[k].toNat := by
  simp only [List.getD, kit.bytes_get s k h, Option.getD_some]
theorem nm_succ {s : ByteArray} {k : Nat} (h : NmOk s k) (h2 : ((97 ≤ (kit.bytes s).getD k 0 ∧ (kit.bytes s).getD k 0 ≤ 122) ∨ (kit.bytes s).getD k 0 = 95) ∨ (48 ≤ (kit.bytes s).getD k 0 ∧ (kit.bytes s).getD k 0 ≤ 57 ∧ 0 < k)) : NmOk s (k + 1) := by
  intro i hi
  by_cases e : i = k
  · subst e; exact h2
  · exact h i (by omega)
theorem vl_succ {s : ByteArray} {k : Nat} (h : VlOk s k) (h2 : 32 ≤ (kit.bytes s).getD k 0 ∧ (kit.bytes s).getD k 0 ≤ 126) : VlOk s (k + 1) := by
  intro i hi
  by_cases e : i = k
  · subst e; exact h2
  · exact h i (by omega)
end Go.Proofs.Ytpfjmomdnegcpaa.lb
namespace Go.Proofs.Ytpfjmomdnegcpaa
open Go.RowKit Go.ChangeShapes

def Said (x : Bool) (w : World) (e : Ending) (w' : World) : Prop := e = .returned (.bool x) ∧ Below w.heap.size w w'
theorem below_drewN {B : Nat} {w w' : World} (h : Below B w w') (n : Nat) : Below B w (w'.drewN n) := by
  induction n with
  | zero => exact h
  | succ n ih => exact ih.drew

set_option maxHeartbeats 3200000 in
set_option maxRecDepth 100000 in
theorem isname_any (s : ByteArray) (w : World) (hs : s.size ≤ maxLen) :
    Calls Try.prog 10 #[.string s] w (Said (lb.isName s) w) := by
  unfold maxLen at hs
  have HE : Hid (lb.isName s = decide (1 ≤ s.size ∧ s.size ≤ 16 ∧ lb.NmOk s s.size)) := rfl
  obtain ⟨R, hR⟩ : ∃ R, R = lb.isName s := ⟨_, rfl⟩
  rw [← hR] at HE ⊢
  clear hR
  by_cases h1 : s.size < 1
  · have HR : Hid (R = false) := by show _ = _; rw [HE.out]; exact decide_eq_false (fun h => by omega)
    have h1I : (s.size : Int) < 1 := by omega
    go_enter Try.func10, Try.ntmps10
    go_wp2
    go_ret
    rw [HR.out]; exact ⟨rfl, Below.refl _ _⟩
  have h1I : ¬ (s.size : Int) < 1 := by omega
  by_cases h2 : 16 < s.size
  · have HR : Hid (R = false) := by show _ = _; rw [HE.out]; exact decide_eq_false (fun h => by omega)
    have h2I : (16 : Int) < (s.size : Int) := by omega
    go_enter Try.func10, Try.ntmps10
    go_wp2
    go_ret
    rw [HR.out]; exact ⟨rfl, Below.refl _ _⟩
  have h2I : ¬ (16 : Int) < (s.size : Int) := by omega
  have hb0 : Below w.heap.size w (w.iter s 0) := (Below.refl _ _).alloc (Nat.le_refl _) _
  go_enter Try.func10, Try.ntmps10
  go_wp2
  go_loopw [] (fun wr => ∃ pos : Nat, wr.heap[w.heap.size]? = some (.stringIter s pos) ∧ pos ≤ s.size ∧ Hid (lb.NmOk s pos) ∧ Below w.heap.size w wr) (fun wr => s.size - wr.iterPos w.heap.size)
  case atStart => exact ⟨0, World.iter_heap w s 0, Nat.zero_le _, fun i hi => absurd hi (Nat.not_lt_zero _), hb0⟩
  case round =>
    obtain ⟨pos, hit, hps, HNM, hbl⟩ := hrel
    have hsz : w.heap.size < wr.heap.size := (Array.getElem?_eq_some_iff.1 hit).1
    by_cases hp : pos < s.size
    · have HBT := Lib.hid (lb.byte_at s pos hp)
      by_cases ha : (s[pos]'hp).toNat < 128
      · have hnx : ∀ ty, (Instr.next (.pointer (some ⟨w.heap.size, 0, none⟩)) true ty).run Try.prog wr = _ := fun ty => Lib.run_next_ascii_at wr w.heap.size s pos ty hit hp ha
        have hit2 := Lib.iterAt_heap wr w.heap.size s pos (pos + 1) hit
        have hbw2 := Lib.below_iterAt hbl (k := w.heap.size) (by omega) s (pos + 1)
        have HBAD : Hid (¬ (((97 ≤ (s[pos]'hp).toNat ∧ (s[pos]'hp).toNat ≤ 122) ∨ (s[pos]'hp).toNat = 95) ∨ (48 ≤ (s[pos]'hp).toNat ∧ (s[pos]'hp).toNat ≤ 57 ∧ 0 < pos)) → R = false) := fun hn => by
          rw [HE.out]
          refine decide_eq_false (fun h => hn ?_)
          have := h.2.2 pos hp
          rw [HBT.out] at this; exact this
        have HGOOD : Hid ((((97 ≤ (s[pos]'hp).toNat ∧ (s[pos]'hp).toNat ≤ 122) ∨ (s[pos]'hp).toNat = 95) ∨ (48 ≤ (s[pos]'hp).toNat ∧ (s[pos]'hp).toNat ≤ 57 ∧ 0 < pos)) → lb.NmOk s (pos + 1)) := fun hg => lb.nm_succ HNM.out (by rw [HBT.out]; exact hg)
        have HM : Hid (s.size - (wr.iterAt w.heap.size s (pos + 1)).iterPos w.heap.size < s.size - wr.iterPos w.heap.size) := by
          show _ < _
          simp only [World.iterPos, hit2, hit]; omega
        obtain ⟨b, hb⟩ : ∃ b, b = (s[pos]'hp).toNat := ⟨_, rfl⟩
        rw [← hb] at hnx HBAD HGOOD ha
        clear hb
        have hb0I : (0 : Int) ≤ (b : Int) := by omega
        rcases (by omega : (97 ≤ b ∧ b ≤ 122) ∨ b = 95 ∨ (48 ≤ b ∧ b ≤ 57 ∧ 0 < pos) ∨ (48 ≤ b ∧ b ≤ 57 ∧ pos = 0) ∨ b < 48 ∨ (57 < b ∧ b < 97 ∧ b ≠ 95) ∨ 122 < b) with hc | hc | hc | hc | hc | hc | hc
        · have HG := Lib.hid (HGOOD.out (by omega))
          have g0 : (97 : Int) ≤ (b : Int) := by omega
          have g1 : (b : Int) ≤ 122 := by omega
          clear hc
          go_wp2
          go_roundw
          case rel => exact ⟨pos + 1, hit2, by omega, HG.out, hbw2⟩
          case measure => exact HM.out
        · have HG := Lib.hid (HGOOD.out (by omega))
          subst hc
          go_wp2
          go_roundw
          case rel => exact ⟨pos + 1, hit2, by omega, HG.out, hbw2⟩
          case measure => exact HM.out
        · have HG := Lib.hid (HGOOD.out (by omega))
          have g0 : ¬ (97 : Int) ≤ (b : Int) := by omega
          have g1 : ((b : Int) == 95) = false := by simp; omega
          have g2 : (48 : Int) ≤ (b : Int) := by omega
          have g3 : (b : Int) ≤ 57 := by omega
          have g4 : 0 < pos := by omega
          clear hc
          go_wp2
          go_roundw
          case rel => exact ⟨pos + 1, hit2, by omega, HG.out, hbw2⟩
          case measure => exact HM.out
        · have HR := Lib.hid (HBAD.out (by omega))
          have g0 : ¬ (97 : Int) ≤ (b : Int) := by omega
          have g1 : ((b : Int) == 95) = false := by simp; omega
          have g2 : (48 : Int) ≤ (b : Int) := by omega
          have g3 : (b : Int) ≤ 57 := by omega
          have g4 : ¬ 0 < pos := by omega
          clear hc
          go_wp2
          go_ret
          rw [HR.out]; exact ⟨rfl, hbw2⟩
        · have HR := Lib.hid (HBAD.out (by omega))
          have g0 : ¬ (97 : Int) ≤ (b : Int) := by omega
          have g1 : ((b : Int) == 95) = false := by simp; omega
          have g2 : ¬ (48 : Int) ≤ (b : Int) := by omega
          clear hc
          go_wp2
          go_ret
          rw [HR.out]; exact ⟨rfl, hbw2⟩
        · have HR := Lib.hid (HBAD.out (by omega))
          have g0 : ¬ (97 : Int) ≤ (b : Int) := by omega
          have g1 : ((b : Int) == 95) = false := by simp; omega
          have g2 : (48 : Int) ≤ (b : Int) := by omega
          have g3 : ¬ (b : Int) ≤ 57 := by omega
          clear hc
          go_wp2
          go_ret
          rw [HR.out]; exact ⟨rfl, hbw2⟩
        · have HR := Lib.hid (HBAD.out (by omega))
          have g0 : (97 : Int) ≤ (b : Int) := by omega
          have g1 : ¬ (b : Int) ≤ 122 := by omega
          have g2 : ((b : Int) == 95) = false := by simp; omega
          have g3 : (48 : Int) ≤ (b : Int) := by omega
          have g4 : ¬ (b : Int) ≤ 57 := by omega
          clear hc
          go_wp2
          go_ret
          rw [HR.out]; exact ⟨rfl, hbw2⟩
      · have hnx : ∀ ty, (Instr.next (.pointer (some ⟨w.heap.size, 0, none⟩)) true ty).run Try.prog wr = _ := fun ty => Lib.run_next_any_at wr w.heap.size s pos ty hit hp
        have hh := (decode_high s pos hp (by omega)).1
        obtain ⟨r, hr⟩ : ∃ r, r = (Utf8.decode s pos).1 := ⟨_, rfl⟩
        obtain ⟨d, hd⟩ : ∃ d, d = (Utf8.decode s pos).2 := ⟨_, rfl⟩
        rw [← hr, ← hd] at hnx
        rw [← hr] at hh
        have hbw2 := Lib.below_iterAt hbl (k := w.heap.size) (by omega) s (pos + d)
        have HR : Hid (R = false) := by
          show _ = _
          rw [HE.out]
          refine decide_eq_false (fun h => ?_)
          have := h.2.2 pos hp
          rw [HBT.out] at this; omega
        have g1 : (97 : Int) ≤ (r : Int) := by omega
        have g2 : ¬ (r : Int) ≤ 122 := by omega
        have g3 : ((r : Int) == 95) = false := by simp; omega
        have g4 : (48 : Int) ≤ (r : Int) := by omega
        have g5 : ¬ (r : Int) ≤ 57 := by omega
        clear hr hd hh
        go_wp2
        go_ret
        rw [HR.out]; exact ⟨rfl, hbw2⟩
    · have hnx : ∀ ty, (Instr.next (.pointer (some ⟨w.heap.size, 0, none⟩)) true ty).run Try.prog wr = _ := fun ty => Lib.run_next_end_at wr w.heap.size s pos ty hit hp
      obtain rfl : pos = s.size := by omega
      have HR : Hid (R = true) := by show _ = _; rw [HE.out]; exact decide_eq_true ⟨by omega, by omega, HNM.out⟩
      go_wp2
      go_ret
      rw [HR.out]; exact ⟨rfl, hbl⟩
end Go.Proofs.Ytpfjmomdnegcpaa
