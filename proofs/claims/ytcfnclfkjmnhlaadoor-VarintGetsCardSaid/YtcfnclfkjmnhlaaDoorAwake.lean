/- varint.Digits by its contract (the library's Itoa off the shelf); the law's own example, awake. -/
import Derived.Test.YtcfnclfkjmnhlaaDoorText
import Derived.Test.YtcfnclfkjmnhlaaDoorNumber
import Derived.Test.YtcfnclfkjmnhlaaDoorShelf
import Derived.WalkSmall
namespace Go.Proofs.YtcfnclfkjmnhlaaDoor
open Go.RowKit Go.ChangeShapes Go.Sort

/-- the library's table of powers of ten is there -/
def Tab (w : World) : Prop := Lib.TabIs Tryd.prog w "internal/strconv.uint64pow10" .u64 Lib.pow10Tab
theorem gPow : Tryd.prog.globalNamed "internal/strconv.uint64pow10" = some 0 := by kernel_rfl
theorem Tab.lt {w : World} (h : Tab w) : 0 < w.heap.size := by
  unfold Tab Lib.TabIs World.var? at h
  simp only [gPow, Option.bind_some] at h
  cases hh : w.heap[0]? with
  | none => rw [hh] at h; simp at h
  | some o => exact (Array.getElem?_eq_some_iff.1 hh).1
theorem Tab.below {B : Nat} {w w' : World} (h : Tab w) (hb : Below B w w') (hB : w.heap.size ≤ B) : Tab w' :=
  var?_below hb gPow (Nat.lt_of_lt_of_le h.lt hB) h

theorem below_grow (w : World) (k : Nat) (os : Array Obj) : Below w.heap.size w (grow (w.drewN k) os) :=
  ⟨rfl, rfl, rfl, by simp [grow], fun i hi => by simp only [grow]; exact Array.getElem?_append_left hi⟩

def DigitsOk (n : Int) (w : World) (e : Ending) (w' : World) : Prop := e = .returned (.string ⟨(Lib.itoa n).toArray⟩) ∧ Below w.heap.size w w'
theorem digits_any (n : Int) (w : World) (h0 : -9223372036854775808 ≤ n) (h1 : n ≤ 9223372036854775807) (ht : Tab w) :
    Calls Tryd.prog 22 #[.int .i64 n] w (DigitsOk n w) := by
  have hc := Tryd.strconv_Itoa n h0 h1 w ht
  clear h0 h1
  go_enter Tryd.func22, Tryd.ntmps22
  go_wp2_with (go_at_call 25; refine hc.mono ?_; rintro e w' ⟨rfl, k, os, rfl⟩)
  go_ret
  exact ⟨rfl, below_grow w k os⟩

theorem s300 : kit.str (vm.enc 300) = ⟨#[172, 2]⟩ := by
  rw [vm.enc_ge (by decide), vm.enc_lt (by decide)]; decide
theorem put_300 (w : World) : Calls Tryd.prog 12 #[.int .i64 300] w fun e w' => e = .returned (.tuple #[.string ⟨#[172, 2]⟩, .int .i64 0]) ∧ Below w.heap.size w w' := by
  have := put_ok 300 w (by decide)
  unfold PutOk at this
  rw [s300] at this
  exact this
theorem e300 : vm.get (kit.bytes (⟨#[120]⟩ ++ ⟨#[172, 2]⟩)) ((1 : Nat) : Int) = (300, 3, 0) := by
  have h2 : vm.enc 300 = [172, 2] := by rw [vm.enc_ge (by decide), vm.enc_lt (by decide)]
  have := vm.get_back (kit.bytes (⟨#[120]⟩ ++ ⟨#[172, 2]⟩)) 1 300 [] (by rw [h2]; decide) (by decide) (by decide)
  rw [h2] at this
  exact this
theorem get_300 (w : World) : Calls Tryd.prog 16 #[.string (⟨#[120]⟩ ++ ⟨#[172, 2]⟩), .int .i64 1] w fun e w' => e = .returned (.tuple #[.int .i64 300, .int .i64 3, .int .i64 0]) ∧ w = w' := by
  have := get_any (⟨#[120]⟩ ++ ⟨#[172, 2]⟩) ((1 : Nat) : Int) w (by decide)
  rw [e300] at this
  exact this
theorem text_ab (w : World) : Calls Tryd.prog 18 #[.string ⟨#[2, 97, 98, 99]⟩, .int .i64 0] w fun e w' => e = .returned (.tuple #[.string ⟨#[97, 98]⟩, .int .i64 3, .int .i64 0]) ∧ w = w' := by
  have := getText_any ⟨#[2, 97, 98, 99]⟩ 0 w (by decide)
  have e : vm.get (kit.bytes ⟨#[2, 97, 98, 99]⟩) 0 = (2, 1, 0) := by
    have h2 : vm.enc 2 = [2] := vm.enc_lt (by decide)
    have := vm.get_back (kit.bytes ⟨#[2, 97, 98, 99]⟩) 0 2 [97, 98, 99] (by rw [h2]; decide) (by decide) (by decide)
    rw [h2] at this
    exact this
  rw [vm.getText_ok e (by decide) (by decide)] at this
  exact this
theorem digits_40 (w : World) (ht : Tab w) : Calls Tryd.prog 22 #[.int .i64 (-40)] w fun e w' => e = .returned (.string ⟨#[45, 52, 48]⟩) ∧ Below w.heap.size w w' := by
  have := digits_any (-40) w (by decide) (by decide) ht
  unfold DigitsOk at this
  have e : Lib.itoa (-40) = [45, 52, 48] := by
    have h : Lib.decDigits 40 = [52, 48] := by rw [Lib.decDigits_two (by decide) (by decide)]; decide
    rw [show Lib.itoa (-40) = 45 :: Lib.decDigits 40 from rfl, h]
  rw [e] at this
  exact this

set_option maxHeartbeats 800000 in
set_option maxRecDepth 100000 in
theorem awake_any (w : World) (ht : Tab w) :
    Calls Tryd.prog 11 #[] w fun e w' => e = .returned (.bool true) ∧ Below w.heap.size w w' := by
  go_enter Tryd.func11, Tryd.ntmps11
  go_wp2_with (first | (go_at_call 12; refine (put_300 _).mono ?_; rintro e w1 ⟨rfl, hb⟩; have hw1 := ht.below hb (Nat.le_refl _)) | (go_at_call 16; refine (get_300 _).mono ?_; rintro e w' ⟨rfl, rfl⟩) | (go_at_call 18; refine (text_ab _).mono ?_; rintro e w' ⟨rfl, rfl⟩) | (go_at_call 22; refine (digits_40 _ (by assumption)).mono ?_; rintro e w' ⟨rfl, hb2⟩))
  go_ret
  exact ⟨rfl, hb.trans (hb2.mono hb.size)⟩
end Go.Proofs.YtcfnclfkjmnhlaaDoor
