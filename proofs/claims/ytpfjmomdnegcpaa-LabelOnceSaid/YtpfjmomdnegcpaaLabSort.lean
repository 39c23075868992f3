/-
  label (02): the closure of Canon's slices.SortFunc, and that sort at 12 labels or fewer (by the verifier, an AI agent).
-/
import Derived.Test.YtpfjmomdnegcpaaShelf
import Derived.Test.YtpfjmomdnegcpaaKit
namespace Go.Proofs.Ytpfjmomdnegcpaa.lb
open Go Go.Shelf Go.RowKit Go.Lib Go.Sort

/-- A label's two cells. -/
def enc (x : ByteArray × ByteArray) : List Value := [.string x.1, .string x.2]
/-- What the closure answers. -/
def cf (x y : ByteArray × ByteArray) : Int := Lib.compareBytes x.1.data.toList y.1.data.toList

set_option maxHeartbeats 1000000 in
/-- THE CLOSURE OF Canon, in whatever world: it may lay blocks. -/
theorem closure (x y : ByteArray × ByteArray) (W : World) : Calls Try.prog 28 #[.agg #[.string x.1, .string x.2], .agg #[.string y.1, .string y.2]] W fun e w' => e = .returned (.int .i64 (cf x y)) ∧ ∃ q os', w' = grow (W.drewN q) os' := by
  have hcon := fun W' => Try.strings_Compare x.1 y.1 W'
  unfold cf
  generalize Lib.compareBytes x.1.data.toList y.1.data.toList = r at hcon ⊢
  go_enter Try.func28, Try.ntmps28
  go_wp2_with (go_at_call 29; refine (hcon _).mono ?_; rintro e w' ⟨rfl, rfl⟩)
  go_ret
  exact ⟨rfl, 0, _, by rw [alloc_eq_grow, alloc_eq_grow, grow_grow]; rfl⟩

theorem cmpLays (blk off size : Nat) (w : World) : CmpLays Try.prog 28 #[] enc 2 cf blk off size w :=
  fun _ _ _ _ x y => closure x y _

theorem hlen (n : Nat) (W : World) (h : n ≤ 12) : Calls Try.prog 37 #[.int .u64 n] W fun e w' => (∃ l : Int, e = .returned (.int .i64 l)) ∧ w' = W :=
  (Try.bits_Len n W (by omega) (by omega)).mono fun _ _ ⟨he, hw⟩ => ⟨⟨_, he⟩, hw⟩

set_option maxHeartbeats 1000000 in
/-- THE SORT, at 12 labels or fewer: as the insertion sort lays them. -/
theorem sortFunc (blk off cap : Nat) (d : Array (ByteArray × ByteArray)) (w : World) (hH : HoldsK enc 2 w blk off d) (hblk : blk < w.heap.size) (h12 : d.size ≤ 12) :
    Calls Try.prog 27 #[.slice (some ⟨blk, off, none⟩) d.size cap, .func (.func 28) #[] #[]] w fun e w' => e = .returned (.tuple #[]) ∧ ∃ n os, w' = sortWorldK enc 2 w blk off n (Sort.insertionSort (ltOf cf) d 0 d.size) os := by
  have eg : ∀ args w, (callFunc 28 args).run Try.prog w = .ok (.enter 28 args) w := enters_of Try.func28 (by kernel_rfl) rfl
  have hcon := AnyQ.slices_SortFunc_small Try.sortLab 2 Try.isAgg38 Try.sizeOf38 enc (fun _ => rfl) (fun x v hv => by simp [enc] at hv; rcases hv with rfl | rfl <;> rfl) cf 28 #[] blk off cap d w eg (cmpLays blk off d.size w) hH hblk h12 hlen
  exact hcon
#print axioms sortFunc
end Go.Proofs.Ytpfjmomdnegcpaa.lb
