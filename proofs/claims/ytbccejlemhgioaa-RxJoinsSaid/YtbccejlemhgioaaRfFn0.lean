/- the reader of any pattern: fail, next, meets, special, digit. -/
import Derived.Test.YtbccejlemhgioaaRxFn2
import Derived.Test.YtbccejlemhgioaaRfLem
namespace Go.Proofs.Ytbccejlemhgioaa
open Go Go.RowKit Go.ChangeShapes cl rx
open rf
/-- the reader's variable -/
def RdT (q : Nat) (S : ByteArray) (dp : Int) (t : T) (W : World) : Prop := Rd q S (t.up dp) W
theorem RdT.next {q : Nat} {S : ByteArray} {dp : Int} {t : T} {W W' : World} (h : RdT q S dp t W) (hb : Below W.heap.size W W') : RdT q S dp t W' := Rd.next h hb
theorem RdT.keep {q p : Nat} {S : ByteArray} {dp : Int} {t : T} {W W' : World} (h : RdT q S dp t W) (hk : KX p W W') (hp : q ≠ p) : RdT q S dp t W' := Rd.keep h hk hp
theorem RdT.box {q : Nat} {S : ByteArray} {dp : Int} {t : T} {W : World} (h : RdT q S dp t W) : W.heap[q]? = some (.cells #[.string S, .int .i64 (t.p : Int), .int .i64 dp, .int .i64 t.wr, .int .i64 t.co] 44) := h
def RKT (q : Nat) (S : ByteArray) (dp : Int) (t : T) (w w' : World) : Prop := RdT q S dp t w' ∧ KX q w w'
/-- .. with a pattern -/
def RfA (d q : Nat) (S : ByteArray) (dp : Int) (r : Pat × T) (w : World) (e : Ending) (w' : World) : Prop :=
  ∃ c, e = .returned (.agg (List.toArray c)) ∧ Fre w.heap.size w' (fun W => rxR d W W.heap.size c r.1) ∧ RKT q S dp r.2 w w'
theorem up_fail (t : T) (dp a b : Int) : (t.up dp).fail a b = (t.fail a b).up dp := by
  unfold St.fail T.fail T.up
  by_cases h : t.co = 0
  · rw [if_pos h, if_pos h]
  · rw [if_neg h, if_neg h]
theorem up_nxt (s : List Nat) (t : T) (dp : Int) : rx.nxt s (t.up dp) = rf.nxt s t := rfl
theorem up_meets (s : List Nat) (c : Nat) (t : T) (dp : Int) : rx.meets s c (t.up dp) = ((rf.meets s c t).1, (rf.meets s c t).2.up dp) := by
  unfold rx.meets rf.meets
  rw [up_nxt]
  split <;> rfl
theorem rf_fail (q : Nat) (S : ByteArray) (dp : Int) (t : T) (z co : Int) (w : World) (h : RdT q S dp t w) : Calls Try.prog 21 #[.pointer (some ⟨q, 0, none⟩), .int .i64 z, .int .i64 co] w (fun e w' => e = .returned (.tuple #[]) ∧ RKT q S dp (t.fail z co) w w') := by
  refine (rx_fail q S (t.up dp) z co w h).mono fun e w' => ?_
  rw [up_fail]
  exact id
theorem rf_next (q : Nat) (S : ByteArray) (dp : Int) (t : T) (w : World) (h : RdT q S dp t w) (hS : S.size ≤ 60) : Calls Try.prog 35 #[.pointer (some ⟨q, 0, none⟩)] w (fun e w' => e = .returned (.tuple #[.int .u8 (((rf.nxt (kit.bytes S) t).getD 0 : Nat) : Int), .bool (rf.nxt (kit.bytes S) t).isSome]) ∧ Below w.heap.size w w') := rx_next q S (t.up dp) w h hS
theorem rf_meets (q : Nat) (S : ByteArray) (dp : Int) (t : T) (c : Nat) (w : World) (h : RdT q S dp t w) (hS : S.size ≤ 60) : Calls Try.prog 27 #[.pointer (some ⟨q, 0, none⟩), .int .u8 c] w (fun e w' => e = .returned (.bool (rf.meets (kit.bytes S) c t).1) ∧ RKT q S dp (rf.meets (kit.bytes S) c t).2 w w') := by
  refine (rx_meets q S (t.up dp) c w h hS).mono fun e w' => ?_
  rw [up_meets]
  exact id
theorem rf_nxt_lt {S : ByteArray} {t : T} {c : Nat} (h : rf.nxt (kit.bytes S) t = some c) : t.co = 0 ∧ t.p < S.size ∧ c < 256 := by
  obtain ⟨h1, h2, h3⟩ := rf.nxt_some h
  have hl : (kit.bytes S).length = S.size := by simp [kit.bytes]
  exact ⟨h1, by omega, kit.bytes_lt S c (List.mem_of_getElem? h2)⟩
set_option maxRecDepth 100000 in
theorem spB_spc : ∀ c : Nat, c < 256 → spB c = spc c := by decide +kernel
set_option maxRecDepth 100000 in
theorem dig_ix : ∀ c : Nat, c < 256 → Lib.indexByte [48, 49, 50, 51, 52, 53, 54, 55, 56, 57, 97, 98, 99, 100, 101, 102] (c : Int).toNat.toUInt8 = dig c := by decide +kernel
theorem rf_special (c : Nat) (w : World) (hc : c < 256) : Calls Try.prog 49 #[.int .u8 c] w (fun e w' => e = .returned (.bool (spc c)) ∧ w' = w) := by
  rw [← spB_spc c hc]
  exact rx_special c w
theorem rf_digit (c : Nat) (w : World) (hc : c < 256) : Calls Try.prog 59 #[.int .u8 c] w (fun e w' => e = .returned (.int .i64 (dig c)) ∧ w' = w) := by
  have HI := Lib.hid (Try.strings_IndexByte ⟨#[48, 49, 50, 51, 52, 53, 54, 55, 56, 57, 97, 98, 99, 100, 101, 102]⟩ (c : Int) w)
  obtain ⟨z, hz⟩ : ∃ z, z = dig c := ⟨_, rfl⟩
  have HZ : Hid (Calls Try.prog 60 #[.string ⟨#[48, 49, 50, 51, 52, 53, 54, 55, 56, 57, 97, 98, 99, 100, 101, 102]⟩, .int .u8 c] w (fun e w' => e = .returned (.int .i64 z) ∧ w' = w)) := by rw [hz, ← dig_ix c hc]; exact HI.out
  rw [← hz]
  clear HI hz
  go_enter Try.func59, Try.ntmps59
  go_wp2_with fail
  (with_reducible refine HZ.out.mono ?_)
  rintro e3 w3 ⟨rfl, rfl⟩
  go_wp2
  go_ret
  exact ⟨rfl, rfl⟩
end Go.Proofs.Ytbccejlemhgioaa
