/- the document's In. -/
import Derived.Test.YtbccejlemhgioaaRxCls
namespace Go.Proofs.Ytbccejlemhgioaa
open Go Go.RowKit Go.ChangeShapes cl rx
theorem and63 (c : Nat) (hc : c < 256) : bits .and .u8 (c : Int) 63 = ((c % 64 : Nat) : Int) := by
  have h : ∀ c : Fin 256, bits .and .u8 ((c : Nat) : Int) 63 = (((c : Nat) % 64 : Nat) : Int) := by decide +kernel
  exact h ⟨c, hc⟩
set_option maxHeartbeats 3200000 in
set_option maxRecDepth 100000 in
theorem rrx_in (k : Cls) (c : Nat) (w : World) (hk : k.ok) (hc : c < 256) : Calls Try.prog 14 #[.agg #[.int .u64 k.a, .int .u64 k.b, .int .u64 k.c, .int .u64 k.d], .int .u8 c] w (fun e w' => e = .returned (.bool (k.has c)) ∧ Below w.heap.size w w') := by
  obtain ⟨ka, kb, kc, kd⟩ := hk
  have ea := and63 c hc
  rcases (by omega : c < 64 ∨ (64 ≤ c ∧ c < 128) ∨ (128 ≤ c ∧ c < 192) ∨ 192 ≤ c) with h | h | h | h
  · -- the word 0
    have e1 : (c : Int) / 64 = 0 := by omega
    obtain ⟨r, hr⟩ : ∃ r, r = c % 64 := ⟨_, rfl⟩
    rw [← hr] at ea
    have hrl : r < 64 := by omega
    have hw : IntKind.u64.wrap (r : Int) = (r : Int) := IntWalk.u64_in _ ⟨by omega, by omega⟩
    have HK : Hid (k.has c = (bits .and .u64 ((k.a : Int) / 2 ^ r) 1 == 1)) := by
      show _ = _
      rw [bit_u64 (by assumption)]
      unfold Cls.has Cls.wd
      rw [← hr]
      rw [if_pos (by omega)]
    clear hr
    go_enter Try.func14, Try.ntmps14
    go_wp2
    go_ret
    exact ⟨by rw [HK.out]; rfl, below1⟩
  · -- the word 1
    have e1 : (c : Int) / 64 = 1 := by omega
    obtain ⟨r, hr⟩ : ∃ r, r = c % 64 := ⟨_, rfl⟩
    rw [← hr] at ea
    have hrl : r < 64 := by omega
    have hw : IntKind.u64.wrap (r : Int) = (r : Int) := IntWalk.u64_in _ ⟨by omega, by omega⟩
    have HK : Hid (k.has c = (bits .and .u64 ((k.b : Int) / 2 ^ r) 1 == 1)) := by
      show _ = _
      rw [bit_u64 (by assumption)]
      unfold Cls.has Cls.wd
      rw [← hr]
      rw [if_neg (by omega), if_pos (by omega)]
    clear hr
    go_enter Try.func14, Try.ntmps14
    go_wp2
    go_ret
    exact ⟨by rw [HK.out]; rfl, below1⟩
  · -- the word 2
    have e1 : (c : Int) / 64 = 2 := by omega
    obtain ⟨r, hr⟩ : ∃ r, r = c % 64 := ⟨_, rfl⟩
    rw [← hr] at ea
    have hrl : r < 64 := by omega
    have hw : IntKind.u64.wrap (r : Int) = (r : Int) := IntWalk.u64_in _ ⟨by omega, by omega⟩
    have HK : Hid (k.has c = (bits .and .u64 ((k.c : Int) / 2 ^ r) 1 == 1)) := by
      show _ = _
      rw [bit_u64 (by assumption)]
      unfold Cls.has Cls.wd
      rw [← hr]
      rw [if_neg (by omega), if_neg (by omega), if_pos (by omega)]
    clear hr
    go_enter Try.func14, Try.ntmps14
    go_wp2
    go_ret
    exact ⟨by rw [HK.out]; rfl, below1⟩
  · -- the word 3
    have e1 : (c : Int) / 64 = 3 := by omega
    obtain ⟨r, hr⟩ : ∃ r, r = c % 64 := ⟨_, rfl⟩
    rw [← hr] at ea
    have hrl : r < 64 := by omega
    have hw : IntKind.u64.wrap (r : Int) = (r : Int) := IntWalk.u64_in _ ⟨by omega, by omega⟩
    have HK : Hid (k.has c = (bits .and .u64 ((k.d : Int) / 2 ^ r) 1 == 1)) := by
      show _ = _
      rw [bit_u64 (by assumption)]
      unfold Cls.has Cls.wd
      rw [← hr]
      rw [if_neg (by omega), if_neg (by omega), if_neg (by omega)]
    clear hr
    go_enter Try.func14, Try.ntmps14
    go_wp2
    go_ret
    exact ⟨by rw [HK.out]; rfl, below1⟩
end Go.Proofs.Ytbccejlemhgioaa
