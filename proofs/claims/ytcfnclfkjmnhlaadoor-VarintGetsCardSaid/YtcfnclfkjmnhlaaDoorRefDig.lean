/- gleanerref01.Digits by its contract: as the program's. -/
import Derived.Test.YtcfnclfkjmnhlaaDoorLawDig
import Derived.Laws.Concat
namespace Go.Proofs.YtcfnclfkjmnhlaaDoor
open Go.RowKit Go.ChangeShapes

theorem rd_len {n m : Nat} {r : List Nat} (h : n < 10 ^ 20) (he : nm.dd m ++ r = nm.dd n) : (kit.str r).size ≤ 20 := by
  have h1 := nm.dd_len 20 n h (by omega)
  have h2 := congrArg List.length he
  simp only [List.length_append] at h2
  rw [kit.str_size]; omega
theorem rd_step {n m : Nat} {r : List Nat} (h9 : ¬ m < 10) (he : nm.dd m ++ r = nm.dd n) : nm.dd (m / 10) ++ ([48 + m % 10] ++ r) = nm.dd n := by
  rw [← he, nm.dd_ge h9, List.append_assoc]
theorem rd_last {n m : Nat} {r : List Nat} (h9 : m < 10) (he : nm.dd m ++ r = nm.dd n) : [48 + m] ++ r = nm.dd n := by
  rw [← he, nm.dd_lt h9]

set_option maxHeartbeats 800000 in
set_option maxRecDepth 100000 in
theorem rdigits_nat (n : Nat) (w : World) (h : n ≤ 9223372036854775807) :
    Calls Tryd.prog 23 #[.int .i64 n] w fun e w' => e = .returned (.string (kit.str (nm.dd n))) ∧ Below w.heap.size w w' := by
  have H20 : Hid (n < 10 ^ 20) := Nat.lt_of_le_of_lt h (by decide)
  go_enter Tryd.func23, Tryd.ntmps23
  go_wp2
  go_loopw [3, 4] (fun u s wr => ∃ (m : Nat) (r : List Nat), u = .int .u64 m ∧ m ≤ n ∧ s = .string (kit.str r) ∧ Hid (nm.dd m ++ r = nm.dd n) ∧ Below w.heap.size w wr) (fun u _ _ => (intOf u).toNat)
  case atStart => exact ⟨n, [], rfl, Nat.le_refl _, rfl, by simp [Hid], Below.refl _ _⟩
  case round =>
    obtain ⟨m, r, rfl, hm, rfl, HE, hb⟩ := hrel
    have hsz := hb.size
    have hl := rd_len H20.out HE.out
    by_cases h9 : 9 < m
    · have hconv := kit.run_one (P := Tryd.prog) (w := wr) (x := 48 + (m : Int) % 10) (48 + m % 10) (t := 5) (by omega) Tryd.underlying40 Tryd.underlying5 Tryd.underlying9
      have hl1 : (kit.str [48 + m % 10]).size = 1 := kit.str_size _
      have HS : Hid (nm.dd (m / 10) ++ ([48 + m % 10] ++ r) = nm.dd n) := rd_step (by omega) HE.out
      go_wp2
      go_roundw
      case rel => exact ⟨m / 10, [48 + m % 10] ++ r, by go_num, by omega, by rw [kit.str_app], HS, hb.alloc hsz _⟩
      case measure => simp [intOf]; omega
    · have hconv := kit.run_one (P := Tryd.prog) (w := wr) (x := 48 + (m : Int)) (48 + m) (t := 5) (by omega) Tryd.underlying40 Tryd.underlying5 Tryd.underlying9
      have hl1 : (kit.str [48 + m]).size = 1 := kit.str_size _
      have HS : Hid ([48 + m] ++ r = nm.dd n) := rd_last (by omega) HE.out
      go_wp2
      go_ret
      exact ⟨by rw [← HS.out, kit.str_app]; rfl, hb.alloc hsz _⟩

set_option maxHeartbeats 800000 in
set_option maxRecDepth 100000 in
theorem rdigits_neg (n : Nat) (w : World) (h0 : 0 < n) (h : n ≤ 9223372036854775808) :
    Calls Tryd.prog 23 #[.int .i64 (-(n : Int))] w fun e w' => e = .returned (.string (kit.str (45 :: nm.dd n))) ∧ Below w.heap.size w w' := by
  have H20 : Hid (n < 10 ^ 20) := Nat.lt_of_le_of_lt h (by decide)
  have hw : IntKind.u64.wrap (-IntKind.u64.wrap (-(n : Int))) = (n : Int) := by rw [IntKind.wrap_u64, IntKind.wrap_u64]; omega
  have hneg : -(n : Int) < 0 := by omega
  go_enter Tryd.func23, Tryd.ntmps23
  go_wp2
  go_loopw [3, 4] (fun u s wr => ∃ (m : Nat) (r : List Nat), u = .int .u64 m ∧ m ≤ n ∧ s = .string (kit.str r) ∧ Hid (nm.dd m ++ r = nm.dd n) ∧ Below w.heap.size w wr) (fun u _ _ => (intOf u).toNat)
  case atStart => exact ⟨n, [], rfl, Nat.le_refl _, rfl, by simp [Hid], Below.refl _ _⟩
  case round =>
    obtain ⟨m, r, rfl, hm, rfl, HE, hb⟩ := hrel
    have hsz := hb.size
    have hl := rd_len H20.out HE.out
    by_cases h9 : 9 < m
    · have hconv := kit.run_one (P := Tryd.prog) (w := wr) (x := 48 + (m : Int) % 10) (48 + m % 10) (t := 5) (by omega) Tryd.underlying40 Tryd.underlying5 Tryd.underlying9
      have hl1 : (kit.str [48 + m % 10]).size = 1 := kit.str_size _
      have HS : Hid (nm.dd (m / 10) ++ ([48 + m % 10] ++ r) = nm.dd n) := rd_step (by omega) HE.out
      go_wp2
      go_roundw
      case rel => exact ⟨m / 10, [48 + m % 10] ++ r, by go_num, by omega, by rw [kit.str_app], HS, hb.alloc hsz _⟩
      case measure => simp [intOf]; omega
    · have hconv := kit.run_one (P := Tryd.prog) (w := wr) (x := 48 + (m : Int)) (48 + m) (t := 5) (by omega) Tryd.underlying40 Tryd.underlying5 Tryd.underlying9
      have hl1 : (kit.str [48 + m]).size = 1 := kit.str_size _
      have hl2 : (⟨#[45]⟩ : ByteArray).size = 1 := rfl
      have HS : Hid ([48 + m] ++ r = nm.dd n) := rd_last (by omega) HE.out
      go_wp2
      go_ret
      refine ⟨?_, hb.alloc hsz _⟩
      rw [← HS.out, show (45 : Nat) :: ([48 + m] ++ r) = [45] ++ ([48 + m] ++ r) from rfl, kit.str_app, kit.str_app]; rfl

theorem rdigits_any (n : Int) (w : World) (h0 : -9223372036854775808 ≤ n) (h1 : n ≤ 9223372036854775807) :
    Calls Tryd.prog 23 #[.int .i64 n] w (DigitsOk n w) := by
  unfold DigitsOk
  rw [itoa_str]
  by_cases h : n < 0
  · obtain ⟨k, rfl⟩ : ∃ k : Nat, n = -(k : Int) := ⟨n.natAbs, by omega⟩
    rw [nm.di_neg h, show (-(k : Int)).natAbs = k by omega]
    exact rdigits_neg k w (by omega) (by omega)
  · obtain ⟨k, rfl⟩ : ∃ k : Nat, n = (k : Int) := ⟨n.toNat, by omega⟩
    rw [nm.di_nat]
    exact rdigits_nat k w (by omega)
end Go.Proofs.YtcfnclfkjmnhlaaDoor
