/- PlaceGroups, walked. -/
import Derived.Test.YthhkocbfeiccdaaRefGroups
import Derived.Test.YthhkocbfeiccdaaInts
namespace Go.Proofs.Ythhkocbfeiccdaa
open Go.RowKit Go.ChangeShapes Go.Joins at_ cl

set_option maxHeartbeats 6400000 in
set_option maxRecDepth 100000 in
theorem grps_any (l : List Lab) (v : Value) (s : ByteArray) (x : Int) (w : World) (h : Labs w w.heap.size v l) (hs : ∀ x ∈ l, x.1.size ≤ maxLen ∧ x.2.size ≤ maxLen) (hsz : s.size ≤ 9223372036854775807) :
    Calls Try.prog 3 #[v, .string s, .int .i64 x] w (Said true w) := by
  have HLO := Lib.hid (long_any l v w h hs)
  have HC := Lib.hid h
  clear h hs
  go_enter Try.func3, Try.ntmps3
  go_wp2_with fail
  refine HLO.out.mono ?_
  rintro e w1 ⟨r, rfl, HF, hb1⟩
  cases r with
  | true =>
    go_wp2_with fail
    refine (awake_any _).mono ?_
    rintro e w2 ⟨rfl, hb⟩
    have hfin := hb1.trans (hb.mono hb1.size)
    go_wp2
    go_ret
    exact ⟨rfl, hfin⟩
  | false =>
    have hf := HF.out rfl
    by_cases hl : s.size ≤ 1000
    · have hlI : ¬ (1000 : Int) < (s.size : Int) := by omega
      obtain ⟨r, hr⟩ : ∃ r, r = grp (kit.bytes s) x := ⟨_, rfl⟩
      have HG : Hid (∀ W : World, Calls Try.prog 10 #[.string s, .int .i64 x] W fun e w' => e = .returned (.int .i64 r) ∧ W = w') := fun W => by rw [hr]; exact group_any s x W hsz
      have HR : Hid (∀ W : World, Calls Try.prog 11 #[.string s, .int .i64 x] W fun e w' => e = .returned (.int .i64 r) ∧ W = w') := fun W => by rw [hr]; exact rgroup_any s x W hsz
      have HC1 : Hid (Labs w1 w1.heap.size v l) := Cells.next HC.out hb1
      have hz1 := hb1.size
      have HGS := Lib.hid (groups_any l v x w1 HC1.out hf)
      clear hr
      go_wp2_with (first
        | (go_at_call 10; (with_reducible refine (HG.out _).mono ?_); rintro e w9 ⟨rfl, rfl⟩)
        | (go_at_call 11; (with_reducible refine (HR.out _).mono ?_); rintro e w9 ⟨rfl, rfl⟩)
        | fail)
      refine HGS.out.mono ?_
      rintro e w2 ⟨v2, rfl, ho2, hb2⟩
      have ha2 := at_.own ho2
      have hz2 := hb2.size
      have hC2 : Labs w2 w2.heap.size v l := Cells.next HC1.out hb2
      have HRS := Lib.hid (rgroups_any l v x w2 hC2 hf)
      have HA2 := Lib.hid ha2
      clear ho2 ha2 hC2
      go_wp2_with fail
      refine HRS.out.mono ?_
      rintro e w3 ⟨v3, rfl, ho3, hb3⟩
      have ha3 := at_.own ho3
      have hz3 := hb3.size
      obtain ⟨L, hL⟩ : ∃ L, L = pm.set (0 :: gsOf l x) := ⟨_, rfl⟩
      have ha2 := (HA2.out.later hb3 (Nat.le_refl _)).mono hz3
      rw [← hL] at ha2 ha3
      have HIN : Hid (Calls Try.prog 12 #[v2, v3] w3 (Said true w3)) := by
        have hh := ints_any L L v2 v3 w3 ha2 ha3
        rw [show decide (L = L) = true from decide_eq_true rfl] at hh
        exact hh
      clear ha2 hL
      clear ho3 ha3
      go_wp2_with fail
      refine HIN.out.mono ?_
      rintro e w4 ⟨rfl, hb4⟩
      go_wp2_with fail
      refine (awake_any _).mono ?_
      rintro e w5 ⟨rfl, hb⟩
      have h12 := hb1.trans (hb2.mono hz1)
      have h13 := h12.trans (hb3.mono h12.size)
      have h14 := h13.trans (hb4.mono h13.size)
      have hfin := h14.trans (hb.mono h14.size)
      go_wp2
      go_ret
      exact ⟨rfl, hfin⟩
    · have hlI : (1000 : Int) < (s.size : Int) := by omega
      go_wp2_with fail
      refine (awake_any _).mono ?_
      rintro e w2 ⟨rfl, hb⟩
      have hfin := hb1.trans (hb.mono hb1.size)
      go_wp2
      go_ret
      exact ⟨rfl, hfin⟩
end Go.Proofs.Ythhkocbfeiccdaa
