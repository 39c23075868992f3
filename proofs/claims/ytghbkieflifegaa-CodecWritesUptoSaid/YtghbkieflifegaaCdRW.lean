/- codec: the document's writer: count, numbers, text. -/
import Derived.Test.YtghbkieflifegaaRPutText
import Derived.Test.YtghbkieflifegaaCdWl
namespace Go.Proofs.Ytghbkieflifegaa
open Go.RowKit Go.ChangeShapes cl
/-- what the document's writer answers: the bytes, and whether there are any; of at most N bytes -/
def RAns (t : cd.W) (N : Nat) (w : World) (e : Ending) (w' : World) : Prop :=
  ∃ (S : ByteArray) (ok : Bool), e = .returned (.tuple #[.string S, .bool ok]) ∧ S.size ≤ N ∧ ok = t.isSome ∧ (∀ b, t = some b → S = kit.str b) ∧ Below w.heap.size w w'
theorem str_add (a b : List Nat) : kit.str a ++ kit.str b = kit.str (a ++ b) := (kit.str_app a b).symm
/-- one more -/
theorem RAns.add {t u : cd.W} {S T : ByteArray} (h : ∀ b, t = some b → S = kit.str b) (h2 : ∀ b, u = some b → T = kit.str b) : ∀ b, cd.app t u = some b → S ++ T = kit.str b := by
  intro b hb
  obtain ⟨x, y, hx, hy, rfl⟩ := cd.app_eq hb
  rw [h x hx, h2 y hy, str_add]
theorem some_app (t u : cd.W) : (cd.app t u).isSome = (t.isSome && u.isSome) := by cases t <;> cases u <;> rfl
def cnt (n : Nat) : cd.W := if 4000 < n then none else cd.num n
set_option maxRecDepth 100000 in
theorem count_any (n : Nat) (w : World) (hn : n ≤ maxLen) : Calls Try.prog 49 #[.int .i64 (n : Int)] w (RAns (cnt n) 6 w) := by
  unfold maxLen at hn
  by_cases h1 : n ≤ 1099511627776
  · obtain ⟨T, hT⟩ : ∃ T, T = vm.enc n := ⟨_, rfl⟩
    have HP : Hid (∀ W, Calls Try.prog 48 #[.int .i64 (n : Int)] W fun e w' => e = .returned (.tuple #[.string (kit.str T), .int .i64 0]) ∧ Below W.heap.size W w') := fun W => by
      have := rput_ok n W h1
      unfold PutOk at this
      rw [hT]; exact this
    have HN : Hid (cd.num (n : Int) = some T) := by show _ = _; rw [hT]; exact cd.num_ok h1
    have HL : Hid ((kit.str T).size ≤ 6) := by show _ ≤ _; rw [kit.str_size]; exact cd.num_len HN.out
    clear hT
    by_cases h4 : n ≤ 4000
    · have h4i : (n : Int) ≤ 4000 := by omega
      have HC : Hid (cnt n = some T) := by show _ = _; unfold cnt; rw [if_neg (by omega)]; exact HN.out
      go_enter Try.func49, Try.ntmps49
      go_wp2_with fail
      (with_reducible refine (HP.out _).mono ?_)
      rintro e w1 ⟨rfl, b1⟩
      go_wp2
      go_ret2
      exact ⟨_, _, rfl, HL.out, by rw [HC.out]; rfl, fun b hb => by rw [HC.out] at hb; cases hb; rfl, b1⟩
    · have h4i : ¬ (n : Int) ≤ 4000 := by omega
      have HC : Hid (cnt n = none) := by show _ = _; unfold cnt; exact if_pos (by omega)
      go_enter Try.func49, Try.ntmps49
      go_wp2_with fail
      (with_reducible refine (HP.out _).mono ?_)
      rintro e w1 ⟨rfl, b1⟩
      go_wp2
      go_ret2
      exact ⟨_, _, rfl, HL.out, by rw [HC.out]; exact decide_eq_false (by omega), fun b hb => (by rw [HC.out] at hb; cases hb), b1⟩
  · have HP : Hid (∀ W : World, Calls Try.prog 48 #[.int .i64 (n : Int)] W fun e w' => e = .returned (.tuple #[.string ⟨#[]⟩, .int .i64 1]) ∧ W = w') := fun W => rput_bad n W (Or.inr (by omega))
    have HC : Hid (cnt n = none) := by show _ = _; unfold cnt; exact if_pos (by omega)
    go_enter Try.func49, Try.ntmps49
    go_wp2_with fail
    (with_reducible refine (HP.out _).mono ?_)
    rintro e w1 ⟨rfl, rfl⟩
    go_wp2
    go_ret2
    exact ⟨_, _, rfl, Nat.zero_le _, by rw [HC.out]; rfl, fun b hb => (by rw [HC.out] at hb; cases hb), Below.refl _ _⟩
set_option maxRecDepth 100000 in
theorem rtext_ans (s : ByteArray) (w : World) (hs : s.size ≤ maxLen) : Calls Try.prog 26 #[.string s] w (RAns (cd.txt s) 4006 w) := by
  by_cases h4 : 4000 < s.size
  · have HP := Lib.hid (fun W : World => rputText_long s W hs h4)
    have HT : Hid (cd.txt s = none) := if_pos h4
    clear h4 hs
    go_enter Try.func26, Try.ntmps26
    go_wp2_with fail
    (with_reducible refine (HP.out _).mono ?_)
    rintro e w1 ⟨rfl, rfl⟩
    go_wp2
    go_ret2
    exact ⟨_, _, rfl, Nat.zero_le _, by rw [HT.out]; rfl, fun b hb => (by rw [HT.out] at hb; cases hb), Below.refl _ _⟩
  · obtain ⟨T, hT⟩ : ∃ T, T = vm.enc s.size ++ kit.bytes s := ⟨_, rfl⟩
    have HT : Hid (cd.txt s = some T) := by show _ = _; rw [hT]; exact if_neg h4
    have HL : Hid ((kit.str T).size ≤ 4006) := by show _ ≤ _; rw [kit.str_size]; exact cd.txt_len HT.out
    have HP : Hid (∀ W, Calls Try.prog 52 #[.string s] W fun e w' => e = .returned (.tuple #[.string (kit.str T), .int .i64 0]) ∧ Below W.heap.size W w') := fun W => by
      have := rputText_ok s W (by omega)
      unfold PutTextOk at this
      rw [hT, kit.str_app, kit.str_bytes]
      exact this
    clear hT h4 hs
    go_enter Try.func26, Try.ntmps26
    go_wp2_with fail
    (with_reducible refine (HP.out _).mono ?_)
    rintro e w1 ⟨rfl, b1⟩
    go_wp2
    go_ret2
    exact ⟨_, _, rfl, HL.out, by rw [HT.out]; rfl, fun b hb => by rw [HT.out] at hb; cases hb; rfl, b1⟩

set_option maxHeartbeats 800000 in
set_option maxRecDepth 100000 in
theorem rnumbers_any (l : List Int) (g n : Nat) (w : World) (hn : n = l.length) (hn1 : n ≤ 100) (hg : g < w.heap.size) (hgc : ∀ j, j < n → w.cell? ⟨g, j, none⟩ = some (.int .i64 (l.getD j 0))) :
    Calls Try.prog 23 #[.slice (some ⟨g, 0, none⟩) n n] w (RAns (cd.each cd.num l) (n * 6) w) := by
  have HN := Lib.hid hn
  have HC := Lib.hid hgc
  clear hn hgc
  go_enter Try.func23, Try.ntmps23
  go_wp2
  go_loopw [4, 11, 25] (fun s i _ wr => ∃ (k : Nat) (a : List Nat) (S : ByteArray), s = .string S ∧ i = .int .i64 k ∧ k ≤ n ∧ S.size ≤ k * 6 ∧ Hid (S = kit.str a) ∧ Hid (cd.each cd.num (l.take k) = some a) ∧ Below w.heap.size w wr) (fun _ i _ _ => n - (intOf i).toNat)
  case atStart => exact ⟨0, [], ⟨#[]⟩, rfl, rfl, by omega, Nat.le_refl _, rfl, rfl, Below.refl _ _⟩
  case round =>
    obtain ⟨k, a, S, rfl, rfl, hk, hsz, HS, HA, hbl⟩ := hrel
    by_cases hlt : k < n
    · have hcell := (hbl.cell (p := ⟨g, k, none⟩) hg).trans (HC.out k hlt)
      have hkI : (k : Int) < (n : Int) := by omega
      have hS := each_split (l := l) (k := k) (by rw [← HN.out]; exact hlt) HA.out
      obtain ⟨x, hx⟩ : ∃ x, x = l.getD k 0 := ⟨_, rfl⟩
      rw [← hx] at hcell hS
      by_cases hbad : x < 0 ∨ 1099511627776 < x
      · have HE : Hid (cd.each cd.num l = none) := hS.2 (cd.num_bad hbad)
        have HP : Hid (∀ W : World, Calls Try.prog 48 #[.int .i64 x] W fun e w' => e = .returned (.tuple #[.string ⟨#[]⟩, .int .i64 1]) ∧ W = w') := fun W => rput_bad x W hbad
        clear hbad hS hx
        go_wp2_with fail
        (with_reducible refine (HP.out _).mono ?_)
        rintro e w1 ⟨rfl, rfl⟩
        go_wp2
        go_ret2
        exact ⟨_, _, rfl, Nat.zero_le _, by rw [HE.out]; rfl, fun b hb => (by rw [HE.out] at hb; cases hb), hbl⟩
      · obtain ⟨m, rfl⟩ : ∃ m : Nat, x = (m : Int) := ⟨x.toNat, by omega⟩
        have hm : m ≤ 1099511627776 := by omega
        obtain ⟨T, hT⟩ : ∃ T, T = vm.enc m := ⟨_, rfl⟩
        have hnum : cd.num (m : Int) = some T := by rw [hT]; exact cd.num_ok hm
        obtain ⟨X, hX⟩ : ∃ X, X = kit.str T := ⟨_, rfl⟩
        have hTl : X.size ≤ 6 := by rw [hX, kit.str_size]; exact cd.num_len hnum
        have HA' : Hid (cd.each cd.num (l.take (k + 1)) = some (a ++ T)) := by show _ = _; rw [hS.1, hnum, cd.app_some]
        have HS' : Hid (S ++ X = kit.str (a ++ T)) := by show _ = _; rw [HS.out, hX, str_add]
        have HP : Hid (∀ W, Calls Try.prog 48 #[.int .i64 (m : Int)] W fun e w' => e = .returned (.tuple #[.string X, .int .i64 0]) ∧ Below W.heap.size W w') := fun W => by
          have := rput_ok m W hm
          unfold PutOk at this
          rw [hX, hT]; exact this
        have z1 : ¬ 9223372036854775807 < S.size + X.size := by omega
        clear hT hS hx hbad hnum hm hX
        go_wp2_with fail
        (with_reducible refine (HP.out _).mono ?_)
        rintro e w1 ⟨rfl, b1⟩
        have hb2 := hbl.trans (b1.mono hbl.size)
        clear b1
        go_wp2
        go_roundw
        case rel => exact ⟨k + 1, a ++ T, S ++ X, rfl, by go_num, by omega, by rw [ByteArray.size_append]; omega, HS', HA', hb2⟩
        case measure => simp [intOf]; omega
    · have HE : Hid (cd.each cd.num l = some a) := by
        show _ = _
        have := HA.out
        rwa [List.take_of_length_le (by rw [← HN.out]; omega)] at this
      go_wp2
      go_ret2
      exact ⟨_, _, rfl, by have : k = n := by omega
                           rw [← this]; exact hsz, by rw [HE.out]; rfl, fun b hb => by rw [HE.out] at hb; cases hb; exact HS.out, hbl⟩
end Go.Proofs.Ytghbkieflifegaa
