/- label.appendEscaped: a value's bytes, with their signs, behind bytes of the caller's own. -/
import Derived.Test.YtpfjmomdnegcpaaLabName
import Derived.Test.YtpfjmomdnegcpaaLabels
import Derived.Test.YtpfjmomdnegcpaaKit
namespace Go.Proofs.Ytpfjmomdnegcpaa
open Go.RowKit Go.ChangeShapes

theorem infoU8 : (Try.prog.info? 5).map (fun i => (i.zero, i.size, i.bytes)) = some (some (.int .u8 0), 1, 1) := by kernel_rfl

/-- a byte as it stands in a value -/
def esc1 (c : Nat) : List Nat := if c = 34 ∨ c = 92 then [92, c] else [c]
def escN (l : List Nat) : List Nat := l.flatMap esc1
theorem esc_snoc (l : List Nat) (c : Nat) : escN (l ++ [c]) = escN l ++ esc1 c := by
  simp [escN]
theorem esc_len (l : List Nat) : (escN l).length ≤ 2 * l.length := by
  induction l with
  | nil => simp [escN]
  | cons c l ih =>
    have e : escN (c :: l) = esc1 c ++ escN l := rfl
    have h : (esc1 c).length ≤ 2 := by unfold esc1; split <;> simp
    rw [e, List.length_append, List.length_cons]; omega
theorem bytes_len (s : ByteArray) : (kit.bytes s).length = s.size := by simp [kit.bytes]
theorem take_byte (s : ByteArray) (k : Nat) (h : k < s.size) : (kit.bytes s).take (k + 1) = (kit.bytes s).take k ++ [(s[k]'h).toNat] := by
  have hl : k < (kit.bytes s).length := by rw [bytes_len]; exact h
  rw [List.take_succ_eq_append_getElem hl]
  have := kit.bytes_get s k h
  rw [List.getElem?_eq_getElem hl] at this
  rw [Option.some.inj this]
theorem esc_step (s : ByteArray) (k : Nat) (h : k < s.size) : escN ((kit.bytes s).take (k + 1)) = escN ((kit.bytes s).take k) ++ esc1 ((s[k]'h).toNat) := by
  rw [take_byte s k h, esc_snoc]

/-- bytes of the caller's own, with more behind them -/
def OwnP (B : Nat) (l : List Nat) (w : World) (e : Ending) (w' : World) : Prop := ∃ v', e = .returned v' ∧ w'.ownsRow B 5 1 v' l.length (kit.u8s l) ∧ Below B w w'

set_option maxHeartbeats 1600000 in
set_option maxRecDepth 100000 in
theorem esc_any (B : Nat) (l : List Nat) (v : Value) (s : ByteArray) (w : World) (hown : w.ownsRow B 5 1 v l.length (kit.u8s l)) (hB : B ≤ w.heap.size) (hlen : l.length + 2 * s.size ≤ 100000) :
    Calls Try.prog 31 #[v, .string s] w (OwnP B (l ++ escN (kit.bytes s)) w) := by
  obtain ⟨L, hL⟩ : ∃ L, L = l ++ escN (kit.bytes s) := ⟨_, rfl⟩
  rw [← hL]
  have HL := Lib.hid hL
  have hs : s.size ≤ 9223372036854775807 := by omega
  clear hL
  go_enter Try.func31, Try.ntmps31
  go_wp2
  go_loopw [0, 5, 8] (fun v _ i wr => ∃ (k : Nat) (pre : List Nat), k ≤ s.size ∧ i = .int .i64 k ∧ Hid (pre = l ++ escN ((kit.bytes s).take k)) ∧ pre.length ≤ l.length + 2 * k ∧ wr.ownsRow B 5 1 v pre.length (kit.u8s pre) ∧ Below B w wr)
    (fun _ _ i _ => s.size - (intOf i).toNat)
  case atStart => exact ⟨0, l, Nat.zero_le _, rfl, (by simp [escN] : l = l ++ escN ((kit.bytes s).take 0)), by omega, hown, Below.refl _ _⟩
  case round =>
    obtain ⟨k, pre, hk, rfl, HP, hpl, hown, hnx⟩ := hrel
    have hsz : B ≤ wr.heap.size := Nat.le_trans hB hnx.size
    by_cases hlt : k < s.size
    · have HST := Lib.hid (esc_step s k hlt)
      have hkI : (k : Int) < (s.size : Int) := by omega
      by_cases h34 : (s[k]'hlt).toNat = 34
      · have HP2 : Hid (pre ++ [92] ++ [34] = l ++ escN ((kit.bytes s).take (k + 1))) := by
          show _ = _
          rw [HST.out, HP.out, List.append_assoc, List.append_assoc, esc1, if_pos (by simp [h34]), h34]; rfl
        go_wp2_with (at_builtin; refine kit.app1 (.tmp 21) (.tmp 22) 47 rfl rfl B Try.underlying47 infoU8 rfl (by decide) (by decide) hown rfl rfl rfl (by intro u hu; simp at hu; subst hu; rfl) (by omega) hsz ?_)
        intro v1 w1 hown' hb'
        have hown2 : w1.ownsRow B 5 1 v1 (pre ++ [92]).length (kit.u8s (pre ++ [92])) := by simpa [kit.u8s] using hown'
        have hbx : Below B w w1 := hnx.trans hb'
        have hsz1 : B ≤ w1.heap.size := Nat.le_trans hB hbx.size
        have hl2 : (pre ++ [92]).length ≤ l.length + 2 * k + 1 := by simp; omega
        clear hown' hown hb' hnx hsz
        obtain ⟨pre2, hpre2⟩ : ∃ pre2, pre2 = pre ++ [92] := ⟨_, rfl⟩
        rw [← hpre2] at hown2 HP2 hl2
        clear hpre2
        go_wp2_with (at_builtin; refine kit.app1 (.tmp 24) (.tmp 28) 47 rfl rfl B Try.underlying47 infoU8 rfl (by decide) (by decide) hown2 rfl rfl rfl (by intro u hu; simp at hu; subst hu; rfl) (by omega) hsz1 ?_)
        intro v2 w2 hown' hb'
        have hown3 : w2.ownsRow B 5 1 v2 (pre2 ++ [34]).length (kit.u8s (pre2 ++ [34])) := by simpa [kit.u8s] using hown'
        clear hown' hown2
        go_wp2
        go_roundw
        case rel => exact ⟨k + 1, pre2 ++ [34], by omega, by go_num, HP2, by simp; omega, hown3, hbx.trans hb'⟩
        case measure => simp [intOf]; omega
      · by_cases h92 : (s[k]'hlt).toNat = 92
        · have HP2 : Hid (pre ++ [92] ++ [92] = l ++ escN ((kit.bytes s).take (k + 1))) := by
            show _ = _
            rw [HST.out, HP.out, List.append_assoc, List.append_assoc, esc1, if_pos (by simp [h92]), h92]; rfl
          go_wp2_with (at_builtin; refine kit.app1 (.tmp 21) (.tmp 22) 47 rfl rfl B Try.underlying47 infoU8 rfl (by decide) (by decide) hown rfl rfl rfl (by intro u hu; simp at hu; subst hu; rfl) (by omega) hsz ?_)
          intro v1 w1 hown' hb'
          have hown2 : w1.ownsRow B 5 1 v1 (pre ++ [92]).length (kit.u8s (pre ++ [92])) := by simpa [kit.u8s] using hown'
          have hbx : Below B w w1 := hnx.trans hb'
          have hsz1 : B ≤ w1.heap.size := Nat.le_trans hB hbx.size
          have hl2 : (pre ++ [92]).length ≤ l.length + 2 * k + 1 := by simp; omega
          clear hown' hown hb' hnx hsz
          obtain ⟨pre2, hpre2⟩ : ∃ pre2, pre2 = pre ++ [92] := ⟨_, rfl⟩
          rw [← hpre2] at hown2 HP2 hl2
          clear hpre2
          go_wp2_with (at_builtin; refine kit.app1 (.tmp 24) (.tmp 28) 47 rfl rfl B Try.underlying47 infoU8 rfl (by decide) (by decide) hown2 rfl rfl rfl (by intro u hu; simp at hu; subst hu; rfl) (by omega) hsz1 ?_)
          intro v2 w2 hown' hb'
          have hown3 : w2.ownsRow B 5 1 v2 (pre2 ++ [92]).length (kit.u8s (pre2 ++ [92])) := by simpa [kit.u8s] using hown'
          clear hown' hown2
          go_wp2
          go_roundw
          case rel => exact ⟨k + 1, pre2 ++ [92], by omega, by go_num, HP2, by simp; omega, hown3, hbx.trans hb'⟩
          case measure => simp [intOf]; omega
        · have HP2 : Hid (pre ++ [(s[k]'hlt).toNat] = l ++ escN ((kit.bytes s).take (k + 1))) := by
            show _ = _
            rw [HST.out, HP.out, List.append_assoc, esc1, if_neg (by simp [h34, h92])]
          have g1 : ¬ ((s[k]'hlt).toNat : Int) = 34 := by omega
          have g2 : ¬ ((s[k]'hlt).toNat : Int) = 92 := by omega
          have g1b : (((s[k]'hlt).toNat : Int) == 34) = false := by simpa using g1
          have g2b : (((s[k]'hlt).toNat : Int) == 92) = false := by simpa using g2
          go_wp2_with (at_builtin; refine kit.app1 (.tmp 24) (.tmp 28) 47 rfl rfl B Try.underlying47 infoU8 rfl (by decide) (by decide) hown rfl rfl rfl (by intro u hu; simp at hu; subst hu; rfl) (by omega) hsz ?_)
          intro v' w1 hown' hb'
          have hown2 : w1.ownsRow B 5 1 v' (pre ++ [(s[k]'hlt).toNat]).length (kit.u8s (pre ++ [(s[k]'hlt).toNat])) := by simpa [kit.u8s] using hown'
          clear hown' hown
          go_wp2
          go_roundw
          case rel => exact ⟨k + 1, pre ++ [(s[k]'hlt).toNat], by omega, by go_num, HP2, by simp; omega, hown2, hnx.trans hb'⟩
          case measure => simp [intOf]; omega
    · obtain rfl : k = s.size := by omega
      have HE : Hid (pre = L) := by
        show pre = L
        rw [HL.out, HP.out, List.take_of_length_le (by rw [bytes_len]; exact Nat.le_refl _)]
      go_wp2
      go_ret
      rw [← HE.out]
      exact ⟨_, rfl, hown, hnx⟩
end Go.Proofs.Ytpfjmomdnegcpaa
