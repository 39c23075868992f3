/- Read, and the document's. -/
import Derived.Test.YtilnmfbimfmacaaToken
namespace Go.Proofs.Ytilnmfbimfmacaa
open Go.RowKit Go.ChangeShapes Go.Joins cl

def Got (r : List Nat × Nat) (w : World) (e : Ending) (w' : World) : Prop := e = .returned (.tuple #[.string (kit.str r.1), .int .i64 (r.2 : Int)]) ∧ Below w.heap.size w w'
/-- a digit's value, -1 where it is none -/
def digI (c : Nat) : Int := match tk.undig c with | some n => (n : Int) | none => -1
theorem digI_some {c n : Nat} (h : tk.undig c = some n) : digI c = (n : Int) := by unfold digI; rw [h]
theorem digI_none {c : Nat} (h : tk.undig c = none) : digI c = -1 := by unfold digI; rw [h]
theorem ix_all : ∀ c : Fin 256, Lib.indexByte [48, 49, 50, 51, 52, 53, 54, 55, 56, 57, 97, 98, 99, 100, 101, 102] (UInt8.ofNat c.val) = digI c.val := by decide +kernel
theorem ix_any (c : UInt8) (w : World) :
    Calls Try.prog 24 #[.string { data := #[48, 49, 50, 51, 52, 53, 54, 55, 56, 57, 97, 98, 99, 100, 101, 102] }, .int .u8 (c.toNat : Int)] w fun e w' => e = .returned (.int .i64 (digI c.toNat)) ∧ w' = w := by
  have h := Try.strings_IndexByte { data := #[48, 49, 50, 51, 52, 53, 54, 55, 56, 57, 97, 98, 99, 100, 101, 102] } (c.toNat : Int) w
  have e := ix_all ⟨c.toNat, c.toNat_lt⟩
  simp only [Int.toNat_natCast] at h
  rw [← e]
  exact h
set_option maxHeartbeats 800000 in
theorem digit_any (c : UInt8) (w : World) :
    Calls Try.prog 25 #[.int .u8 (c.toNat : Int)] w fun e w' => e = .returned (.int .i64 (digI c.toNat)) ∧ w' = w := by
  obtain ⟨n, hn⟩ : ∃ n, n = c.toNat := ⟨_, rfl⟩
  have h256 : n < 256 := by rw [hn]; exact c.toNat_lt
  rw [← hn]
  clear hn
  by_cases h1 : 48 ≤ n
  · by_cases h2 : n ≤ 57
    · have HD : Hid (digI n = ((n - 48 : Nat) : Int)) := digI_some (by unfold tk.undig; rw [if_pos ⟨h1, h2⟩])
      have w1 : IntKind.u8.wrap ((n : Int) - 48) = (n : Int) - 48 := IntWalk.u8_in _ (by omega)
      have w2 : IntKind.i64.wrap ((n : Int) - 48) = (n : Int) - 48 := IntWalk.i64_in _ (by omega)
      go_enter Try.func25, Try.ntmps25
      go_wp2
      go_ret
      rw [HD.out]; exact ⟨congrArg (fun z => Ending.returned (.int .i64 z)) (show (n : Int) - 48 = ((n - 48 : Nat) : Int) by omega), rfl⟩
    · by_cases h3 : 97 ≤ n
      · by_cases h4 : n ≤ 102
        · have HD : Hid (digI n = ((n - 87 : Nat) : Int)) := digI_some (by unfold tk.undig; rw [if_neg (by omega), if_pos ⟨h3, h4⟩])
          have w1 : IntKind.u8.wrap ((n : Int) - 97) = (n : Int) - 97 := IntWalk.u8_in _ (by omega)
          have w2 : IntKind.i64.wrap ((n : Int) - 97) = (n : Int) - 97 := IntWalk.i64_in _ (by omega)
          go_enter Try.func25, Try.ntmps25
          go_wp2
          go_ret
          rw [HD.out]; exact ⟨congrArg (fun z => Ending.returned (.int .i64 z)) (show (n : Int) - 97 + 10 = ((n - 87 : Nat) : Int) by omega), rfl⟩
        · have HD : Hid (digI n = -1) := digI_none (by unfold tk.undig; rw [if_neg (by omega), if_neg (by omega)])
          go_enter Try.func25, Try.ntmps25
          go_wp2
          go_ret
          rw [HD.out]; exact ⟨rfl, rfl⟩
      · have HD : Hid (digI n = -1) := digI_none (by unfold tk.undig; rw [if_neg (by omega), if_neg (by omega)])
        go_enter Try.func25, Try.ntmps25
        go_wp2
        go_ret
        rw [HD.out]; exact ⟨rfl, rfl⟩
  · have HD : Hid (digI n = -1) := digI_none (by unfold tk.undig; rw [if_neg (by omega), if_neg (by omega)])
    have h3 : ¬ 97 ≤ n := by omega
    go_enter Try.func25, Try.ntmps25
    go_wp2
    go_ret
    rw [HD.out]; exact ⟨rfl, rfl⟩

theorem fst_get (s : ByteArray) (h : 0 < s.size) : (kit.bytes s).getD 0 0 = s[0].toNat := by
  have := kit.bytes_get s 0 h
  simp [List.getD, this]
/-- what is read so far -/
def Dec (s : ByteArray) (k : Nat) (acc : List Nat) : Prop := tk.dec ((kit.bytes s).drop 1) = (tk.dec ((kit.bytes s).drop (2 * k + 1))).map (acc ++ ·)
theorem dec_start (s : ByteArray) : Dec s 0 [] := by
  unfold Dec
  cases tk.dec (List.drop (2 * 0 + 1) (kit.bytes s)) <;> simp_all
theorem dec_round {s : ByteArray} {k : Nat} (h : 2 * k + 1 + 1 < s.size) : (kit.bytes s).drop (2 * k + 1) = s[2 * k + 1].toNat :: s[2 * k + 1 + 1].toNat :: (kit.bytes s).drop (2 * (k + 1) + 1) := by
  rw [kit.bytes_drop s (2 * k + 1) (by omega), kit.bytes_drop s (2 * k + 1 + 1) h, show 2 * (k + 1) + 1 = 2 * k + 1 + 1 + 1 by omega]
theorem dec_end {s : ByteArray} {k : Nat} {acc : List Nat} (h : Dec s k acc) (hk : 2 * k + 1 = s.size) : tk.dec ((kit.bytes s).drop 1) = some acc := by
  unfold Dec at h
  rw [h, List.drop_eq_nil_of_le (by rw [kit.bytes_len]; omega)]
  simp [tk.dec]


set_option maxHeartbeats 1600000 in
set_option maxRecDepth 100000 in
theorem read_any (s : ByteArray) (w : World) (hs : s.size ≤ 3000) :
    Calls Try.prog 17 #[.string s] w (Got (tk.read (kit.bytes s)) w) := by
  have HL := Lib.hid (kit.bytes_len s)
  have HK0 : Hid (kit.str [] = ByteArray.empty) := rfl
  by_cases h1 : 1201 < s.size
  · have HR := Lib.hid (tk.read_long (l := kit.bytes s) (by rw [HL.out]; exact h1))
    go_enter Try.func17, Try.ntmps17
    go_wp2
    go_ret2
    rw [HR.out]; exact ⟨rfl, Below.refl _ _⟩
  · by_cases h2 : s.size % 2 = 0
    · have HR := Lib.hid (tk.read_form (l := kit.bytes s) (by rw [HL.out]; exact h1) (Or.inl (by rw [HL.out]; exact h2)))
      have d1 : (s.size : Int) % 2 = 0 := by omega
      have d2 : ((s.size : Int) % 2 != 1) = true := by rw [d1]; rfl
      go_enter Try.func17, Try.ntmps17
      go_wp2
      go_ret2
      rw [HR.out]; exact ⟨rfl, Below.refl _ _⟩
    · have d1 : (s.size : Int) % 2 = 1 := by omega
      have h0 : 0 < s.size := by omega
      by_cases h3 : s[0].toNat = 112
      · have HN : Hid (¬ ((kit.bytes s).length % 2 = 0 ∨ (kit.bytes s).getD 0 0 ≠ 112)) := by
          show ¬ _
          rw [HL.out, fst_get s h0]
          rintro (h | h)
          · exact h2 h
          · exact h h3
        have HB : Hid (¬ 1201 < (kit.bytes s).length) := by show ¬ _; rw [HL.out]; exact h1
        have h3I : ((s[0].toNat : Int) != 112) = false := by rw [h3]; rfl
        have h3J : ((s[0].toNat : Int) == 112) = true := by rw [h3]; rfl
        clear h3
        go_enter Try.func17, Try.ntmps17
        go_wp2
        clear d1 h3I h3J
        go_loopw [4, 5] (fun v i wr => ∃ (k : Nat) (acc : List Nat), i = .int .i64 ((2 * k + 1 : Nat) : Int) ∧ 2 * k + 1 ≤ s.size ∧ acc.length = k ∧ Hid (Dec s k acc) ∧ Hid (wr.ownsRow w.heap.size 5 1 v acc.length (kit.u8s acc)) ∧ Below w.heap.size w wr) (fun _ i _ => s.size - (intOf i).toNat)
        case atStart => exact ⟨0, [], rfl, by omega, rfl, dec_start s, World.ownsRow_nil _ _ _ _, Below.refl _ _⟩
        case round =>
          obtain ⟨k, acc, rfl, hk, hac, HD, HO, hbl⟩ := hrel
          by_cases hlt : 2 * k + 1 < s.size
          · obtain ⟨j, hj⟩ : ∃ j, j = 2 * k + 1 := ⟨_, rfl⟩
            have hj2 : j + 1 < s.size := by omega
            have hj1 : j < s.size := by omega
            have HD0 : Hid (tk.dec ((kit.bytes s).drop 1) = (tk.dec ((s[j]'hj1).toNat :: (s[j + 1]'hj2).toNat :: (kit.bytes s).drop (2 * (k + 1) + 1))).map (acc ++ ·)) := by
              subst hj
              show _ = _
              rw [← dec_round (s := s) (k := k) (by omega)]; exact HD.out
            rw [← hj] at hlt ⊢
            have hjI : (j : Int) < (s.size : Int) := by omega
            have hjJ : (j : Int) + 1 < (s.size : Int) := by omega
            have hjk : j + 2 = 2 * (k + 1) + 1 := by omega
            have b1 : (s[j]'hj1).toNat < 256 := (s[j]'hj1).toNat_lt
            have b2 : (s[j + 1]'hj2).toNat < 256 := (s[j + 1]'hj2).toNat_lt
            clear hj
            have i1 : IntKind.i64.wrap ((j : Int) + 1) = (j : Int) + 1 := IntWalk.i64_in _ (by omega)
            have i2 : (0 : Int) ≤ (j : Int) + 1 := by omega
            have i3 : ((j : Int) + 1).toNat = j + 1 := by omega
            cases hx : tk.undig (s[j]'hj1).toNat with
            | none =>
              have HR := Lib.hid (tk.read_bad HB.out HN.out (tk.dec_no HD0.out (Or.inl hx)))
              have E1 := digI_none hx
              clear hx
              go_wp2
              go_quiet ((go_at_call 24; exact Calls.quiet_of_same (ix_any _ _)))
              clear i1
              go_wp2
              go_ret2
              rw [HR.out]; exact ⟨rfl, below_drewN hbl _⟩
            | some x =>
              cases hy : tk.undig (s[j + 1]'hj2).toNat with
              | none =>
                have HR := Lib.hid (tk.read_bad HB.out HN.out (tk.dec_no HD0.out (Or.inr hy)))
                have E1 := digI_some hx
                have E2 := digI_none hy
                clear hx hy
                go_wp2
                go_quiet ((go_at_call 24; exact Calls.quiet_of_same (ix_any _ _)))
                clear i1
                go_wp2
                go_ret2
                rw [HR.out]; exact ⟨rfl, below_drewN hbl _⟩
              | some y =>
                have HD' : Hid (Dec s (k + 1) (acc ++ [16 * x + y])) := tk.dec_step HD0.out hx hy
                obtain ⟨hx', lx⟩ := tk.hexd_undig hx
                obtain ⟨hy', ly⟩ := tk.hexd_undig hy
                have E1 := digI_some hx
                have E2 := digI_some hy
                obtain ⟨z, hz⟩ : ∃ z, z = 16 * x + y := ⟨_, rfl⟩
                rw [← hz] at HD'
                have wz : IntKind.u8.wrap (16 * (x : Int) + (y : Int)) = (z : Int) := by
                  rw [show 16 * (x : Int) + (y : Int) = (z : Int) by omega]; exact IntWalk.u8_in _ (by omega)
                clear hx hy hx' hy' hz
                go_wp2
                go_quiet ((go_at_call 24; exact Calls.quiet_of_same (ix_any _ _)))
                clear i1
                have HO2 : Hid ((wr.drewN nq).ownsRow w.heap.size 5 1 u4 acc.length (kit.u8s acc)) := HO.out
                have hbl2 : Below w.heap.size w (wr.drewN nq) := below_drewN hbl _
                generalize wr.drewN nq = wq at HO2 hbl2
                have hszq := hbl2.size
                go_wp2_with (at_builtin; refine kit.app1 (.tmp 41) (.tmp 47) 43 rfl rfl w.heap.size Try.underlying43 infoByte rfl (by decide) (by decide) HO2.out rfl rfl rfl (by intro u hu; simp at hu; subst hu; rfl) (by omega) hszq ?_)
                intro v' w5 hown' hb5
                have HO5 : Hid (w5.ownsRow w.heap.size 5 1 v' (acc ++ [z]).length (kit.u8s (acc ++ [z]))) := by
                  show World.ownsRow _ _ _ _ _ _ _
                  rw [List.length_append, kit.u8s_app, hac]; exact hown'
                clear hown'
                go_wp2
                go_roundw

                case rel => exact ⟨k + 1, acc ++ [z], by rw [← hjk]; go_num, by omega, by simp [hac], HD', HO5, hbl2.trans hb5⟩
                case measure => simp [intOf]; omega
          · have HR := Lib.hid (tk.read_good HB.out HN.out (dec_end HD.out (by omega)))
            have hconv := kit.run_string (P := Try.prog) (src := 43) (dst := 9) Try.underlying43 Try.underlying5 Try.underlying9 HO.out
            go_wp2
            go_ret2
            rw [HR.out]; exact ⟨rfl, hbl⟩
      · have HR := Lib.hid (tk.read_form (l := kit.bytes s) (by rw [HL.out]; exact h1) (Or.inr (by rw [fst_get s h0]; exact h3)))
        have h3I : ((s[0].toNat : Int) != 112) = true := by simp; omega
        have h3J : ((s[0].toNat : Int) == 112) = false := by simp; omega
        clear h3
        go_enter Try.func17, Try.ntmps17
        go_wp2
        go_ret2
        rw [HR.out]; exact ⟨rfl, Below.refl _ _⟩

set_option maxHeartbeats 1600000 in
set_option maxRecDepth 100000 in
theorem rread_any (s : ByteArray) (w : World) (hs : s.size ≤ 3000) :
    Calls Try.prog 18 #[.string s] w (Got (tk.read (kit.bytes s)) w) := by
  have HL := Lib.hid (kit.bytes_len s)
  have HK0 : Hid (kit.str [] = ByteArray.empty) := rfl
  by_cases h1 : 1201 < s.size
  · have HR := Lib.hid (tk.read_long (l := kit.bytes s) (by rw [HL.out]; exact h1))
    go_enter Try.func18, Try.ntmps18
    go_wp2
    go_ret2
    rw [HR.out]; exact ⟨rfl, Below.refl _ _⟩
  · by_cases h2 : s.size % 2 = 0
    · have HR := Lib.hid (tk.read_form (l := kit.bytes s) (by rw [HL.out]; exact h1) (Or.inl (by rw [HL.out]; exact h2)))
      have d1 : (s.size : Int) % 2 = 0 := by omega
      have d2 : ((s.size : Int) % 2 != 1) = true := by rw [d1]; rfl
      go_enter Try.func18, Try.ntmps18
      go_wp2
      go_ret2
      rw [HR.out]; exact ⟨rfl, Below.refl _ _⟩
    · have d1 : (s.size : Int) % 2 = 1 := by omega
      have h0 : 0 < s.size := by omega
      by_cases h3 : s[0].toNat = 112
      · have HN : Hid (¬ ((kit.bytes s).length % 2 = 0 ∨ (kit.bytes s).getD 0 0 ≠ 112)) := by
          show ¬ _
          rw [HL.out, fst_get s h0]
          rintro (h | h)
          · exact h2 h
          · exact h h3
        have HB : Hid (¬ 1201 < (kit.bytes s).length) := by show ¬ _; rw [HL.out]; exact h1
        have h3I : ((s[0].toNat : Int) != 112) = false := by rw [h3]; rfl
        have h3J : ((s[0].toNat : Int) == 112) = true := by rw [h3]; rfl
        clear h3
        go_enter Try.func18, Try.ntmps18
        go_wp2
        clear d1 h3I h3J
        go_loopw [4, 5] (fun v i wr => ∃ (k : Nat) (acc : List Nat), i = .int .i64 ((2 * k + 1 : Nat) : Int) ∧ 2 * k + 1 ≤ s.size ∧ acc.length = k ∧ Hid (Dec s k acc) ∧ Hid (wr.ownsRow w.heap.size 5 1 v acc.length (kit.u8s acc)) ∧ Below w.heap.size w wr) (fun _ i _ => s.size - (intOf i).toNat)
        case atStart => exact ⟨0, [], rfl, by omega, rfl, dec_start s, World.ownsRow_nil _ _ _ _, Below.refl _ _⟩
        case round =>
          obtain ⟨k, acc, rfl, hk, hac, HD, HO, hbl⟩ := hrel
          by_cases hlt : 2 * k + 1 < s.size
          · obtain ⟨j, hj⟩ : ∃ j, j = 2 * k + 1 := ⟨_, rfl⟩
            have hj2 : j + 1 < s.size := by omega
            have hj1 : j < s.size := by omega
            have HD0 : Hid (tk.dec ((kit.bytes s).drop 1) = (tk.dec ((s[j]'hj1).toNat :: (s[j + 1]'hj2).toNat :: (kit.bytes s).drop (2 * (k + 1) + 1))).map (acc ++ ·)) := by
              subst hj
              show _ = _
              rw [← dec_round (s := s) (k := k) (by omega)]; exact HD.out
            rw [← hj] at hlt ⊢
            have hjI : (j : Int) < (s.size : Int) := by omega
            have hjJ : (j : Int) + 1 < (s.size : Int) := by omega
            have hjk : j + 2 = 2 * (k + 1) + 1 := by omega
            have b1 : (s[j]'hj1).toNat < 256 := (s[j]'hj1).toNat_lt
            have b2 : (s[j + 1]'hj2).toNat < 256 := (s[j + 1]'hj2).toNat_lt
            clear hj
            have i1 : IntKind.i64.wrap ((j : Int) + 1) = (j : Int) + 1 := IntWalk.i64_in _ (by omega)
            have i2 : (0 : Int) ≤ (j : Int) + 1 := by omega
            have i3 : ((j : Int) + 1).toNat = j + 1 := by omega
            cases hx : tk.undig (s[j]'hj1).toNat with
            | none =>
              have HR := Lib.hid (tk.read_bad HB.out HN.out (tk.dec_no HD0.out (Or.inl hx)))
              have E1 := digI_none hx
              clear hx
              go_wp2
              go_quiet ((go_at_call 25; exact Calls.quiet_of_same (digit_any _ _)))
              clear i1
              go_wp2
              go_ret2
              rw [HR.out]; exact ⟨rfl, below_drewN hbl _⟩
            | some x =>
              cases hy : tk.undig (s[j + 1]'hj2).toNat with
              | none =>
                have HR := Lib.hid (tk.read_bad HB.out HN.out (tk.dec_no HD0.out (Or.inr hy)))
                have E1 := digI_some hx
                have E2 := digI_none hy
                clear hx hy
                go_wp2
                go_quiet ((go_at_call 25; exact Calls.quiet_of_same (digit_any _ _)))
                clear i1
                go_wp2
                go_ret2
                rw [HR.out]; exact ⟨rfl, below_drewN hbl _⟩
              | some y =>
                have HD' : Hid (Dec s (k + 1) (acc ++ [16 * x + y])) := tk.dec_step HD0.out hx hy
                obtain ⟨hx', lx⟩ := tk.hexd_undig hx
                obtain ⟨hy', ly⟩ := tk.hexd_undig hy
                have E1 := digI_some hx
                have E2 := digI_some hy
                obtain ⟨z, hz⟩ : ∃ z, z = 16 * x + y := ⟨_, rfl⟩
                rw [← hz] at HD'
                have wz : IntKind.u8.wrap (16 * (x : Int) + (y : Int)) = (z : Int) := by
                  rw [show 16 * (x : Int) + (y : Int) = (z : Int) by omega]; exact IntWalk.u8_in _ (by omega)
                clear hx hy hx' hy' hz
                go_wp2
                go_quiet ((go_at_call 25; exact Calls.quiet_of_same (digit_any _ _)))
                clear i1
                have HO2 : Hid ((wr.drewN nq).ownsRow w.heap.size 5 1 u4 acc.length (kit.u8s acc)) := HO.out
                have hbl2 : Below w.heap.size w (wr.drewN nq) := below_drewN hbl _
                generalize wr.drewN nq = wq at HO2 hbl2
                have hszq := hbl2.size
                go_wp2_with (at_builtin; refine kit.app1 (.tmp 41) (.tmp 47) 43 rfl rfl w.heap.size Try.underlying43 infoByte rfl (by decide) (by decide) HO2.out rfl rfl rfl (by intro u hu; simp at hu; subst hu; rfl) (by omega) hszq ?_)
                intro v' w5 hown' hb5
                have HO5 : Hid (w5.ownsRow w.heap.size 5 1 v' (acc ++ [z]).length (kit.u8s (acc ++ [z]))) := by
                  show World.ownsRow _ _ _ _ _ _ _
                  rw [List.length_append, kit.u8s_app, hac]; exact hown'
                clear hown'
                go_wp2
                go_roundw

                case rel => exact ⟨k + 1, acc ++ [z], by rw [← hjk]; go_num, by omega, by simp [hac], HD', HO5, hbl2.trans hb5⟩
                case measure => simp [intOf]; omega
          · have HR := Lib.hid (tk.read_good HB.out HN.out (dec_end HD.out (by omega)))
            have hconv := kit.run_string (P := Try.prog) (src := 43) (dst := 9) Try.underlying43 Try.underlying5 Try.underlying9 HO.out
            go_wp2
            go_ret2
            rw [HR.out]; exact ⟨rfl, hbl⟩
      · have HR := Lib.hid (tk.read_form (l := kit.bytes s) (by rw [HL.out]; exact h1) (Or.inr (by rw [fst_get s h0]; exact h3)))
        have h3I : ((s[0].toNat : Int) != 112) = true := by simp; omega
        have h3J : ((s[0].toNat : Int) == 112) = false := by simp; omega
        clear h3
        go_enter Try.func18, Try.ntmps18
        go_wp2
        go_ret2
        rw [HR.out]; exact ⟨rfl, Below.refl _ _⟩
end Go.Proofs.Ytilnmfbimfmacaa
