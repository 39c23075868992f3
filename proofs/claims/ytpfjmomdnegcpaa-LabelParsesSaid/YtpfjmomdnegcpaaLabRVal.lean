/- the document's value: a quoted value at the beginning. -/
import Derived.Test.YtpfjmomdnegcpaaLabRead
import Derived.Test.YtpfjmomdnegcpaaLabQuo
import Derived.Test.YtpfjmomdnegcpaaLabCanon
import Derived.BigQuiet
namespace Go.Proofs.Ytpfjmomdnegcpaa
open Go.RowKit Go.ChangeShapes cl
/-- a value, what stands behind it, and whether there is one -/
def ValP (s : ByteArray) (w : World) (e : Ending) (w' : World) : Prop := ∃ (v more : ByteArray) (ok : Bool), e = .returned (.tuple #[.string v, .string more, .bool ok]) ∧ Below w.heap.size w w' ∧
  (ok = true → more.size < s.size ∧ v.size ≤ s.size) ∧ ∀ v0 t, kit.bytes s = 34 :: (escN v0 ++ 34 :: t) → ok = true ∧ v = kit.str v0 ∧ kit.bytes more = t
theorem val_bad {s : ByteArray} {w W : World} (h : ∀ v0 t, kit.bytes s = 34 :: (escN v0 ++ 34 :: t) → False) (hb : Below w.heap.size w W) : ValP s w (.returned (.tuple #[.string ⟨#[]⟩, .string ⟨#[]⟩, .bool false])) W :=
  ⟨⟨#[]⟩, ⟨#[]⟩, false, rfl, hb, fun e => absurd e (by decide), fun v0 t hs => (h v0 t hs).elim⟩

set_option maxHeartbeats 3200000 in
set_option maxRecDepth 100000 in
theorem rval_first (s : ByteArray) (w : World) (hs : s.size ≤ 600) :
    Calls Try.prog 35 #[.string s] w (ValP s w) := by
  by_cases h0 : s = .empty
  · have HRET := Lib.hid (val_bad (s := s) (w := w) (W := w) (fun v0 t h => by rw [h0] at h; have : kit.bytes .empty = [] := rfl; rw [this] at h; cases h) (Below.refl _ _))
    subst h0
    go_enter Try.func35, Try.ntmps35
    go_wp2
    exact bodyPost_ret (v := .tuple #[.string ⟨#[]⟩, .string ⟨#[]⟩, .bool false]) (by simp [results, Try.results35, go_sem]) rfl HRET.out
  have hp : 0 < s.size := Nat.pos_of_ne_zero fun e => h0 (ByteArray.ext (Array.eq_empty_of_size_eq_zero e))
  obtain ⟨hs1, hs2, hs3⟩ : s.toList.isEmpty = false ∧ ¬ s.toList = [] ∧ ¬ s = ByteArray.empty := kit.ne_empty hp
  have hpI : (0 : Int) < (s.size : Int) := by omega
  have HD0 := Lib.hid (kit.bytes_drop s 0 hp)
  by_cases hq : (s[0]'hp).toNat = 34
  rotate_left
  · have g1 : ¬ ((s[0]'hp).toNat : Int) = 34 := by omega
    have g2 : (((s[0]'hp).toNat : Int) == 34) = false := by simpa using g1
    have g3 : (((s[0]'hp).toNat : Int) != 34) = true := by simpa using g1
    have HRET := Lib.hid (val_bad (s := s) (w := w) (W := w) (fun v0 t h => by
      have := HD0.out
      rw [List.drop_zero, h] at this
      exact hq (List.cons.inj this).1.symm) (Below.refl _ _))
    clear hq h0
    go_enter Try.func35, Try.ntmps35
    go_wp2
    exact bodyPost_ret (v := .tuple #[.string ⟨#[]⟩, .string ⟨#[]⟩, .bool false]) (by simp [results, Try.results35, go_sem]) rfl HRET.out
  have g1 : ((s[0]'hp).toNat : Int) = 34 := by omega
  have g2 : (((s[0]'hp).toNat : Int) == 34) = true := by rw [g1]; rfl
  have g3 : (((s[0]'hp).toNat : Int) != 34) = false := by rw [g1]; rfl
  clear hq h0
  go_enter Try.func35, Try.ntmps35
  go_wp2
  go_loopw [5, 6, 20, 30] (fun u5 i _ _ wr => ∃ (k : Nat) (val : List Nat) (o : ByteArray), u5 = .string o ∧ i = .int .i64 k ∧ 1 ≤ k ∧ k ≤ s.size ∧ o.size ≤ k ∧ Hid (o = kit.str val) ∧ Below w.heap.size w wr ∧ Hid (∀ v0 t, kit.bytes s = 34 :: (escN v0 ++ 34 :: t) → ∃ j, j ≤ v0.length ∧ val = v0.take j ∧ (kit.bytes s).drop k = escN (v0.drop j) ++ 34 :: t)) (fun _ i _ _ _ => s.size - (intOf i).toNat)
  case atStart => exact ⟨1, [], _, rfl, rfl, Nat.le_refl _, hp, by decide, rfl, Below.refl _ _, fun v0 t h => ⟨0, Nat.zero_le _, rfl, by rw [h]; rfl⟩⟩
  case round =>
    obtain ⟨k, val, o, rfl, rfl, hk0, hk, hvl, HO, hbl, HI⟩ := hrel
    have hz := hbl.size
    by_cases hlt : k < s.size
    · have hkI : (k : Int) < (s.size : Int) := by omega
      have HDR := Lib.hid (kit.bytes_drop s k hlt)
      by_cases h34 : (s[k]'hlt).toNat = 34
      · have HB : Hid ((s[k]'hlt).toNat = 34) := h34
        have g34 : ((s[k]'hlt).toNat : Int) = 34 := by omega
        have g34b : (((s[k]'hlt).toNat : Int) == 34) = true := by rw [g34]; rfl
        have hex : (s.extract (k + 1) s.size).size = s.size - (k + 1) := by rw [ByteArray.size_extract]; omega
        have HRET : Hid (∀ W, Below w.heap.size w W → ValP s w (.returned (.tuple #[.string o, .string (s.extract (k + 1) s.size), .bool true])) W) := fun W hW => by
          refine ⟨o, s.extract (k + 1) s.size, true, rfl, hW, fun _ => ⟨by omega, by omega⟩, fun v0 t he => ?_⟩
          obtain ⟨j, hj, hv, hd⟩ := HI.out _ _ he
          rw [HDR.out, HB.out] at hd
          obtain ⟨b1, b2⟩ := (lm.esc_at hd.symm).1 rfl
          have hjl : v0.length ≤ j := by
            have := congrArg List.length b1
            rw [List.length_drop, List.length_nil] at this; omega
          exact ⟨rfl, by rw [HO.out, hv, List.take_of_length_le hjl], by rw [lm.bytes_tail, b2]⟩
        have wa : IntKind.i64.wrap ((k : Int) + 1) = (k : Int) + 1 := IntWalk.i64_in _ (by omega)
        have wb : ((k : Int) + 1).toNat = k + 1 := by omega
        have wc : (k : Int) + 1 ≤ (s.size : Int) := by omega
        have wz : (0 : Int) ≤ (k : Int) + 1 := by omega
        have wn : k + 1 ≤ s.size := hlt
        clear hex h34
        go_wp2
        go_quiet (fail)
        go_wp2
        exact bodyPost_ret (v := .tuple #[.string o, .string (s.extract (k + 1) s.size), .bool true]) (by simp [results, Try.results35, go_sem]) rfl (HRET.out _ (below_drewN hbl _))
      · have g34 : ¬ ((s[k]'hlt).toNat : Int) = 34 := by omega
        have g34b : (((s[k]'hlt).toNat : Int) == 34) = false := by simpa using g34
        by_cases h92 : (s[k]'hlt).toNat = 92
        · have g92i : ((s[k]'hlt).toNat : Int) = 92 := by omega
          have g92 : (((s[k]'hlt).toNat : Int) == 92) = true := by rw [g92i]; rfl
          obtain ⟨m, hm⟩ : ∃ m, m = k + 1 := ⟨_, rfl⟩
          have hm1 : (k : Int) + 1 = (m : Int) := by omega
          have HM := Lib.hid hm
          by_cases hk1 : m < s.size
          · have hk1I : (m : Int) < (s.size : Int) := by omega
            have hkne : ¬ (m : Int) = (s.size : Int) := by omega
            have hkneb : ((m : Int) == (s.size : Int)) = false := by simp; omega
            have HDR1 : Hid ((kit.bytes s).drop (k + 1) = (s[m]'hk1).toNat :: (kit.bytes s).drop (k + 2)) := by
              have hg : ∀ (m' : Nat) (h : m' < s.size), m' = k + 1 → (kit.bytes s).drop (k + 1) = (s[m']'h).toNat :: (kit.bytes s).drop (k + 2) := by
                rintro m' h rfl
                exact kit.bytes_drop s (k + 1) h
              exact hg m hk1 hm
            have HI2 : Hid (∀ v0 t, kit.bytes s = 34 :: (escN v0 ++ 34 :: t) → ((s[m]'hk1).toNat = 34 ∨ (s[m]'hk1).toNat = 92) ∧ ∃ j, j ≤ v0.length ∧ val ++ [(s[m]'hk1).toNat] = v0.take j ∧ (kit.bytes s).drop (k + 2) = escN (v0.drop j) ++ 34 :: t) := fun v0 t h => by
              obtain ⟨j, hj, hv, hd⟩ := HI.out v0 t h
              rw [HDR.out, HDR1.out] at hd
              obtain ⟨y, v', r', e1, e2, e3, e4⟩ := (lm.esc_at hd.symm).2.2 h92
              simp only [List.cons.injEq] at e1
              obtain ⟨e1a, rfl⟩ := e1
              rw [e1a]
              have hjl : j < v0.length := by
                have := congrArg List.length e2
                rw [List.length_drop, List.length_cons] at this; omega
              rw [List.drop_eq_getElem_cons hjl] at e2
              simp only [List.cons.injEq] at e2
              exact ⟨e4, j + 1, hjl, by rw [List.take_succ_eq_append_getElem hjl, hv, e2.1], by rw [e2.2]; exact e3⟩
            by_cases hd1 : (s[m]'hk1).toNat = 34
            · have c1 : ((s[m]'hk1).toNat : Int) = 34 := by omega
              have c2 : (((s[m]'hk1).toNat : Int) == 34) = true := by rw [c1]; rfl
              have c3 : (((s[m]'hk1).toNat : Int) != 34) = false := by rw [c1]; rfl
              have c5 : (((s[m]'hk1).toNat : Int) == 92) = false := by rw [c1]; rfl
              have c6 : (((s[m]'hk1).toNat : Int) != 92) = true := by rw [c1]; rfl
              have z2 : ¬ 9223372036854775807 < o.size + (min (m + 1) s.size - m) := by omega
              have HX := Lib.hid (extract_one s m hk1)
              have HP2 : Hid (o ++ s.extract m (m + 1) = kit.str (val ++ [(s[m]'hk1).toNat])) := by show _ = _; rw [kit.str_app, HX.out, HO.out]
              have HS2 : Hid ((o ++ s.extract m (m + 1)).size ≤ k + 2) := by show _ ≤ _; rw [ByteArray.size_append, ByteArray.size_extract]; omega
              have HI3 := Lib.hid (fun v0 t h => (HI2.out v0 t h).2)
              have hm2 : (m : Int) + 1 = ((k + 2 : Nat) : Int) := by omega
              clear hd1 hm h92 h34 hm2 g92i
              go_wp2
              go_roundw
              case rel => exact ⟨k + 2, _, _, rfl, by have := HM.out; go_num, by omega, by have := HM.out; omega, HS2.out, HP2.out, hbl, HI3.out⟩
              case measure => have := HM.out; simp [intOf]; omega
            · by_cases hd2 : (s[m]'hk1).toNat = 92
              · have c1 : ((s[m]'hk1).toNat : Int) = 92 := by omega
                have c2 : (((s[m]'hk1).toNat : Int) == 34) = false := by rw [c1]; rfl
                have c3 : (((s[m]'hk1).toNat : Int) != 34) = true := by rw [c1]; rfl
                have c5 : (((s[m]'hk1).toNat : Int) == 92) = true := by rw [c1]; rfl
                have c6 : (((s[m]'hk1).toNat : Int) != 92) = false := by rw [c1]; rfl
                have z2 : ¬ 9223372036854775807 < o.size + (min (m + 1) s.size - m) := by omega
                have HX := Lib.hid (extract_one s m hk1)
                have HP2 : Hid (o ++ s.extract m (m + 1) = kit.str (val ++ [(s[m]'hk1).toNat])) := by show _ = _; rw [kit.str_app, HX.out, HO.out]
                have HS2 : Hid ((o ++ s.extract m (m + 1)).size ≤ k + 2) := by show _ ≤ _; rw [ByteArray.size_append, ByteArray.size_extract]; omega
                have HI3 := Lib.hid (fun v0 t h => (HI2.out v0 t h).2)
                have hm2 : (m : Int) + 1 = ((k + 2 : Nat) : Int) := by omega
                clear hd1 hd2 hm h92 h34 hm2 g92i
                go_wp2
                go_roundw
                case rel => exact ⟨k + 2, _, _, rfl, by have := HM.out; go_num, by omega, by have := HM.out; omega, HS2.out, HP2.out, hbl, HI3.out⟩
                case measure => have := HM.out; simp [intOf]; omega
              · have c1 : ¬ ((s[m]'hk1).toNat : Int) = 34 := by omega
                have c2 : (((s[m]'hk1).toNat : Int) == 34) = false := by simpa using c1
                have c3 : (((s[m]'hk1).toNat : Int) != 34) = true := by simpa using c1
                have c4 : ¬ ((s[m]'hk1).toNat : Int) = 92 := by omega
                have c5 : (((s[m]'hk1).toNat : Int) == 92) = false := by simpa using c4
                have c6 : (((s[m]'hk1).toNat : Int) != 92) = true := by simpa using c4
                have HRET := Lib.hid (val_bad (fun v0 t h => by
                  rcases (HI2.out v0 t h).1 with e | e
                  · exact hd1 e
                  · exact hd2 e) hbl)
                clear hd1 hd2 hm h92 h34
                go_wp2
                exact bodyPost_ret (v := .tuple #[.string ⟨#[]⟩, .string ⟨#[]⟩, .bool false]) (by simp [results, Try.results35, go_sem]) rfl HRET.out
          · have hke : (m : Int) = (s.size : Int) := by omega
            have hkeb : ((m : Int) == (s.size : Int)) = true := by simp; omega
            have HRET := Lib.hid (val_bad (fun v0 t h => by
              obtain ⟨j, hj, hv, hd⟩ := HI.out v0 t h
              rw [HDR.out] at hd
              obtain ⟨y, v', r', e1, _⟩ := (lm.esc_at hd.symm).2.2 h92
              rw [List.drop_eq_nil_of_le (by rw [kit.bytes_len]; omega)] at e1
              cases e1) hbl)
            clear hm h92 h34
            go_wp2
            exact bodyPost_ret (v := .tuple #[.string ⟨#[]⟩, .string ⟨#[]⟩, .bool false]) (by simp [results, Try.results35, go_sem]) rfl HRET.out
        · have g92 : ¬ ((s[k]'hlt).toNat : Int) = 92 := by omega
          have g92b : (((s[k]'hlt).toNat : Int) == 92) = false := by simpa using g92
          have HI2 : Hid (∀ v0 t, kit.bytes s = 34 :: (escN v0 ++ 34 :: t) → ∃ j, j ≤ v0.length ∧ val ++ [(s[k]'hlt).toNat] = v0.take j ∧ (kit.bytes s).drop (k + 1) = escN (v0.drop j) ++ 34 :: t) := fun v0 t h => by
            obtain ⟨j, hj, hv, hd⟩ := HI.out v0 t h
            rw [HDR.out] at hd
            obtain ⟨v', e1, e2⟩ := (lm.esc_at hd.symm).2.1 h34 h92
            have hjl : j < v0.length := by
              have := congrArg List.length e1
              rw [List.length_drop, List.length_cons] at this; omega
            rw [List.drop_eq_getElem_cons hjl] at e1
            simp only [List.cons.injEq] at e1
            exact ⟨j + 1, hjl, by rw [List.take_succ_eq_append_getElem hjl, hv, e1.1], by rw [e1.2]; exact e2⟩
          have z2 : ¬ 9223372036854775807 < o.size + (min (k + 1) s.size - k) := by omega
          have HX := Lib.hid (extract_one s k hlt)
          have HP2 : Hid (o ++ s.extract k (k + 1) = kit.str (val ++ [(s[k]'hlt).toNat])) := by show _ = _; rw [kit.str_app, HX.out, HO.out]
          have HS2 : Hid ((o ++ s.extract k (k + 1)).size ≤ k + 1) := by show _ ≤ _; rw [ByteArray.size_append, ByteArray.size_extract]; omega
          clear h92 h34
          go_wp2
          go_roundw
          case rel => exact ⟨k + 1, _, _, rfl, by go_num, by omega, by omega, HS2.out, HP2.out, hbl, HI2.out⟩
          case measure => simp [intOf]; omega
    · obtain rfl : k = s.size := by omega
      have HRET := Lib.hid (val_bad (fun v0 t h => by
        obtain ⟨j, hj, hv, hd⟩ := HI.out _ _ h
        rw [List.drop_eq_nil_of_le (by rw [kit.bytes_len]; exact Nat.le_refl _)] at hd
        have := congrArg List.length hd
        simp at this) hbl)
      go_wp2
      exact bodyPost_ret (v := .tuple #[.string ⟨#[]⟩, .string ⟨#[]⟩, .bool false]) (by simp [results, Try.results35, go_sem]) rfl HRET.out
end Go.Proofs.Ytpfjmomdnegcpaa
