/- block.Decode on a right block. -/
import Derived.Test.YtniphmfkccaccaaBlkRead
import Derived.Test.YtniphmfkccaccaaSkips
namespace Go.Proofs.Ytniphmfkccaccaa
open Go.RowKit Go.ChangeShapes at_ cl

theorem skp_get (l : List Int) : ∀ (n k : Nat), 16 * k < n → (bm.skp l n).getD k (0, 0) = (l.getD (16 * k) 0, ((bm.dat l (16 * k)).length : Int)) := by
  intro n
  induction n with
  | zero => intro k h; omega
  | succ n ih =>
    intro k h
    by_cases e : n % 16 = 0
    · rw [bm.skp_head e]
      have hlen := bm.skp_len l n
      by_cases h2 : 16 * k < n
      · rw [← ih k h2]
        simp only [List.getD]
        rw [List.getElem?_append_left (by rw [hlen]; omega)]
      · obtain rfl : 16 * k = n := by omega
        have hk : k = (bm.skp l (16 * k)).length := by rw [hlen]; omega
        simp only [List.getD]
        rw [List.getElem?_append_right (by omega), ← hk]
        simp
    · rw [bm.skp_next e]
      exact ih k (by omega)
theorem take_next {l : List Int} {k m1 : Nat} (hm : m1 + 1 = min 16 (l.length - 16 * k)) : l.take (16 * k) ++ (l.drop (16 * k)).take (m1 + 1) = l.take (16 * (k + 1)) := by
  rw [show 16 * (k + 1) = 16 * k + 16 by omega, List.take_add (l := l) (i := 16 * k) (j := 16)]
  congr 1
  generalize hp : m1 + 1 = p at hm
  by_cases h16 : 16 ≤ l.length - 16 * k
  · rw [hm, Nat.min_eq_left h16]
  · rw [hm, Nat.min_eq_right (by omega), List.take_of_length_le (by rw [List.length_drop]; omega), List.take_of_length_le (by rw [List.length_drop]; omega)]
theorem own_cast {w : World} {B e k n n' : Nat} {v : Value} {xs : List Value} (h : n = n') (ho : w.ownsRow B e k v n xs) : w.ownsRow B e k v n' xs := h ▸ ho
def DecP (l : List Int) (w : World) (e : Ending) (w' : World) : Prop := ∃ v, e = .returned (.tuple #[v, .int .i64 0]) ∧ w'.ownsRow w.heap.size 3 1 v l.length (i64s l) ∧ Below w.heap.size w w'
/-- a right block's parts -/
theorem enc_good (l : List Int) (hl : l.length ≤ 4000) (hr : bm.Rise l l.length) (v : Value) (W : World) (h : At W W.heap.size v l) :
    Calls Try.prog 9 #[v] W fun e w' => ∃ a c, e = .returned (.tuple #[.agg #[.int .i64 (l.length : Int), .string (kit.str (bm.dat l l.length)), .slice a (bm.skp l l.length).length c], .int .i64 0]) ∧
      w'.ownsRow W.heap.size 46 2 (.slice a (bm.skp l l.length).length c) (bm.skp l l.length).length (scells (bm.skp l l.length)) ∧ Below W.heap.size W w' := by
  refine (encode_any l v W h).mono ?_
  rintro e w' ⟨sv, rfl, ho, hb⟩
  obtain ⟨s1, s2, s3, s4⟩ := bm.said_good hl hr
  rw [s1, s2, s3]
  rw [s4] at ho
  obtain ⟨a, c, rfl⟩ := own_slice ho
  exact ⟨a, c, rfl, ho, hb⟩

set_option maxHeartbeats 6400000 in
set_option maxRecDepth 100000 in
theorem decode_right (l : List Int) (vs : Value) (w : World) (hl : l.length ≤ 4000) (hr : bm.Rise l l.length) (h : Skps w w.heap.size vs (bm.skp l l.length)) :
    Calls Try.prog 13 #[.agg #[.int .i64 (l.length : Int), .string (kit.str (bm.dat l l.length)), vs]] w (DecP l w) := by
  have HENC := Lib.hid (enc_good l hl hr)
  have HREAD : Hid (∀ (s m1 : Nat) (W : World), s % 16 = 0 → m1 < 16 → s + m1 < l.length → Calls Try.prog 24 #[.string (kit.str (bm.dat l l.length)), .agg #[.int .i64 (l.getD s 0), .int .i64 ((bm.dat l s).length : Int)], .int .i64 ((m1 : Int) + 1)] W (ReadP l s (m1 + 1) W)) :=
    fun s m1 W h1 h2 h3 => read_right l s m1 W hl hr h1 h2 h3
  obtain ⟨D, hD⟩ : ∃ D, D = kit.str (bm.dat l l.length) := ⟨_, rfl⟩
  obtain ⟨S, hS⟩ : ∃ S, S = bm.skp l l.length := ⟨_, rfl⟩
  have hq := bm.skp_len l l.length
  have HSG : Hid (∀ k, 16 * k < l.length → S.getD k (0, 0) = (l.getD (16 * k) 0, ((bm.dat l (16 * k)).length : Int))) := by rw [hS]; exact skp_get l _
  rw [← hD] at HENC HREAD
  rw [← hS] at HENC hq h
  rw [← hD]
  obtain ⟨n, hn⟩ : ∃ n, n = l.length := ⟨_, rfl⟩
  have HN := Lib.hid hn
  obtain ⟨q0, hq0⟩ : ∃ q, q = S.length := ⟨_, rfl⟩
  have HQ0 := Lib.hid hq0
  rw [← hn, ← hq0] at HENC
  rw [← hn] at hl hq ⊢
  rw [← hq0] at hq
  obtain ⟨ao, cap, rfl⟩ : ∃ ao cap, vs = .slice ao q0 cap := by
    obtain ⟨ao, cap, e, _⟩ := h.form
    exact ⟨ao, cap, by rw [hq0]; exact e⟩
  have HC := Lib.hid h
  have hdiv : ((n : Int) + 16 - 1) / 16 = (q0 : Int) := by omega
  have hdne : ((q0 : Int) != ((n : Int) + 16 - 1) / 16) = false := by rw [hdiv]; simp
  have HQQ := Lib.hid hq
  have hql : q0 ≤ 251 := by omega
  clear h hD hS hn hq0 hr hq
  go_enter Try.func13, Try.ntmps13
  go_wp2
  go_loopw [4, 5, 6, 7, 8, 33] (fun u4 _ _ _ _ i wr => ∃ k : Nat, i = .int .i64 k ∧ k ≤ q0 ∧ Hid (wr.ownsRow (w.heap.size + 1) 3 1 u4 (l.take (16 * k)).length (i64s (l.take (16 * k)))) ∧ Below (w.heap.size + 1) (w.alloc (.cells #[.int .i64 n, .string D, .slice ao q0 cap] 26)) wr) (fun _ _ _ _ _ i _ => q0 - (intOf i).toNat)
  case atStart => exact ⟨0, rfl, by omega, World.ownsRow_nil _ _ _ _, Below.refl _ _⟩
  case round =>
    obtain ⟨k, rfl, hk, HO, hbl⟩ := hrel
    have hb0 : Below w.heap.size w wr := ((Below.refl _ _).alloc (Nat.le_refl _) _).trans (hbl.mono (by omega))
    obtain ⟨c0, c1, c2, f0, f1, f2, hz⟩ := cl.three (w := w) (w2 := wr) (t := 26) (by rw [World.size_alloc]; exact hbl)
    by_cases hlt : k < q0
    · have hkn : 16 * k < n := by have := HQQ.out; omega
      have hkl : 16 * k < l.length := by rw [← HN.out]; exact hkn
      have hkI : (k : Int) < (q0 : Int) := by omega
      obtain ⟨b, off, rfl, hB, p0, p1⟩ := Skps.get HC.out HQ0.out hlt
      have d0 := (hb0.cell (p := ⟨b, off + k * 2, none⟩) hB).trans p0
      have d1 := (hb0.cell (p := ⟨b, off + k * 2 + 1, none⟩) hB).trans p1
      rw [HSG.out k hkl] at d0 d1
      clear p0 p1
--BEGIN
      by_cases h16 : 16 ≤ n - 16 * k
      · obtain ⟨m1, hm1⟩ : ∃ m1, m1 = 15 := ⟨_, rfl⟩
        have hle : (16 : Int) ≤ (n : Int) - (k : Int) * 16 := by omega
        have HRE : Hid (∀ W : World, Calls Try.prog 24 #[.string D, .agg #[.int .i64 (l.getD (16 * k) 0), .int .i64 ((bm.dat l (16 * k)).length : Int)], .int .i64 16] W (ReadP l (16 * k) (m1 + 1) W)) := fun W => by
          subst hm1
          exact HREAD.out (16 * k) 15 W (by omega) (by omega) (by rw [← HN.out]; omega)
        have HTN := Lib.hid (take_next (l := l) (k := k) (m1 := m1) (by rw [← HN.out]; omega))
        have htl : (l.take (16 * k)).length ≤ 4000 := by rw [List.length_take, ← HN.out]; omega
        have HTL : Hid ((l.take (16 * k)).length + (m1 + 1) = (l.take (16 * (k + 1))).length) := by
          show _ = _
          rw [List.length_take, List.length_take, ← HN.out]; omega
        have HTM : Hid ((i64s ((l.drop (16 * k)).take (m1 + 1))).length = m1 + 1) := by
          show _ = _
          rw [i64s_len, List.length_take, List.length_drop, ← HN.out]; omega
        obtain ⟨mm, hmm⟩ : ∃ mm, mm = m1 + 1 := ⟨_, rfl⟩
        have hmm16 : mm ≤ 16 := by omega
        rw [← hmm] at HTN HTL HTM HRE
        obtain ⟨x, hx⟩ : ∃ x, x = l.getD (16 * k) 0 := ⟨_, rfl⟩
        obtain ⟨y, hy⟩ : ∃ y, y = (bm.dat l (16 * k)).length := ⟨_, rfl⟩
        rw [← hx, ← hy] at HRE
        simp only [← hx, ← hy] at d0 d1
        clear hx hy hmm hm1
        go_wp2_with fail
        refine (HRE.out _).mono ?_
        rintro e w5 ⟨v5, rfl, ho5, hb5⟩
        have hz5 := hb5.size
        rw [World.size_alloc] at hz5
        have hbw : Below (w.heap.size + 1) wr w5 := ((Below.refl _ _).alloc hz _).trans (hb5.mono (by rw [World.size_alloc]; have : w.heap.size < wr.heap.size := hz; omega))
        have HO5 : Hid (w5.ownsRow (w.heap.size + 1) 3 1 u4 (l.take (16 * k)).length (i64s (l.take (16 * k)))) := own_stay (HO.out.alloc _) hb5
        obtain ⟨a5, c5, rfl⟩ := own_slice ho5
        have HNA := Lib.hid (Cells.own ho5).news
        clear ho5
        go_wp2_with (at_builtin; refine kit.appN (.tmp 53) (.tmp 54) 22 rfl rfl (w.heap.size + 1) Try.underlying22 infoInt rfl (by decide) (by decide) HO5.out rfl (i64s ((l.drop (16 * k)).take mm)) rfl (by rw [HTM.out]; omega) HNA.out.1 HNA.out.2 i64s_one (by omega) (by have : w.heap.size < wr.heap.size := hz; omega) ?_)
        intro v6 w6 hown' hb6
        have HO6 : Hid (w6.ownsRow (w.heap.size + 1) 3 1 v6 (l.take (16 * (k + 1))).length (i64s (l.take (16 * (k + 1))))) := by
          show World.ownsRow _ _ _ _ _ _ _
          rw [← i64s_app, HTN.out] at hown'
          exact own_cast (by rw [← HTL.out, List.length_take]) hown'
        have hbln := (hbl.trans hbw).trans hb6
        clear hown' HTL HTM HTN HNA
        go_wp2
        go_roundw
        case rel => exact ⟨k + 1, by go_num, by omega, HO6, hbln⟩
        case measure => simp [intOf]; omega
      · obtain ⟨m1, hm1⟩ : ∃ m1, m1 + 1 = n - 16 * k := ⟨n - 16 * k - 1, by omega⟩
        have hle : (n : Int) - (k : Int) * 16 < 16 := by omega
        have HRE : Hid (∀ W : World, Calls Try.prog 24 #[.string D, .agg #[.int .i64 (l.getD (16 * k) 0), .int .i64 ((bm.dat l (16 * k)).length : Int)], .int .i64 ((n : Int) - (k : Int) * 16)] W (ReadP l (16 * k) (m1 + 1) W)) := fun W => by
          rw [show (n : Int) - (k : Int) * 16 = (m1 : Int) + 1 by omega]
          exact HREAD.out (16 * k) m1 W (by omega) (by omega) (by rw [← HN.out]; omega)
        have HTN := Lib.hid (take_next (l := l) (k := k) (m1 := m1) (by rw [← HN.out]; omega))
        have htl : (l.take (16 * k)).length ≤ 4000 := by rw [List.length_take, ← HN.out]; omega
        have HTL : Hid ((l.take (16 * k)).length + (m1 + 1) = (l.take (16 * (k + 1))).length) := by
          show _ = _
          rw [List.length_take, List.length_take, ← HN.out]; omega
        have HTM : Hid ((i64s ((l.drop (16 * k)).take (m1 + 1))).length = m1 + 1) := by
          show _ = _
          rw [i64s_len, List.length_take, List.length_drop, ← HN.out]; omega
        obtain ⟨mm, hmm⟩ : ∃ mm, mm = m1 + 1 := ⟨_, rfl⟩
        have hmm16 : mm ≤ 16 := by omega
        rw [← hmm] at HTN HTL HTM HRE
        obtain ⟨x, hx⟩ : ∃ x, x = l.getD (16 * k) 0 := ⟨_, rfl⟩
        obtain ⟨y, hy⟩ : ∃ y, y = (bm.dat l (16 * k)).length := ⟨_, rfl⟩
        rw [← hx, ← hy] at HRE
        simp only [← hx, ← hy] at d0 d1
        clear hx hy hmm hm1
        go_wp2_with fail
        refine (HRE.out _).mono ?_
        rintro e w5 ⟨v5, rfl, ho5, hb5⟩
        have hz5 := hb5.size
        rw [World.size_alloc] at hz5
        have hbw : Below (w.heap.size + 1) wr w5 := ((Below.refl _ _).alloc hz _).trans (hb5.mono (by rw [World.size_alloc]; have : w.heap.size < wr.heap.size := hz; omega))
        have HO5 : Hid (w5.ownsRow (w.heap.size + 1) 3 1 u4 (l.take (16 * k)).length (i64s (l.take (16 * k)))) := own_stay (HO.out.alloc _) hb5
        obtain ⟨a5, c5, rfl⟩ := own_slice ho5
        have HNA := Lib.hid (Cells.own ho5).news
        clear ho5
        go_wp2_with (at_builtin; refine kit.appN (.tmp 53) (.tmp 54) 22 rfl rfl (w.heap.size + 1) Try.underlying22 infoInt rfl (by decide) (by decide) HO5.out rfl (i64s ((l.drop (16 * k)).take mm)) rfl (by rw [HTM.out]; omega) HNA.out.1 HNA.out.2 i64s_one (by omega) (by have : w.heap.size < wr.heap.size := hz; omega) ?_)
        intro v6 w6 hown' hb6
        have HO6 : Hid (w6.ownsRow (w.heap.size + 1) 3 1 v6 (l.take (16 * (k + 1))).length (i64s (l.take (16 * (k + 1))))) := by
          show World.ownsRow _ _ _ _ _ _ _
          rw [← i64s_app, HTN.out] at hown'
          exact own_cast (by rw [← HTL.out, List.length_take]) hown'
        have hbln := (hbl.trans hbw).trans hb6
        clear hown' HTL HTM HTN HNA
        go_wp2
        go_roundw
        case rel => exact ⟨k + 1, by go_num, by omega, HO6, hbln⟩
        case measure => simp [intOf]; omega
    · obtain rfl : k = q0 := by omega
      have hfull : l.take (16 * k) = l := List.take_of_length_le (by rw [← HN.out]; have := HQQ.out; omega)
      rw [hfull] at HO
      have HE := Lib.hid (HENC.out u4 wr (at_.own HO.out))
      clear hfull
      go_wp2_with fail
      refine HE.out.mono ?_
      rintro e w5 ⟨a5, c5, rfl, ho5, hb5⟩
      have hzz : w.heap.size + 1 ≤ wr.heap.size := hz
      have hbl5 := hbl.trans (hb5.mono hzz)
      have hb05 := hb0.trans (hb5.mono (by omega))
      obtain ⟨d0, d1, d2, g0, g1, g2, hz5⟩ := cl.three (w := w) (w2 := w5) (t := 26) (by rw [World.size_alloc]; exact hbl5)
      have HO5 : Hid (w5.ownsRow (w.heap.size + 1) 3 1 u4 l.length (i64s l)) := own_stay HO.out hb5
      have HS5 : Hid (∀ W : World, Below w5.heap.size w5 W → Calls Try.prog 25 #[.slice a5 k c5, .slice ao k cap] W (Said true W)) := fun W hW => by
        have h1 : Skps W W.heap.size (.slice a5 k c5) S := by
          have := Cells.next (Cells.own ho5) hW
          show Cells _ _ _ _ _ _
          rw [← HQ0.out]; exact this
        have h2 : Skps W W.heap.size (.slice ao k cap) S := by
          have hb9 := hb05.trans (hW.mono hb05.size)
          exact (HC.out.below hb9).mono hb9.size
        have h3 := equal_any S S _ _ W h1 h2
        rw [show decide (S = S) = true from decide_eq_true rfl] at h3
        exact h3
      have hb6 : Below w5.heap.size w5 (w5.alloc (.cells #[.int .i64 n, .string D, .slice a5 k c5] 26)) := (Below.refl _ _).alloc (Nat.le_refl _) _
      have HS6 := Lib.hid (HS5.out _ hb6)
      clear ho5
      obtain ⟨a4, c4, rfl⟩ := own_slice HO5.out
      go_wp2_with fail
      refine HS6.out.mono ?_
      rintro e w7 ⟨rfl, hb7⟩
      have hbz := hb6.trans (hb7.mono (by simp))
      have HO7 : Hid (w7.ownsRow (w.heap.size + 1) 3 1 (.slice a4 l.length c4) l.length (i64s l)) := own_stay HO5.out hbz
      have hbf := hb05.trans (hbz.mono hb05.size)
      go_wp2
      go_ret2
      exact ⟨_, rfl, Joins.ownsRow_le HO7.out (Nat.le_succ _), hbf⟩
end Go.Proofs.Ytniphmfkccaccaa
