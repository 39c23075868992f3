/- block.Encode by its contract. -/
import Derived.Test.YtniphmfkccaccaaApp
import Derived.Test.YtniphmfkccaccaaBlkMath
import Derived.Test.YtniphmfkccaccaaAt
import Derived.Test.YtniphmfkccaccaaPut
import Derived.Test.YtniphmfkccaccaaCells
import Derived.Lib.SmallJoins
namespace Go.Proofs.Ytniphmfkccaccaa
open Go.RowKit Go.ChangeShapes at_

theorem infoSkip : (Try.prog.info? 46).map (fun i => (i.zero, i.size, i.bytes)) = some (some (.agg #[.int .i64 0, .int .i64 0]), 2, 16) := by kernel_rfl
/-- skips as they lie -/
def scells (l : List (Int × Int)) : List Value := l.flatMap fun p => [.int .i64 p.1, .int .i64 p.2]
theorem scells_app (a b : List (Int × Int)) : scells (a ++ b) = scells a ++ scells b := by simp [scells]
def EncP (l : List Int) (w : World) (e : Ending) (w' : World) : Prop := ∃ sv, e = .returned (.tuple #[.agg #[.int .i64 (bm.cnt l), .string (kit.str (bm.dats l)), sv], .int .i64 (bm.code l)]) ∧ w'.ownsRow w.heap.size 46 2 sv (bm.skps l).length (scells (bm.skps l)) ∧ Below w.heap.size w w'
theorem EncP.mk {l : List Int} {w w' : World} {c k : Int} {d : List Nat} {s : List (Int × Int)} {sv : Value} (hs : bm.code l = c ∧ bm.cnt l = k ∧ bm.dats l = d ∧ bm.skps l = s) (ho : w'.ownsRow w.heap.size 46 2 sv s.length (scells s)) (hb : Below w.heap.size w w') :
    EncP l w (.returned (.tuple #[.agg #[.int .i64 k, .string (kit.str d), sv], .int .i64 c])) w' := by
  obtain ⟨rfl, rfl, rfl, rfl⟩ := hs
  exact ⟨sv, rfl, ho, hb⟩

theorem enc_below {w w2 : World} {u0 u1 u2 : Value} (hb : Below w.heap.size w w2) :
    Below w.heap.size w (((w2.setCell ⟨w.heap.size, 0, none⟩ u0).setCell ⟨w.heap.size, 1, none⟩ u1).setCell ⟨w.heap.size, 2, none⟩ u2) :=
  ((hb.setCell (Nat.le_refl _) _).setCell (Nat.le_refl _) _).setCell (Nat.le_refl _) _
theorem enc_own {w w2 : World} {e k n : Nat} {v u0 u1 u2 : Value} {xs : List Value} (h : w2.ownsRow (w.heap.size + 1) e k v n xs) :
    (((w2.setCell ⟨w.heap.size, 0, none⟩ u0).setCell ⟨w.heap.size, 1, none⟩ u1).setCell ⟨w.heap.size, 2, none⟩ u2).ownsRow w.heap.size e k v n xs :=
  Joins.ownsRow_le (ownsRow_setCell_below (ownsRow_setCell_below (ownsRow_setCell_below h (Nat.lt_succ_self _) _) (Nat.lt_succ_self _) _) (Nat.lt_succ_self _) _) (Nat.le_succ _)
theorem tmod16 (k : Nat) : (k : Int).tmod 16 = ((k % 16 : Nat) : Int) := rfl
theorem tmod16s (k : Nat) : ((k : Int) + 1).tmod 16 = (((k + 1) % 16 : Nat) : Int) := rfl
theorem own_slice {w : World} {B e k n : Nat} {v : Value} {xs : List Value} (h : w.ownsRow B e k v n xs) : ∃ a c, v = .slice a n c := by
  rcases h.2 with ⟨rfl, rfl⟩ | ⟨g, cap, _, rfl, _⟩
  · exact ⟨_, _, rfl⟩
  · exact ⟨_, _, rfl⟩

set_option maxHeartbeats 6400000 in
set_option maxRecDepth 100000 in
theorem encode_any (l : List Int) (v : Value) (w : World) (h : At w w.heap.size v l) :
    Calls Try.prog 9 #[v] w (EncP l w) := by
  obtain ⟨ao, ca, rfl, _, hla, hca⟩ := h
  unfold maxLen at hla
  obtain ⟨n, hn⟩ : ∃ n, n = l.length := ⟨_, rfl⟩
  have HN := Lib.hid hn
  rw [← hn] at hla hca ⊢
  by_cases hl : 4000 < n
  · have HS := Lib.hid (bm.said_long (l := l) (by rw [← HN.out]; exact hl))
    have hlI : (4000 : Int) < (n : Int) := by omega
    clear hca hn
    go_enter Try.func9, Try.ntmps9
    go_wp2
    refine bodyPost_ret (v := .tuple #[.agg #[.int .i64 0, .string ⟨#[]⟩, .slice none 0 0], .int .i64 4]) (by simp [results, Try.results9, go_sem]) rfl (EncP.mk HS.out (World.ownsRow_nil _ _ _ _) ?_)
    exact (Below.refl _ _).alloc (Nat.le_refl _) _
  · have hlI : ¬ (4000 : Int) < (n : Int) := by omega
    have HC := Lib.hid hca
    clear hca hn
    go_enter Try.func9, Try.ntmps9
    go_wp2
    go_loopw [4, 5, 6, 7, 8, 9, 16] (fun v4 v5 _ _ _ _ i wr => ∃ k : Nat, i = .int .i64 k ∧ k ≤ n ∧ Hid (bm.Rise l k) ∧ Hid (wr.ownsRow (w.heap.size + 1) 46 2 v4 (bm.skp l k).length (scells (bm.skp l k))) ∧ Hid (wr.ownsRow (w.heap.size + 1) 5 1 v5 (bm.dat l k).length (kit.u8s (bm.dat l k))) ∧ Below (w.heap.size + 1) (w.alloc (.cells #[.int .i64 0, .string ⟨#[]⟩, .slice none 0 0] 26)) wr) (fun _ _ _ _ _ _ i _ => n - (intOf i).toNat)
    case atStart => exact ⟨0, rfl, by omega, bm.rise_zero l, World.ownsRow_nil _ _ _ _, World.ownsRow_nil _ _ _ _, Below.refl _ _⟩
    case round =>
      obtain ⟨k, rfl, hk, HR, HO4, HO5, hbl⟩ := hrel
      have hb0 : Below w.heap.size w wr := ((Below.refl _ _).alloc (Nat.le_refl _) _).trans (hbl.mono (by omega))
      obtain ⟨q0, q1, q2, f0, f1, f2, hz⟩ := cl.three (w := w) (w2 := wr) (t := 26) (by rw [World.size_alloc]; exact hbl)
      by_cases hlt : k < n
      · obtain ⟨b, off, rfl, hB, hcell⟩ := HC.out (by omega)
        have hkl : k < l.length := by rw [← HN.out]; exact hlt
        have hkI : (k : Int) < (n : Int) := by omega
        have ck := (hb0.cell (p := ⟨b, off + k, none⟩) hB).trans (hcell k hlt)
        obtain ⟨r, hr⟩ : ∃ r, r = l.getD k 0 := ⟨_, rfl⟩
        rw [← hr] at ck
        have HRR := Lib.hid hr
        clear hr
        by_cases hr0 : r < 0
        · have HS := Lib.hid (bm.said_bad (l := l) (by rw [← HN.out]; omega) (bm.rise_not (k := k) hkl (by rw [← HRR.out]; exact Or.inl hr0)))
          go_wp2
          refine bodyPost_ret (v := .tuple #[.agg #[.int .i64 0, .string ⟨#[]⟩, .slice none 0 0], .int .i64 1]) (by simp [results, Try.results9, go_sem, q0, q1, q2]) rfl (EncP.mk HS.out (World.ownsRow_nil _ _ _ _) ?_)
          exact enc_below hb0
        · by_cases hr1 : 1099511627776 < r
          · have HS := Lib.hid (bm.said_bad (l := l) (by rw [← HN.out]; omega) (bm.rise_not (k := k) hkl (by rw [← HRR.out]; exact Or.inr (Or.inl hr1))))
            go_wp2
            refine bodyPost_ret (v := .tuple #[.agg #[.int .i64 0, .string ⟨#[]⟩, .slice none 0 0], .int .i64 1]) (by simp [results, Try.results9, go_sem, q0, q1, q2]) rfl (EncP.mk HS.out (World.ownsRow_nil _ _ _ _) ?_)
            exact enc_below hb0
          · by_cases hk0 : k = 0
            · subst hk0
              have hm : 0 % 16 = 0 := rfl
              have ck0 : wr.cell? ⟨b, off, none⟩ = some (.int .i64 r) := ck
              have HRn : Hid (bm.Rise l (0 + 1)) := bm.rise_succ HR.out (by rw [← HRR.out]; omega) (by rw [← HRR.out]; omega) (fun h => absurd h (by omega))
              have hmI : (((0 : Nat) : Int).tmod 16 == 0) = true := by rw [tmod16 0, hm]; rfl
              have HD := Lib.hid (bm.dat_head (l := l) (k := 0) hm)
              have HK := Lib.hid (bm.skp_head (l := l) (k := 0) hm)
              obtain ⟨a5, c5, rfl⟩ := own_slice HO5.out
              have hsl : (bm.skp l (0)).length ≤ 300 := by rw [bm.skp_len]; omega
              have hz1 : w.heap.size + 1 ≤ wr.heap.size := hz
              go_wp2_with (at_builtin; refine app1g (.tmp 44) (.tmp 49) 24 rfl rfl (w.heap.size + 1) Try.underlying24 infoSkip rfl (by decide) (by decide) HO4.out rfl rfl rfl (by intro u hu; simp at hu; rcases hu with rfl | rfl <;> rfl) (by omega) hz1 ?_)
              intro v' w5 hown' hg
              have HO4n : Hid (w5.ownsRow (w.heap.size + 1) 46 2 v' (bm.skp l (0 + 1)).length (scells (bm.skp l (0 + 1)))) := by
                show World.ownsRow _ _ _ _ _ _ _
                rw [HK.out, List.length_append, scells_app, ← HRR.out]; exact hown'
              have HO5n : Hid (w5.ownsRow (w.heap.size + 1) 5 1 (.slice a5 (bm.dat l (0)).length c5) (bm.dat l (0 + 1)).length (kit.u8s (bm.dat l (0 + 1)))) := by
                show World.ownsRow _ _ _ _ _ _ _
                rw [HD.out]; exact (HO5.out.alloc _).kept hg (own_apart HO5.out HO4.out (by decide))
              have hbln := (hbl.alloc hz1 (.cells #[.int .i64 r, .int .i64 ((bm.dat l (0)).length : Int)] 46)).trans (grown_below (HO4.out.alloc _) (by rw [World.size_alloc]; omega) hg)
              clear hown' hg
              go_wp2
              go_roundw
              case rel => exact ⟨0 + 1, by go_num, by omega, HRn, HO4n, HO5n, hbln⟩
              case measure => simp [intOf]; omega
            · obtain ⟨p, rfl⟩ : ∃ p, k = p + 1 := ⟨k - 1, by omega⟩
              have hpl : p < n := by omega
              have hpI : (p : Int) < (n : Int) := by omega
              have cp := (hb0.cell (p := ⟨b, off + p, none⟩) hB).trans (hcell p hpl)
              obtain ⟨q, hq⟩ : ∃ q, q = l.getD p 0 := ⟨_, rfl⟩
              rw [← hq] at cp
              have HQ := Lib.hid hq
              clear hq
              by_cases hrq : r ≤ q
              · have HS := Lib.hid (bm.said_bad (l := l) (by rw [← HN.out]; omega) (bm.rise_not (k := p + 1) hkl (by rw [← HRR.out]; exact Or.inr (Or.inr ⟨by omega, by rw [Nat.add_sub_cancel, ← HQ.out]; exact hrq⟩))))
                go_wp2
                refine bodyPost_ret (v := .tuple #[.agg #[.int .i64 0, .string ⟨#[]⟩, .slice none 0 0], .int .i64 1]) (by simp [results, Try.results9, go_sem, q0, q1, q2]) rfl (EncP.mk HS.out (World.ownsRow_nil _ _ _ _) ?_)
                exact enc_below hb0
              · have HRn : Hid (bm.Rise l (p + 1 + 1)) := bm.rise_succ HR.out (by rw [← HRR.out]; omega) (by rw [← HRR.out]; omega) (fun h => by rw [← HRR.out, Nat.add_sub_cancel, ← HQ.out]; omega)
                by_cases hm : (p + 1) % 16 = 0
                · have hmI : (((p : Int) + 1 : Int).tmod 16 == 0) = true := by rw [tmod16s, hm]; rfl
                  have HD := Lib.hid (bm.dat_head (l := l) (k := p + 1) hm)
                  have HK := Lib.hid (bm.skp_head (l := l) (k := p + 1) hm)
                  obtain ⟨a5, c5, rfl⟩ := own_slice HO5.out
                  have hsl : (bm.skp l (p + 1)).length ≤ 300 := by rw [bm.skp_len]; omega
                  have hz1 : w.heap.size + 1 ≤ wr.heap.size := hz
                  go_wp2_with (at_builtin; refine app1g (.tmp 44) (.tmp 49) 24 rfl rfl (w.heap.size + 1) Try.underlying24 infoSkip rfl (by decide) (by decide) HO4.out rfl rfl rfl (by intro u hu; simp at hu; rcases hu with rfl | rfl <;> rfl) (by omega) hz1 ?_)
                  intro v' w5 hown' hg
                  have HO4n : Hid (w5.ownsRow (w.heap.size + 1) 46 2 v' (bm.skp l (p + 1 + 1)).length (scells (bm.skp l (p + 1 + 1)))) := by
                    show World.ownsRow _ _ _ _ _ _ _
                    rw [HK.out, List.length_append, scells_app, ← HRR.out]; exact hown'
                  have HO5n : Hid (w5.ownsRow (w.heap.size + 1) 5 1 (.slice a5 (bm.dat l (p + 1)).length c5) (bm.dat l (p + 1 + 1)).length (kit.u8s (bm.dat l (p + 1 + 1)))) := by
                    show World.ownsRow _ _ _ _ _ _ _
                    rw [HD.out]; exact (HO5.out.alloc _).kept hg (own_apart HO5.out HO4.out (by decide))
                  have hbln := (hbl.alloc hz1 (.cells #[.int .i64 r, .int .i64 ((bm.dat l (p + 1)).length : Int)] 46)).trans (grown_below (HO4.out.alloc _) (by rw [World.size_alloc]; omega) hg)
                  clear hown' hg
                  go_wp2
                  go_roundw
                  case rel => exact ⟨p + 1 + 1, by go_num, by omega, HRn, HO4n, HO5n, hbln⟩
                  case measure => simp [intOf]; omega
                · have hmI : (((p : Int) + 1 : Int).tmod 16 == 0) = false := by rw [tmod16s]; simp; omega
                  have HD := Lib.hid (bm.dat_next (l := l) (k := p + 1) hm)
                  have HK := Lib.hid (bm.skp_next (l := l) (k := p + 1) hm)
                  have hq0 : 0 ≤ q := by rw [HQ.out]; exact (HR.out p (by omega)).1
                  have hw1 : wrap64 (r - q) = r - q := IntWalk.wrap64_in _ (by omega)
                  have hw2 : wrap64 (r - q - 1) = r - q - 1 := IntWalk.wrap64_in _ (by omega)
                  have hgl := bm.gap_le HRn.out (by omega)
                  rw [Nat.add_sub_cancel, ← HRR.out, ← HQ.out] at hgl
                  obtain ⟨gp, hgp⟩ : ∃ gp, gp = bm.gap l (p + 1) := ⟨_, rfl⟩
                  rw [← hgp] at hgl HD
                  have HP : Hid (∀ W : World, Calls Try.prog 21 #[.int .i64 (r - q - 1)] W (PutOk gp W)) := fun W => by rw [← hgl.2]; exact put_ok gp W hgl.1
                  have HBY := Lib.hid (vm.enc_byte gp)
                  have hel := vm.enc_six hgl.1
                  have hz1 : w.heap.size + 1 ≤ wr.heap.size := hz
                  have hdl := bm.dat_len HR.out
                  clear hgl hgp
                  go_wp2_with fail
                  refine (HP.out _).mono ?_
                  rintro e w5 ⟨rfl, hb5⟩
                  have HO4a := Lib.hid (own_stay HO4.out hb5)
                  have HO5a := Lib.hid (own_stay HO5.out hb5)
                  have hz5 := hb5.size
                  go_wp2_with (at_builtin; refine appS (.tmp 67) (.tmp 68) 44 9 rfl rfl (w.heap.size + 1) Try.underlying44 Try.underlying9 infoU8 HO5a.out rfl rfl HBY.out (by omega) (by omega) ?_)
                  intro v' w6 hown' hg
                  have HO5n : Hid (w6.ownsRow (w.heap.size + 1) 5 1 v' (bm.dat l (p + 1 + 1)).length (kit.u8s (bm.dat l (p + 1 + 1)))) := by
                    show World.ownsRow _ _ _ _ _ _ _
                    rw [HD.out, List.length_append]; exact hown'
                  have HO4n : Hid (w6.ownsRow (w.heap.size + 1) 46 2 u4 (bm.skp l (p + 1 + 1)).length (scells (bm.skp l (p + 1 + 1)))) := by
                    show World.ownsRow _ _ _ _ _ _ _
                    rw [HK.out]; exact HO4a.out.kept hg (own_apart HO4a.out HO5a.out (by decide))
                  have hbln := (hbl.trans (hb5.mono hz1)).trans (grown_below HO5a.out (by omega) hg)
                  clear hown' hg
                  go_wp2
                  go_roundw
                  case rel => exact ⟨p + 1 + 1, by go_num, by omega, HRn, HO4n, HO5n, hbln⟩
                  case measure => simp [intOf]; omega
      · obtain rfl : k = n := by omega
        have hs := bm.said_good (l := l) (by rw [← HN.out]; omega) (by rw [← HN.out]; exact HR.out)
        rw [← HN.out] at hs
        have HS := Lib.hid hs
        have hconv := kit.run_string (P := Try.prog) (src := 44) (dst := 9) Try.underlying44 Try.underlying5 Try.underlying9 HO5.out
        obtain ⟨a4, c4, rfl⟩ := own_slice HO4.out
        clear hs
        go_wp2
        refine bodyPost_ret (v := .tuple #[.agg #[.int .i64 (k : Int), .string (kit.str (bm.dat l k)), .slice a4 (bm.skp l k).length c4], .int .i64 0]) (by simp [results, Try.results9, go_sem, q0, q1, q2]) rfl (EncP.mk HS.out (enc_own HO4.out) ?_)
        exact enc_below hb0
end Go.Proofs.Ytniphmfkccaccaa
