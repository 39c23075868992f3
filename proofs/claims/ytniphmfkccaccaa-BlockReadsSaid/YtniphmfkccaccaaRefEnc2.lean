/- the document's Encode, walked. -/
import Derived.Test.YtniphmfkccaccaaRefEnc
namespace Go.Proofs.Ytniphmfkccaccaa
open Go.RowKit Go.ChangeShapes at_

theorem Bx.set {w wr : World} {c0 c1 c2 u : Value} (h : Bx w wr c0 c1 c2) :
    Bx w (wr.setCell ⟨w.heap.size + 1, 1, none⟩ u) c0 u c2 ∧ Bx w (wr.setCell ⟨w.heap.size + 1, 2, none⟩ u) c0 c1 u := by
  obtain ⟨⟨a0, a1, a2, a3, a4, a5⟩, ⟨b0, b1, b2, b3, b4, b5⟩, hz, hb0⟩ := h
  have hs : ∀ j, w.heap.size + 2 ≤ (wr.setCell ⟨w.heap.size + 1, j, none⟩ u).heap.size := fun j => by simp [World.setCell]; exact hz
  have hf : ∀ j p, (wr.setCell ⟨w.heap.size + 1, j, none⟩ u).frozen? p = wr.frozen? p := fun j p => World.frozen?_setCell ..
  have hn : ∀ j i, (wr.setCell ⟨w.heap.size + 1, j, none⟩ u).cell? ⟨w.heap.size, i, none⟩ = wr.cell? ⟨w.heap.size, i, none⟩ := fun j i => cell_ne (by intro e; simp only [Addr.mk.injEq] at e; omega)
  have hm : ∀ j i, j ≠ i → (wr.setCell ⟨w.heap.size + 1, j, none⟩ u).cell? ⟨w.heap.size + 1, i, none⟩ = wr.cell? ⟨w.heap.size + 1, i, none⟩ := fun j i h => cell_ne (by intro e; simp only [Addr.mk.injEq, and_true, true_and] at e; exact h e)
  have hB : ∀ j, Below w.heap.size w (wr.setCell ⟨w.heap.size + 1, j, none⟩ u) := fun j => hb0.setCell (Nat.le_succ _) _
  constructor
  · exact ⟨⟨(hm 1 0 (by omega)).trans a0, World.cell?_setCell_same wr _ u a1, (hm 1 2 (by omega)).trans a2, (hf _ _).trans a3, (hf _ _).trans a4, (hf _ _).trans a5⟩, ⟨(hn _ _).trans b0, (hn _ _).trans b1, (hn _ _).trans b2, (hf _ _).trans b3, (hf _ _).trans b4, (hf _ _).trans b5⟩, hs _, hB _⟩
  · exact ⟨⟨(hm 2 0 (by omega)).trans a0, (hm 2 1 (by omega)).trans a1, World.cell?_setCell_same wr _ u a2, (hf _ _).trans a3, (hf _ _).trans a4, (hf _ _).trans a5⟩, ⟨(hn _ _).trans b0, (hn _ _).trans b1, (hn _ _).trans b2, (hf _ _).trans b3, (hf _ _).trans b4, (hf _ _).trans b5⟩, hs _, hB _⟩
theorem Bx.own {w wr : World} {e k n : Nat} {v u : Value} {xs : List Value} {j : Nat} (h : wr.ownsRow (w.heap.size + 2) e k v n xs) : (wr.setCell ⟨w.heap.size + 1, j, none⟩ u).ownsRow (w.heap.size + 2) e k v n xs :=
  ownsRow_setCell_below h (show w.heap.size + 1 < w.heap.size + 2 by omega) _

set_option maxHeartbeats 6400000 in
set_option maxRecDepth 100000 in
theorem rencode_any (l : List Int) (v : Value) (w : World) (h : At w w.heap.size v l) :
    Calls Try.prog 10 #[v] w (EncP l w) := by
  have hA : Below w.heap.size w (w.alloc (.cells #[.int .i64 0, .string ⟨#[]⟩, .slice none 0 0] 26)) := (Below.refl _ _).alloc (Nat.le_refl _) _
  have HRI := Lib.hid (rising_any l v (w.alloc (.cells #[.int .i64 0, .string ⟨#[]⟩, .slice none 0 0] 26)) (h.later hA (Nat.le_refl _) |>.mono (by rw [World.size_alloc]; omega)))
  clear hA
  obtain ⟨ao, ca, rfl, _, hla, hca⟩ := h
  unfold maxLen at hla
  obtain ⟨n, hn⟩ : ∃ n, n = l.length := ⟨_, rfl⟩
  have HN := Lib.hid hn
  rw [← hn] at hla hca HRI ⊢
  by_cases hl : 4000 < n
  · have HS := Lib.hid (bm.said_long (l := l) (by rw [← HN.out]; exact hl))
    have hlI : (4000 : Int) < (n : Int) := by omega
    clear hca hn HRI
    go_enter Try.func10, Try.ntmps10
    go_wp2
    refine bodyPost_ret (v := .tuple #[.agg #[.int .i64 0, .string ⟨#[]⟩, .slice none 0 0], .int .i64 4]) (by simp [results, Try.results10, go_sem]) rfl (EncP.mk HS.out (World.ownsRow_nil _ _ _ _) ?_)
    exact (Below.refl _ _).alloc (Nat.le_refl _) _
  · have hlI : ¬ (4000 : Int) < (n : Int) := by omega
    have HC := Lib.hid hca
    clear hca hn
    by_cases hrise : bm.Rise l n
    · rw [decide_eq_true hrise] at HRI
      have HRS := Lib.hid hrise
      clear hrise
      go_enter Try.func10, Try.ntmps10
      go_wp2_with fail
      refine HRI.out.mono ?_
      rintro e w1 ⟨rfl, rfl⟩
      go_wp2
      go_loopw [5, 6, 7, 8, 22] (fun _ _ _ _ i wr => ∃ (k : Nat) (sv : Value), i = .int .i64 k ∧ k ≤ n ∧ Hid (Bx w wr (.int .i64 n) (.string (kit.str (bm.dat l k))) sv) ∧ Hid (wr.ownsRow (w.heap.size + 2) 46 2 sv (bm.skp l k).length (scells (bm.skp l k)))) (fun _ _ _ _ i _ => n - (intOf i).toNat)
      case atStart => exact ⟨0, .slice none 0 0, rfl, by omega, Bx.start w _ _ _ _ _, World.ownsRow_nil _ _ _ _⟩
      case round =>
        obtain ⟨k, sv, rfl, hk, HX, HO4⟩ := hrel
        obtain ⟨⟨a0, a1, a2, a3, a4, a5⟩, ⟨b0, b1, b2, b3, b4, b5⟩, hz, hb0⟩ := HX.out
        by_cases hlt : k < n
        · obtain ⟨b, off, rfl, hB, hcell⟩ := HC.out (by omega)
          have HCL := Lib.hid hcell
          clear hcell
          have hkI : (k : Int) < (n : Int) := by omega
          have ck := (hb0.cell (p := ⟨b, off + k, none⟩) hB).trans (HCL.out k hlt)
          obtain ⟨r, hr⟩ : ∃ r, r = l.getD k 0 := ⟨_, rfl⟩
          rw [← hr] at ck
          have HRR := Lib.hid hr
          clear hr
          have hrr := HRS.out k hlt
          rw [← HRR.out] at hrr
          obtain ⟨hr0, hr1, hr2⟩ := hrr
          have hsl : (bm.skp l k).length ≤ 300 := by rw [bm.skp_len]; omega
          by_cases hm : k % 16 = 0
          · have hmI : ((k : Int).tmod 16 == 0) = true := by rw [tmod16, hm]; rfl
            have HD := Lib.hid (bm.dat_head (l := l) (k := k) hm)
            have HK := Lib.hid (bm.skp_head (l := l) (k := k) hm)
            clear hr2
            go_wp2_with (at_builtin; refine app1g (.tmp 31) (.tmp 37) 24 rfl rfl (w.heap.size + 2) Try.underlying24 infoSkip rfl (by decide) (by decide) HO4.out rfl rfl rfl (by intro u hu; simp at hu; rcases hu with rfl | rfl <;> rfl) (by omega) hz ?_)
            intro v' w5 hown' hg
            have hb5 : Below (w.heap.size + 2) wr w5 := ((Below.refl _ _).alloc hz _).trans (grown_below (HO4.out.alloc _) (by rw [World.size_alloc]; omega) hg)
            have HO4n : Hid (w5.ownsRow (w.heap.size + 2) 46 2 v' (bm.skp l (k + 1)).length (scells (bm.skp l (k + 1)))) := by
              show World.ownsRow _ _ _ _ _ _ _
              rw [kit.str_size] at hown'
              rw [HK.out, List.length_append, scells_app, ← HRR.out]; exact hown'
            have HX5 := Lib.hid (HX.out.next hb5)
            obtain ⟨⟨d0, d1, d2, d3, d4, d5⟩, ⟨e0, e1, e2, e3, e4, e5⟩, _, _⟩ := HX5.out
            obtain ⟨a6, c6, rfl⟩ := own_slice HO4n.out
            clear hown' hg
            go_wp2
            go_roundw
            case rel => exact ⟨k + 1, _, by go_num, by omega, by rw [HD.out]; exact HX5.out.set.2, Bx.own HO4n.out⟩
            case measure => simp [intOf]; omega
          · have hk0 : 0 < k := by omega
            obtain ⟨p, rfl⟩ : ∃ p, k = p + 1 := ⟨k - 1, by omega⟩
            have hpl : p < n := by omega
            have hpI : (p : Int) < (n : Int) := by omega
            have cp := (hb0.cell (p := ⟨b, off + p, none⟩) hB).trans (HCL.out p hpl)
            obtain ⟨q, hq⟩ : ∃ q, q = l.getD p 0 := ⟨_, rfl⟩
            have hrq := hr2 (by omega)
            rw [Nat.add_sub_cancel] at hrq
            rw [← hq] at cp hrq
            have HQ := Lib.hid hq
            have hq0 : 0 ≤ q := by rw [hq]; exact (HRS.out p hpl).1
            clear hq hr2
            have hmI : (((p : Int) + 1).tmod 16 == 0) = false := by rw [tmod16s]; simp; omega
            have HD := Lib.hid (bm.dat_next (l := l) (k := p + 1) hm)
            have HK := Lib.hid (bm.skp_next (l := l) (k := p + 1) hm)
            have hw1 : wrap64 (r - q) = r - q := IntWalk.wrap64_in _ (by omega)
            have hw2 : wrap64 (r - q - 1) = r - q - 1 := IntWalk.wrap64_in _ (by omega)
            have hgl := bm.gap_le (bm.rise_le HRS.out (by omega : p + 1 + 1 ≤ n)) (by omega)
            rw [Nat.add_sub_cancel, ← HRR.out, ← HQ.out] at hgl
            obtain ⟨gp, hgp⟩ : ∃ gp, gp = bm.gap l (p + 1) := ⟨_, rfl⟩
            rw [← hgp] at hgl HD
            have HP : Hid (∀ W : World, Calls Try.prog 23 #[.int .i64 (r - q - 1)] W (PutOk gp W)) := fun W => by rw [← hgl.2]; exact rput_ok gp W hgl.1
            have hz1 : (kit.str (bm.dat l (p + 1))).size ≤ 24000 := by rw [kit.str_size]; have := bm.dat_len (bm.rise_le HRS.out (by omega : p + 1 ≤ n)); omega
            have hz2 : (kit.str (vm.enc gp)).size ≤ 6 := by rw [kit.str_size]; exact vm.enc_six hgl.1
            clear hgl hgp
            go_wp2_with fail
            refine (HP.out _).mono ?_
            rintro e w5 ⟨rfl, hb5⟩
            have HX5 := Lib.hid (HX.out.next (hb5.mono hz))
            have HO4n : Hid (w5.ownsRow (w.heap.size + 2) 46 2 sv (bm.skp l (p + 1 + 1)).length (scells (bm.skp l (p + 1 + 1)))) := by
              show World.ownsRow _ _ _ _ _ _ _
              rw [HK.out]; exact own_stay HO4.out hb5
            obtain ⟨⟨d0, d1, d2, d3, d4, d5⟩, ⟨e0, e1, e2, e3, e4, e5⟩, _, _⟩ := HX5.out
            go_wp2
            go_roundw
            case rel => exact ⟨p + 1 + 1, sv, by go_num, by omega, by rw [HD.out, kit.str_app]; exact HX5.out.set.1, Bx.own HO4n.out⟩
            case measure => simp [intOf]; omega
        · obtain rfl : k = n := by omega
          have hs := bm.said_good (l := l) (by rw [← HN.out]; omega) (by rw [← HN.out]; exact HRS.out)
          rw [← HN.out] at hs
          have HS := Lib.hid hs
          obtain ⟨a4, c4, rfl⟩ := own_slice HO4.out
          clear hs
          go_wp2
          refine bodyPost_ret (v := .tuple #[.agg #[.int .i64 (k : Int), .string (kit.str (bm.dat l k)), .slice a4 (bm.skp l k).length c4], .int .i64 0]) (by simp [results, Try.results10, go_sem, b0, b1, b2]) rfl (EncP.mk HS.out (enc_own (Joins.ownsRow_le HO4.out (Nat.le_succ _))) ?_)
          exact enc_below hb0
    · rw [decide_eq_false hrise] at HRI
      have HS := Lib.hid (bm.said_bad (l := l) (by rw [← HN.out]; omega) (by rw [← HN.out]; exact hrise))
      clear hrise
      go_enter Try.func10, Try.ntmps10
      go_wp2_with fail
      refine HRI.out.mono ?_
      rintro e w1 ⟨rfl, rfl⟩
      go_wp2
      refine bodyPost_ret (v := .tuple #[.agg #[.int .i64 0, .string ⟨#[]⟩, .slice none 0 0], .int .i64 1]) (by simp [results, Try.results10, go_sem]) rfl (EncP.mk HS.out (World.ownsRow_nil _ _ _ _) ?_)
      exact (Below.refl _ _).alloc (Nat.le_refl _) _
end Go.Proofs.Ytniphmfkccaccaa
