/- BlockShort, walked. -/
import Derived.Test.YtniphmfkccaccaaGaps
namespace Go.Proofs.Ytniphmfkccaccaa
open Go.RowKit Go.ChangeShapes at_ cl

/-- numbers that follow one another -/
def Run (L : List Int) (f : Nat) (k : Nat) : Prop := L.length = k ∧ ∀ j, j < k → L.getD j 0 = (f : Int) + j
theorem run_nil (f : Nat) : Run [] f 0 := ⟨rfl, fun _ h => absurd h (Nat.not_lt_zero _)⟩
theorem run_snoc {L : List Int} {f k : Nat} (h : Run L f k) : Run (L ++ [(f : Int) + k]) f (k + 1) := by
  obtain ⟨h0, h1⟩ := h
  refine ⟨by rw [List.length_append, h0]; rfl, fun j hj => ?_⟩
  by_cases e : j = k
  · subst e; subst h0; simp [List.getD]
  · have := h1 j (by omega)
    simp only [List.getD] at this ⊢
    rw [List.getElem?_append_left (by omega)]; exact this
theorem run_rise {L : List Int} {f k : Nat} (h : Run L f k) (hk : f + k ≤ 1099511627776) : bm.Rise L k := fun j hj => by
  rw [h.2 j hj]
  refine ⟨by omega, by omega, fun h0 => ?_⟩
  rw [h.2 (j - 1) (by omega)]; omega
theorem run_dat {L : List Int} {f n : Nat} (h : Run L f n) : ∀ k, k ≤ n → (bm.dat L k).length = k - (k + 15) / 16 := by
  intro k
  induction k with
  | zero => intro _; rfl
  | succ k ih =>
    intro hk
    have := ih (by omega)
    by_cases e : k % 16 = 0
    · rw [bm.dat_head e, this]; omega
    · have g : bm.gap L k = 0 := by
        unfold bm.gap
        rw [h.2 k (by omega), h.2 (k - 1) (by omega)]; omega
      rw [bm.dat_next e, g, vm.enc_lt (by omega), List.length_append, this, List.length_singleton]; omega

set_option maxHeartbeats 1600000 in
set_option maxRecDepth 100000 in
theorem short_any (x y : Int) (l : List Int) (v : Value) (w : World) (h : At w w.heap.size v l) :
    Calls Try.prog 7 #[.int .i64 x, .int .i64 y, v] w (Said true w) := by
  obtain ⟨n, hn⟩ : ∃ n, n = l.length := ⟨_, rfl⟩
  have HG : Hid (n ≤ 400 → ∀ W : World, Below w.heap.size w W → Calls Try.prog 20 #[v] W (GapP n W)) := fun hl W hb => by
    rw [hn]; exact gaps_any l v W ((h.later hb (Nat.le_refl _)).mono hb.size) (by omega)
  obtain ⟨ao, ca, rfl, _, hla, _⟩ := h
  unfold maxLen at hla
  rw [← hn] at hla HG ⊢
  clear hn
  by_cases hl : 400 < n
  · have hlI : (400 : Int) < (n : Int) := by omega
    have HA := Lib.hid (awake_any w)
    go_enter Try.func7, Try.ntmps7
    go_wp2_with fail
    refine HA.out.mono ?_
    rintro e w1 ⟨rfl, hb⟩
    go_wp2
    go_ret
    exact ⟨rfl, hb⟩
  · have hlI : ¬ (400 : Int) < (n : Int) := by omega
    have HG1 := Lib.hid (HG.out (by omega))
    obtain ⟨f, hf, hfx⟩ := kit.umod x (m := 1000000) (by omega)
    obtain ⟨m, hm, hmx⟩ := kit.umod y (m := 1000) (by omega)
    have hfx2 : (IntKind.u64.wrap x).tmod 1000000 = (f : Int) := hfx
    have hmx2 : (IntKind.u64.wrap y).tmod 1000 = (m : Int) := hmx
    have hfi : IntKind.i64.wrap (f : Int) = (f : Int) := IntWalk.i64_in _ (by omega)
    have hmi : IntKind.i64.wrap (m : Int) = (m : Int) := IntWalk.i64_in _ (by omega)
    clear hfx hmx
    go_enter Try.func7, Try.ntmps7
    go_wp2
    go_loopw [7, 8, 26] (fun u7 _ i wr => ∃ (k : Nat) (L : List Int), i = .int .i64 k ∧ k ≤ m ∧ Hid (Run L f k) ∧ Hid (wr.ownsRow w.heap.size 3 1 u7 k (i64s L)) ∧ Below w.heap.size w wr) (fun _ _ i _ => m - (intOf i).toNat)
    case atStart => exact ⟨0, [], rfl, by omega, run_nil f, World.ownsRow_nil _ _ _ _, Below.refl _ _⟩
    case round =>
      obtain ⟨k, L, rfl, hk, HR, HO, hbl⟩ := hrel
      by_cases hlt : k < m
      · have hkI : (k : Int) < (m : Int) := by omega
        have hz := hbl.size
        go_wp2_with (at_builtin; refine kit.app1 (.tmp 29) (.tmp 33) 22 rfl rfl w.heap.size Try.underlying22 infoInt rfl (by decide) (by decide) HO.out rfl rfl rfl (by intro u hu; simp at hu; subst hu; rfl) (by omega) hz ?_)
        intro v' w5 hown' hb5
        have HR5 := Lib.hid (run_snoc HR.out)
        have HO5 : Hid (w5.ownsRow w.heap.size 3 1 v' (k + 1) (i64s (L ++ [(f : Int) + k]))) := by
          show World.ownsRow _ _ _ _ _ _ _
          rw [i64s_app]; exact hown'
        have hbl5 := hbl.trans hb5
        clear hown'
        go_wp2
        go_roundw
        case rel => exact ⟨k + 1, _, by go_num, by omega, HR5, HO5, hbl5⟩
        case measure => simp [intOf]; omega
      · obtain rfl : k = m := by omega
        have hRL := HR.out.1
        have ho := HO.out
        rw [← hRL] at ho
        have HEN := Lib.hid (enc_good L (by omega) (by rw [hRL]; exact run_rise HR.out (by omega)) u7 wr (at_.own ho))
        have hds : (kit.str (bm.dat L L.length)).size = k - (k + 15) / 16 := by rw [kit.str_size, hRL]; exact run_dat HR.out k (Nat.le_refl _)
        have hss : (bm.skp L L.length).length = (k + 15) / 16 := by rw [bm.skp_len, hRL]
        obtain ⟨D, hD⟩ : ∃ D, D = kit.str (bm.dat L L.length) := ⟨_, rfl⟩
        obtain ⟨q, hq⟩ : ∃ q, q = (bm.skp L L.length).length := ⟨_, rfl⟩
        rw [← hD, ← hq] at HEN
        rw [← hD] at hds
        rw [← hq] at hss
        simp only [hRL] at HEN
        have h1 : ((D.size : Int) == (k : Int) - ((k : Int) + 15) / 16) = true := by rw [beq_iff_eq]; omega
        have h2 : ((q : Int) == ((k : Int) + 15) / 16) = true := by rw [beq_iff_eq]; omega
        clear hds hss hD hq ho hRL
        go_wp2_with fail
        refine HEN.out.mono ?_
        rintro e w2 ⟨a2, c2, rfl, _, hb2⟩
        have hb02 := hbl.trans (hb2.mono hbl.size)
        have hB2 : Below w2.heap.size w2 (w2.alloc (.cells #[.int .i64 (k : Int), .string D, .slice a2 q c2] 26)) := (Below.refl _ _).alloc (Nat.le_refl _) _
        have hb03 := hb02.trans (hB2.mono hb02.size)
        have HGA := Lib.hid (HG1.out _ hb03)
        go_wp2_with fail
        with_reducible refine HGA.out.mono ?_
        rintro e w4 ⟨v4, G, rfl, hr, hgn, ho4, hb4⟩
        have HE2 := Lib.hid (enc_good G (by omega) hr v4 w4 (at_.own ho4))
        have hd2 : (kit.str (bm.dat G G.length)).size ≤ 6 * n := by rw [kit.str_size]; have := bm.dat_len hr; omega
        obtain ⟨E, hE⟩ : ∃ D, D = kit.str (bm.dat G G.length) := ⟨_, rfl⟩
        obtain ⟨p, hp⟩ : ∃ q, q = (bm.skp G G.length).length := ⟨_, rfl⟩
        obtain ⟨g, hg⟩ : ∃ g, g = G.length := ⟨_, rfl⟩
        rw [← hE, ← hp] at HE2
        rw [← hE] at hd2
        simp only [← hg] at HE2
        have hd3 : (E.size : Int) ≤ 6 * (n : Int) := by omega
        clear hd2 hE hp hg hr hgn ho4
        go_wp2_with fail
        with_reducible refine HE2.out.mono ?_
        rintro e w5 ⟨a5, c5, rfl, _, hb5⟩
        have hB6 : Below w5.heap.size w5 (w5.alloc (.cells #[.int .i64 (g : Int), .string E, .slice a5 p c5] 26)) := (Below.refl _ _).alloc (Nat.le_refl _) _
        have hb46 := hb4.trans ((hb5.trans (hB6.mono hb5.size)).mono hb4.size)
        obtain ⟨q0, q1, q2, f0, f1, f2, _⟩ := cl.three (w := w2) (t := 26) hb46
        have hb06 := hb03.trans (hb46.mono hb03.size)
        have HA6 := Lib.hid (awake_any (w5.alloc (.cells #[.int .i64 (g : Int), .string E, .slice a5 p c5] 26)))
        go_wp2_with fail
        with_reducible refine HA6.out.mono ?_
        rintro e w7 ⟨rfl, hb7⟩
        have hfin := hb06.trans (hb7.mono hb06.size)
        go_wp2
        go_ret
        exact ⟨rfl, hfin⟩
end Go.Proofs.Ytniphmfkccaccaa
