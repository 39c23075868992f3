/- texts put together: DotRight. -/
import Derived.Test.YtonknpdalemjkaaGreatDe07
open List (setIfInBounds_toArray set_cons_zero set_cons_succ take_succ_cons take_zero drop_succ_cons drop_zero)
namespace Go.Proofs.YtonknpdalemjkaaGreat
open Go Go.RowKit Go.ChangeShapes cl Go.Sort
namespace dm
theorem adj_pair {R : Dot → Dot → Prop} (tr : ∀ x y z, R x y → R y z → R x z) (l : List Dot) (h : ∀ j, 0 < j → j < l.length → R (l.getD (j - 1) (0, 0)) (l.getD j (0, 0))) : l.Pairwise R := by
 rw [List.pairwise_iff_getElem]
 intro i j hi hj hij
 obtain ⟨d, rfl⟩ : ∃ d, j = i + (d + 1) := ⟨j - i - 1, by omega⟩
 induction d with
 | zero =>
  have := h (i + 1) (by omega) hj
  rw [Nat.add_sub_cancel] at this
  simpa [List.getD, hi, hj] using this
 | succ d ih =>
  have h1 := ih (by omega) (by omega)
  have h2 := h (i + (d + 1 + 1)) (by omega) hj
  have e : i + (d + 1 + 1) - 1 = i + (d + 1) := by omega
  have hd : i + (d + 1) < l.length := by omega
  rw [e] at h2
  refine tr _ _ _ h1 ?_
  have e1 : l.getD (i + (d + 1)) (0, 0) = l[i + (d + 1)] := by simp [List.getD, hd]
  have e2 : l.getD (i + (d + 1 + 1)) (0, 0) = l[i + (d + 1 + 1)] := by simp [List.getD, hj]
  rw [e1, e2] at h2
  exact h2
theorem pair_adj {R : Dot → Dot → Prop} {l : List Dot} (h : l.Pairwise R) {j : Nat} (h0 : 0 < j) (hj : j < l.length) : R (l.getD (j - 1) (0, 0)) (l.getD j (0, 0)) := by
 have := List.pairwise_iff_getElem.1 h (j - 1) j (by omega) hj (by omega)
 have h1 : j - 1 < l.length := by omega
 have e1 : l.getD (j - 1) (0, 0) = l[j - 1] := by simp [List.getD, h1]
 have e2 : l.getD j (0, 0) = l[j] := by simp [List.getD, hj]
 rw [e1, e2]; exact this
theorem getD_mem {l : List Dot} {j : Nat} (hj : j < l.length) : l.getD j (0, 0) ∈ l := by simp [List.getD, hj]
theorem mem_getD {l : List Dot} {d : Dot} (h : d ∈ l) : ∃ j, j < l.length ∧ l.getD j (0, 0) = d := by
 obtain ⟨j, hj, e⟩ := List.getElem_of_mem h
 exact ⟨j, hj, by simp [List.getD, hj, e]⟩
def Ok1 (l : List Dot) (j : Nat) : Prop := valid (l.getD j (0, 0)) = true ∧ (0 < j → (l.getD (j - 1) (0, 0)).1 < (l.getD j (0, 0)).1)
def Ok2 (K : Int → Int) (q : List Dot) (j : Nat) : Prop := valid (q.getD j (0, 0)) = true ∧ (0 < j → dless (q.getD (j - 1) (0, 0)) (q.getD j (0, 0)) = true) ∧ K (q.getD j (0, 0)).1 + 2 ≤ (q.getD j (0, 0)).2
theorem upK_bd {l : List Dot} (ok : (∀ d ∈ l, valid d = true) ∧ l.Pairwise fun a b => a.1 < b.1) (n : Int) : 0 ≤ upK l n ∧ upK l n ≤ 1099511627776 := by
 rw [upK_kn ok.2]
 rcases kn_cases l n with ⟨h1, _⟩ | h1
 ·
  omega
 ·
  have := (valid_iff _).1 (ok.1 _ h1)
  simp only at this; omega
theorem ok1_all {l : List Dot} (h : ∀ j, j < l.length → Ok1 l j) : (∀ d ∈ l, valid d = true) ∧ l.Pairwise fun a b => a.1 < b.1 := by
 refine ⟨fun d hd => ?_, adj_pair (fun x y z h1 h2 => by omega) l fun j h0 hj => (h j hj).2 h0⟩
 obtain ⟨j, hj, e⟩ := mem_getD hd
 rw [← e]; exact (h j hj).1
theorem right_of {c : Ctx} (h1 : ∀ j, j < c.1.length → Ok1 c.1 j) (h2 : ∀ j, j < c.2.length → Ok2 (upK c.1) c.2 j) : Right c := by
 obtain ⟨a, b⟩ := ok1_all h1
 refine ⟨a, b, fun d hd => ?_, adj_pair (R := fun a b => dless a b = true) (fun x y z => dless_trans) c.2 fun j h0 hj => (h2 j hj).2.1 h0⟩
 obtain ⟨j, hj, e⟩ := mem_getD hd
 have := h2 j hj
 unfold Ok2 at this
 rw [e, upK_kn b] at this
 exact ⟨this.1, this.2.2⟩
theorem Right.ok1 {c : Ctx} (h : Right c) {j : Nat} (hj : j < c.1.length) : Ok1 c.1 j := ⟨h.vok _ (getD_mem hj), fun h0 => pair_adj h.vup h0 hj⟩
theorem Right.ok2 {c : Ctx} (h : Right c) {j : Nat} (hj : j < c.2.length) : Ok2 (upK c.1) c.2 j := by
 have := h.cok _ (getD_mem hj)
 exact ⟨this.1, fun h0 => pair_adj h.cup h0 hj, by rw [upK_kn h.vup]; exact this.2⟩
open Classical in
noncomputable def rightB (c : Ctx) : Bool := decide (Right c)
theorem rightB_true {c : Ctx} (h : Right c) : rightB c = true := by
 classical
 unfold rightB
 simpa using h
theorem rightB_false {c : Ctx} (h : ¬ Right c) : rightB c = false := by
 classical
 unfold rightB
 simpa using h
end dm
def RS4 (H : Nat) (x0 x1 : Value) (w1 : World) (V : Nat) (a b : Value) (W : World) : Prop :=
 W.cell? ⟨H, 0, none⟩ = some x0 ∧ W.cell? ⟨H, 1, none⟩ = some x1 ∧ W.cell? ⟨V, 0, none⟩ = some a ∧ W.cell? ⟨V, 1, none⟩ = some b ∧ Below (H + 1) w1 W ∧ V + 1 ≤ W.heap.size
theorem RS4.step {H : Nat} {x0 x1 : Value} {w1 : World} {V : Nat} {a b : Value} {W W' : World} (h : RS4 H x0 x1 w1 V a b W) (hH : H + 1 ≤ w1.heap.size) (hb : Below W.heap.size W W') : RS4 H x0 x1 w1 V a b W' := by
 obtain ⟨p0, p1, p2, p3, d, s⟩ := h
 have hs := d.size
 have hs2 := hb.size
 exact ⟨(hb.cell (p := ⟨H, 0, none⟩) (show H < W.heap.size by omega)).trans p0, (hb.cell (p := ⟨H, 1, none⟩) (show H < W.heap.size by omega)).trans p1,
  (hb.cell (p := ⟨V, 0, none⟩) (show V < W.heap.size by omega)).trans p2, (hb.cell (p := ⟨V, 1, none⟩) (show V < W.heap.size by omega)).trans p3, d.trans (hb.mono (by omega)), by omega⟩
def RS5 (H : Nat) (x0 x1 : Value) (w1 : World) (V : Nat) (a b : Value) (e o : Nat) (u : Value) (W : World) : Prop :=
 W.cell? ⟨H, 0, none⟩ = some x0 ∧ W.cell? ⟨H, 1, none⟩ = some x1 ∧ W.cell? ⟨V, 0, none⟩ = some a ∧ W.cell? ⟨V, 1, none⟩ = some b ∧ W.cell? ⟨e, o, none⟩ = some u ∧ Below (H + 1) w1 W ∧ V + 1 ≤ W.heap.size
theorem RS5.step {H : Nat} {x0 x1 : Value} {w1 : World} {V : Nat} {a b : Value} {e o : Nat} {u : Value} {W W' : World} (h : RS5 H x0 x1 w1 V a b e o u W) (hH : H + 1 ≤ w1.heap.size) (he : e < H) (hb : Below W.heap.size W W') : RS5 H x0 x1 w1 V a b e o u W' := by
 obtain ⟨p0, p1, p2, p3, p4, d, s⟩ := h
 obtain ⟨q0, q1, q2, q3, d', s'⟩ := RS4.step ⟨p0, p1, p2, p3, d, s⟩ hH hb
 have hs := d.size
 exact ⟨q0, q1, q2, q3, (hb.cell (p := ⟨e, o, none⟩) (show e < W.heap.size by omega)).trans p4, d', s'⟩
def RS11 (H : Nat) (x1 : Value) (w2 : World) (X m : Nat) (u : Value) (V : Nat) (a b : Value) (e o : Nat) (a' b' : Value) (W : World) : Prop :=
 W.cell? ⟨H, 1, none⟩ = some x1 ∧ W.cell? ⟨X, m, none⟩ = some u ∧ W.cell? ⟨V, 0, none⟩ = some a ∧ W.cell? ⟨V, 1, none⟩ = some b ∧ W.cell? ⟨e, o, none⟩ = some a' ∧ W.cell? ⟨e, o + 1, none⟩ = some b' ∧ Below (X + 1) w2 W ∧ V + 1 ≤ W.heap.size
theorem RS11.step {H : Nat} {x1 : Value} {w2 : World} {X m : Nat} {u : Value} {V : Nat} {a b : Value} {e o : Nat} {a' b' : Value} {W W' : World} (h : RS11 H x1 w2 X m u V a b e o a' b' W) (hX : X + 1 ≤ w2.heap.size) (hH : H < X) (he : e < H) (hb : Below W.heap.size W W') : RS11 H x1 w2 X m u V a b e o a' b' W' := by
 obtain ⟨p0, p1, p2, p3, p4, p5, d, s⟩ := h
 have hs := d.size
 have hs2 := hb.size
 exact ⟨(hb.cell (p := ⟨H, 1, none⟩) (show H < W.heap.size by omega)).trans p0, (hb.cell (p := ⟨X, m, none⟩) (show X < W.heap.size by omega)).trans p1,
  (hb.cell (p := ⟨V, 0, none⟩) (show V < W.heap.size by omega)).trans p2, (hb.cell (p := ⟨V, 1, none⟩) (show V < W.heap.size by omega)).trans p3,
  (hb.cell (p := ⟨e, o, none⟩) (show e < W.heap.size by omega)).trans p4, (hb.cell (p := ⟨e, o + 1, none⟩) (show e < W.heap.size by omega)).trans p5, d.trans (hb.mono (by omega)), by omega⟩
theorem KAt.box (W : World) (K : Int → Int) (t : TypeId) : KAt (W.alloc (.cells #[.int .i64 (K 0), .int .i64 (K 1), .int .i64 (K 2), .int .i64 (K 3), .int .i64 (K 4), .int .i64 (K 5), .int .i64 (K 6), .int .i64 (K 7), .int .i64 (K 8), .int .i64 (K 9), .int .i64 (K 10), .int .i64 (K 11), .int .i64 (K 12), .int .i64 (K 13), .int .i64 (K 14), .int .i64 (K 15)] t)) W.heap.size K := fun j hj =>
 ⟨by
  rw [World.cell?_alloc_at _ _ _ _ rfl]
  rcases (by omega : j = 0 ∨ j = 1 ∨ j = 2 ∨ j = 3 ∨ j = 4 ∨ j = 5 ∨ j = 6 ∨ j = 7 ∨ j = 8 ∨ j = 9 ∨ j = 10 ∨ j = 11 ∨ j = 12 ∨ j = 13 ∨ j = 14 ∨ j = 15) with rfl | rfl | rfl | rfl | rfl | rfl | rfl | rfl | rfl | rfl | rfl | rfl | rfl | rfl | rfl | rfl <;> rfl, World.frozen?_alloc_at _ _ _ _ rfl⟩
set_option maxHeartbeats 3200000 in
set_option maxRecDepth 100000 in
theorem right_any (c : dm.Ctx) (v : Value) (w : World) (h : CtxAt w w.heap.size v c) : Calls Tryz.prog 31 #[v] w (SaidD (dm.rightB c) w) := by
  obtain ⟨v1, v2, rfl, p1, p2⟩ := h
  have HCT : Hid (CtxAt w w.heap.size (.agg #[v1, v2]) c) := ⟨v1, v2, rfl, p1, p2⟩
  have HF1 : Hid (∀ j, j < c.1.length → ¬ dm.Ok1 c.1 j → dm.rightB c = false) := fun j hj hno => dm.rightB_false fun hr => hno (hr.ok1 hj)
  have HF2 : Hid (∀ j, j < c.2.length → ¬ dm.Ok2 (dm.upK c.1) c.2 j → dm.rightB c = false) := fun j hj hno => dm.rightB_false fun hr => hno (hr.ok2 hj)
  have HT : Hid ((∀ j, j < c.1.length → dm.Ok1 c.1 j) → (∀ j, j < c.2.length → dm.Ok2 (dm.upK c.1) c.2 j) → dm.rightB c = true) := fun h1 h2 => dm.rightB_true (dm.right_of h1 h2)
  have HUP : Hid ((∀ j, j < c.1.length → dm.Ok1 c.1 j) → ∀ W, Below w.heap.size w W → Calls Tryz.prog 67 #[.agg #[v1, v2]] W fun e w' => e = .returned (arrV (dm.upK c.1)) ∧ Below W.heap.size W w') := fun h1 W hW => upTo_any c _ W (HCT.out.next hW) (dm.ok1_all h1).1
  obtain ⟨l, q⟩ := c
  simp only at p1 p2 HF1 HF2 HT HUP
  obtain ⟨R, hR⟩ : ∃ R, R = dm.rightB (l, q) := ⟨_, rfl⟩
  rw [← hR] at HF1 HF2 HT ⊢
  obtain ⟨n, hn⟩ : ∃ n, n = l.length := ⟨_, rfl⟩
  have HN := Lib.hid hn
  obtain ⟨m, hm⟩ : ∃ m, m = q.length := ⟨_, rfl⟩
  have HM := Lib.hid hm
  obtain ⟨ao, cap, rfl, hn63⟩ : ∃ ao cap, v1 = .slice ao n cap ∧ n ≤ 9223372036854775807 := by
    obtain ⟨ao, cap, e, _, h9⟩ := p1.form
    unfold maxLen at h9
    exact ⟨ao, cap, by rw [hn]; exact e, by rw [hn]; exact h9⟩
  obtain ⟨bo, bcap, rfl, hm63⟩ : ∃ ao cap, v2 = .slice ao m cap ∧ m ≤ 9223372036854775807 := by
    obtain ⟨ao, cap, e, _, h9⟩ := p2.form
    unfold maxLen at h9
    exact ⟨ao, cap, by rw [hm]; exact e, by rw [hm]; exact h9⟩
  have HC := Lib.hid p1
  have HD := Lib.hid p2
  have hA : Below w.heap.size w (w.alloc (.cells #[.slice ao n cap, .slice bo m bcap] 25)) := (Below.refl _ _).alloc (Nat.le_refl _) _
  have HX : Hid ((w.alloc (.cells #[.slice ao n cap, .slice bo m bcap] 25)).cell? ⟨w.heap.size, 0, none⟩ = some (.slice ao n cap) ∧ (w.alloc (.cells #[.slice ao n cap, .slice bo m bcap] 25)).cell? ⟨w.heap.size, 1, none⟩ = some (.slice bo m bcap) ∧ (w.alloc (.cells #[.slice ao n cap, .slice bo m bcap] 25)).heap.size = w.heap.size + 1) :=
    ⟨World.cell?_alloc_at _ _ _ _ rfl, World.cell?_alloc_at _ _ _ _ rfl, World.size_alloc _ _⟩
  clear p1 p2 hR hn hm
  go_enter Tryz.func31, Tryz.ntmps31
  go_wp2
  generalize w.alloc (.cells #[.slice ao n cap, .slice bo m bcap] 25) = w1 at hA HX ⊢
  have hw1 : w.heap.size + 1 ≤ w1.heap.size := by have := HX.out.2.2; omega
  go_loopw [3, 4, 11] (fun _ _ i wr => ∃ k : Nat, i = .int .i64 k ∧ k ≤ n ∧ Hid (∀ j, j < k → dm.Ok1 l j) ∧ Below (w.heap.size + 1) w1 wr) (fun _ _ i _ => n - (intOf i).toNat)
  case atStart => exact ⟨0, rfl, Nat.zero_le _, fun j hj => absurd hj (Nat.not_lt_zero _), Below.refl _ _⟩
  case round =>
    obtain ⟨k, rfl, hk, HO, hbl⟩ := hrel
    have hz := hbl.size
    have hbw := hA.trans (hbl.mono (by omega))
    have x0 := (hbl.cell (p := ⟨w.heap.size, 0, none⟩) (Nat.lt_succ_self _)).trans HX.out.1
    have x1 := (hbl.cell (p := ⟨w.heap.size, 1, none⟩) (Nat.lt_succ_self _)).trans HX.out.2.1
    by_cases hlt : k < n
    · obtain ⟨b0, off, rfl, hB, p0, p1⟩ := Dots.get HC.out HN.out hlt
      have HKL : Hid (k < l.length) := by show k < l.length; rw [← HN.out]; exact hlt
      obtain ⟨⟨a, b⟩, hx⟩ : ∃ x, x = l.getD k (0, 0) := ⟨_, rfl⟩
      rw [← hx] at p0 p1
      simp only at p0 p1
      have e0 := (hbw.cell (p := ⟨b0, off + k * 2, none⟩) hB).trans p0
      have e1 := (hbw.cell (p := ⟨b0, off + k * 2 + 1, none⟩) hB).trans p1
      have HXE := Lib.hid hx
      have hkI : (k : Int) < (n : Int) := by omega
      have HVA : Hid (∀ W, Calls Tryz.prog 61 #[.agg #[.int .i64 a, .int .i64 b]] W (SaidD (valid (a, b)) W)) := fun W => valid_any (a, b) W
      have hAL : Below wr.heap.size wr (wr.alloc (.cells #[.int .i64 a, .int .i64 b] 51)) := (Below.refl _ _).alloc (Nat.le_refl _) _
      have HR4 : Hid (RS4 w.heap.size (.slice (some ⟨b0, off, none⟩) n cap) (.slice bo m bcap) w1 wr.heap.size (.int .i64 a) (.int .i64 b) (wr.alloc (.cells #[.int .i64 a, .int .i64 b] 51))) :=
        ⟨(hAL.cell (p := ⟨w.heap.size, 0, none⟩) (by show w.heap.size < _; omega)).trans x0, (hAL.cell (p := ⟨w.heap.size, 1, none⟩) (by show w.heap.size < _; omega)).trans x1,
         World.cell?_alloc_at _ _ _ _ rfl, World.cell?_alloc_at _ _ _ _ rfl, hbl.trans (hAL.mono (by omega)), Nat.le_of_eq (World.size_alloc _ _).symm⟩
      clear p0 p1 hx
      by_cases hv : valid (a, b) = true
      · rw [hv] at HVA
        by_cases hk0 : 0 < k
        · obtain ⟨i, hki⟩ : ∃ i, k = i + 1 := ⟨k - 1, by omega⟩
          have HKI := Lib.hid hki
          obtain ⟨b0', off', hb0, hB', p0, p1⟩ := Dots.get HC.out HN.out (show i < n by omega)
          simp only [Option.some.injEq, Addr.mk.injEq] at hb0
          obtain ⟨rfl, rfl, _⟩ := hb0
          obtain ⟨⟨a', b'⟩, hx⟩ : ∃ x, x = l.getD i (0, 0) := ⟨_, rfl⟩
          rw [← hx] at p0
          simp only at p0
          have e2 := (hbw.cell (p := ⟨b0, off + i * 2, none⟩) hB).trans p0
          have HXE2 := Lib.hid hx
          have HR5 : Hid (RS5 w.heap.size (.slice (some ⟨b0, off, none⟩) n cap) (.slice bo m bcap) w1 wr.heap.size (.int .i64 a) (.int .i64 b) b0 (off + i * 2) (.int .i64 a') (wr.alloc (.cells #[.int .i64 a, .int .i64 b] 51))) := by
            obtain ⟨q0, q1, q2, q3, q4, q5⟩ := HR4.out
            exact ⟨q0, q1, q2, q3, (hAL.cell (p := ⟨b0, off + i * 2, none⟩) (by show b0 < _; omega)).trans e2, q4, q5⟩
          have hw : IntKind.i64.wrap ((k : Int) - 1) = (i : Int) := by rw [hki]; push_cast; rw [Int.add_sub_cancel]; exact IntWalk.i64_in _ (by omega)
          have hi1 : (0 : Int) ≤ (i : Int) := by omega
          have hi2 : (i : Int) < (n : Int) := by omega
          have hg2 : (0 : Int) < (k : Int) := by omega
          have hg1 : decide ((0 : Int) < (k : Int)) = true := decide_eq_true hg2
          have HIJ : Hid ((∀ j, j < k + 1 → dm.Ok1 l j) ∨ R = false ∧ ¬ a' < a) := by
            by_cases hl2 : a' < a
            · refine Or.inl fun j hj => ?_
              by_cases e : j = k
              · subst e
                unfold dm.Ok1
                rw [← HXE.out]
                refine ⟨hv, fun _ => ?_⟩
                rw [HKI.out, Nat.add_sub_cancel, ← HXE2.out]
                exact hl2
              · exact HO.out j (by omega)
            · exact Or.inr ⟨HF1.out k HKL.out (fun hok => by
                have h2 := hok.2 hk0
                rw [← HXE.out, HKI.out, Nat.add_sub_cancel, ← HXE2.out] at h2
                exact hl2 h2), hl2⟩
          clear p0 p1 hx hki
          by_cases hl2 : a' < a
          · have HOK : Hid (∀ j, j < k + 1 → dm.Ok1 l j) := by
              rcases HIJ.out with h | h
              · exact h
              · exact absurd hl2 h.2
            have hd1 : decide (a ≤ a') = false := decide_eq_false (by omega)
            have hd2 : ¬ a ≤ a' := by omega
            go_wp2_with fail
            refine wp_region_plan [false, true, false, false, false, false, false, false, false, false, false, false, false, false, false, false, false, false, false] (fun w' => w'.cell? ⟨w.heap.size, 0, none⟩ = some (.slice (some ⟨b0, off, none⟩) n cap) ∧ w'.cell? ⟨w.heap.size, 1, none⟩ = some (.slice bo m bcap) ∧ w'.cell? ⟨wr.heap.size, 0, none⟩ = some (.int .i64 a) ∧ w'.cell? ⟨wr.heap.size, 1, none⟩ = some (.int .i64 b) ∧ w'.cell? ⟨b0, off + i * 2, none⟩ = some (.int .i64 a') ∧ Below (w.heap.size + 1) w1 w' ∧ wr.heap.size + 1 ≤ w'.heap.size) (by kernel_rfl) (by kernel_rfl) ?_ (fun hS0 => ?_)
            · exact RS5.step HR5.out hw1 hB (below_drewND (Below.refl _ _) 1)
            try dsimp only at hS0
            refine HW.take ?_ (by rfl) (fun w hSw => ?_) ?_
            rotate_left
            · (try dsimp only at hSw); go_simp; try with_reducible rfl
            try simp only [Act.put, setIfInBounds_toArray, set_cons_zero, set_cons_succ]
            refine HW.run (by rfl) (fun K hK => ?_)
            go_simp
            (go_at_call 61; (with_reducible refine (HVA.out _).mono ?_); rintro e wK ⟨rfl, hbK⟩)
            try go_wp2_with fail
            refine hK.out _ _ ?_ (fun hS1 => ?_)
            · exact RS5.step hS0 hw1 hB hbK
            clear hK K hS0
            try dsimp only at hS1
            try simp only [Act.put, setIfInBounds_toArray, set_cons_zero, set_cons_succ]
            iterate 17
             refine HW.take ?_ (by rfl) (fun w hSw => ?_) ?_
             rotate_left
             · (try dsimp only at hSw); go_simp; try with_reducible rfl
             try simp only [Act.put, setIfInBounds_toArray, set_cons_zero, set_cons_succ]
            refine HW.done ?_
            have hbl2 := hS1.2.2.2.2.2.1
            clear hS1 hbK
            go_wp2
            go_roundw
            case rel => exact ⟨k + 1, by go_num, by omega, HOK, hbl2⟩
            case measure => simp [intOf]; omega
          · have HRF : Hid (R = false) := by
              rcases HIJ.out with h | h
              · have h2 := (h k (by omega)).2 (by have := HKI.out; omega)
                rw [← HXE.out, HKI.out, Nat.add_sub_cancel, ← HXE2.out] at h2
                exact absurd h2 hl2
              · exact h.1
            have hd1 : decide (a ≤ a') = true := decide_eq_true (by omega)
            have hd2 : a ≤ a' := by omega
            go_wp2_with fail
            refine wp_region_plan [false, true, false, false, false, false, false, false, false, false, false, false, false, false, false, false, false, false, false] (fun w' => w'.cell? ⟨w.heap.size, 0, none⟩ = some (.slice (some ⟨b0, off, none⟩) n cap) ∧ w'.cell? ⟨w.heap.size, 1, none⟩ = some (.slice bo m bcap) ∧ w'.cell? ⟨wr.heap.size, 0, none⟩ = some (.int .i64 a) ∧ w'.cell? ⟨wr.heap.size, 1, none⟩ = some (.int .i64 b) ∧ w'.cell? ⟨b0, off + i * 2, none⟩ = some (.int .i64 a') ∧ Below (w.heap.size + 1) w1 w' ∧ wr.heap.size + 1 ≤ w'.heap.size) (by kernel_rfl) (by kernel_rfl) ?_ (fun hS0 => ?_)
            · exact RS5.step HR5.out hw1 hB (below_drewND (Below.refl _ _) 1)
            try dsimp only at hS0
            refine HW.take ?_ (by rfl) (fun w hSw => ?_) ?_
            rotate_left
            · (try dsimp only at hSw); go_simp; try with_reducible rfl
            try simp only [Act.put, setIfInBounds_toArray, set_cons_zero, set_cons_succ]
            refine HW.run (by rfl) (fun K hK => ?_)
            go_simp
            (go_at_call 61; (with_reducible refine (HVA.out _).mono ?_); rintro e wK ⟨rfl, hbK⟩)
            try go_wp2_with fail
            refine hK.out _ _ ?_ (fun hS1 => ?_)
            · exact RS5.step hS0 hw1 hB hbK
            clear hK K hS0
            try dsimp only at hS1
            try simp only [Act.put, setIfInBounds_toArray, set_cons_zero, set_cons_succ]
            iterate 17
             refine HW.take ?_ (by rfl) (fun w hSw => ?_) ?_
             rotate_left
             · (try dsimp only at hSw); go_simp; try with_reducible rfl
             try simp only [Act.put, setIfInBounds_toArray, set_cons_zero, set_cons_succ]
            refine HW.done ?_
            have hbl2 := hS1.2.2.2.2.2.1
            clear hS1 hbK
            have hb9 := hA.trans (hbl2.mono (by omega))
            go_wp2
            go_ret
            rw [HRF.out]; exact ⟨rfl, hb9⟩
        · have HK0 : Hid (k = 0) := by show k = 0; omega
          have HOK : Hid (∀ j, j < k + 1 → dm.Ok1 l j) := fun j hj => by
            obtain rfl : j = k := by omega
            unfold dm.Ok1
            rw [← HXE.out]
            exact ⟨hv, fun h => absurd h hk0⟩
          have hg2 : ¬ (0 : Int) < (k : Int) := by omega
          have hg1 : decide ((0 : Int) < (k : Int)) = false := decide_eq_false hg2
          go_wp2_with fail
          refine wp_region_plan [false, true, false, false, false, false, false, false, false, false, false, false, false, false, false, false, false, false, false] (fun w' => w'.cell? ⟨w.heap.size, 0, none⟩ = some (.slice (some ⟨b0, off, none⟩) n cap) ∧ w'.cell? ⟨w.heap.size, 1, none⟩ = some (.slice bo m bcap) ∧ w'.cell? ⟨wr.heap.size, 0, none⟩ = some (.int .i64 a) ∧ w'.cell? ⟨wr.heap.size, 1, none⟩ = some (.int .i64 b) ∧ Below (w.heap.size + 1) w1 w' ∧ wr.heap.size + 1 ≤ w'.heap.size) (by kernel_rfl) (by kernel_rfl) ?_ (fun hS0 => ?_)
          · exact RS4.step HR4.out hw1 (below_drewND (Below.refl _ _) 1)
          try dsimp only at hS0
          refine HW.take ?_ (by rfl) (fun w hSw => ?_) ?_
          rotate_left
          · (try dsimp only at hSw); go_simp; try with_reducible rfl
          try simp only [Act.put, setIfInBounds_toArray, set_cons_zero, set_cons_succ]
          refine HW.run (by rfl) (fun K hK => ?_)
          go_simp
          (go_at_call 61; (with_reducible refine (HVA.out _).mono ?_); rintro e wK ⟨rfl, hbK⟩)
          try go_wp2_with fail
          refine hK.out _ _ ?_ (fun hS1 => ?_)
          · exact RS4.step hS0 hw1 hbK
          clear hK K hS0
          try dsimp only at hS1
          try simp only [Act.put, setIfInBounds_toArray, set_cons_zero, set_cons_succ]
          iterate 5
           refine HW.take ?_ (by rfl) (fun w hSw => ?_) ?_
           rotate_left
           · (try dsimp only at hSw); go_simp; try with_reducible rfl
           try simp only [Act.put, setIfInBounds_toArray, set_cons_zero, set_cons_succ]
          iterate 5
           refine HW.skip (by rfl) ?_
           try simp only [Act.put, setIfInBounds_toArray, set_cons_zero, set_cons_succ]
           refine HW.skip (by rfl) ?_
           try simp only [Act.put, setIfInBounds_toArray, set_cons_zero, set_cons_succ]
          iterate 2
           refine HW.take ?_ (by rfl) (fun w hSw => ?_) ?_
           rotate_left
           · (try dsimp only at hSw); go_simp; try with_reducible rfl
           try simp only [Act.put, setIfInBounds_toArray, set_cons_zero, set_cons_succ]
          refine HW.done ?_
          have hbl2 := hS1.2.2.2.2.1
          clear hS1 hbK
          go_wp2
          go_roundw
          case rel => exact ⟨k + 1, by go_num, by omega, HOK, hbl2⟩
          case measure => simp [intOf]; omega
      · have hv2 : valid (a, b) = false := by simpa using hv
        rw [hv2] at HVA
        have HRF := Lib.hid (HF1.out k HKL.out (fun hok => by
          have h2 := hok.1
          rw [← HXE.out] at h2
          exact hv h2))
        go_wp2_with fail
        refine wp_region_plan [false, true, false, false, false, false, false, false, false, false, false, false, false, false, false, false, false, false, false] (fun w' => w'.cell? ⟨w.heap.size, 0, none⟩ = some (.slice (some ⟨b0, off, none⟩) n cap) ∧ w'.cell? ⟨w.heap.size, 1, none⟩ = some (.slice bo m bcap) ∧ w'.cell? ⟨wr.heap.size, 0, none⟩ = some (.int .i64 a) ∧ w'.cell? ⟨wr.heap.size, 1, none⟩ = some (.int .i64 b) ∧ Below (w.heap.size + 1) w1 w' ∧ wr.heap.size + 1 ≤ w'.heap.size) (by kernel_rfl) (by kernel_rfl) ?_ (fun hS0 => ?_)
        · exact RS4.step HR4.out hw1 (below_drewND (Below.refl _ _) 1)
        try dsimp only at hS0
        refine HW.take ?_ (by rfl) (fun w hSw => ?_) ?_
        rotate_left
        · (try dsimp only at hSw); go_simp; try with_reducible rfl
        try simp only [Act.put, setIfInBounds_toArray, set_cons_zero, set_cons_succ]
        refine HW.run (by rfl) (fun K hK => ?_)
        go_simp
        (go_at_call 61; (with_reducible refine (HVA.out _).mono ?_); rintro e wK ⟨rfl, hbK⟩)
        try go_wp2_with fail
        refine hK.out _ _ ?_ (fun hS1 => ?_)
        · exact RS4.step hS0 hw1 hbK
        clear hK K hS0
        try dsimp only at hS1
        try simp only [Act.put, setIfInBounds_toArray, set_cons_zero, set_cons_succ]
        iterate 2
         refine HW.take ?_ (by rfl) (fun w hSw => ?_) ?_
         rotate_left
         · (try dsimp only at hSw); go_simp; try with_reducible rfl
         try simp only [Act.put, setIfInBounds_toArray, set_cons_zero, set_cons_succ]
        iterate 7
         refine HW.skip (by rfl) ?_
         try simp only [Act.put, setIfInBounds_toArray, set_cons_zero, set_cons_succ]
         refine HW.skip (by rfl) ?_
         try simp only [Act.put, setIfInBounds_toArray, set_cons_zero, set_cons_succ]
        refine HW.take ?_ (by rfl) (fun w hSw => ?_) ?_
        rotate_left
        · (try dsimp only at hSw); go_simp; try with_reducible rfl
        try simp only [Act.put, setIfInBounds_toArray, set_cons_zero, set_cons_succ]
        refine HW.done ?_
        have hbl2 := hS1.2.2.2.2.1
        clear hS1 hbK
        have hb9 := hA.trans (hbl2.mono (by omega))
        go_wp2
        go_ret
        rw [HRF.out]; exact ⟨rfl, hb9⟩
    · obtain rfl : k = n := by omega
      have HO1 : Hid (∀ j, j < l.length → dm.Ok1 l j) := fun j hj => HO.out j (by rw [HN.out]; exact hj)
      have HU := Lib.hid (HUP.out HO1.out wr hbw)
      obtain ⟨K, hK⟩ : ∃ K, K = dm.upK l := ⟨_, rfl⟩
      have HKB : Hid (∀ n, 0 ≤ K n ∧ K n ≤ 1099511627776) := by show ∀ n, _; rw [hK]; exact dm.upK_bd (dm.ok1_all HO1.out)
      rw [← hK] at HU HF2 HT
      have HKK := Lib.hid hK
      clear hK
      unfold arrV at HU
      go_wp2_with fail
      (with_reducible refine HU.out.mono ?_)
      rintro e wk ⟨rfl, gk⟩
      have hkk := gk.size
      have HK2 := Lib.hid (KAt.box wk K 94)
      have hAk := (Below.refl wk.heap.size wk).alloc (Nat.le_refl _) (.cells #[.int .i64 (K 0), .int .i64 (K 1), .int .i64 (K 2), .int .i64 (K 3), .int .i64 (K 4), .int .i64 (K 5), .int .i64 (K 6), .int .i64 (K 7), .int .i64 (K 8), .int .i64 (K 9), .int .i64 (K 10), .int .i64 (K 11), .int .i64 (K 12), .int .i64 (K 13), .int .i64 (K 14), .int .i64 (K 15)] 94)
      have hA2 := hbw.trans ((gk.trans (hAk.mono gk.size)).mono (by omega))
      have y1 := (hAk.cell (p := ⟨w.heap.size, 1, none⟩) (by show w.heap.size < _; omega)).trans ((gk.cell (p := ⟨w.heap.size, 1, none⟩) (by show w.heap.size < _; omega)).trans x1)
      have hw2 : wk.heap.size + 1 ≤ (wk.alloc (.cells #[.int .i64 (K 0), .int .i64 (K 1), .int .i64 (K 2), .int .i64 (K 3), .int .i64 (K 4), .int .i64 (K 5), .int .i64 (K 6), .int .i64 (K 7), .int .i64 (K 8), .int .i64 (K 9), .int .i64 (K 10), .int .i64 (K 11), .int .i64 (K 12), .int .i64 (K 13), .int .i64 (K 14), .int .i64 (K 15)] 94)).heap.size := Nat.le_of_eq (World.size_alloc _ _).symm
      have hX : w.heap.size < wk.heap.size := by omega
      clear HUP HU hAk x0 x1 gk hkk
      go_wp2
      generalize wk.alloc (.cells #[.int .i64 (K 0), .int .i64 (K 1), .int .i64 (K 2), .int .i64 (K 3), .int .i64 (K 4), .int .i64 (K 5), .int .i64 (K 6), .int .i64 (K 7), .int .i64 (K 8), .int .i64 (K 9), .int .i64 (K 10), .int .i64 (K 11), .int .i64 (K 12), .int .i64 (K 13), .int .i64 (K 14), .int .i64 (K 15)] 94) = w2 at hA2 HK2 y1 hw2 ⊢
      obtain ⟨X, hXe⟩ : ∃ X, X = wk.heap.size := ⟨_, rfl⟩
      rw [← hXe] at HK2 hX hw2 ⊢
      have HY1 := Lib.hid y1
      clear hXe y1 hbl hz hbw
      go_loopw [6, 7, 41] (fun _ _ i wr => ∃ k : Nat, i = .int .i64 k ∧ k ≤ m ∧ Hid (∀ j, j < k → dm.Ok2 K q j) ∧ Below (X + 1) w2 wr) (fun _ _ i _ => m - (intOf i).toNat)
      case atStart => exact ⟨0, rfl, Nat.zero_le _, fun j hj => absurd hj (Nat.not_lt_zero _), Below.refl _ _⟩
      case round =>
        obtain ⟨k, rfl, hk, HO, hbl⟩ := hrel
        have hz := hbl.size
        have hbw := hA2.trans (hbl.mono (by omega))
        have y1 := (hbl.cell (p := ⟨w.heap.size, 1, none⟩) (by show w.heap.size < _; omega)).trans HY1.out
        by_cases hlt : k < m
        · obtain ⟨b0, off, rfl, hB, p0, p1⟩ := Dots.get HD.out HM.out hlt
          have HKL : Hid (k < q.length) := by show k < q.length; rw [← HM.out]; exact hlt
          obtain ⟨⟨a, b⟩, hx⟩ : ∃ x, x = q.getD k (0, 0) := ⟨_, rfl⟩
          rw [← hx] at p0 p1
          simp only at p0 p1
          have e0 := (hbw.cell (p := ⟨b0, off + k * 2, none⟩) hB).trans p0
          have e1 := (hbw.cell (p := ⟨b0, off + k * 2 + 1, none⟩) hB).trans p1
          have HXE := Lib.hid hx
          have hkI : (k : Int) < (m : Int) := by omega
          have HVA : Hid (∀ W, Calls Tryz.prog 61 #[.agg #[.int .i64 a, .int .i64 b]] W (SaidD (valid (a, b)) W)) := fun W => valid_any (a, b) W
          have hAL : Below wr.heap.size wr (wr.alloc (.cells #[.int .i64 a, .int .i64 b] 51)) := (Below.refl _ _).alloc (Nat.le_refl _) _
          obtain ⟨i, hki, hi3⟩ : ∃ i, (0 < k → k = i + 1) ∧ i < m := ⟨k - 1, by omega, by omega⟩
          have HKI := Lib.hid hki
          obtain ⟨b0', off', hb0, hB', r0, r1⟩ := Dots.get HD.out HM.out hi3
          simp only [Option.some.injEq, Addr.mk.injEq] at hb0
          obtain ⟨rfl, rfl, _⟩ := hb0
          obtain ⟨⟨a', b'⟩, hx2⟩ : ∃ x, x = q.getD i (0, 0) := ⟨_, rfl⟩
          rw [← hx2] at r0 r1
          simp only at r0 r1
          have HXE2 := Lib.hid hx2
          have f0 := (hbw.cell (p := ⟨b0, off + i * 2, none⟩) hB).trans r0
          have f1 := (hbw.cell (p := ⟨b0, off + i * 2 + 1, none⟩) hB).trans r1
          have HLE : Hid (∀ W, Calls Tryz.prog 66 #[.agg #[.int .i64 a', .int .i64 b'], .agg #[.int .i64 a, .int .i64 b]] W (SaidD (dless (a', b') (a, b)) W)) := fun W => less_any (a', b') (a, b) W
          have HR11 : Hid (∀ mm : Nat, mm < 16 → RS11 w.heap.size (.slice (some ⟨b0, off, none⟩) m bcap) w2 X mm (.int .i64 (K mm)) wr.heap.size (.int .i64 a) (.int .i64 b) b0 (off + i * 2) (.int .i64 a') (.int .i64 b') (wr.alloc (.cells #[.int .i64 a, .int .i64 b] 51))) := fun mm hmm =>
            ⟨(hAL.cell (p := ⟨w.heap.size, 1, none⟩) (by show w.heap.size < _; omega)).trans y1,
             (hAL.cell (p := ⟨X, mm, none⟩) (by show X < _; omega)).trans ((HK2.out.below hbl (Nat.lt_succ_self _) mm hmm).1),
             World.cell?_alloc_at _ _ _ _ rfl, World.cell?_alloc_at _ _ _ _ rfl,
             (hAL.cell (p := ⟨b0, off + i * 2, none⟩) (by show b0 < _; omega)).trans f0, (hAL.cell (p := ⟨b0, off + i * 2 + 1, none⟩) (by show b0 < _; omega)).trans f1,
             hbl.trans (hAL.mono (by omega)), Nat.le_of_eq (World.size_alloc _ _).symm⟩
          clear p0 p1 hx r0 r1 hx2 f0 f1 y1 hki
          by_cases hv : valid (a, b) = true
          · rw [hv] at HVA
            have hva := (dm.valid_iff (a, b)).1 hv
            simp only at hva
            obtain ⟨mm, rfl⟩ : ∃ mm : Nat, a = (mm : Int) := ⟨a.toNat, by omega⟩
            have hm6 : mm < 16 := by omega
            have hm1 : (0 : Int) ≤ (mm : Int) := by omega
            have hm2 : (mm : Int) < 16 := by omega
            have HR11 := Lib.hid (HR11.out mm hm6)
            obtain ⟨u, hu⟩ : ∃ u, u = K mm := ⟨_, rfl⟩
            rw [← hu] at HR11
            have hub : 0 ≤ u ∧ u ≤ 1099511627776 := by rw [hu]; exact HKB.out _
            have HUE := Lib.hid hu
            have hwu : IntKind.i64.wrap (u + 2) = u + 2 := IntWalk.i64_in _ (by omega)
            have hOK : (0 < k → dless (a', b') ((mm : Int), b) = true) → u + 2 ≤ b → ∀ j, j < k + 1 → dm.Ok2 K q j := fun h1 h2 j hj => by
              by_cases e : j = k
              · subst e
                unfold dm.Ok2
                rw [← HXE.out]
                refine ⟨hv, fun h0 => ?_, by rw [← HUE.out]; exact h2⟩
                have := HKI.out h0
                rw [show j - 1 = i by omega, ← HXE2.out]
                exact h1 h0
              · exact HO.out j (by omega)
            have hNO : ¬ ((0 < k → dless (a', b') ((mm : Int), b) = true) ∧ u + 2 ≤ b) → R = false := fun hno => HF2.out k HKL.out fun hok => hno (by
              have h2 := hok.2.1
              have h3 := hok.2.2
              rw [← HXE.out] at h2 h3
              rw [← HUE.out] at h3
              refine ⟨fun h0 => ?_, h3⟩
              have h4 := h2 h0
              rw [show k - 1 = i by have := HKI.out h0; omega, ← HXE2.out] at h4
              exact h4)
            have HOK := Lib.hid hOK
            have HNO := Lib.hid hNO
            clear hOK hNO hu hv
            by_cases hub2 : u + 2 ≤ b
            · have hd1 : decide (b < u + 2) = false := decide_eq_false (by omega)
              have hd2 : ¬ b < u + 2 := by omega
              by_cases hk0 : 0 < k
              · have hw : IntKind.i64.wrap ((k : Int) - 1) = (i : Int) := by rw [HKI.out hk0]; push_cast; rw [Int.add_sub_cancel]; exact IntWalk.i64_in _ (by omega)
                have hi1 : (0 : Int) ≤ (i : Int) := by omega
                have hi2 : (i : Int) < (m : Int) := by omega
                have hg2 : (0 : Int) < (k : Int) := by omega
                have hg1 : decide ((0 : Int) < (k : Int)) = true := decide_eq_true hg2
                cases hle : dless (a', b') ((mm : Int), b) with
                | true =>
                  rw [hle] at HLE
                  have HOK := Lib.hid (HOK.out (fun _ => hle) hub2)
                  go_wp2_with fail
                  refine wp_region_plan [false, true, false, false, false, false, false, false, false, false, false, false, false, false, true, false, false, false, false, false, false, false, false, false, false, false, false, false] (fun w' => w'.cell? ⟨w.heap.size, 1, none⟩ = some (.slice (some ⟨b0, off, none⟩) m bcap) ∧ w'.cell? ⟨X, mm, none⟩ = some (.int .i64 u) ∧ w'.cell? ⟨wr.heap.size, 0, none⟩ = some (.int .i64 (mm : Int)) ∧ w'.cell? ⟨wr.heap.size, 1, none⟩ = some (.int .i64 b) ∧ w'.cell? ⟨b0, off + i * 2, none⟩ = some (.int .i64 a') ∧ w'.cell? ⟨b0, off + i * 2 + 1, none⟩ = some (.int .i64 b') ∧ Below (X + 1) w2 w' ∧ wr.heap.size + 1 ≤ w'.heap.size) (by kernel_rfl) (by kernel_rfl) ?_ (fun hS0 => ?_)
                  · exact RS11.step HR11.out hw2 hX hB (below_drewND (Below.refl _ _) 1)
                  try dsimp only at hS0
                  refine HW.take ?_ (by rfl) (fun w hSw => ?_) ?_
                  rotate_left
                  · (try dsimp only at hSw); go_simp; try with_reducible rfl
                  try simp only [Act.put, setIfInBounds_toArray, set_cons_zero, set_cons_succ]
                  refine HW.run (by rfl) (fun K hK => ?_)
                  go_simp
                  (go_at_call 61; (with_reducible refine (HVA.out _).mono ?_); rintro e wK ⟨rfl, hbK⟩)
                  try go_wp2_with fail
                  refine hK.out _ _ ?_ (fun hS1 => ?_)
                  · exact RS11.step hS0 hw2 hX hB hbK
                  clear hK K hS0
                  try dsimp only at hS1
                  try simp only [Act.put, setIfInBounds_toArray, set_cons_zero, set_cons_succ]
                  iterate 12
                   refine HW.take ?_ (by rfl) (fun w hSw => ?_) ?_
                   rotate_left
                   · (try dsimp only at hSw); go_simp; try with_reducible rfl
                   try simp only [Act.put, setIfInBounds_toArray, set_cons_zero, set_cons_succ]
                  refine HW.run (by rfl) (fun K hK => ?_)
                  go_simp
                  (go_at_call 66; (with_reducible refine (HLE.out _).mono ?_); rintro e wK2 ⟨rfl, hbK2⟩)
                  try go_wp2_with fail
                  refine hK.out _ _ ?_ (fun hS2 => ?_)
                  · exact RS11.step hS1 hw2 hX hB hbK2
                  clear hK K hS1
                  try dsimp only at hS2
                  try simp only [Act.put, setIfInBounds_toArray, set_cons_zero, set_cons_succ]
                  iterate 13
                   refine HW.take ?_ (by rfl) (fun w hSw => ?_) ?_
                   rotate_left
                   · (try dsimp only at hSw); go_simp; try with_reducible rfl
                   try simp only [Act.put, setIfInBounds_toArray, set_cons_zero, set_cons_succ]
                  refine HW.done ?_
                  have hbl2 := hS2.2.2.2.2.2.2.1
                  clear hS2 hbK hbK2
                  go_wp2
                  go_roundw
                  case rel => exact ⟨k + 1, by go_num, by omega, HOK, hbl2⟩
                  case measure => simp [intOf]; omega
                | false =>
                  rw [hle] at HLE
                  have HRF := Lib.hid (HNO.out (fun h => by have := h.1 hk0; rw [hle] at this; cases this))
                  go_wp2_with fail
                  refine wp_region_plan [false, true, false, false, false, false, false, false, false, false, false, false, false, false, true, false, false, false, false, false, false, false, false, false, false, false, false, false] (fun w' => w'.cell? ⟨w.heap.size, 1, none⟩ = some (.slice (some ⟨b0, off, none⟩) m bcap) ∧ w'.cell? ⟨X, mm, none⟩ = some (.int .i64 u) ∧ w'.cell? ⟨wr.heap.size, 0, none⟩ = some (.int .i64 (mm : Int)) ∧ w'.cell? ⟨wr.heap.size, 1, none⟩ = some (.int .i64 b) ∧ w'.cell? ⟨b0, off + i * 2, none⟩ = some (.int .i64 a') ∧ w'.cell? ⟨b0, off + i * 2 + 1, none⟩ = some (.int .i64 b') ∧ Below (X + 1) w2 w' ∧ wr.heap.size + 1 ≤ w'.heap.size) (by kernel_rfl) (by kernel_rfl) ?_ (fun hS0 => ?_)
                  · exact RS11.step HR11.out hw2 hX hB (below_drewND (Below.refl _ _) 1)
                  try dsimp only at hS0
                  refine HW.take ?_ (by rfl) (fun w hSw => ?_) ?_
                  rotate_left
                  · (try dsimp only at hSw); go_simp; try with_reducible rfl
                  try simp only [Act.put, setIfInBounds_toArray, set_cons_zero, set_cons_succ]
                  refine HW.run (by rfl) (fun K hK => ?_)
                  go_simp
                  (go_at_call 61; (with_reducible refine (HVA.out _).mono ?_); rintro e wK ⟨rfl, hbK⟩)
                  try go_wp2_with fail
                  refine hK.out _ _ ?_ (fun hS1 => ?_)
                  · exact RS11.step hS0 hw2 hX hB hbK
                  clear hK K hS0
                  try dsimp only at hS1
                  try simp only [Act.put, setIfInBounds_toArray, set_cons_zero, set_cons_succ]
                  iterate 12
                   refine HW.take ?_ (by rfl) (fun w hSw => ?_) ?_
                   rotate_left
                   · (try dsimp only at hSw); go_simp; try with_reducible rfl
                   try simp only [Act.put, setIfInBounds_toArray, set_cons_zero, set_cons_succ]
                  refine HW.run (by rfl) (fun K hK => ?_)
                  go_simp
                  (go_at_call 66; (with_reducible refine (HLE.out _).mono ?_); rintro e wK2 ⟨rfl, hbK2⟩)
                  try go_wp2_with fail
                  refine hK.out _ _ ?_ (fun hS2 => ?_)
                  · exact RS11.step hS1 hw2 hX hB hbK2
                  clear hK K hS1
                  try dsimp only at hS2
                  try simp only [Act.put, setIfInBounds_toArray, set_cons_zero, set_cons_succ]
                  iterate 4
                   refine HW.take ?_ (by rfl) (fun w hSw => ?_) ?_
                   rotate_left
                   · (try dsimp only at hSw); go_simp; try with_reducible rfl
                   try simp only [Act.put, setIfInBounds_toArray, set_cons_zero, set_cons_succ]
                  iterate 4
                   refine HW.skip (by rfl) ?_
                   try simp only [Act.put, setIfInBounds_toArray, set_cons_zero, set_cons_succ]
                   refine HW.skip (by rfl) ?_
                   try simp only [Act.put, setIfInBounds_toArray, set_cons_zero, set_cons_succ]
                  refine HW.take ?_ (by rfl) (fun w hSw => ?_) ?_
                  rotate_left
                  · (try dsimp only at hSw); go_simp; try with_reducible rfl
                  try simp only [Act.put, setIfInBounds_toArray, set_cons_zero, set_cons_succ]
                  refine HW.done ?_
                  have hbl2 := hS2.2.2.2.2.2.2.1
                  clear hS2 hbK hbK2
                  have hb9 := hA2.trans (hbl2.mono (by omega))
                  go_wp2
                  go_ret
                  rw [HRF.out]; exact ⟨rfl, hb9⟩
              · have HOK := Lib.hid (HOK.out (fun h => absurd h hk0) hub2)
                have hg2 : ¬ (0 : Int) < (k : Int) := by omega
                have hg1 : decide ((0 : Int) < (k : Int)) = false := decide_eq_false hg2
                go_wp2_with fail
                refine wp_region_plan [false, true, false, false, false, false, false, false, false, false, false, false, false, false, false, false, false, false, false, false, false, false, false, false, false, false, false, false] (fun w' => w'.cell? ⟨w.heap.size, 1, none⟩ = some (.slice (some ⟨b0, off, none⟩) m bcap) ∧ w'.cell? ⟨X, mm, none⟩ = some (.int .i64 u) ∧ w'.cell? ⟨wr.heap.size, 0, none⟩ = some (.int .i64 (mm : Int)) ∧ w'.cell? ⟨wr.heap.size, 1, none⟩ = some (.int .i64 b) ∧ w'.cell? ⟨b0, off + i * 2, none⟩ = some (.int .i64 a') ∧ w'.cell? ⟨b0, off + i * 2 + 1, none⟩ = some (.int .i64 b') ∧ Below (X + 1) w2 w' ∧ wr.heap.size + 1 ≤ w'.heap.size) (by kernel_rfl) (by kernel_rfl) ?_ (fun hS0 => ?_)
                · exact RS11.step HR11.out hw2 hX hB (below_drewND (Below.refl _ _) 1)
                try dsimp only at hS0
                refine HW.take ?_ (by rfl) (fun w hSw => ?_) ?_
                rotate_left
                · (try dsimp only at hSw); go_simp; try with_reducible rfl
                try simp only [Act.put, setIfInBounds_toArray, set_cons_zero, set_cons_succ]
                refine HW.run (by rfl) (fun K hK => ?_)
                go_simp
                (go_at_call 61; (with_reducible refine (HVA.out _).mono ?_); rintro e wK ⟨rfl, hbK⟩)
                try go_wp2_with fail
                refine hK.out _ _ ?_ (fun hS1 => ?_)
                · exact RS11.step hS0 hw2 hX hB hbK
                clear hK K hS0
                try dsimp only at hS1
                try simp only [Act.put, setIfInBounds_toArray, set_cons_zero, set_cons_succ]
                iterate 5
                 refine HW.take ?_ (by rfl) (fun w hSw => ?_) ?_
                 rotate_left
                 · (try dsimp only at hSw); go_simp; try with_reducible rfl
                 try simp only [Act.put, setIfInBounds_toArray, set_cons_zero, set_cons_succ]
                iterate 4
                 refine HW.skip (by rfl) ?_
                 try simp only [Act.put, setIfInBounds_toArray, set_cons_zero, set_cons_succ]
                 refine HW.skip (by rfl) ?_
                 try simp only [Act.put, setIfInBounds_toArray, set_cons_zero, set_cons_succ]
                refine HW.skip (by rfl) ?_
                try simp only [Act.put, setIfInBounds_toArray, set_cons_zero, set_cons_succ]
                iterate 12
                 refine HW.take ?_ (by rfl) (fun w hSw => ?_) ?_
                 rotate_left
                 · (try dsimp only at hSw); go_simp; try with_reducible rfl
                 try simp only [Act.put, setIfInBounds_toArray, set_cons_zero, set_cons_succ]
                refine HW.done ?_
                have hbl2 := hS1.2.2.2.2.2.2.1
                clear hS1 hbK
                go_wp2
                go_roundw
                case rel => exact ⟨k + 1, by go_num, by omega, HOK, hbl2⟩
                case measure => simp [intOf]; omega
            · have hd1 : decide (b < u + 2) = true := decide_eq_true (by omega)
              have hd2 : b < u + 2 := by omega
              have HRF := Lib.hid (HNO.out (fun h => hub2 h.2))
              by_cases hk0 : 0 < k
              · have hw : IntKind.i64.wrap ((k : Int) - 1) = (i : Int) := by rw [HKI.out hk0]; push_cast; rw [Int.add_sub_cancel]; exact IntWalk.i64_in _ (by omega)
                have hi1 : (0 : Int) ≤ (i : Int) := by omega
                have hi2 : (i : Int) < (m : Int) := by omega
                have hg2 : (0 : Int) < (k : Int) := by omega
                have hg1 : decide ((0 : Int) < (k : Int)) = true := decide_eq_true hg2
                cases hle : dless (a', b') ((mm : Int), b) with
                | true =>
                  rw [hle] at HLE
                  go_wp2_with fail
                  refine wp_region_plan [false, true, false, false, false, false, false, false, false, false, false, false, false, false, true, false, false, false, false, false, false, false, false, false, false, false, false, false] (fun w' => w'.cell? ⟨w.heap.size, 1, none⟩ = some (.slice (some ⟨b0, off, none⟩) m bcap) ∧ w'.cell? ⟨X, mm, none⟩ = some (.int .i64 u) ∧ w'.cell? ⟨wr.heap.size, 0, none⟩ = some (.int .i64 (mm : Int)) ∧ w'.cell? ⟨wr.heap.size, 1, none⟩ = some (.int .i64 b) ∧ w'.cell? ⟨b0, off + i * 2, none⟩ = some (.int .i64 a') ∧ w'.cell? ⟨b0, off + i * 2 + 1, none⟩ = some (.int .i64 b') ∧ Below (X + 1) w2 w' ∧ wr.heap.size + 1 ≤ w'.heap.size) (by kernel_rfl) (by kernel_rfl) ?_ (fun hS0 => ?_)
                  · exact RS11.step HR11.out hw2 hX hB (below_drewND (Below.refl _ _) 1)
                  try dsimp only at hS0
                  refine HW.take ?_ (by rfl) (fun w hSw => ?_) ?_
                  rotate_left
                  · (try dsimp only at hSw); go_simp; try with_reducible rfl
                  try simp only [Act.put, setIfInBounds_toArray, set_cons_zero, set_cons_succ]
                  refine HW.run (by rfl) (fun K hK => ?_)
                  go_simp
                  (go_at_call 61; (with_reducible refine (HVA.out _).mono ?_); rintro e wK ⟨rfl, hbK⟩)
                  try go_wp2_with fail
                  refine hK.out _ _ ?_ (fun hS1 => ?_)
                  · exact RS11.step hS0 hw2 hX hB hbK
                  clear hK K hS0
                  try dsimp only at hS1
                  try simp only [Act.put, setIfInBounds_toArray, set_cons_zero, set_cons_succ]
                  iterate 12
                   refine HW.take ?_ (by rfl) (fun w hSw => ?_) ?_
                   rotate_left
                   · (try dsimp only at hSw); go_simp; try with_reducible rfl
                   try simp only [Act.put, setIfInBounds_toArray, set_cons_zero, set_cons_succ]
                  refine HW.run (by rfl) (fun K hK => ?_)
                  go_simp
                  (go_at_call 66; (with_reducible refine (HLE.out _).mono ?_); rintro e wK2 ⟨rfl, hbK2⟩)
                  try go_wp2_with fail
                  refine hK.out _ _ ?_ (fun hS2 => ?_)
                  · exact RS11.step hS1 hw2 hX hB hbK2
                  clear hK K hS1
                  try dsimp only at hS2
                  try simp only [Act.put, setIfInBounds_toArray, set_cons_zero, set_cons_succ]
                  iterate 13
                   refine HW.take ?_ (by rfl) (fun w hSw => ?_) ?_
                   rotate_left
                   · (try dsimp only at hSw); go_simp; try with_reducible rfl
                   try simp only [Act.put, setIfInBounds_toArray, set_cons_zero, set_cons_succ]
                  refine HW.done ?_
                  have hbl2 := hS2.2.2.2.2.2.2.1
                  clear hS2 hbK hbK2
                  have hb9 := hA2.trans (hbl2.mono (by omega))
                  go_wp2
                  go_ret
                  rw [HRF.out]; exact ⟨rfl, hb9⟩
                | false =>
                  rw [hle] at HLE
                  go_wp2_with fail
                  refine wp_region_plan [false, true, false, false, false, false, false, false, false, false, false, false, false, false, true, false, false, false, false, false, false, false, false, false, false, false, false, false] (fun w' => w'.cell? ⟨w.heap.size, 1, none⟩ = some (.slice (some ⟨b0, off, none⟩) m bcap) ∧ w'.cell? ⟨X, mm, none⟩ = some (.int .i64 u) ∧ w'.cell? ⟨wr.heap.size, 0, none⟩ = some (.int .i64 (mm : Int)) ∧ w'.cell? ⟨wr.heap.size, 1, none⟩ = some (.int .i64 b) ∧ w'.cell? ⟨b0, off + i * 2, none⟩ = some (.int .i64 a') ∧ w'.cell? ⟨b0, off + i * 2 + 1, none⟩ = some (.int .i64 b') ∧ Below (X + 1) w2 w' ∧ wr.heap.size + 1 ≤ w'.heap.size) (by kernel_rfl) (by kernel_rfl) ?_ (fun hS0 => ?_)
                  · exact RS11.step HR11.out hw2 hX hB (below_drewND (Below.refl _ _) 1)
                  try dsimp only at hS0
                  refine HW.take ?_ (by rfl) (fun w hSw => ?_) ?_
                  rotate_left
                  · (try dsimp only at hSw); go_simp; try with_reducible rfl
                  try simp only [Act.put, setIfInBounds_toArray, set_cons_zero, set_cons_succ]
                  refine HW.run (by rfl) (fun K hK => ?_)
                  go_simp
                  (go_at_call 61; (with_reducible refine (HVA.out _).mono ?_); rintro e wK ⟨rfl, hbK⟩)
                  try go_wp2_with fail
                  refine hK.out _ _ ?_ (fun hS1 => ?_)
                  · exact RS11.step hS0 hw2 hX hB hbK
                  clear hK K hS0
                  try dsimp only at hS1
                  try simp only [Act.put, setIfInBounds_toArray, set_cons_zero, set_cons_succ]
                  iterate 12
                   refine HW.take ?_ (by rfl) (fun w hSw => ?_) ?_
                   rotate_left
                   · (try dsimp only at hSw); go_simp; try with_reducible rfl
                   try simp only [Act.put, setIfInBounds_toArray, set_cons_zero, set_cons_succ]
                  refine HW.run (by rfl) (fun K hK => ?_)
                  go_simp
                  (go_at_call 66; (with_reducible refine (HLE.out _).mono ?_); rintro e wK2 ⟨rfl, hbK2⟩)
                  try go_wp2_with fail
                  refine hK.out _ _ ?_ (fun hS2 => ?_)
                  · exact RS11.step hS1 hw2 hX hB hbK2
                  clear hK K hS1
                  try dsimp only at hS2
                  try simp only [Act.put, setIfInBounds_toArray, set_cons_zero, set_cons_succ]
                  iterate 4
                   refine HW.take ?_ (by rfl) (fun w hSw => ?_) ?_
                   rotate_left
                   · (try dsimp only at hSw); go_simp; try with_reducible rfl
                   try simp only [Act.put, setIfInBounds_toArray, set_cons_zero, set_cons_succ]
                  iterate 4
                   refine HW.skip (by rfl) ?_
                   try simp only [Act.put, setIfInBounds_toArray, set_cons_zero, set_cons_succ]
                   refine HW.skip (by rfl) ?_
                   try simp only [Act.put, setIfInBounds_toArray, set_cons_zero, set_cons_succ]
                  refine HW.take ?_ (by rfl) (fun w hSw => ?_) ?_
                  rotate_left
                  · (try dsimp only at hSw); go_simp; try with_reducible rfl
                  try simp only [Act.put, setIfInBounds_toArray, set_cons_zero, set_cons_succ]
                  refine HW.done ?_
                  have hbl2 := hS2.2.2.2.2.2.2.1
                  clear hS2 hbK hbK2
                  have hb9 := hA2.trans (hbl2.mono (by omega))
                  go_wp2
                  go_ret
                  rw [HRF.out]; exact ⟨rfl, hb9⟩
              · have hg2 : ¬ (0 : Int) < (k : Int) := by omega
                have hg1 : decide ((0 : Int) < (k : Int)) = false := decide_eq_false hg2
                go_wp2_with fail
                refine wp_region_plan [false, true, false, false, false, false, false, false, false, false, false, false, false, false, false, false, false, false, false, false, false, false, false, false, false, false, false, false] (fun w' => w'.cell? ⟨w.heap.size, 1, none⟩ = some (.slice (some ⟨b0, off, none⟩) m bcap) ∧ w'.cell? ⟨X, mm, none⟩ = some (.int .i64 u) ∧ w'.cell? ⟨wr.heap.size, 0, none⟩ = some (.int .i64 (mm : Int)) ∧ w'.cell? ⟨wr.heap.size, 1, none⟩ = some (.int .i64 b) ∧ w'.cell? ⟨b0, off + i * 2, none⟩ = some (.int .i64 a') ∧ w'.cell? ⟨b0, off + i * 2 + 1, none⟩ = some (.int .i64 b') ∧ Below (X + 1) w2 w' ∧ wr.heap.size + 1 ≤ w'.heap.size) (by kernel_rfl) (by kernel_rfl) ?_ (fun hS0 => ?_)
                · exact RS11.step HR11.out hw2 hX hB (below_drewND (Below.refl _ _) 1)
                try dsimp only at hS0
                refine HW.take ?_ (by rfl) (fun w hSw => ?_) ?_
                rotate_left
                · (try dsimp only at hSw); go_simp; try with_reducible rfl
                try simp only [Act.put, setIfInBounds_toArray, set_cons_zero, set_cons_succ]
                refine HW.run (by rfl) (fun K hK => ?_)
                go_simp
                (go_at_call 61; (with_reducible refine (HVA.out _).mono ?_); rintro e wK ⟨rfl, hbK⟩)
                try go_wp2_with fail
                refine hK.out _ _ ?_ (fun hS1 => ?_)
                · exact RS11.step hS0 hw2 hX hB hbK
                clear hK K hS0
                try dsimp only at hS1
                try simp only [Act.put, setIfInBounds_toArray, set_cons_zero, set_cons_succ]
                iterate 5
                 refine HW.take ?_ (by rfl) (fun w hSw => ?_) ?_
                 rotate_left
                 · (try dsimp only at hSw); go_simp; try with_reducible rfl
                 try simp only [Act.put, setIfInBounds_toArray, set_cons_zero, set_cons_succ]
                iterate 4
                 refine HW.skip (by rfl) ?_
                 try simp only [Act.put, setIfInBounds_toArray, set_cons_zero, set_cons_succ]
                 refine HW.skip (by rfl) ?_
                 try simp only [Act.put, setIfInBounds_toArray, set_cons_zero, set_cons_succ]
                refine HW.skip (by rfl) ?_
                try simp only [Act.put, setIfInBounds_toArray, set_cons_zero, set_cons_succ]
                iterate 12
                 refine HW.take ?_ (by rfl) (fun w hSw => ?_) ?_
                 rotate_left
                 · (try dsimp only at hSw); go_simp; try with_reducible rfl
                 try simp only [Act.put, setIfInBounds_toArray, set_cons_zero, set_cons_succ]
                refine HW.done ?_
                have hbl2 := hS1.2.2.2.2.2.2.1
                clear hS1 hbK
                have hb9 := hA2.trans (hbl2.mono (by omega))
                go_wp2
                go_ret
                rw [HRF.out]; exact ⟨rfl, hb9⟩
          · have hv2 : valid (a, b) = false := by simpa using hv
            rw [hv2] at HVA
            have HRF := Lib.hid (HF2.out k HKL.out (fun hok => by
              have h2 := hok.1
              rw [← HXE.out] at h2
              exact hv h2))
            obtain ⟨mm, u, HR11⟩ : ∃ mm u, Hid (RS11 w.heap.size (.slice (some ⟨b0, off, none⟩) m bcap) w2 X mm (.int .i64 u) wr.heap.size (.int .i64 a) (.int .i64 b) b0 (off + i * 2) (.int .i64 a') (.int .i64 b') (wr.alloc (.cells #[.int .i64 a, .int .i64 b] 51))) := ⟨0, _, HR11.out 0 (by omega)⟩
            go_wp2_with fail
            refine wp_region_plan [false, true, false, false, false, false, false, false, false, false, false, false, false, false, false, false, false, false, false, false, false, false, false, false, false, false, false, false] (fun w' => w'.cell? ⟨w.heap.size, 1, none⟩ = some (.slice (some ⟨b0, off, none⟩) m bcap) ∧ w'.cell? ⟨X, mm, none⟩ = some (.int .i64 u) ∧ w'.cell? ⟨wr.heap.size, 0, none⟩ = some (.int .i64 a) ∧ w'.cell? ⟨wr.heap.size, 1, none⟩ = some (.int .i64 b) ∧ w'.cell? ⟨b0, off + i * 2, none⟩ = some (.int .i64 a') ∧ w'.cell? ⟨b0, off + i * 2 + 1, none⟩ = some (.int .i64 b') ∧ Below (X + 1) w2 w' ∧ wr.heap.size + 1 ≤ w'.heap.size) (by kernel_rfl) (by kernel_rfl) ?_ (fun hS0 => ?_)
            · exact RS11.step HR11.out hw2 hX hB (below_drewND (Below.refl _ _) 1)
            try dsimp only at hS0
            refine HW.take ?_ (by rfl) (fun w hSw => ?_) ?_
            rotate_left
            · (try dsimp only at hSw); go_simp; try with_reducible rfl
            try simp only [Act.put, setIfInBounds_toArray, set_cons_zero, set_cons_succ]
            refine HW.run (by rfl) (fun K hK => ?_)
            go_simp
            (go_at_call 61; (with_reducible refine (HVA.out _).mono ?_); rintro e wK ⟨rfl, hbK⟩)
            try go_wp2_with fail
            refine hK.out _ _ ?_ (fun hS1 => ?_)
            · exact RS11.step hS0 hw2 hX hB hbK
            clear hK K hS0
            try dsimp only at hS1
            try simp only [Act.put, setIfInBounds_toArray, set_cons_zero, set_cons_succ]
            iterate 2
             refine HW.take ?_ (by rfl) (fun w hSw => ?_) ?_
             rotate_left
             · (try dsimp only at hSw); go_simp; try with_reducible rfl
             try simp only [Act.put, setIfInBounds_toArray, set_cons_zero, set_cons_succ]
            iterate 6
             refine HW.skip (by rfl) ?_
             try simp only [Act.put, setIfInBounds_toArray, set_cons_zero, set_cons_succ]
             refine HW.skip (by rfl) ?_
             try simp only [Act.put, setIfInBounds_toArray, set_cons_zero, set_cons_succ]
            refine HW.skip (by rfl) ?_
            try simp only [Act.put, setIfInBounds_toArray, set_cons_zero, set_cons_succ]
            iterate 2
             refine HW.take ?_ (by rfl) (fun w hSw => ?_) ?_
             rotate_left
             · (try dsimp only at hSw); go_simp; try with_reducible rfl
             try simp only [Act.put, setIfInBounds_toArray, set_cons_zero, set_cons_succ]
            iterate 4
             refine HW.skip (by rfl) ?_
             try simp only [Act.put, setIfInBounds_toArray, set_cons_zero, set_cons_succ]
             refine HW.skip (by rfl) ?_
             try simp only [Act.put, setIfInBounds_toArray, set_cons_zero, set_cons_succ]
            refine HW.take ?_ (by rfl) (fun w hSw => ?_) ?_
            rotate_left
            · (try dsimp only at hSw); go_simp; try with_reducible rfl
            try simp only [Act.put, setIfInBounds_toArray, set_cons_zero, set_cons_succ]
            refine HW.done ?_
            have hbl2 := hS1.2.2.2.2.2.2.1
            clear hS1 hbK
            have hb9 := hA2.trans (hbl2.mono (by omega))
            go_wp2
            go_ret
            rw [HRF.out]; exact ⟨rfl, hb9⟩
        · obtain rfl : k = m := by omega
          have HRT := Lib.hid (HT.out HO1.out (fun j hj => HO.out j (by rw [HM.out]; exact hj)))
          go_wp2
          go_ret
          rw [HRT.out]; exact ⟨rfl, hbw⟩
end Go.Proofs.YtonknpdalemjkaaGreat
