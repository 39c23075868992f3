/- BlockReads, walked. -/
import Derived.Test.YtniphmfkccaccaaBlkSeek2
import Derived.Test.YtniphmfkccaccaaLawBack5
namespace Go.Proofs.Ytniphmfkccaccaa
open Go.RowKit Go.ChangeShapes at_ cl

/-- a block's box from B on, later than w5 -/
def BoxT (w5 : World) (B : Nat) (x y z : Value) (w' : World) : Prop := w'.cell? ⟨B, 0, none⟩ = some x ∧ w'.cell? ⟨B, 1, none⟩ = some y ∧ w'.cell? ⟨B, 2, none⟩ = some z ∧ Below w5.heap.size w5 w'
theorem BoxT.step {w5 W W' : World} {B : Nat} {x y z : Value} (h : BoxT w5 B x y z W) (hB : B < w5.heap.size) (hb : Below W.heap.size W W') : BoxT w5 B x y z W' := by
  obtain ⟨a, b, c, d⟩ := h
  have hs := d.size
  have hlt : B < W.heap.size := by omega
  exact ⟨(hb.cell (p := ⟨B, 0, none⟩) hlt).trans a, (hb.cell (p := ⟨B, 1, none⟩) hlt).trans b, (hb.cell (p := ⟨B, 2, none⟩) hlt).trans c, d.trans (hb.mono hs)⟩
theorem BoxT.bel {w5 W : World} {B : Nat} {x y z : Value} (h : BoxT w5 B x y z W) : Below w5.heap.size w5 W := h.2.2.2

set_option maxHeartbeats 3200000 in
set_option maxRecDepth 100000 in
theorem reads_any (c : Int) (D : ByteArray) (S : List (Int × Int)) (vs : Value) (id : Int) (w : World) (hD : D.size ≤ maxLen) (hs : Skps w w.heap.size vs S) :
    Calls Try.prog 4 #[.agg #[.int .i64 c, .string D, vs], .int .i64 id] w (Said true w) := by
  have HAW : Hid (∀ W, Calls Try.prog 8 #[] W (Said true W)) := fun W => awake_any W
  have HFAR : Hid (∀ W, Below w.heap.size w W → Calls Try.prog 12 #[.agg #[.int .i64 c, .string D, vs]] W (Said (decide (9000 < D.size ∨ 400 < S.length)) W)) := fun W hW => far_any c D S vs W hD ((hs.below hW).mono hW.size)
  have HDEC : Hid (¬ (9000 < D.size ∨ 400 < S.length) → ∀ W, Below w.heap.size w W → Calls Try.prog 13 #[.agg #[.int .i64 c, .string D, vs]] W (DecF c D S W)) := fun hf W hW => decode_full c D S vs W (by omega) (by omega) ((hs.below hW).mono hW.size)
  have HRDE : Hid (¬ (9000 < D.size ∨ 400 < S.length) → ∀ W, Below w.heap.size w W → Calls Try.prog 14 #[.agg #[.int .i64 c, .string D, vs]] W (DecF c D S W)) := fun hf W hW => rdecode_any c D S vs W (by omega) (by omega) ((hs.below hW).mono hW.size)
  have HSEK : Hid (¬ (9000 < D.size ∨ 400 < S.length) → ∀ W, Below w.heap.size w W → Calls Try.prog 15 #[.agg #[.int .i64 c, .string D, vs], .int .i64 id] W (SkP (seekV c D S id) W)) := fun hf W hW => seek_any c D S id vs W (by omega) (by omega) ((hs.below hW).mono hW.size)
  have HRSE : Hid (¬ (9000 < D.size ∨ 400 < S.length) → ∀ W, Below w.heap.size w W → Calls Try.prog 16 #[.agg #[.int .i64 c, .string D, vs], .int .i64 id] W (SkP (seekV c D S id) W)) := fun hf W hW => rseek_any c D S id vs W (by omega) (by omega) ((hs.below hW).mono hW.size)
  have HRIG : Hid (¬ (9000 < D.size ∨ 400 < S.length) → ∀ W, Below w.heap.size w W → Calls Try.prog 18 #[.agg #[.int .i64 c, .string D, vs]] W (Said (goodB c D S) W)) := fun hf W hW => right_any c D S vs W (by omega) (by omega) ((hs.below hW).mono hW.size)
  have HRRI : Hid (¬ (9000 < D.size ∨ 400 < S.length) → ∀ W, Below w.heap.size w W → Calls Try.prog 19 #[.agg #[.int .i64 c, .string D, vs]] W (Said (goodB c D S) W)) := fun hf W hW => rright_any c D S vs W (by omega) (by omega) ((hs.below hW).mono hW.size)
  have HONE : Hid (∀ K K', GoodK c D S K → GoodK c D S K' → K = K') := fun K K' h h' => good_one h h'
  obtain ⟨so, sc, rfl, _, _⟩ := hs.form
  obtain ⟨q, hq⟩ : ∃ q, q = S.length := ⟨_, rfl⟩
  rw [← hq] at HFAR HDEC HRDE HSEK HRSE HRIG HRRI ⊢
  obtain ⟨⟨V1, V2⟩, hV⟩ : ∃ V, V = seekV c D S id := ⟨_, rfl⟩
  rw [← hV] at HSEK HRSE
  obtain ⟨g, hg⟩ : ∃ g, g = goodB c D S := ⟨_, rfl⟩
  rw [← hg] at HRIG HRRI
  clear hq hs hD hV hg
  have hB0 := BoxB.start w (.int .i64 c) (.string D) (.slice so q sc) 26
  have HB0 := Lib.hid hB0
  have hA := hB0.2.2.2.1
  clear hB0
  have HFA := Lib.hid (HFAR.out _ hA)
  by_cases hf : 9000 < D.size ∨ 400 < q
  · rw [decide_eq_true hf] at HFA
    clear hf
    go_enter Try.func4, Try.ntmps4
    go_wp2_with fail
    with_reducible refine HFA.out.mono ?_
    rintro e w1 ⟨rfl, hb1⟩
    have hb01 := hA.trans (hb1.mono hA.size)
    go_wp2_with fail
    with_reducible refine (HAW.out _).mono ?_
    rintro e w2 ⟨rfl, hb2⟩
    have hbf := hb01.trans (hb2.mono hb01.size)
    go_wp2
    go_ret
    exact ⟨rfl, hbf⟩
  rw [decide_eq_false hf] at HFA
  have HD1 := Lib.hid (HDEC.out hf)
  have HD2 := Lib.hid (HRDE.out hf)
  have HS1 := Lib.hid (HSEK.out hf)
  have HS2 := Lib.hid (HRSE.out hf)
  have HR1 := Lib.hid (HRIG.out hf)
  have HR2 := Lib.hid (HRRI.out hf)
  clear hf HDEC HFAR HRDE HSEK HRSE HRIG HRRI
  go_enter Try.func4, Try.ntmps4
  go_wp2_with fail
  with_reducible refine HFA.out.mono ?_
  rintro e w1 ⟨rfl, hb1⟩
  have HB1 := Lib.hid (HB0.out.step hb1)
  obtain ⟨c0, c1, c2, hb01, _⟩ := HB1.out
  have HDW := Lib.hid (HD1.out _ hb01)
  go_wp2_with fail
  with_reducible refine HDW.out.mono ?_
  intro e w2 h2
  have hx2 : ∃ (v : Value) (K : List Int) (k : Int), e = .returned (.tuple #[v, .int .i64 k]) ∧ At w2 w2.heap.size v K ∧ Below w1.heap.size w1 w2 ∧ ((k = 3 ∧ K = [] ∧ ∀ K, ¬ GoodK c D S K) ∨ (k = 0 ∧ GoodK c D S K)) := by
    rcases h2 with ⟨he, hk, hb⟩ | ⟨v, K, he, hk, ho, hb⟩
    · exact ⟨_, [], 3, he, at_.nil _ _, hb, Or.inl ⟨rfl, rfl, hk⟩⟩
    · exact ⟨v, K, 0, he, at_.own ho, hb, Or.inr ⟨rfl, hk⟩⟩
  obtain ⟨v2, K2, k2, rfl, hat2, hb2, hk2⟩ := hx2
  have HAT2 := Lib.hid hat2
  have HK2 := Lib.hid hk2
  clear h2 hk2
  have HB2 := Lib.hid (HB1.out.step hb2)
  clear c0 c1 c2 hb01
  obtain ⟨c0, c1, c2, hb02, _⟩ := HB2.out
  have HDW2 := Lib.hid (HD2.out _ hb02)
  obtain ⟨a2, p2, rfl, _⟩ := hat2
  go_wp2_with fail
  with_reducible refine HDW2.out.mono ?_
  intro e w3 h3
  have hx3 : ∃ (v : Value) (K : List Int) (k : Int), e = .returned (.tuple #[v, .int .i64 k]) ∧ At w3 w3.heap.size v K ∧ Below w2.heap.size w2 w3 ∧ ((k = 3 ∧ K = [] ∧ ∀ K, ¬ GoodK c D S K) ∨ (k = 0 ∧ GoodK c D S K)) := by
    rcases h3 with ⟨he, hk, hb⟩ | ⟨v, K, he, hk, ho, hb⟩
    · exact ⟨_, [], 3, he, at_.nil _ _, hb, Or.inl ⟨rfl, rfl, hk⟩⟩
    · exact ⟨v, K, 0, he, at_.own ho, hb, Or.inr ⟨rfl, hk⟩⟩
  obtain ⟨v3, K3, k3, rfl, hat3, hb3, hk3⟩ := hx3
  have HKK : Hid (K2 = K3 ∧ k2 = k3) := by
    rcases HK2.out with ⟨e1, e2, e3⟩ | ⟨e1, e2⟩
    · rcases hk3 with ⟨f1, f2, f3⟩ | ⟨f1, f2⟩
      · exact ⟨by rw [e2, f2], by rw [e1, f1]⟩
      · exact absurd f2 (e3 _)
    · rcases hk3 with ⟨f1, f2, f3⟩ | ⟨f1, f2⟩
      · exact absurd e2 (f3 _)
      · exact ⟨HONE.out _ _ e2 f2, by rw [e1, f1]⟩
  have HAT3 := Lib.hid hat3
  obtain ⟨a3, p3, rfl, _⟩ := hat3
  have HIN : Hid (∀ W, Below w3.heap.size w3 W → Calls Try.prog 17 #[.slice a2 K2.length p2, .slice a3 K3.length p3] W (Said true W)) := fun W hW => by
    have h1 := ints_any K2 K3 _ _ W ((((HAT2.out.below hb3).mono hb3.size).below hW).mono hW.size) ((HAT3.out.below hW).mono hW.size)
    rw [decide_eq_true HKK.out.1] at h1
    exact h1
  have HKE : Hid (k2 = k3) := HKK.out.2
  obtain ⟨n2, hn2⟩ : ∃ n, n = K2.length := ⟨_, rfl⟩
  obtain ⟨n3, hn3⟩ : ∃ n, n = K3.length := ⟨_, rfl⟩
  rw [← hn2, ← hn3] at HIN
  rw [← hn2, ← hn3]
  clear h3 hk3 hn2 hn3 HK2 HKK HAT2 HAT3
  have HB3 := Lib.hid (HB2.out.step hb3)
  clear c0 c1 c2 hb02
  obtain ⟨c0, c1, c2, hb03, _⟩ := HB3.out
  have hke := HKE.out
  subst hke
  clear HKE
  have HSW := Lib.hid (HS1.out _ hb03)
  go_wp2_with fail
  with_reducible refine HSW.out.mono ?_
  rintro e w4 ⟨rfl, hb4⟩
  have HB4 := Lib.hid (HB3.out.step hb4)
  clear c0 c1 c2
  obtain ⟨c0, c1, c2, hb04, _⟩ := HB4.out
  have HSW2 := Lib.hid (HS2.out _ hb04)
  go_wp2_with fail
  with_reducible refine HSW2.out.mono ?_
  rintro e w5 ⟨rfl, hb5⟩
  have HB5 := Lib.hid (HB4.out.step hb5)
  clear c0 c1 c2
  obtain ⟨c0, c1, c2, hb05, hz5⟩ := HB5.out
  have HIN5 : Hid (∀ W, BoxT w5 w.heap.size (.int .i64 c) (.string D) (.slice so q sc) W → _) := fun W hW0 => have hW := hW0.bel; HIN.out W ((hb4.trans (hb5.mono hb4.size)).trans (hW.mono (hb4.trans (hb5.mono hb4.size)).size))
  have HR15 : Hid (∀ W, BoxT w5 w.heap.size (.int .i64 c) (.string D) (.slice so q sc) W → _) := fun W hW0 => have hW := hW0.bel; HR1.out W (hb05.trans (hW.mono hb05.size))
  have HR25 : Hid (∀ W, BoxT w5 w.heap.size (.int .i64 c) (.string D) (.slice so q sc) W → _) := fun W hW0 => have hW := hW0.bel; HR2.out W (hb05.trans (hW.mono hb05.size))
  have HT : Hid (BoxT w5 w.heap.size (.int .i64 c) (.string D) (.slice so q sc) w5) := ⟨c0, c1, c2, Below.refl _ _⟩
  have hB : w.heap.size < w5.heap.size := hz5
  go_wp2_with fail
  go_region_held3 (fun w' => w'.cell? ⟨w.heap.size, 0, none⟩ = some (.int .i64 c) ∧ w'.cell? ⟨w.heap.size, 1, none⟩ = some (.string D) ∧ w'.cell? ⟨w.heap.size, 2, none⟩ = some (.slice so q sc) ∧ Below w5.heap.size w5 w')
    (first
      | exact BoxT.step HT.out hB (below_drewN (Below.refl _ _) 1)
      | exact BoxT.step (by assumption) hB hbK
      | assumption)
    (first
      | (go_at_call 17; refine (HIN5.out _ (by assumption)).mono ?_; rintro e wK ⟨rfl, hbK⟩)
      | (go_at_call 18; refine (HR15.out _ (by assumption)).mono ?_; rintro e wK ⟨rfl, hbK⟩)
      | (go_at_call 19; refine (HR25.out _ (by assumption)).mono ?_; rintro e wK ⟨rfl, hbK⟩)
      | (go_at_call 8; (with_reducible refine (HAW.out _).mono ?_); rintro e wK ⟨rfl, hbK⟩)
      | fail)
  go_wp2
  go_ret
  exact ⟨rfl, hb05.trans ((by assumption : BoxT w5 w.heap.size (.int .i64 c) (.string D) (.slice so q sc) _).2.2.2.mono hb05.size)⟩
end Go.Proofs.Ytniphmfkccaccaa
