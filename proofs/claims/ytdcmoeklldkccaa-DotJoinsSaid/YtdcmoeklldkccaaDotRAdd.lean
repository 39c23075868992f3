/- the document's Add, From. -/
import Derived.Test.YtdcmoeklldkccaaDotBox
import Derived.Test.YtdcmoeklldkccaaDotRaise
import Derived.Test.YtdcmoeklldkccaaDotRef2
namespace Go.Proofs.Ytdcmoeklldkccaa
open Go Go.RowKit Go.ChangeShapes cl Go.Sort

/-- what the document's Add answers -/
def RAddP (c : dm.Ctx) (d : Dot) (w : World) (e : Ending) (w' : World) : Prop := ∃ v c', e = .returned v ∧ OwnC w.heap.size w' v c' ∧ (valid d = true ∧ dm.Right c → dm.Is c' (fun e => dm.Knows c e ∨ e = d) (c.2.length + 1)) ∧ (¬ (valid d = true ∧ dm.Right c) → c' = c) ∧ Below w.heap.size w w'
theorem radd_lay {c : dm.Ctx} {d : Dot} {l : List Dot} (hc : dm.Right c) (hd : valid d = true) (hp : l.Pairwise fun a b => dless a b = true) (hm : ∀ x, x ∈ l ↔ x ∈ c.2 ∨ x = d) (hl : l.length ≤ c.2.length + 1) :
    dm.raiseK c.1 d.1 0 = dm.kn c.1 ∧ (∀ x ∈ l, valid x = true) ∧ (∀ x ∈ l, x.1 ≠ d.1 → dm.kn c.1 x.1 + 2 ≤ x.2) ∧ dm.Is (dm.layF (dm.kn c.1) l) (fun e => dm.Knows c e ∨ e = d) (c.2.length + 1) := by
  have hv : ∀ x ∈ l, valid x = true := fun x hx => by
    rcases (hm x).1 hx with h | h
    · exact (hc.cok x h).1
    · rw [h]; exact hd
  refine ⟨funext fun m => ?_, hv, fun x hx hne => ?_, ?_⟩
  · unfold dm.raiseK
    split
    · rename_i e; rw [e]; have := (hc.kn0 d.1).1; omega
    · rfl
  · rcases (hm x).1 hx with h | h
    · exact (hc.cok x h).2
    · exact absurd (by rw [h]) hne
  · obtain ⟨h1, h2⟩ := dm.lay_right hc.kn0 (strict_up hp) hv
    refine ⟨h1, fun e => ?_, dm.layF_len1 _ _, Nat.le_trans (dm.layF_len2 _ _) hl⟩
    rw [h2, hm]
    constructor
    · rintro ⟨a, b | b | b⟩
      · exact Or.inl ⟨a, Or.inl b⟩
      · exact Or.inl ⟨a, Or.inr b⟩
      · exact Or.inr b
    · rintro (⟨a, b | b⟩ | b)
      · exact ⟨a, Or.inl b⟩
      · exact ⟨a, Or.inr (Or.inl b)⟩
      · exact ⟨by rw [b]; exact hd, Or.inr (Or.inr b)⟩
set_option maxHeartbeats 8000000 in
set_option maxRecDepth 100000 in
theorem radd_any (c : dm.Ctx) (d : Dot) (v : Value) (w : World) (h : CtxAt w w.heap.size v c) (hl1 : c.1.length ≤ 1000) (hl2 : c.2.length ≤ 200000) :
    Calls Try.prog 21 #[v, .agg #[.int .i64 d.1, .int .i64 d.2]] w (RAddP c d w) := by
  obtain ⟨a1, n1, c1, a2, n2, c2, rfl, hn1, hn2⟩ := h.form
  have HC := Lib.hid h
  have HN1 := Lib.hid hn1
  have HN2 := Lib.hid hn2
  have hf1 : n1 ≤ 9223372036854775807 := by
    obtain ⟨_, _, e, _, h9⟩ := h.parts.1.form
    rw [hn1]; unfold maxLen at h9; exact h9
  have hf2 : n2 ≤ 9223372036854775807 := by
    obtain ⟨_, _, e, _, h9⟩ := h.parts.2.form
    rw [hn2]; unfold maxLen at h9; exact h9
  clear h hn1 hn2
  obtain ⟨du, dv⟩ := d
  obtain ⟨w1, hw1⟩ : ∃ W, W = ((w.alloc (.cells #[.slice a1 n1 c1, .slice a2 n2 c2] 24)).alloc (.cells #[.int .i64 du, .int .i64 dv] 26)).alloc (.cells #[.slice none 0 0, .slice none 0 0] 24) := ⟨_, rfl⟩
  have E1 : Below w.heap.size w w1 := by rw [hw1]; exact (((Below.refl _ _).alloc (Nat.le_refl _) _).alloc (by simp) _).alloc (by simp <;> omega) _
  have hs1 : w.heap.size + 3 ≤ w1.heap.size := by rw [hw1]; simp
  have x0 : w1.cell? ⟨w.heap.size, 0, none⟩ = some (.slice a1 n1 c1) := by rw [hw1]; go_simp
  have x1 : w1.cell? ⟨w.heap.size, 1, none⟩ = some (.slice a2 n2 c2) := by rw [hw1]; go_simp
  have x2 : w1.cell? ⟨w.heap.size + 1, 0, none⟩ = some (.int .i64 du) := by rw [hw1]; go_simp
  have x3 : w1.cell? ⟨w.heap.size + 1, 1, none⟩ = some (.int .i64 dv) := by rw [hw1]; go_simp
  have x4 : w1.cell? ⟨w.heap.size + 1 + 1, 0, none⟩ = some (.slice none 0 0) := by rw [hw1]; go_simp
  have x5 : w1.cell? ⟨w.heap.size + 1 + 1, 1, none⟩ = some (.slice none 0 0) := by rw [hw1]; go_simp
  have x6 : w1.frozen? ⟨w.heap.size + 1 + 1, 0, none⟩ = false := by rw [hw1]; go_simp
  have x7 : w1.frozen? ⟨w.heap.size + 1 + 1, 1, none⟩ = false := by rw [hw1]; go_simp
  have x8 : w1.frozen? ⟨w.heap.size, 1, none⟩ = false := by rw [hw1]; go_simp
  have x9 : w1.frozen? ⟨w.heap.size, 0, none⟩ = false := by rw [hw1]; go_simp
  have HX : Hid (∀ W, Below w1.heap.size w1 W → W.cell? ⟨w.heap.size, 0, none⟩ = some (.slice a1 n1 c1) ∧ W.cell? ⟨w.heap.size, 1, none⟩ = some (.slice a2 n2 c2) ∧ W.cell? ⟨w.heap.size + 1, 0, none⟩ = some (.int .i64 du) ∧ W.cell? ⟨w.heap.size + 1, 1, none⟩ = some (.int .i64 dv) ∧
      W.cell? ⟨w.heap.size + 1 + 1, 0, none⟩ = some (.slice none 0 0) ∧ W.cell? ⟨w.heap.size + 1 + 1, 1, none⟩ = some (.slice none 0 0) ∧ W.frozen? ⟨w.heap.size + 1 + 1, 0, none⟩ = false ∧ W.frozen? ⟨w.heap.size + 1 + 1, 1, none⟩ = false ∧ W.frozen? ⟨w.heap.size, 1, none⟩ = false ∧ W.frozen? ⟨w.heap.size, 0, none⟩ = false) := fun W hW =>
    ⟨(hW.cell (p := ⟨w.heap.size, 0, none⟩) (by show w.heap.size < _; omega)).trans x0, (hW.cell (p := ⟨w.heap.size, 1, none⟩) (by show w.heap.size < _; omega)).trans x1, (hW.cell (p := ⟨w.heap.size + 1, 0, none⟩) (by show w.heap.size + 1 < _; omega)).trans x2, (hW.cell (p := ⟨w.heap.size + 1, 1, none⟩) (by show w.heap.size + 1 < _; omega)).trans x3,
     (hW.cell (p := ⟨w.heap.size + 1 + 1, 0, none⟩) (by show w.heap.size + 1 + 1 < _; omega)).trans x4, (hW.cell (p := ⟨w.heap.size + 1 + 1, 1, none⟩) (by show w.heap.size + 1 + 1 < _; omega)).trans x5, (hW.frozen (p := ⟨w.heap.size + 1 + 1, 0, none⟩) (by show w.heap.size + 1 + 1 < _; omega)).trans x6, (hW.frozen (p := ⟨w.heap.size + 1 + 1, 1, none⟩) (by show w.heap.size + 1 + 1 < _; omega)).trans x7, (hW.frozen (p := ⟨w.heap.size, 1, none⟩) (by show w.heap.size < _; omega)).trans x8, (hW.frozen (p := ⟨w.heap.size, 0, none⟩) (by show w.heap.size < _; omega)).trans x9⟩
  have HW1 := Lib.hid hw1
  clear hw1 x0 x1 x2 x3 x4 x5 x6 x7 x8 x9
  have HLL := Lib.hid (And.intro hl1 hl2)
  have HCW : Hid (∀ W, Below w1.heap.size w1 W → CtxAt W W.heap.size (.agg #[.slice a1 n1 c1, .slice a2 n2 c2]) c) := fun W hW => HC.out.next (E1.trans (hW.mono E1.size))
  have HV0 : Hid (∀ W, Calls Try.prog 13 #[.agg #[.int .i64 du, .int .i64 dv]] W (Said (valid (du, dv)) W)) := fun W => rvalid_any (du, dv) W
  have HR0 : Hid (∀ W, Below w1.heap.size w1 W → Calls Try.prog 19 #[.agg #[.slice a1 n1 c1, .slice a2 n2 c2]] W (Said (dm.rightB c) W)) := fun W hW => rright_any c _ W (HCW.out W hW)
  have HOW0 : Hid (∀ W, Below w1.heap.size w1 W → Calls Try.prog 37 #[.agg #[.slice a1 n1 c1, .slice a2 n2 c2]] W (CopyP c W)) := fun W hW => own_any c _ W (HCW.out W hW) (by have := HLL.out.1; omega) (by have := HLL.out.2; omega)
  have D : Below w1.heap.size w1 w1 := Below.refl _ _
  clear hl1 hl2
  by_cases hok : valid (du, dv) = true ∧ dm.Right c
  · obtain ⟨hv, hr⟩ := hok
    rw [hv] at HV0
    rw [dm.rightB_true hr] at HR0
    have HVR := Lib.hid (And.intro hv hr)
    have HPU : Hid (∀ W, Below w1.heap.size w1 W → Calls Try.prog 38 #[.slice a2 n2 c2, .agg #[.int .i64 du, .int .i64 dv]] W (PutP (.slice a2 n2 c2) c.2 (du, dv) W)) := fun W hW => put_any c.2 du dv _ W (HCW.out W hW).parts.2 hr.cup (by have := HLL.out.2; omega)
    clear hv hr
    go_enter Try.func21, Try.ntmps21
    go_wp2_with fail
    rw [← HW1.out]
    (with_reducible refine (HV0.out _).mono ?_)
    rintro e v1 ⟨rfl, b1⟩
    replace D := D.trans b1
    clear b1
    obtain ⟨x0, x1, x2, x3, x4, x5, x6, x7, x8, x9⟩ := HX.out _ D
    go_wp2_with fail
    (with_reducible refine (HR0.out _ D).mono ?_)
    rintro e v2 ⟨rfl, b2⟩
    replace D := D.trans (b2.mono D.size)
    clear b2
    clear x0 x1 x2 x3 x4 x5 x6 x7 x8 x9
    obtain ⟨x0, x1, x2, x3, x4, x5, x6, x7, x8, x9⟩ := HX.out _ D
    go_wp2_with fail
    (with_reducible refine (HPU.out _ D).mono ?_)
    rintro e v3 ⟨v9, l', rfl, hdv, hps, hpm, hpl, b3⟩
    have D3 := D.trans (b3.mono D.size)
    obtain ⟨o9, q9, m9, rfl, hm9⟩ : ∃ o q m, v9 = .slice o m q ∧ m = l'.length := by
      rcases hdv with ⟨e1, e2⟩ | e
      · exact ⟨a2, c2, n2, e1, by rw [e2]; exact HN2.out⟩
      · obtain ⟨o, q, e⟩ := own_form e
        exact ⟨o, q, _, e, rfl⟩
    have HXL := Lib.hid (radd_lay HVR.out.2 HVR.out.1 hps hpm hpl)
    obtain ⟨W6, hW6⟩ : ∃ W, W = v3.setCell ⟨w.heap.size, 1, none⟩ (.slice o9 m9 q9) := ⟨_, rfl⟩
    have E6 : Below w.heap.size w W6 := by rw [hW6]; exact (E1.trans (D3.mono E1.size)).setCell (p := ⟨w.heap.size, 1, none⟩) (Nat.le_refl _) _
    have hsz6 : W6.heap.size = v3.heap.size := by rw [hW6]; simp [World.setCell]
    have HD6 : Hid (CtxAt W6 W6.heap.size (.agg #[.slice a1 n1 c1, .slice o9 m9 q9]) (c.1, l')) := by
      refine ⟨_, _, rfl, (HC.out.next E6).parts.1, ?_⟩
      rcases hdv with ⟨e1, e2⟩ | e
      · rw [e1, e2]; exact (HC.out.next E6).parts.2
      · rw [hW6]
        have := ownsRow_setCell_below (own_mono e D.size) (a := ⟨w.heap.size, 1, none⟩) (by show w.heap.size < _; omega) (.slice o9 m9 q9)
        exact Cells.own this
    have HRA := Lib.hid (raise_any (c.1, l') du 0 _ W6 HD6.out ((dm.valid_iff _).1 HVR.out.1).1 ((dm.valid_iff _).1 HVR.out.1).2.1 (Int.le_refl _) (by omega) HVR.out.2.vok HVR.out.2.vup HXL.out.2.1 hps HXL.out.2.2.1 HLL.out.1 (by have := HLL.out.2; show l'.length ≤ _; omega))
    have HIS : Hid (dm.Is (dm.layF (dm.raiseK c.1 du 0) l') (fun e => dm.Knows c e ∨ e = (du, dv)) (c.2.length + 1)) := by have := HXL.out.2.2.2; rw [← HXL.out.1] at this; exact this
    clear x0 x1 x2 x3 x4 x5 x6 x7 x8 x9
    obtain ⟨x0, x1, x2, x3, x4, x5, x6, x7, x8, x9⟩ := HX.out _ D3
    have HWW := Lib.hid hW6
    clear hdv hps hpm hpl b3 hW6 hm9 HXL
    go_wp2_with fail
    rw [← HWW.out]
    clear x0 x1 x2 x3 x4 x5 x6 x7 x8 x9
    (with_reducible refine HRA.out.mono ?_)
    rintro e w7 ⟨v7, rfl, hown, b7⟩
    have D7 : Below (w.heap.size + 1) W6 w7 := b7.mono (by rw [hsz6]; have := D3.size; omega)
    obtain ⟨x0, x1, x2, x3, x4, x5, x6, x7, x8, x9⟩ := HX.out _ D3
    have z4 : w7.cell? ⟨w.heap.size + 1 + 1, 0, none⟩ = some (.slice none 0 0) := (b7.cell (p := ⟨w.heap.size + 1 + 1, 0, none⟩) (by show w.heap.size + 1 + 1 < _; rw [hsz6]; have := D3.size; omega)).trans (by rw [HWW.out]; go_simp)
    have z5 : w7.cell? ⟨w.heap.size + 1 + 1, 1, none⟩ = some (.slice none 0 0) := (b7.cell (p := ⟨w.heap.size + 1 + 1, 1, none⟩) (by show w.heap.size + 1 + 1 < _; rw [hsz6]; have := D3.size; omega)).trans (by rw [HWW.out]; go_simp)
    have z6 : w7.frozen? ⟨w.heap.size + 1 + 1, 0, none⟩ = false := (b7.frozen (p := ⟨w.heap.size + 1 + 1, 0, none⟩) (by show w.heap.size + 1 + 1 < _; rw [hsz6]; have := D3.size; omega)).trans (by rw [HWW.out]; go_simp)
    have z7 : w7.frozen? ⟨w.heap.size + 1 + 1, 1, none⟩ = false := (b7.frozen (p := ⟨w.heap.size + 1 + 1, 1, none⟩) (by show w.heap.size + 1 + 1 < _; rw [hsz6]; have := D3.size; omega)).trans (by rw [HWW.out]; go_simp)
    obtain ⟨o1, l1, q1, o2, l2, q2, rfl⟩ := hown.form
    have HOW := Lib.hid (((hown.mono (B' := w.heap.size + 3) (by rw [hsz6]; have := D3.size; omega)).set (a := ⟨w.heap.size + 1 + 1, 0, none⟩) (by show w.heap.size + 1 + 1 < _; omega) (.slice o1 l1 q1)).set (a := ⟨w.heap.size + 1 + 1, 1, none⟩) (by show w.heap.size + 1 + 1 < _; omega) (.slice o2 l2 q2))
    have hb9 := E6.trans (b7.mono E6.size)
    have HB9 := Lib.hid ((hb9.setCell (p := ⟨w.heap.size + 1 + 1, 0, none⟩) (by show w.heap.size ≤ w.heap.size + 1 + 1; omega) (.slice o1 l1 q1)).setCell (p := ⟨w.heap.size + 1 + 1, 1, none⟩) (by show w.heap.size ≤ w.heap.size + 1 + 1; omega) (.slice o2 l2 q2))
    clear hown hb9 b7 D7
    clear x0 x1 x2 x3 x4 x5 x6 x7 x8 x9
    go_wp2
    refine bodyPost_ret (v := .agg #[.slice o1 l1 q1, .slice o2 l2 q2]) (by simp [results, Try.results21, go_sem, z4, z5]) rfl ?_
    exact ⟨_, _, rfl, HOW.out.mono (by omega), fun _ => HIS.out, fun h => absurd HVR.out h, HB9.out⟩
  · have hno := Lib.hid hok
    cases hv : valid (du, dv) with
    | false =>
      rw [hv] at HV0
      clear hv hok
      go_enter Try.func21, Try.ntmps21
      go_wp2_with fail
      rw [← HW1.out]
      (with_reducible refine (HV0.out _).mono ?_)
      rintro e v1 ⟨rfl, b1⟩
      replace D := D.trans b1
      clear b1
      obtain ⟨x0, x1, x2, x3, x4, x5, x6, x7, x8, x9⟩ := HX.out _ D
      have D0 := D
      go_wp2_with fail
      (with_reducible refine (HOW0.out _ D).mono ?_)
      rintro e v3 ⟨v9, rfl, hown, b3⟩
      replace D := D.trans (b3.mono D.size)
      clear b3
      clear x0 x1 x2 x3 x4 x5 x6 x7 x8 x9
      obtain ⟨x0, x1, x2, x3, x4, x5, x6, x7, x8, x9⟩ := HX.out _ D
      obtain ⟨o1, l1, q1, o2, l2, q2, rfl⟩ := hown.form
      have HOW := Lib.hid (((hown.mono (Nat.le_trans hs1 D0.size)).set (a := ⟨w.heap.size + 1 + 1, 0, none⟩) (by show w.heap.size + 1 + 1 < _; omega) (.slice o1 l1 q1)).set (a := ⟨w.heap.size + 1 + 1, 1, none⟩) (by show w.heap.size + 1 + 1 < _; omega) (.slice o2 l2 q2))
      have hb9 := E1.trans (D.mono E1.size)
      have HB9 := Lib.hid ((hb9.setCell (p := ⟨w.heap.size + 1 + 1, 0, none⟩) (by show w.heap.size ≤ w.heap.size + 1 + 1; omega) (.slice o1 l1 q1)).setCell (p := ⟨w.heap.size + 1 + 1, 1, none⟩) (by show w.heap.size ≤ w.heap.size + 1 + 1; omega) (.slice o2 l2 q2))
      clear hown hb9
      go_wp2
      refine bodyPost_ret (v := .agg #[.slice o1 l1 q1, .slice o2 l2 q2]) (by simp [results, Try.results21, go_sem, x4, x5]) rfl ?_
      exact ⟨_, c, rfl, HOW.out.mono (by omega), fun h => absurd h hno.out, fun _ => rfl, HB9.out⟩
    | true =>
      rw [hv] at HV0
      rw [dm.rightB_false (fun hr => hok ⟨hv, hr⟩)] at HR0
      clear hv hok
      go_enter Try.func21, Try.ntmps21
      go_wp2_with fail
      rw [← HW1.out]
      (with_reducible refine (HV0.out _).mono ?_)
      rintro e v1 ⟨rfl, b1⟩
      replace D := D.trans b1
      clear b1
      obtain ⟨x0, x1, x2, x3, x4, x5, x6, x7, x8, x9⟩ := HX.out _ D
      go_wp2_with fail
      (with_reducible refine (HR0.out _ D).mono ?_)
      rintro e v2 ⟨rfl, b2⟩
      replace D := D.trans (b2.mono D.size)
      clear b2
      clear x0 x1 x2 x3 x4 x5 x6 x7 x8 x9
      obtain ⟨x0, x1, x2, x3, x4, x5, x6, x7, x8, x9⟩ := HX.out _ D
      have D0 := D
      go_wp2_with fail
      (with_reducible refine (HOW0.out _ D).mono ?_)
      rintro e v3 ⟨v9, rfl, hown, b3⟩
      replace D := D.trans (b3.mono D.size)
      clear b3
      clear x0 x1 x2 x3 x4 x5 x6 x7 x8 x9
      obtain ⟨x0, x1, x2, x3, x4, x5, x6, x7, x8, x9⟩ := HX.out _ D
      obtain ⟨o1, l1, q1, o2, l2, q2, rfl⟩ := hown.form
      have HOW := Lib.hid (((hown.mono (Nat.le_trans hs1 D0.size)).set (a := ⟨w.heap.size + 1 + 1, 0, none⟩) (by show w.heap.size + 1 + 1 < _; omega) (.slice o1 l1 q1)).set (a := ⟨w.heap.size + 1 + 1, 1, none⟩) (by show w.heap.size + 1 + 1 < _; omega) (.slice o2 l2 q2))
      have hb9 := E1.trans (D.mono E1.size)
      have HB9 := Lib.hid ((hb9.setCell (p := ⟨w.heap.size + 1 + 1, 0, none⟩) (by show w.heap.size ≤ w.heap.size + 1 + 1; omega) (.slice o1 l1 q1)).setCell (p := ⟨w.heap.size + 1 + 1, 1, none⟩) (by show w.heap.size ≤ w.heap.size + 1 + 1; omega) (.slice o2 l2 q2))
      clear hown hb9
      go_wp2
      refine bodyPost_ret (v := .agg #[.slice o1 l1 q1, .slice o2 l2 q2]) (by simp [results, Try.results21, go_sem, x4, x5]) rfl ?_
      exact ⟨_, c, rfl, HOW.out.mono (by omega), fun h => absurd h hno.out, fun _ => rfl, HB9.out⟩
end Go.Proofs.Ytdcmoeklldkccaa
