/- law LabelBack. -/
import Derived.Test.YtpfjmomdnegcpaaLabAwake

namespace Go.Proofs.Ytpfjmomdnegcpaa
open Go.RowKit Go.ChangeShapes cl

namespace lm
theorem good_small {c : List Lab} (h : Good c) : ∀ x ∈ c, x.1.size ≤ maxLen ∧ x.2.size ≤ maxLen := fun x hx => by
  have := good_len (h.1 x hx)
  unfold maxLen; omega
theorem form_small {l c : List Lab} (h : canonF l = (0, c)) : (∀ x ∈ c, x.1.size ≤ maxLen ∧ x.2.size ≤ maxLen) ∧ c.length ≤ 100000 := by
  obtain ⟨_, _, hk, hg, _⟩ := canon_form h
  exact ⟨good_small hg, by have := hg.2.2; rw [hk] at this; omega⟩
end lm
def TextQ (f : Int) (T : ByteArray) (w : World) (e : Ending) (w' : World) : Prop := TextP (f, T) w e w'
set_option maxHeartbeats 3200000 in
set_option maxRecDepth 100000 in
theorem back_any (l : List Lab) (v : Value) (s : ByteArray) (w : World) (h : Labs w w.heap.size v l) (hz : ∀ x ∈ l, x.1.size ≤ maxLen ∧ x.2.size ≤ maxLen) (hs : s.size ≤ maxLen) (hm : MX w) : Calls Try.prog 6 #[v, .string s] w (Said true w) := by
  have Hl : Hid (∀ W, Below w.heap.size w W → Labs W W.heap.size v l) := fun W hW => (Cells.below h hW).mono hW.size
  have AW : Hid (∀ W, Below w.heap.size w W → Calls Try.prog 9 #[] W (Said true W)) := fun W hW => awake_any W (MX.next hm hW)
  have B : Below w.heap.size w w := Below.refl _ _
  have Fl : Hid (∀ W, Below w.heap.size w W → Calls Try.prog 14 #[v] W (Far l W)) := fun W hW => far_any l v W (Hl.out W hW) hz
  have CA : Hid (∀ W, Below w.heap.size w W → Near l → Calls Try.prog 15 #[v] W (CanonP (lm.canonF l) W)) := fun W hW hn => canon_any l v W (Hl.out W hW) hz (by have := hn.1; omega)
  have PS : Hid (∀ (t : ByteArray) W, t.size ≤ maxLen → Below w.heap.size w W → Calls Try.prog 22 #[.string t] W (ParseP t W)) := fun t W ht hW => parse_any t W ht (MX.next hm hW)
  have TX : Hid (∀ (c : List Lab) (u : Value) W, Labs W W.heap.size u c → lm.canonF c = (0, c) → Calls Try.prog 17 #[u] W (TextP (0, kit.str (lm.textB c)) W)) := fun c u W hl hc => by
    have := text_any c u W hl (lm.form_small hc).1 (lm.form_small hc).2
    rw [lm.text_iff.2 ⟨hc, rfl⟩] at this
    exact this
  have HSZ := Lib.hid hs
  unfold maxLen at hs
  obtain ⟨⟨f, c⟩, hfc⟩ : ∃ r, r = lm.canonF l := ⟨_, rfl⟩
  rw [← hfc] at CA
  have HFC := Lib.hid hfc
  clear h hz hm hfc
  by_cases h3 : 3000 < s.size
  · have h3I : (3000 : Int) < (s.size : Int) := by omega
    go_enter Try.func6, Try.ntmps6
    go_wp2_with fail
    (with_reducible refine (Fl.out _ B).mono ?_)
    rintro e wX ⟨rr, rfl, n1, b⟩
    replace B := B.trans (b.mono B.size)
    clear b
    cases rr with
    | true =>
      clear n1
      go_wp2_with fail
      (with_reducible refine (AW.out _ B).mono ?_)
      rintro e wX ⟨rfl, b⟩
      replace B := B.trans (b.mono B.size)
      clear b
      go_wp2
      go_ret
      exact ⟨rfl, B⟩
    | false =>
      clear n1
      go_wp2_with fail
      (with_reducible refine (AW.out _ B).mono ?_)
      rintro e wX ⟨rfl, b⟩
      replace B := B.trans (b.mono B.size)
      clear b
      go_wp2
      go_ret
      exact ⟨rfl, B⟩
  have h3I : ¬ (3000 : Int) < (s.size : Int) := by omega
  go_enter Try.func6, Try.ntmps6
  go_wp2_with fail
  (with_reducible refine (Fl.out _ B).mono ?_)
  rintro e wX ⟨rr, rfl, n1, b⟩
  replace B := B.trans (b.mono B.size)
  clear b
  cases rr with
  | true =>
    clear n1
    go_wp2_with fail
    (with_reducible refine (AW.out _ B).mono ?_)
    rintro e wX ⟨rfl, b⟩
    replace B := B.trans (b.mono B.size)
    clear b
    go_wp2
    go_ret
    exact ⟨rfl, B⟩
  | false =>
    have HNE := Lib.hid (n1.out rfl)
    clear n1
    go_wp2_with fail
    (with_reducible refine (CA.out _ B HNE.out).mono ?_)
    rintro e w2 ⟨v2, rfl, h2, b⟩
    replace B := B.trans (b.mono B.size)
    clear b
    by_cases hf : f = 0
    · subst hf
      have HFX := Lib.hid (lm.canon_fix HFC.out.symm)
      have HX2 := Lib.hid (TX.out c v2 w2 h2 HFX.out)
      obtain ⟨t, ht⟩ : ∃ t, t = kit.str (lm.textB c) := ⟨_, rfl⟩
      rw [← ht] at HX2
      have HTT : Hid (lm.textF c = (0, t)) := lm.text_iff.2 ⟨HFX.out, ht⟩
      have ht6 : t.size ≤ 600 := by rw [ht, kit.str_size]; exact lm.textB_len HFX.out
      have ht6I : ¬ (600 : Int) < (t.size : Int) := by omega
      have H2 := Lib.hid h2
      clear h2 ht
      go_wp2_with fail
      (with_reducible refine HX2.out.mono ?_)
      rintro e w3 ⟨rfl, b⟩
      have H3 := Lib.hid (Cells.next H2.out b)
      replace B := B.trans (b.mono B.size)
      clear b
      have HP3 := Lib.hid (PS.out t w3 (by unfold maxLen; omega) B)
      go_wp2_with fail
      (with_reducible refine HP3.out.mono ?_)
      rintro e w4 ⟨r4, ⟨v4, rfl, h4, b⟩, his4⟩
      obtain rfl : r4 = (0, c) := lm.is_one his4 (Or.inr ⟨by omega, Or.inl ⟨c, rfl, HTT.out⟩⟩)
      have hS := same_any c c v4 v2 w4 h4 (Cells.next H3.out b)
      rw [decide_eq_true (rfl : c = c)] at hS
      have HS4 := Lib.hid hS
      replace B := B.trans (b.mono B.size)
      clear b h4 his4 hS
      go_wp2_with fail
      (with_reducible refine HS4.out.mono ?_)
      rintro e w5 ⟨rfl, b⟩
      replace B := B.trans (b.mono B.size)
      clear b
      go_wp2_with fail
      (with_reducible refine (PS.out s _ HSZ.out B).mono ?_)
      rintro e w7 ⟨⟨g, m⟩, ⟨v7, rfl, h7, b⟩, his⟩
      replace B := B.trans (b.mono B.size)
      clear b
      by_cases hg : g = 0
      · subst hg
        have HT7 : Hid (lm.textF m = (0, s)) := by
          rcases his with ⟨_, e⟩ | ⟨_, ⟨l', e, ht⟩ | ⟨e, _⟩⟩
          · exact absurd (Prod.mk.inj e).1 (by decide)
          · rw [(Prod.mk.inj e).2]; exact ht
          · exact absurd (Prod.mk.inj e).1 (by decide)
        have HX7 := Lib.hid (TX.out m v7 w7 h7 (lm.text_iff.1 HT7.out).1)
        rw [← (lm.text_iff.1 HT7.out).2] at HX7
        clear h7 his
        go_wp2_with fail
        (with_reducible refine HX7.out.mono ?_)
        rintro e w8 ⟨rfl, b⟩
        replace B := B.trans (b.mono B.size)
        clear b
        go_wp2_with fail
        (with_reducible refine (AW.out _ B).mono ?_)
        rintro e wX ⟨rfl, b⟩
        replace B := B.trans (b.mono B.size)
        clear b
        go_wp2
        go_ret
        exact ⟨rfl, B⟩
      · have hgb : (g == 0) = false := by simpa using hg
        have hgc : (g != 0) = true := by simpa using hg
        clear h7 his hg
        go_wp2_with fail
        (with_reducible refine (AW.out _ B).mono ?_)
        rintro e wX ⟨rfl, b⟩
        replace B := B.trans (b.mono B.size)
        clear b
        go_wp2
        go_ret
        exact ⟨rfl, B⟩
    · have hfb : (f == 0) = false := by simpa using hf
      have hfc2 : (f != 0) = true := by simpa using hf
      clear hf h2
      go_wp2_with fail
      (with_reducible refine (PS.out s _ HSZ.out B).mono ?_)
      rintro e w7 ⟨⟨g, m⟩, ⟨v7, rfl, h7, b⟩, his⟩
      replace B := B.trans (b.mono B.size)
      clear b
      by_cases hg : g = 0
      · subst hg
        have HT7 : Hid (lm.textF m = (0, s)) := by
          rcases his with ⟨_, e⟩ | ⟨_, ⟨l', e, ht⟩ | ⟨e, _⟩⟩
          · exact absurd (Prod.mk.inj e).1 (by decide)
          · rw [(Prod.mk.inj e).2]; exact ht
          · exact absurd (Prod.mk.inj e).1 (by decide)
        have HX7 := Lib.hid (TX.out m v7 w7 h7 (lm.text_iff.1 HT7.out).1)
        rw [← (lm.text_iff.1 HT7.out).2] at HX7
        clear h7 his
        go_wp2_with fail
        (with_reducible refine HX7.out.mono ?_)
        rintro e w8 ⟨rfl, b⟩
        replace B := B.trans (b.mono B.size)
        clear b
        go_wp2_with fail
        (with_reducible refine (AW.out _ B).mono ?_)
        rintro e wX ⟨rfl, b⟩
        replace B := B.trans (b.mono B.size)
        clear b
        go_wp2
        go_ret
        exact ⟨rfl, B⟩
      · have hgb : (g == 0) = false := by simpa using hg
        have hgc : (g != 0) = true := by simpa using hg
        clear h7 his hg
        go_wp2_with fail
        (with_reducible refine (AW.out _ B).mono ?_)
        rintro e wX ⟨rfl, b⟩
        replace B := B.trans (b.mono B.size)
        clear b
        go_wp2
        go_ret
        exact ⟨rfl, B⟩
end Go.Proofs.Ytpfjmomdnegcpaa
