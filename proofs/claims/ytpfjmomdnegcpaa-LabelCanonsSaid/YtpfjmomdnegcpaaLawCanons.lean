/- law LabelCanons. -/
import Derived.Test.YtpfjmomdnegcpaaLabAwake
import Derived.Test.YtpfjmomdnegcpaaLabRText
namespace Go.Proofs.Ytpfjmomdnegcpaa
open Go.RowKit Go.ChangeShapes cl

set_option maxHeartbeats 3200000 in
set_option maxRecDepth 100000 in
theorem canons_any (l : List Lab) (v : Value) (nm : ByteArray) (w : World) (h : Labs w w.heap.size v l) (hz : ∀ x ∈ l, x.1.size ≤ maxLen ∧ x.2.size ≤ maxLen) (hs : nm.size ≤ maxLen) (hm : MX w) : Calls Try.prog 4 #[v, .string nm] w (Said true w) := by
  obtain ⟨n, hn⟩ : ∃ n, n = l.length := ⟨_, rfl⟩
  have HN := Lib.hid hn
  obtain ⟨ao, cap, rfl⟩ : ∃ ao cap, v = .slice ao n cap := by
    obtain ⟨ao, cap, e, _⟩ := h.form
    exact ⟨ao, cap, by rw [hn]; exact e⟩
  have Hl : Hid (∀ W, Below w.heap.size w W → Labs W W.heap.size (.slice ao n cap) l) := fun W hW => (Cells.below h hW).mono hW.size
  have AW : Hid (∀ W, Below w.heap.size w W → Calls Try.prog 9 #[] W (Said true W)) := fun W hW => awake_any W (MX.next hm hW)
  have B : Below w.heap.size w w := Below.refl _ _
  have Fl : Hid (∀ W, Below w.heap.size w W → Calls Try.prog 14 #[.slice ao n cap] W (Far l W)) := fun W hW => far_any l _ W (Hl.out W hW) hz
  have CA : Hid (∀ (u : Value) W, Labs W W.heap.size u l → Near l → Calls Try.prog 15 #[u] W (CanonP (lm.canonF l) W)) := fun u W hW hn => canon_any l u W hW hz (by have := hn.1; omega)
  have RC : Hid (∀ (u : Value) W, Labs W W.heap.size u l → Near l → Calls Try.prog 16 #[u] W (CanonP (lm.canonF l) W)) := fun u W hW hn => rcanon_any l u W hW hz (by have := hn.1; omega)
  have TX : Hid (∀ (u : Value) W, Labs W W.heap.size u l → Near l → Calls Try.prog 17 #[u] W (TextP (lm.textF l) W)) := fun u W hW hn => text_any l u W hW hz (by have := hn.1; omega)
  have RT : Hid (∀ (u : Value) W, Labs W W.heap.size u l → Near l → Calls Try.prog 18 #[u] W (TextP (lm.textF l) W)) := fun u W hW hn => rtext_any l u W hW hz (by have := hn.1; omega)
  have VA : Hid (∀ (u : Value) W, Labs W W.heap.size u l → Calls Try.prog 20 #[u, .string nm] W (SaysT (lval l nm) W)) := fun u W hW => value_any l u nm W hW
  have RV : Hid (∀ (u : Value) W, Labs W W.heap.size u l → Calls Try.prog 21 #[u, .string nm] W (SaysT (lval l nm) W)) := fun u W hW => rvalue_any l u nm W hW
  have SM : Hid (∀ (c : List Lab) (u u' : Value) W, Labs W W.heap.size u c → Labs W W.heap.size u' c → Calls Try.prog 19 #[u, u'] W (Said true W)) := fun c u u' W h1 h2 => by
    have := same_any c c u u' W h1 h2
    rw [decide_eq_true (rfl : c = c)] at this
    exact this
  unfold maxLen at hs
  obtain ⟨⟨f, c⟩, hfc⟩ : ∃ r, r = lm.canonF l := ⟨_, rfl⟩
  obtain ⟨⟨g, t⟩, hgt⟩ : ∃ r, r = lm.textF l := ⟨_, rfl⟩
  obtain ⟨z, hzz⟩ : ∃ r, r = lval l nm := ⟨_, rfl⟩
  rw [← hfc] at CA RC
  rw [← hgt] at TX RT
  rw [← hzz] at VA RV
  clear h hz hm hfc hgt hzz hn
  by_cases h3 : 1000 < nm.size
  · have h3I : (1000 : Int) < (nm.size : Int) := by omega
    go_enter Try.func4, Try.ntmps4
    go_wp2_with fail
    (with_reducible refine (Fl.out _ B).mono ?_)
    rintro e wX ⟨rr, rfl, n1, b⟩
    replace B := B.trans (b.mono B.size)
    clear b
    cases rr with
    | true =>
      clear n1
      go_wp2_with fail
      (with_reducible refine (AW.out _ B).mono ?_)
      rintro e wX ⟨rfl, b⟩
      replace B := B.trans (b.mono B.size)
      clear b
      go_wp2
      go_ret
      exact ⟨rfl, B⟩
    | false =>
      clear n1
      go_wp2_with fail
      (with_reducible refine (AW.out _ B).mono ?_)
      rintro e wX ⟨rfl, b⟩
      replace B := B.trans (b.mono B.size)
      clear b
      go_wp2
      go_ret
      exact ⟨rfl, B⟩
  have h3I : ¬ (1000 : Int) < (nm.size : Int) := by omega
  go_enter Try.func4, Try.ntmps4
  go_wp2_with fail
  (with_reducible refine (Fl.out _ B).mono ?_)
  rintro e wX ⟨rr, rfl, n1, b⟩
  replace B := B.trans (b.mono B.size)
  clear b
  cases rr with
  | true =>
    clear n1
    go_wp2_with fail
    (with_reducible refine (AW.out _ B).mono ?_)
    rintro e wX ⟨rfl, b⟩
    replace B := B.trans (b.mono B.size)
    clear b
    go_wp2
    go_ret
    exact ⟨rfl, B⟩
  | false =>
    have HNE := Lib.hid (n1.out rfl)
    clear n1
    have hn40 : n ≤ 40 := by rw [HN.out]; exact HNE.out.1
    have HNA := Lib.hid (Cells.news' (Hl.out (wX.alloc (.cells #[] 38)) (B.alloc B.size _)))
    have HO0 : Hid ((wX.alloc (.cells #[] 38)).ownsRow wX.heap.size 38 2 (.slice (some ⟨wX.heap.size, 0, none⟩) 0 0) 0 []) := own_none 38 (Nat.le_refl _) 2
    have HLN : Hid ((lcells l).length = n * 2) := by show _ = _; rw [lcells_len, HN.out]
    go_wp2_with (at_builtin; refine kit.appN (.tmp 22) (.tmp 23) 24 rfl rfl wX.heap.size Try.underlying24 infoLab rfl (by decide) (by decide) HO0.out rfl (lcells l) rfl HLN.out HNA.out.1 HNA.out.2 lcells_one (by omega) (by simp) ?_)
    intro v5 w5 hown5 hb5
    have L5 : Hid (Labs w5 w5.heap.size v5 l) := by
      show Cells _ _ _ _ _ _
      rw [← HN.out]
      have := Cells.own hown5
      simpa using this
    replace B := (B.alloc B.size (.cells #[] 38)).trans (hb5.mono B.size)
    clear hown5 hb5
    go_wp2_with fail
    (with_reducible refine (CA.out v5 _ L5.out HNE.out).mono ?_)
    rintro e wX ⟨v6, rfl, h6, b⟩
    replace L5 := Lib.hid (Cells.next L5.out b)
    replace B := B.trans (b.mono B.size)
    have L6 := Lib.hid h6
    clear h6
    clear b
    go_wp2_with fail
    (with_reducible refine (RC.out _ _ (Hl.out _ B) HNE.out).mono ?_)
    rintro e wX ⟨v7, rfl, h7, b⟩
    replace L5 := Lib.hid (Cells.next L5.out b)
    replace L6 := Lib.hid (Cells.next L6.out b)
    replace B := B.trans (b.mono B.size)
    have L7 := Lib.hid h7
    clear h7
    clear b
    go_wp2_with fail
    (with_reducible refine (TX.out v5 _ L5.out HNE.out).mono ?_)
    rintro e wX ⟨rfl, b⟩
    replace L5 := Lib.hid (Cells.next L5.out b)
    replace L6 := Lib.hid (Cells.next L6.out b)
    replace L7 := Lib.hid (Cells.next L7.out b)
    replace B := B.trans (b.mono B.size)
    clear b
    go_wp2_with fail
    (with_reducible refine (RT.out _ _ (Hl.out _ B) HNE.out).mono ?_)
    rintro e wX ⟨rfl, b⟩
    replace L5 := Lib.hid (Cells.next L5.out b)
    replace L6 := Lib.hid (Cells.next L6.out b)
    replace L7 := Lib.hid (Cells.next L7.out b)
    replace B := B.trans (b.mono B.size)
    clear b
    go_wp2_with fail
    (with_reducible refine (SM.out c v6 v7 _ L6.out L7.out).mono ?_)
    rintro e wX ⟨rfl, b⟩
    replace L5 := Lib.hid (Cells.next L5.out b)
    replace B := B.trans (b.mono B.size)
    clear b
    go_wp2_with fail
    (with_reducible refine (VA.out v5 _ L5.out).mono ?_)
    rintro e wX ⟨rfl, b⟩
    replace L5 := Lib.hid (Cells.next L5.out b)
    replace B := B.trans (b.mono B.size)
    clear b
    go_wp2_with fail
    (with_reducible refine (RV.out _ _ (Hl.out _ B)).mono ?_)
    rintro e wX ⟨rfl, b⟩
    replace L5 := Lib.hid (Cells.next L5.out b)
    replace B := B.trans (b.mono B.size)
    clear b
    go_wp2_with fail
    (with_reducible refine (SM.out l v5 _ _ L5.out (Hl.out _ B)).mono ?_)
    rintro e wX ⟨rfl, b⟩
    replace B := B.trans (b.mono B.size)
    clear b
    go_wp2_with fail
    (with_reducible refine (AW.out _ B).mono ?_)
    rintro e wX ⟨rfl, b⟩
    replace B := B.trans (b.mono B.size)
    clear b
    go_wp2
    go_ret
    exact ⟨rfl, B⟩
end Go.Proofs.Ytpfjmomdnegcpaa
