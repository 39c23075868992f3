/- the document's Cut and Skip. -/
import Derived.Test.YtilnmfbimfmacaaPCut
namespace Go.Proofs.Ytilnmfbimfmacaa
open Go.RowKit Go.ChangeShapes Go.Joins cl pg

set_option maxHeartbeats 1600000 in
set_option maxRecDepth 100000 in
theorem rskip_any (l : List ByteArray) (v : Value) (a : ByteArray) (w : World) (h : Strs w w.heap.size v l) (hr : Ris l) (hl : l.length ≤ 200) :
    Calls Try.prog 16 #[v, .string a] w (OwnedStrs (l.drop (beh l a)) w) := by
  have HBe : Hid (∀ W : World, Below w.heap.size w W → Calls Try.prog 23 #[v, .string a] W (fun e w' => e = .returned (.int .i64 (beh l a : Nat)) ∧ W = w')) := fun W hb => from_any l v a W ((h.below hb).mono hb.size) hr hl
  have HC := Lib.hid h
  obtain ⟨ao, cap, rfl, hcap, _⟩ := h.form
  have hBl := beh_le l a
  obtain ⟨B, hB⟩ : ∃ B, B = beh l a := ⟨_, rfl⟩
  rw [← hB] at HBe hBl ⊢
  clear h hr hB
  obtain ⟨n, hn⟩ : ∃ n, n = l.length := ⟨_, rfl⟩
  have HN := Lib.hid hn
  have HC' : Hid (Strs w w.heap.size (.slice ao n cap) l) := by show Strs _ _ _ _; rw [hn]; exact HC.out
  rw [← hn] at hl hcap hBl HBe
  rw [← hn]
  clear hn HC
  have HS := Lib.hid (HC'.out.drop HN.out hBl)
  have hA : Below w.heap.size w (w.alloc (.cells #[] 9)) := (Below.refl _ _).alloc (Nat.le_refl _) _
  have HO0 := Lib.hid (own_none (w := w) (W := w) 9 (Nat.le_refl _) 1)
  obtain ⟨T, hT⟩ : ∃ T, T = l.drop B := ⟨_, rfl⟩
  have hTl : T.length = n - B := by rw [hT, List.length_drop, HN.out]
  have HTL := Lib.hid hTl
  rw [← hT] at HS ⊢
  clear hT hTl
  by_cases hck : cap = B
  · have hnB : n = B := by omega
    subst hck
    subst hnB
    have HTe : Hid (T = []) := List.eq_nil_of_length_eq_zero (by rw [HTL.out]; omega)
    rw [HTe.out]
    clear HC' hcap HS HTL
    go_enter Try.func16, Try.ntmps16
    go_wp2_with fail
    refine (HBe.out _ hA).mono ?_
    rintro e w1 ⟨rfl, rfl⟩
    go_wp2_with (at_builtin; refine kit.appN (.tmp 5) (.tmp 10) 22 rfl rfl w.heap.size Try.underlying22 infoStr rfl (by decide) (by decide) HO0.out rfl (ao := ao) (m := 0) (c := 0) [] rfl rfl (fun _ => ⟨rfl, rfl⟩) (fun _ _ j u hj => by simp at hj) (fun u hu => by simp at hu) (by omega) (by simp) ?_)
    intro v1 w1 ho1 hba
    have hb1 := hA.trans hba
    have HO := Lib.hid ho1
    clear ho1 hba
    go_wp2
    go_ret
    exact ⟨_, rfl, HO.out, hb1⟩
  · have hckI : ¬ (cap : Int) = (B : Int) := by omega
    have HNW := Lib.hid (HS.out.below hA).news'
    clear HC' HS
    go_enter Try.func16, Try.ntmps16
    go_wp2_with fail
    refine (HBe.out _ hA).mono ?_
    rintro e w1 ⟨rfl, rfl⟩
    go_wp2_with (at_builtin; refine kit.appN (.tmp 5) (.tmp 10) 22 rfl rfl w.heap.size Try.underlying22 infoStr rfl (by decide) (by decide) HO0.out rfl (strs T) rfl (by rw [strs_len, HTL.out]; omega) HNW.out.1 HNW.out.2 strs_one (by omega) (by simp) ?_)
    intro v1 w1 ho1 hba
    have hb1 := hA.trans hba
    have HO : Hid (w1.ownsRow w.heap.size 9 1 v1 T.length (strs T)) := by
      show World.ownsRow _ _ _ _ _ _ _
      rw [HTL.out]
      simpa using ho1
    clear ho1 hba
    go_wp2
    go_ret
    exact ⟨_, rfl, HO.out, hb1⟩
end Go.Proofs.Ytilnmfbimfmacaa
