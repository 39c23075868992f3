/- Cut and Skip, and the document's. -/
import Derived.Test.YtilnmfbimfmacaaBehind
import Derived.Lib.SmallJoins
namespace Go.Proofs.Ytilnmfbimfmacaa
open Go.RowKit Go.ChangeShapes Go.Joins cl pg

theorem infoStr : (Try.prog.info? 9).map (fun i => (i.zero, i.size, i.bytes)) = some (some (.string .empty), 1, 16) := by kernel_rfl
def OwnedStrs (l : List ByteArray) (w : World) (e : Ending) (w' : World) : Prop := ∃ v, e = .returned v ∧ w'.ownsRow w.heap.size 9 1 v l.length (strs l) ∧ Below w.heap.size w w'

set_option maxHeartbeats 1600000 in
set_option maxRecDepth 100000 in
theorem skip_any (l : List ByteArray) (v : Value) (a : ByteArray) (w : World) (h : Strs w w.heap.size v l) (hr : Ris l) (hl : l.length ≤ 200) :
    Calls Try.prog 15 #[v, .string a] w (OwnedStrs (l.drop (beh l a)) w) := by
  have HBe := Lib.hid (behind_any l v a w h hr hl)
  have HC := Lib.hid h
  obtain ⟨ao, cap, rfl, hcap, _⟩ := h.form
  have hBl := beh_le l a
  obtain ⟨B, hB⟩ : ∃ B, B = beh l a := ⟨_, rfl⟩
  rw [← hB] at HBe hBl ⊢
  clear h hr hB
  have HL := Lib.hid hl
  obtain ⟨n, hn⟩ : ∃ n, n = l.length := ⟨_, rfl⟩
  have HN := Lib.hid hn
  have HC' : Hid (Strs w w.heap.size (.slice ao n cap) l) := by show Strs _ _ _ _; rw [hn]; exact HC.out
  rw [← hn] at hl hcap hBl HBe
  rw [← hn]
  clear hn HC
  have HS := Lib.hid (HC'.out.drop HN.out hBl)
  by_cases hck : cap = B
  · have hnB : n = B := by omega
    have HD : Hid (l.drop B = []) := List.drop_eq_nil_of_le (by rw [← HN.out]; omega)
    subst hck
    subst hnB
    have HK : Hid (∀ W : World, Calls Try.prog 22 #[.slice ao 0 0] W (OwnedStrs [] W)) := fun W => clone_any [] _ W (Cells.zero fun _ => rfl) (by simp)
    rw [HD.out]
    clear HS HC' hcap
    go_enter Try.func15, Try.ntmps15
    go_wp2_with fail
    refine HBe.out.mono ?_
    rintro e w1 ⟨rfl, hb⟩
    go_wp2_with fail
    refine (HK.out _).mono ?_
    rintro e w2 ⟨v2, rfl, ho, hb2⟩
    have HO := Lib.hid (ownsRow_le ho hb.size)
    clear ho
    go_wp2
    go_ret
    exact ⟨_, rfl, HO.out, hb.trans (hb2.mono hb.size)⟩
  · have hckI : ¬ (cap : Int) = (B : Int) := by omega
    have HK : Hid (∀ W : World, Below w.heap.size w W → Calls Try.prog 22 #[.slice (Option.map (fun x => x.add B) ao) (n - B) (cap - B)] W (OwnedStrs (l.drop B) W)) := fun W hb =>
      clone_any _ _ W ((HS.out.below hb).mono hb.size) (by rw [List.length_drop, ← HN.out]; omega)
    clear HS HC'
    go_enter Try.func15, Try.ntmps15
    go_wp2_with fail
    refine HBe.out.mono ?_
    rintro e w1 ⟨rfl, hb⟩
    go_wp2_with fail
    refine (HK.out _ hb).mono ?_
    rintro e w2 ⟨v2, rfl, ho, hb2⟩
    have HO := Lib.hid (ownsRow_le ho hb.size)
    clear ho
    go_wp2
    go_ret
    exact ⟨_, rfl, HO.out, hb.trans (hb2.mono hb.size)⟩
end Go.Proofs.Ytilnmfbimfmacaa
