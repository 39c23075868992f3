/- pages.Cut. -/
import Derived.Test.YtilnmfbimfmacaaCut
namespace Go.Proofs.Ytilnmfbimfmacaa
open Go.RowKit Go.ChangeShapes Go.Joins cl pg

def RetPage (p : Pg) (w : World) (e : Ending) (w' : World) : Prop := ∃ v, e = .returned (.agg #[v, .string p.after, .bool p.more]) ∧ w'.ownsRow w.heap.size 9 1 v p.list.length (strs p.list) ∧ Below w.heap.size w w'
theorem own_next {w w1 : World} {l : List ByteArray} {v : Value} {e : TypeId} {n : Nat} (h : w1.ownsRow w.heap.size e 1 v n (strs l)) (hn : n = l.length) : Strs w1 w1.heap.size v l := by
  subst hn; exact Cells.own h
theorem clampI (most : Int) {n m : Nat} (h : m = clamp most n) : max 0 (min most (n : Int)) = (m : Int) := by
  subst h; unfold clamp
  split
  · omega
  · split <;> omega

theorem page_own {w w2 : World} {base : Nat} {v u0 u1 u2 : Value} {T : List ByteArray} {m : Nat} {o : Obj} (h : w2.ownsRow base 9 1 v m (strs T)) (hm : m = T.length) (h1 : w.heap.size < base) :
    ((((w2.setCell ⟨w.heap.size, 0, none⟩ u0).setCell ⟨w.heap.size, 1, none⟩ u1).setCell ⟨w.heap.size, 2, none⟩ u2).alloc o).ownsRow w.heap.size 9 1 v T.length (strs T) := by
  subst hm
  exact ownsRow_le ((ownsRow_setCell_below (ownsRow_setCell_below (ownsRow_setCell_below h h1 _) h1 _) h1 _).alloc _) (Nat.le_of_lt h1)
theorem page_below {w w2 : World} {u0 u1 u2 : Value} {o : Obj} (hb : Below w.heap.size w w2) :
    Below w.heap.size w ((((w2.setCell ⟨w.heap.size, 0, none⟩ u0).setCell ⟨w.heap.size, 1, none⟩ u1).setCell ⟨w.heap.size, 2, none⟩ u2).alloc o) :=
  (((hb.setCell (Nat.le_refl _) _).setCell (Nat.le_refl _) _).setCell (Nat.le_refl _) _).alloc (by have := hb.size; simpa [World.setCell] using this) _

set_option maxHeartbeats 1600000 in
set_option maxRecDepth 100000 in
theorem cut_any (l : List ByteArray) (v : Value) (a : ByteArray) (most : Int) (w : World) (h : Strs w w.heap.size v l) (hr : Ris l) (hl : l.length ≤ 200) :
    Calls Try.prog 10 #[v, .string a, .int .i64 most] w (RetPage (cut l a most) w) := by
  have HBe : Hid (∀ W : World, Below w.heap.size w W → Calls Try.prog 21 #[v, .string a] W (Num (beh l a) W)) := fun W hb => behind_any l v a W ((h.below hb).mono hb.size) hr hl
  have HC := Lib.hid h
  obtain ⟨ao, cap, rfl, hcap, _⟩ := h.form
  have hBl := beh_le l a
  obtain ⟨B, hB⟩ : ∃ B, B = beh l a := ⟨_, rfl⟩
  have HB := Lib.hid hB
  rw [← hB] at HBe hBl
  clear h hr hB
  obtain ⟨n, hn⟩ : ∃ n, n = l.length := ⟨_, rfl⟩
  have HN := Lib.hid hn
  have HC' : Hid (Strs w w.heap.size (.slice ao n cap) l) := by show Strs _ _ _ _; rw [hn]; exact HC.out
  rw [← hn] at hl hcap hBl HBe
  rw [← hn]
  clear hn HC
  have HS := Lib.hid (HC'.out.drop HN.out hBl)
  have hA : Below w.heap.size w (w.alloc (.cells #[.slice none 0 0, .string .empty, .bool false] 26)) := (Below.refl _ _).alloc (Nat.le_refl _) _
  obtain ⟨m, hm⟩ : ∃ m, m = clamp most (n - B) := ⟨_, rfl⟩
  have hmI := clampI most hm
  have hml : m ≤ n - B := by rw [hm]; exact clamp_le _ _
  obtain ⟨T, hT⟩ : ∃ T, T = (l.drop B).take m := ⟨_, rfl⟩
  obtain ⟨x, hx⟩ : ∃ x, x = l.getD (B + m - 1) .empty := ⟨_, rfl⟩
  have HR : Hid (cut l a most = ⟨T, if m = 0 then a else x, decide (B + m < n)⟩) := by
    show _ = _
    unfold cut cutTo
    rw [← HB.out, ← HN.out, ← hm, ← hT, ← hx]
  have hdl : m = T.length := by rw [hT, List.length_take, List.length_drop, ← HN.out]; omega
  have HDL := Lib.hid hdl
  have HT : Hid (∀ W : World, Below w.heap.size w W → Strs W W.heap.size (.slice (Option.map (fun x => x.add B) ao) m (cap - B)) T) := fun W hb => by
    rw [hT]
    exact ((HS.out.take (by rw [List.length_drop, ← HN.out]) hml).below hb).mono hb.size
  have HK : Hid (∀ W : World, Below w.heap.size w W → Calls Try.prog 22 #[.slice (Option.map (fun x => x.add B) ao) m (cap - B)] W (OwnedStrs T W)) := fun W hb =>
    clone_any _ _ W (HT.out W hb) (by rw [← HDL.out]; omega)
  have HG : Hid (0 < m → T.getD (m - 1) .empty = x) := fun h0 => by
    rw [hx, hT, show B + m - 1 = B + (m - 1) by omega]
    simp [List.getD, show m - 1 < m by omega]
  clear hm hdl HS hT hx
  rw [HR.out]
  clear HR
  by_cases hck : cap = B
  · have hnB : n = B := by omega
    have hm0 : m = 0 := by omega
    have hBn : ¬ B + m < n := by omega
    have HB2 : Hid (decide (B + m < n) = false) := decide_eq_false hBn
    subst hck
    subst hnB
    subst hm0
    have HTe : Hid (T = []) := List.eq_nil_of_length_eq_zero HDL.out.symm
    have HZ : Hid (∀ W : World, Calls Try.prog 22 #[.slice ao 0 0] W (OwnedStrs [] W)) := fun W => clone_any [] _ W (Cells.zero fun _ => rfl) (by simp)
    rw [HB2.out, if_pos rfl, HTe.out]
    have hm00 : max 0 (min most 0) = (0 : Int) := by omega
    clear HC' hcap HK HT HG hml hBn hmI
    go_enter Try.func10, Try.ntmps10
    go_wp2_with fail
    refine (HBe.out _ hA).mono ?_
    rintro e w1 ⟨rfl, hb⟩
    have hb0 := hA.trans (hb.mono hA.size)
    go_wp2_with fail
    refine (HZ.out _).mono ?_
    rintro e w2 ⟨v2, rfl, ho, hb2⟩
    have h2 := own_next (w := w1) ho rfl
    have HO := Lib.hid ho
    have HZ1 : Hid (w.heap.size < w1.heap.size) := by have := hb.size; simp at this; show _ < _; omega
    obtain ⟨q0, q1, q2, f0, f1, f2, hz⟩ := three (hb.trans (hb2.mono hb.size))
    have hb3 := hb0.trans (hb2.mono hb0.size)
    obtain ⟨a2, c2, rfl, hc2⟩ := h2.form' rfl
    clear ho h2 hb hb2 hb0
    go_wp2
    refine bodyPost_ret (v := .agg #[.slice a2 0 c2, .string a, .bool false]) (by simp [results, Try.results10, go_sem, hz, q0, q1, q2]) rfl ⟨_, rfl, ?_, ?_⟩
    · exact page_own HO.out rfl HZ1.out
    · exact page_below hb3
  · have hckI : ¬ (cap : Int) = (B : Int) := by omega
    clear HC'
    by_cases hm0 : m = 0
    · subst hm0
      have HTe : Hid (T = []) := List.eq_nil_of_length_eq_zero HDL.out.symm
      obtain ⟨r, hr⟩ : ∃ r, r = decide (B + 0 < n) := ⟨_, rfl⟩
      have hr2 : decide (0 < n - B) = r := by rw [hr]; exact decide_eq_decide.2 (by omega)
      rw [← hr, if_pos rfl]
      clear hr
      go_enter Try.func10, Try.ntmps10
      go_wp2_with fail
      refine (HBe.out _ hA).mono ?_
      rintro e w1 ⟨rfl, hb⟩
      have hb0 := hA.trans (hb.mono hA.size)
      go_wp2_with fail
      refine (HK.out _ hb0).mono ?_
      rintro e w2 ⟨v2, rfl, ho, hb2⟩
      rw [← HDL.out] at ho
      have h2 := own_next ho HDL.out
      have HO := Lib.hid ho
      have HZ1 : Hid (w.heap.size < w1.heap.size) := by have := hb.size; simp at this; show _ < _; omega
      obtain ⟨q0, q1, q2, f0, f1, f2, hz⟩ := three (hb.trans (hb2.mono hb.size))
      have hb3 := hb0.trans (hb2.mono hb0.size)
      obtain ⟨a2, c2, rfl, hc2⟩ := h2.form' HDL.out
      clear ho h2 hb hb2 hb0
      go_wp2
      refine bodyPost_ret (v := .agg #[.slice a2 0 c2, .string a, .bool r]) (by simp [results, Try.results10, go_sem, hz, q0, q1, q2]) rfl ⟨_, rfl, ?_, ?_⟩
      · exact page_own HO.out HDL.out HZ1.out
      · exact page_below hb3
    · obtain ⟨r, hr⟩ : ∃ r, r = decide (B + m < n) := ⟨_, rfl⟩
      have hr2 : decide (m < n - B) = r := by rw [hr]; exact decide_eq_decide.2 (by omega)
      rw [← hr, if_neg hm0]
      clear hr
      have hmp : 0 < m := by omega
      go_enter Try.func10, Try.ntmps10
      go_wp2_with fail
      refine (HBe.out _ hA).mono ?_
      rintro e w1 ⟨rfl, hb⟩
      have hb0 := hA.trans (hb.mono hA.size)
      go_wp2_with fail
      refine (HK.out _ hb0).mono ?_
      rintro e w2 ⟨v2, rfl, ho, hb2⟩
      rw [← HDL.out] at ho
      have h2 := own_next ho HDL.out
      have HO := Lib.hid ho
      have HZ1 : Hid (w.heap.size < w1.heap.size) := by have := hb.size; simp at this; show _ < _; omega
      obtain ⟨q0, q1, q2, f0, f1, f2, hz⟩ := three (hb.trans (hb2.mono hb.size))
      have hb3 := hb0.trans (hb2.mono hb0.size)
      obtain ⟨b2, o2, c2, rfl, hc2, hB2, hk2⟩ := h2.addr' HDL.out hmp
      have k2 := hk2 (m - 1) (by omega)
      rw [HG.out hmp] at k2
      clear ho h2 hb hb2 hb0 hk2
      go_wp2
      refine bodyPost_ret (v := .agg #[.slice (some ⟨b2, o2, none⟩) m c2, .string x, .bool r]) (by simp [results, Try.results10, go_sem, hz, q0, q1, q2]) rfl ⟨_, rfl, ?_, ?_⟩
      · exact page_own HO.out HDL.out HZ1.out
      · exact page_below hb3
end Go.Proofs.Ytilnmfbimfmacaa
