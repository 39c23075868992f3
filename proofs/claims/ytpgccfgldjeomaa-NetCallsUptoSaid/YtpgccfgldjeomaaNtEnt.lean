/- net: twin.Entry. -/
import Derived.Test.YtpgccfgldjeomaaNtTwin
namespace Go.Proofs.Ytpgccfgldjeomaa
open Go.RowKit Go.ChangeShapes cl
set_option maxHeartbeats 3200000 in
set_option maxRecDepth 100000 in
theorem twent_any (s : ByteArray) (d1 d2 t : Int) (l : List cd.Lk) (ao : Option Addr) (n cap : Nat) (w : World) (h : RowsAt 3 lnkR w w.heap.size (.slice ao n cap) l) (hl : l.length ≤ 1000000000000) :
    Calls Try.prog 50 #[.agg #[.string s, .int .i64 d1, .int .i64 d2, .int .i64 t, .slice ao n cap]] w (fun e w' => ∃ o m k, e = .returned (.agg #[.string s, .int .i64 d1, .int .i64 d2, .int .i64 t, .slice o m k]) ∧ RowsO w.heap.size 95 3 lnkO w' (.slice o m k) l ∧ Below w.heap.size w w') := by
  obtain ⟨W2, hW2⟩ : ∃ W, W = (w.alloc (.cells #[.string s, .int .i64 d1, .int .i64 d2, .int .i64 t, .slice ao n cap] 78)).alloc (.cells #[.string ⟨#[]⟩, .int .i64 0, .int .i64 0, .int .i64 0, .slice none 0 0] 78) := ⟨_, rfl⟩
  have b1 : Below w.heap.size w (w.alloc (.cells #[.string s, .int .i64 d1, .int .i64 d2, .int .i64 t, .slice ao n cap] 78)) := below1
  have b2 : Below (w.alloc (.cells #[.string s, .int .i64 d1, .int .i64 d2, .int .i64 t, .slice ao n cap] 78)).heap.size (w.alloc (.cells #[.string s, .int .i64 d1, .int .i64 d2, .int .i64 t, .slice ao n cap] 78)) W2 := by rw [hW2]; exact below1
  have E2 := b1.trans (b2.mono b1.size)
  have x1 : W2.heap[w.heap.size]? = some (.cells #[.string s, .int .i64 d1, .int .i64 d2, .int .i64 t, .slice ao n cap] 78) := (b2.block _ (by simp)).trans (heap_alloc_new w _)
  have x2 : W2.heap[w.heap.size + 1]? = some (.cells #[.string ⟨#[]⟩, .int .i64 0, .int .i64 0, .int .i64 0, .slice none 0 0] 78) := by
    have := heap_alloc_new (w.alloc (.cells #[.string s, .int .i64 d1, .int .i64 d2, .int .i64 t, .slice ao n cap] 78)) (.cells #[.string ⟨#[]⟩, .int .i64 0, .int .i64 0, .int .i64 0, .slice none 0 0] 78)
    rw [World.size_alloc] at this
    rw [hW2]; exact this
  have HCL := Lib.hid (nclone_lnk l _ W2 (RowsAt.next lnkR_steady h E2) hl)
  have HE2 := Lib.hid E2
  have X1 := Lib.hid x1
  have X2 := Lib.hid x2
  clear h x1 x2 E2 b1 b2
  go_enter Try.func50, Try.ntmps50
  go_wp2_with fail
  rw [← hW2]
  clear hW2
  (with_reducible refine HCL.out.mono ?_)
  rintro e w3 ⟨o, m, k, rfl, g, b3⟩
  have y1 := (b3.block _ (lt_of_block X1.out)).trans X1.out
  have y2 := (b3.block _ (lt_of_block X2.out)).trans X2.out
  have HB := Lib.hid (HE2.out.trans (b3.mono HE2.out.size))
  have HG := Lib.hid (g.low HE2.out.size)
  obtain ⟨b0, hb0⟩ : ∃ b, b = w.heap.size := ⟨_, rfl⟩
  rw [← hb0] at y1 y2 ⊢
  have HW : Hid (b0 = w.heap.size) := hb0
  have p0 := boxc y1 0 _ rfl
  have p1 := boxc y1 1 _ rfl
  have p2 := boxc y1 2 _ rfl
  have p3 := boxc y1 3 _ rfl
  have p4 := boxc y1 4 _ rfl
  have f4 := boxf y1 4
  have q0 := boxc y2 0 _ rfl
  have q1 := boxc y2 1 _ rfl
  have q2 := boxc y2 2 _ rfl
  have q3 := boxc y2 3 _ rfl
  have q4 := boxc y2 4 _ rfl
  have g0 := boxf y2 0
  have g1 := boxf y2 1
  have g2 := boxf y2 2
  have g3 := boxf y2 3
  have g4 := boxf y2 4
  have Y1 := Lib.hid y1
  have Y2 := Lib.hid y2
  clear y1 y2 g b3 hb0 X1 X2 HCL HE2
  go_wp2
  have z0 := (heap_setCell_other w3 ⟨b0, 4, none⟩ (b0 + 1) (.slice o m k) (by show b0 + 1 ≠ b0; omega)).trans Y2.out
  have z1 := heap_setCell_same _ (b0 + 1) 0 _ _ (.string s) z0
  have z2 := heap_setCell_same _ (b0 + 1) 1 _ _ (.int .i64 d1) z1
  have z3 := heap_setCell_same _ (b0 + 1) 2 _ _ (.int .i64 d2) z2
  have z4 := heap_setCell_same _ (b0 + 1) 3 _ _ (.int .i64 t) z3
  have z5 := heap_setCell_same _ (b0 + 1) 4 _ _ (.slice o m k) z4
  have kk := (((((Kt.set Y1.out 4 (.slice o m k)).trans (Kt.set z0 0 (.string s))).trans (Kt.set z1 1 (.int .i64 d1))).trans (Kt.set z2 2 (.int .i64 d2))).trans (Kt.set z3 3 (.int .i64 t))).trans (Kt.set z4 4 (.slice o m k))
  have c0 := boxc z5 0 (.string s) rfl
  have c1 := boxc z5 1 (.int .i64 d1) rfl
  have c2 := boxc z5 2 (.int .i64 d2) rfl
  have c3 := boxc z5 3 (.int .i64 t) rfl
  have c4 := boxc z5 4 (.slice o m k) rfl
  refine bodyPost_ret (v := .agg #[.string s, .int .i64 d1, .int .i64 d2, .int .i64 t, .slice o m k]) (by simp [results, Try.results50, go_sem, c0, c1, c2, c3, c4]) rfl ?_
  have hw := HW.out
  refine ⟨_, _, _, rfl, HG.out.kt (lnkO_pst _) (by decide) kk, ?_⟩
  exact (((((HB.out.setCell (by show w.heap.size ≤ b0; omega) _).setCell (by show w.heap.size ≤ b0 + 1; omega) _).setCell (by show w.heap.size ≤ b0 + 1; omega) _).setCell (by show w.heap.size ≤ b0 + 1; omega) _).setCell (by show w.heap.size ≤ b0 + 1; omega) _).setCell (by show w.heap.size ≤ b0 + 1; omega) _
end Go.Proofs.Ytpgccfgldjeomaa
