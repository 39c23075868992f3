/- net: the document's Take, Lose, Twice. -/
import Derived.Test.YtpgccfgldjeomaaNtRAll
import Derived.Laws.Tables
import Derived.Laws.Rows
import Derived.Laws.CopyOwn
namespace Go.Proofs.Ytpgccfgldjeomaa
open Go Go.RowKit Go.ChangeShapes cl
/-- an answer of messages, a message and a code -/
def TA (L : List cd.Msg) (x : cd.Msg) (code : Int) (w : World) (e : Ending) (w' : World) : Prop :=
  ∃ ao n cap c', e = .returned (.tuple #[.slice ao n cap, .agg (List.toArray c'), .int .i64 code]) ∧ RowsAt 16 msgRel w' w'.heap.size (.slice ao n cap) L ∧ n = L.length ∧ msgRel w' w'.heap.size c' x ∧ Below w.heap.size w w'
theorem Kt.row {W : World} {q : Nat} {cur : Array Value} {T : TypeId} (h : W.heap[q]? = some (.cells cur T (0, 0))) (cs : Array Value) : Kt T W (W.setRow q cs) :=
  ⟨by rw [setRow_size]; exact Nat.le_refl _, fun k _ hn => setRow_other _ _ _ _ (fun e => by subst e; exact hn _ _ h)⟩
theorem own_hi {w w' : World} {B k n : Nat} {v : Value} {e : TypeId} {xs : List Value} (h : w.ownsRow B e k v n xs) (hk : ∀ j, B ≤ j → w'.heap[j]? = w.heap[j]?) : w'.ownsRow B e k v n xs := by
  refine ⟨h.1, ?_⟩
  rcases h.2 with h | ⟨g', cap, cur, hv, hb, hg, r⟩
  · exact Or.inl h
  · exact Or.inr ⟨g', cap, cur, hv, hb, by rw [hk g' hb]; exact hg, r⟩
theorem sub_rows {W : World} {g k : Nat} {xs : List Value} (h : ∀ (j : Nat) u, xs[j]? = some u → W.cell? ⟨g, j, none⟩ = some u) (i m : Nat) {sp : Option Addr} (hs : 0 < m → sp = some ⟨g, i * k, none⟩) :
    ∀ ad, sp = some ad → ∀ j u, ((xs.drop (i * k)).take (m * k))[j]? = some u → W.cell? (ad.add j) = some u := by
  intro ad e j u hj
  have hjl : j < m * k := by
    have := (List.getElem?_eq_some_iff.1 hj).1
    rw [List.length_take] at this; omega
  have hm : 0 < m := by
    rcases Nat.eq_zero_or_pos m with rfl | h
    · omega
    · exact h
  rw [hs hm] at e
  obtain rfl := Option.some.inj e
  rw [Addr.add_lit]
  refine h (i * k + j) u ?_
  rw [← hj]
  simp [hjl]
set_option maxHeartbeats 6400000 in
set_option maxRecDepth 100000 in
theorem rtake_no (L : List cd.Msg) (v : Value) (i : Int) (w : World) (h : RowsAt 16 msgRel w w.heap.size v L) (hl : L.length ≤ 1048576) (hs : ∀ m ∈ L, Small 1048576 m) (hi : ¬ (0 ≤ i ∧ i < (L.length : Int))) :
    Calls Try.prog 12 #[v, .int .i64 i] w (TA L default 5 w) := by
  obtain ⟨n, hn⟩ : ∃ n, n = L.length := ⟨_, rfl⟩
  obtain ⟨ao, cap, rfl, _, _⟩ := h.form' hn
  rw [← hn] at hl
  obtain ⟨q0, hq0⟩ : ∃ x, x = w.heap.size := ⟨_, rfl⟩
  obtain ⟨W1, hW1⟩ : ∃ W, W = w.alloc (.cells #[.int .i64 0, .int .i64 0, .int .i64 0, .int .i64 0, .int .i64 0, .slice none 0 0, .slice none 0 0, .slice none 0 0, .slice none 0 0, .slice none 0 0, .slice none 0 0, .int .i64 0, .string ⟨#[]⟩, .string ⟨#[]⟩, .slice none 0 0, .int .i64 0] 34) := ⟨_, rfl⟩
  have b1 : Below w.heap.size w W1 := by rw [hW1]; exact below1
  have x1 : W1.heap[q0]? = some (.cells #[.int .i64 0, .int .i64 0, .int .i64 0, .int .i64 0, .int .i64 0, .slice none 0 0, .slice none 0 0, .slice none 0 0, .slice none 0 0, .slice none 0 0, .slice none 0 0, .int .i64 0, .string ⟨#[]⟩, .string ⟨#[]⟩, .slice none 0 0, .int .i64 0] 34) := by rw [hW1, hq0]; exact heap_alloc_new w _
  have HALL := Lib.hid (rall_any L _ W1 (h.next msgRel_steady b1) (by omega) hs)
  have X1 := Lib.hid x1
  have B1 := Lib.hid b1
  have HW1 := Lib.hid hW1
  have HN := Lib.hid hn
  have HQ0 := Lib.hid hq0
  have HI : Hid (¬ (0 ≤ i ∧ i < (n : Int))) := by show ¬ _; rw [hn]; exact hi
  clear hW1 b1 x1 h hs hn hi hq0
  have key : (i < 0) ∨ (¬ i < 0 ∧ (n : Int) ≤ i) := by have := HI.out; omega
  rcases key with k1 | ⟨k1, k2⟩
  · go_enter Try.func12, Try.ntmps12
    go_wp2_with fail
    rw [← HW1.out, ← HQ0.out]
    (with_reducible refine HALL.out.mono ?_)
    rintro e w2 ⟨o, n', c9, cs, rfl, hO, b2⟩
    obtain rfl : n = n' := by rw [hO.2.2.2, HN.out]
    have HO := Lib.hid hO
    have B2 := Lib.hid (B1.out.trans (b2.mono B1.out.size))
    have X2 := Lib.hid ((b2.block _ (lt_of_block X1.out)).trans X1.out)
    have x2 := X2.out
    have qc0 := boxc x2 0 _ rfl
    have f0 := boxf x2 0
    have qc1 := boxc x2 1 _ rfl
    have f1 := boxf x2 1
    have qc2 := boxc x2 2 _ rfl
    have f2 := boxf x2 2
    have qc3 := boxc x2 3 _ rfl
    have f3 := boxf x2 3
    have qc4 := boxc x2 4 _ rfl
    have f4 := boxf x2 4
    have qc5 := boxc x2 5 _ rfl
    have f5 := boxf x2 5
    have qc6 := boxc x2 6 _ rfl
    have f6 := boxf x2 6
    have qc7 := boxc x2 7 _ rfl
    have f7 := boxf x2 7
    have qc8 := boxc x2 8 _ rfl
    have f8 := boxf x2 8
    have qc9 := boxc x2 9 _ rfl
    have f9 := boxf x2 9
    have qc10 := boxc x2 10 _ rfl
    have f10 := boxf x2 10
    have qc11 := boxc x2 11 _ rfl
    have f11 := boxf x2 11
    have qc12 := boxc x2 12 _ rfl
    have f12 := boxf x2 12
    have qc13 := boxc x2 13 _ rfl
    have f13 := boxf x2 13
    have qc14 := boxc x2 14 _ rfl
    have f14 := boxf x2 14
    have qc15 := boxc x2 15 _ rfl
    have f15 := boxf x2 15
    clear hO b2 x2
    go_wp2
    obtain ⟨w9, h9⟩ : ∃ W, W = wset w2 q0 0 [.int .i64 0, .int .i64 0, .int .i64 0, .int .i64 0, .int .i64 0, .slice none 0 0, .slice none 0 0, .slice none 0 0, .slice none 0 0, .slice none 0 0, .slice none 0 0, .int .i64 0, .string ⟨#[]⟩, .string ⟨#[]⟩, .slice none 0 0, .int .i64 0] := ⟨_, rfl⟩
    have c := wset_row [.int .i64 0, .int .i64 0, .int .i64 0, .int .i64 0, .int .i64 0, .slice none 0 0, .slice none 0 0, .slice none 0 0, .slice none 0 0, .slice none 0 0, .slice none 0 0, .int .i64 0, .string ⟨#[]⟩, .string ⟨#[]⟩, .slice none 0 0, .int .i64 0] X2.out rfl
    have bb := wset_below [.int .i64 0, .int .i64 0, .int .i64 0, .int .i64 0, .int .i64 0, .slice none 0 0, .slice none 0 0, .slice none 0 0, .slice none 0 0, .slice none 0 0, .slice none 0 0, .int .i64 0, .string ⟨#[]⟩, .string ⟨#[]⟩, .slice none 0 0, .int .i64 0] w2 w q0 0 w.heap.size (by rw [HQ0.out]; omega) B2.out
    have K9 := wset_kt [.int .i64 0, .int .i64 0, .int .i64 0, .int .i64 0, .int .i64 0, .slice none 0 0, .slice none 0 0, .slice none 0 0, .slice none 0 0, .slice none 0 0, .slice none 0 0, .int .i64 0, .string ⟨#[]⟩, .string ⟨#[]⟩, .slice none 0 0, .int .i64 0] w2 q0 0 _ _ X2.out
    have hO9 : MsgsF W1 w9 (.slice o n c9) n cs L := by
      refine ⟨HO.out.1, ?_, ?_, HO.out.2.2.2⟩
      · rw [h9]; exact HO.out.kMsg K9
      · rw [h9]; exact own_hi HO.out.2.2.1 (fun j hj => wset_other [.int .i64 0, .int .i64 0, .int .i64 0, .int .i64 0, .int .i64 0, .slice none 0 0, .slice none 0 0, .slice none 0 0, .slice none 0 0, .slice none 0 0, .slice none 0 0, .int .i64 0, .string ⟨#[]⟩, .string ⟨#[]⟩, .slice none 0 0, .int .i64 0] w2 q0 0 j (by
          have := lt_of_block X1.out
          omega))
    rw [← h9] at c bb
    simp only [wset, Nat.reduceAdd] at h9
    rw [← h9]
    clear h9
    have c20 := boxc c 0 (.int .i64 0) rfl
    have c21 := boxc c 1 (.int .i64 0) rfl
    have c22 := boxc c 2 (.int .i64 0) rfl
    have c23 := boxc c 3 (.int .i64 0) rfl
    have c24 := boxc c 4 (.int .i64 0) rfl
    have c25 := boxc c 5 (.slice none 0 0) rfl
    have c26 := boxc c 6 (.slice none 0 0) rfl
    have c27 := boxc c 7 (.slice none 0 0) rfl
    have c28 := boxc c 8 (.slice none 0 0) rfl
    have c29 := boxc c 9 (.slice none 0 0) rfl
    have c30 := boxc c 10 (.slice none 0 0) rfl
    have c31 := boxc c 11 (.int .i64 0) rfl
    have c32 := boxc c 12 (.string ⟨#[]⟩) rfl
    have c33 := boxc c 13 (.string ⟨#[]⟩) rfl
    have c34 := boxc c 14 (.slice none 0 0) rfl
    have c35 := boxc c 15 (.int .i64 0) rfl
    have HR := Lib.hid hO9.rows
    clear K9 hO9
    exact bodyPost_ret (v := .tuple #[.slice o n c9, .agg #[.int .i64 0, .int .i64 0, .int .i64 0, .int .i64 0, .int .i64 0, .slice none 0 0, .slice none 0 0, .slice none 0 0, .slice none 0 0, .slice none 0 0, .slice none 0 0, .int .i64 0, .string ⟨#[]⟩, .string ⟨#[]⟩, .slice none 0 0, .int .i64 0], .int .i64 5]) (by simp [results, Try.results12, go_sem, c20, c21, c22, c23, c24, c25, c26, c27, c28, c29, c30, c31, c32, c33, c34, c35]) rfl ⟨_, _, _, zeroC.toList, rfl, HR.out, HN.out, zero_at _ _, bb⟩
  · go_enter Try.func12, Try.ntmps12
    go_wp2_with fail
    rw [← HW1.out, ← HQ0.out]
    (with_reducible refine HALL.out.mono ?_)
    rintro e w2 ⟨o, n', c9, cs, rfl, hO, b2⟩
    obtain rfl : n = n' := by rw [hO.2.2.2, HN.out]
    have HO := Lib.hid hO
    have B2 := Lib.hid (B1.out.trans (b2.mono B1.out.size))
    have X2 := Lib.hid ((b2.block _ (lt_of_block X1.out)).trans X1.out)
    have x2 := X2.out
    have qc0 := boxc x2 0 _ rfl
    have f0 := boxf x2 0
    have qc1 := boxc x2 1 _ rfl
    have f1 := boxf x2 1
    have qc2 := boxc x2 2 _ rfl
    have f2 := boxf x2 2
    have qc3 := boxc x2 3 _ rfl
    have f3 := boxf x2 3
    have qc4 := boxc x2 4 _ rfl
    have f4 := boxf x2 4
    have qc5 := boxc x2 5 _ rfl
    have f5 := boxf x2 5
    have qc6 := boxc x2 6 _ rfl
    have f6 := boxf x2 6
    have qc7 := boxc x2 7 _ rfl
    have f7 := boxf x2 7
    have qc8 := boxc x2 8 _ rfl
    have f8 := boxf x2 8
    have qc9 := boxc x2 9 _ rfl
    have f9 := boxf x2 9
    have qc10 := boxc x2 10 _ rfl
    have f10 := boxf x2 10
    have qc11 := boxc x2 11 _ rfl
    have f11 := boxf x2 11
    have qc12 := boxc x2 12 _ rfl
    have f12 := boxf x2 12
    have qc13 := boxc x2 13 _ rfl
    have f13 := boxf x2 13
    have qc14 := boxc x2 14 _ rfl
    have f14 := boxf x2 14
    have qc15 := boxc x2 15 _ rfl
    have f15 := boxf x2 15
    clear hO b2 x2
    go_wp2
    obtain ⟨w9, h9⟩ : ∃ W, W = wset w2 q0 0 [.int .i64 0, .int .i64 0, .int .i64 0, .int .i64 0, .int .i64 0, .slice none 0 0, .slice none 0 0, .slice none 0 0, .slice none 0 0, .slice none 0 0, .slice none 0 0, .int .i64 0, .string ⟨#[]⟩, .string ⟨#[]⟩, .slice none 0 0, .int .i64 0] := ⟨_, rfl⟩
    have c := wset_row [.int .i64 0, .int .i64 0, .int .i64 0, .int .i64 0, .int .i64 0, .slice none 0 0, .slice none 0 0, .slice none 0 0, .slice none 0 0, .slice none 0 0, .slice none 0 0, .int .i64 0, .string ⟨#[]⟩, .string ⟨#[]⟩, .slice none 0 0, .int .i64 0] X2.out rfl
    have bb := wset_below [.int .i64 0, .int .i64 0, .int .i64 0, .int .i64 0, .int .i64 0, .slice none 0 0, .slice none 0 0, .slice none 0 0, .slice none 0 0, .slice none 0 0, .slice none 0 0, .int .i64 0, .string ⟨#[]⟩, .string ⟨#[]⟩, .slice none 0 0, .int .i64 0] w2 w q0 0 w.heap.size (by rw [HQ0.out]; omega) B2.out
    have K9 := wset_kt [.int .i64 0, .int .i64 0, .int .i64 0, .int .i64 0, .int .i64 0, .slice none 0 0, .slice none 0 0, .slice none 0 0, .slice none 0 0, .slice none 0 0, .slice none 0 0, .int .i64 0, .string ⟨#[]⟩, .string ⟨#[]⟩, .slice none 0 0, .int .i64 0] w2 q0 0 _ _ X2.out
    have hO9 : MsgsF W1 w9 (.slice o n c9) n cs L := by
      refine ⟨HO.out.1, ?_, ?_, HO.out.2.2.2⟩
      · rw [h9]; exact HO.out.kMsg K9
      · rw [h9]; exact own_hi HO.out.2.2.1 (fun j hj => wset_other [.int .i64 0, .int .i64 0, .int .i64 0, .int .i64 0, .int .i64 0, .slice none 0 0, .slice none 0 0, .slice none 0 0, .slice none 0 0, .slice none 0 0, .slice none 0 0, .int .i64 0, .string ⟨#[]⟩, .string ⟨#[]⟩, .slice none 0 0, .int .i64 0] w2 q0 0 j (by
          have := lt_of_block X1.out
          omega))
    rw [← h9] at c bb
    simp only [wset, Nat.reduceAdd] at h9
    rw [← h9]
    clear h9
    have c20 := boxc c 0 (.int .i64 0) rfl
    have c21 := boxc c 1 (.int .i64 0) rfl
    have c22 := boxc c 2 (.int .i64 0) rfl
    have c23 := boxc c 3 (.int .i64 0) rfl
    have c24 := boxc c 4 (.int .i64 0) rfl
    have c25 := boxc c 5 (.slice none 0 0) rfl
    have c26 := boxc c 6 (.slice none 0 0) rfl
    have c27 := boxc c 7 (.slice none 0 0) rfl
    have c28 := boxc c 8 (.slice none 0 0) rfl
    have c29 := boxc c 9 (.slice none 0 0) rfl
    have c30 := boxc c 10 (.slice none 0 0) rfl
    have c31 := boxc c 11 (.int .i64 0) rfl
    have c32 := boxc c 12 (.string ⟨#[]⟩) rfl
    have c33 := boxc c 13 (.string ⟨#[]⟩) rfl
    have c34 := boxc c 14 (.slice none 0 0) rfl
    have c35 := boxc c 15 (.int .i64 0) rfl
    have HR := Lib.hid hO9.rows
    clear K9 hO9
    exact bodyPost_ret (v := .tuple #[.slice o n c9, .agg #[.int .i64 0, .int .i64 0, .int .i64 0, .int .i64 0, .int .i64 0, .slice none 0 0, .slice none 0 0, .slice none 0 0, .slice none 0 0, .slice none 0 0, .slice none 0 0, .int .i64 0, .string ⟨#[]⟩, .string ⟨#[]⟩, .slice none 0 0, .int .i64 0], .int .i64 5]) (by simp [results, Try.results12, go_sem, c20, c21, c22, c23, c24, c25, c26, c27, c28, c29, c30, c31, c32, c33, c34, c35]) rfl ⟨_, _, _, zeroC.toList, rfl, HR.out, HN.out, zero_at _ _, bb⟩
set_option maxHeartbeats 12800000 in
set_option maxRecDepth 100000 in
theorem rtake_yes (L : List cd.Msg) (v : Value) (k : Nat) (w : World) (h : RowsAt 16 msgRel w w.heap.size v L) (hl : L.length ≤ 1048576) (hs : ∀ m ∈ L, Small 1048576 m) (hk : k < L.length) :
    Calls Try.prog 12 #[v, .int .i64 (k : Int)] w (TA (L.take k ++ L.drop (k + 1)) (L.getD k default) 0 w) := by
  obtain ⟨n, hn⟩ : ∃ n, n = L.length := ⟨_, rfl⟩
  obtain ⟨ao, cap, rfl, _, _⟩ := h.form' hn
  rw [← hn] at hl
  obtain ⟨q0, hq0⟩ : ∃ x, x = w.heap.size := ⟨_, rfl⟩
  obtain ⟨W1, hW1⟩ : ∃ W, W = w.alloc (.cells #[.int .i64 0, .int .i64 0, .int .i64 0, .int .i64 0, .int .i64 0, .slice none 0 0, .slice none 0 0, .slice none 0 0, .slice none 0 0, .slice none 0 0, .slice none 0 0, .int .i64 0, .string ⟨#[]⟩, .string ⟨#[]⟩, .slice none 0 0, .int .i64 0] 34) := ⟨_, rfl⟩
  have b1 : Below w.heap.size w W1 := by rw [hW1]; exact below1
  have x1 : W1.heap[q0]? = some (.cells #[.int .i64 0, .int .i64 0, .int .i64 0, .int .i64 0, .int .i64 0, .slice none 0 0, .slice none 0 0, .slice none 0 0, .slice none 0 0, .slice none 0 0, .slice none 0 0, .int .i64 0, .string ⟨#[]⟩, .string ⟨#[]⟩, .slice none 0 0, .int .i64 0] 34) := by rw [hW1, hq0]; exact heap_alloc_new w _
  have HALL := Lib.hid (rall_any L _ W1 (h.next msgRel_steady b1) (by omega) hs)
  have X1 := Lib.hid x1
  have B1 := Lib.hid b1
  have HW1 := Lib.hid hW1
  have HN := Lib.hid hn
  have HQ0 := Lib.hid hq0
  have hkn : k < n := by omega
  have hkI : (k : Int) < (n : Int) := by omega
  have hk0 : ¬ (k : Int) < 0 := by omega
  have hk1 : ¬ (n : Int) ≤ (k : Int) := by omega
  clear hW1 b1 x1 h hs hn hq0 hk
  go_enter Try.func12, Try.ntmps12
  go_wp2_with fail
  rw [← HW1.out, ← HQ0.out]
  (with_reducible refine HALL.out.mono ?_)
  rintro e w2 ⟨o, n', cp, cs, rfl, hO, b2⟩
  obtain rfl : n = n' := by rw [hO.2.2.2, HN.out]
  have HO := Lib.hid hO
  have B2 := Lib.hid (B1.out.trans (b2.mono B1.out.size))
  have X2 := Lib.hid ((b2.block _ (lt_of_block X1.out)).trans X1.out)
  have HZ2 : Hid (W1.heap.size ≤ w2.heap.size) := b2.size
  -- the row that all laid
  obtain ⟨gq, rfl, hnc⟩ : ∃ g, o = some ⟨g, 0, none⟩ ∧ n ≤ cp := by
    rcases hO.2.2.1.2 with ⟨e, hx⟩ | ⟨g, cap', cur, e, hbg, hg, hnc, _⟩
    · simp only [Value.slice.injEq] at e
      omega
    · simp only [Value.slice.injEq, true_and] at e
      obtain ⟨rfl, rfl⟩ := e
      exact ⟨g, rfl, hnc⟩
  obtain ⟨xs, hxs⟩ : ∃ x, x = cs.flatten := ⟨_, rfl⟩
  have HXS := Lib.hid hxs
  have hxl : xs.length = n * 16 := by rw [hxs]; exact hO.2.2.1.1
  have HXL := Lib.hid hxl
  have HONE : Hid (∀ u ∈ xs, u.oneCell' = true) := by
    show ∀ u ∈ xs, _
    rw [hxs]; exact flat_one hO.1 hO.elt (fun c x h => (msg_one c x h).2)
  have hgl : gq < w2.heap.size := own_lt hO.2.2.1 _ rfl
  have HCC : Hid (∀ W, Below w2.heap.size w2 W → ∀ (j : Nat) u, xs[j]? = some u → W.cell? ⟨gq, j, none⟩ = some u) := by
    intro W hW j u hj
    rw [hxs] at hj
    have := hO.2.2.1.cells (g := gq) rfl j u hj
    rw [Addr.add_lit, Nat.zero_add] at this
    exact (hW.cell (p := ⟨gq, j, none⟩) hgl).trans this
  have hkc : k < cs.length := by rw [hO.1, ← HN.out]; exact hkn
  have hkL : L[k]? = some (L.getD k default) := by
    have : k < L.length := by rw [← HN.out]; exact hkn
    simp [List.getD, this]
  have hMF : MsgF W1.heap.size w2 cs[k] (L.getD k default) := hO.2.1 k _ _ (List.getElem?_eq_getElem hkc) hkL
  have hcF : ∀ (i : Nat) u, cs[k][i]? = some u → w2.cell? ⟨gq, k * 16 + i, none⟩ = some u := by
    intro i u hu
    have hi : i < 16 := by
      have := (List.getElem?_eq_some_iff.1 hu).1
      rw [(msg_one _ _ hMF.at).1] at this; exact this
    refine HCC.out w2 (Below.refl _ _) _ u ?_
    rw [hxs, flat_get cs (RowsAt.len hO.1 hO.elt) k _ i (List.getElem?_eq_getElem hkc) hi]; exact hu
  obtain ⟨c, hc⟩ : ∃ x, x = cs[k] := ⟨_, rfl⟩
  rw [← hc] at hMF hcF
  obtain ⟨m, hm⟩ : ∃ x, x = L.getD k default := ⟨_, rfl⟩
  have HM := Lib.hid hm
  rw [← hm] at hMF
  obtain ⟨ae, ne, ce, aa, na, ca, p1, n1, c1, p2, n2, c2, p3, n3, c3, p4, n4, c4, sa, sn, sc, rfl, g⟩ := hMF
  have HMF : Hid (MsgF W1.heap.size w2 (#[.int .i64 m.k, .int .i64 m.f, .int .i64 m.to, .int .i64 m.g, .int .i64 m.n, .slice ae ne ce, .slice aa na ca, .slice p1 n1 c1, .slice p2 n2 c2, .slice p3 n3 c3, .slice p4 n4 c4, .int .i64 m.ki, .string m.mn, .string m.mv, .slice sa sn sc, .int .i64 m.er] : Array Value).toList m) := ⟨ae, ne, ce, aa, na, ca, p1, n1, c1, p2, n2, c2, p3, n3, c3, p4, n4, c4, sa, sn, sc, rfl, g⟩
  have s0 : w2.cell? ⟨gq, k * 16, none⟩ = _ := hcF 0 _ rfl
  have s1 := hcF 1 _ rfl
  have s2 := hcF 2 _ rfl
  have s3 := hcF 3 _ rfl
  have s4 := hcF 4 _ rfl
  have s5 := hcF 5 _ rfl
  have s6 := hcF 6 _ rfl
  have s7 := hcF 7 _ rfl
  have s8 := hcF 8 _ rfl
  have s9 := hcF 9 _ rfl
  have s10 := hcF 10 _ rfl
  have s11 := hcF 11 _ rfl
  have s12 := hcF 12 _ rfl
  have s13 := hcF 13 _ rfl
  have s14 := hcF 14 _ rfl
  have s15 := hcF 15 _ rfl
  obtain ⟨W3, hW3⟩ : ∃ W, W = w2.alloc (.cells #[.int .i64 m.k, .int .i64 m.f, .int .i64 m.to, .int .i64 m.g, .int .i64 m.n, .slice ae ne ce, .slice aa na ca, .slice p1 n1 c1, .slice p2 n2 c2, .slice p3 n3 c3, .slice p4 n4 c4, .int .i64 m.ki, .string m.mn, .string m.mv, .slice sa sn sc, .int .i64 m.er] 34) := ⟨_, rfl⟩
  have b3 : Below w2.heap.size w2 W3 := by rw [hW3]; exact below1
  obtain ⟨g8, hg8⟩ : ∃ x, x = w2.heap.size := ⟨_, rfl⟩
  have x3 : W3.heap[g8]? = some (.cells #[.int .i64 m.k, .int .i64 m.f, .int .i64 m.to, .int .i64 m.g, .int .i64 m.n, .slice ae ne ce, .slice aa na ca, .slice p1 n1 c1, .slice p2 n2 c2, .slice p3 n3 c3, .slice p4 n4 c4, .int .i64 m.ki, .string m.mn, .string m.mv, .slice sa sn sc, .int .i64 m.er] 34) := by rw [hW3, hg8]; exact heap_alloc_new w2 _
  have X3 : Hid (∀ W, Below W3.heap.size W3 W → W.heap[g8]? = some (.cells #[.int .i64 m.k, .int .i64 m.f, .int .i64 m.to, .int .i64 m.g, .int .i64 m.n, .slice ae ne ce, .slice aa na ca, .slice p1 n1 c1, .slice p2 n2 c2, .slice p3 n3 c3, .slice p4 n4 c4, .int .i64 m.ki, .string m.mn, .string m.mv, .slice sa sn sc, .int .i64 m.er] 34)) := fun W hW => (hW.block _ (lt_of_block x3)).trans x3
  have HZC : Hid (∀ W, Below W3.heap.size W3 W → ∀ (j : Nat) u, xs[j]? = some u → W.cell? ⟨gq, j, none⟩ = some u) := fun W hW => HCC.out W (b3.trans (hW.mono b3.size))
  have B3 := Lib.hid b3
  have HW3 := Lib.hid hW3
  have HG8 := Lib.hid hg8
  obtain ⟨mx, hmx⟩ : ∃ x, x = k + (n - (k + 1)) := ⟨_, rfl⟩
  have HMX := Lib.hid hmx
  have HTK : Hid ((xs.take (k * 16)).length = k * 16) := by show _ = _; rw [List.length_take, hxl]; omega
  have HDR : Hid ((xs.drop ((k + 1) * 16)).take ((n - (k + 1)) * 16) = xs.drop ((k + 1) * 16)) := List.take_of_length_le (by rw [List.length_drop, hxl]; omega)
  have hmb : mx ≤ 1048576 := by omega
  clear hO b2 hxs hxl hgl g hcF hm b3 hkL hkc hc x3 hW3 hg8 hmx
  have hd1 : decide ((k : Int) < 0) = false := decide_eq_false (by omega)
  have hd2 : decide (n ≤ k) = false := decide_eq_false (by omega)
  have hd3 : decide ((n : Int) ≤ (k : Int)) = false := decide_eq_false (by omega)
  have hd4 : ¬ n ≤ k := by omega
  go_wp2
  rw [← HG8.out, ← HW3.out]
  clear s0 s1 s2 s3 s4 s5 s6 s7 s8 s9 s10 s11 s12 s13 s14 s15
  as_aux_lemma =>
    refine wp_flow 12 (fun kF => match kF with | 0 => 4 | 4 => 9 | _ => 1000) (fun ww => RowKit.Below W3.heap.size W3 ww) (fun i w w' => if i = 9 then (fun (w w' : World) => RowKit.Below W3.heap.size w w') w w' else if i = 4 then (fun (w w' : World) => RowKit.Below W3.heap.size w w') w w' else (fun (w w' : World) => RowKit.Below w.heap.size w w') w w') (fun kF vF wF => match kF with | 0 => (∃ g, vF = .slice (some ⟨g, 0, none⟩) 0 0 ∧ wF.ownsRow W3.heap.size 34 16 (.slice (some ⟨g, 0, none⟩) 0 0) 0 []) | 1 => (vF = .slice (some ⟨gq, 0, none⟩) n cp) | 2 => (vF = .int .i64 (k : Int)) | 3 => (∃ sp cp, vF = .slice sp k cp ∧ (0 < k → sp = some ⟨gq, 0 * 16, none⟩) ∧ sp ≠ none) | 4 => (∃ ao cp, vF = .slice ao k cp ∧ wF.ownsRow W3.heap.size 34 16 (.slice ao k cp) k (xs.take (k * 16))) | 5 => (vF = .slice (some ⟨gq, 0, none⟩) n cp) | 6 => (vF = .int .i64 (k : Int)) | 7 => (vF = .int .i64 ((k : Int) + 1)) | 8 => (∃ sp cp, vF = .slice sp (n - (k + 1)) cp ∧ (0 < n - (k + 1) → sp = some ⟨gq, (k + 1) * 16, none⟩) ∧ sp ≠ none) | 9 => (∃ ao cp, vF = .slice ao mx cp ∧ wF.ownsRow W3.heap.size 34 16 (.slice ao mx cp) mx (xs.take (k * 16) ++ xs.drop ((k + 1) * 16))) | 10 => (vF = .agg #[.int .i64 m.k, .int .i64 m.f, .int .i64 m.to, .int .i64 m.g, .int .i64 m.n, .slice ae ne ce, .slice aa na ca, .slice p1 n1 c1, .slice p2 n2 c2, .slice p3 n3 c3, .slice p4 n4 c4, .int .i64 m.ki, .string m.mn, .string m.mv, .slice sa sn sc, .int .i64 m.er]) | 11 => (∃ ao cp, vF = .slice ao mx cp ∧ wF.ownsRow W3.heap.size 34 16 (.slice ao mx cp) mx (xs.take (k * 16) ++ xs.drop ((k + 1) * 16))) | _ => True) (fun _ _ _ _ => True) (by kernel_rfl) (by kernel_rfl) ?_ ?_ ?_ ?_ ?_
    · exact (Below.refl _ _).drew
    · intro iF wF1 wF2 hR hT
      have hT : (fun i w w' => if i = 9 then (fun (w w' : World) => RowKit.Below W3.heap.size w w') w w' else if i = 4 then (fun (w w' : World) => RowKit.Below W3.heap.size w w') w w' else (fun (w w' : World) => RowKit.Below w.heap.size w w') w w') iF wF1 wF2 := hT
      simp only at hT
      by_cases hi9 : iF = 9
      · rw [if_pos hi9] at hT; exact hR.trans hT
      rw [if_neg hi9] at hT
      by_cases hi4 : iF = 4
      · rw [if_pos hi4] at hT; exact hR.trans hT
      rw [if_neg hi4] at hT
      exact hR.trans (hT.mono hR.size)
    · intro kF hkF iF hiF hne hdd hanc hdan vF wF1 wF2 h hT
      rcases (by omega : kF = 0 ∨ kF = 1 ∨ kF = 2 ∨ kF = 3 ∨ kF = 4 ∨ kF = 5 ∨ kF = 6 ∨ kF = 7 ∨ kF = 8 ∨ kF = 9 ∨ kF = 10 ∨ kF = 11) with rfl | rfl | rfl | rfl | rfl | rfl | rfl | rfl | rfl | rfl | rfl | rfl
      · have h : (∃ g, vF = .slice (some ⟨g, 0, none⟩) 0 0 ∧ wF1.ownsRow W3.heap.size 34 16 (.slice (some ⟨g, 0, none⟩) 0 0) 0 []) := h
        show (∃ g, vF = .slice (some ⟨g, 0, none⟩) 0 0 ∧ wF2.ownsRow W3.heap.size 34 16 (.slice (some ⟨g, 0, none⟩) 0 0) 0 [])
        have hT : (fun i w w' => if i = 9 then (fun (w w' : World) => RowKit.Below W3.heap.size w w') w w' else if i = 4 then (fun (w w' : World) => RowKit.Below W3.heap.size w w') w w' else (fun (w w' : World) => RowKit.Below w.heap.size w w') w w') iF wF1 wF2 := hT
        simp only at hT
        by_cases hi9 : iF = 9
        · subst hi9; exact (anc_no hdan (by kernel_rfl)).elim
        rw [if_neg hi9] at hT
        by_cases hi4 : iF = 4
        · exact absurd hi4.symm hdd
        rw [if_neg hi4] at hT
        obtain ⟨g, e, ho⟩ := h
        exact ⟨g, e, own_stay ho hT⟩
      · exact h
      · exact h
      · exact h
      · have h : (∃ ao cp, vF = .slice ao k cp ∧ wF1.ownsRow W3.heap.size 34 16 (.slice ao k cp) k (xs.take (k * 16))) := h
        show (∃ ao cp, vF = .slice ao k cp ∧ wF2.ownsRow W3.heap.size 34 16 (.slice ao k cp) k (xs.take (k * 16)))
        have hT : (fun i w w' => if i = 9 then (fun (w w' : World) => RowKit.Below W3.heap.size w w') w w' else if i = 4 then (fun (w w' : World) => RowKit.Below W3.heap.size w w') w w' else (fun (w w' : World) => RowKit.Below w.heap.size w w') w w') iF wF1 wF2 := hT
        simp only at hT
        by_cases hi9 : iF = 9
        · exact absurd hi9.symm hdd
        rw [if_neg hi9] at hT
        by_cases hi4 : iF = 4
        · exact absurd hi4.symm hne
        rw [if_neg hi4] at hT
        obtain ⟨ao, cp, e, ho⟩ := h
        exact ⟨ao, cp, e, own_stay ho hT⟩
      · exact h
      · exact h
      · exact h
      · exact h
      · have h : (∃ ao cp, vF = .slice ao mx cp ∧ wF1.ownsRow W3.heap.size 34 16 (.slice ao mx cp) mx (xs.take (k * 16) ++ xs.drop ((k + 1) * 16))) := h
        show (∃ ao cp, vF = .slice ao mx cp ∧ wF2.ownsRow W3.heap.size 34 16 (.slice ao mx cp) mx (xs.take (k * 16) ++ xs.drop ((k + 1) * 16)))
        have hT : (fun i w w' => if i = 9 then (fun (w w' : World) => RowKit.Below W3.heap.size w w') w w' else if i = 4 then (fun (w w' : World) => RowKit.Below W3.heap.size w w') w w' else (fun (w w' : World) => RowKit.Below w.heap.size w w') w w') iF wF1 wF2 := hT
        simp only at hT
        by_cases hi9 : iF = 9
        · exact absurd hi9.symm hne
        rw [if_neg hi9] at hT
        by_cases hi4 : iF = 4
        · subst hi4; exact (anc_no hanc (by kernel_rfl)).elim
        rw [if_neg hi4] at hT
        obtain ⟨ao, cp, e, ho⟩ := h
        exact ⟨ao, cp, e, own_stay ho hT⟩
      · exact h
      · have h : (∃ ao cp, vF = .slice ao mx cp ∧ wF1.ownsRow W3.heap.size 34 16 (.slice ao mx cp) mx (xs.take (k * 16) ++ xs.drop ((k + 1) * 16))) := h
        show (∃ ao cp, vF = .slice ao mx cp ∧ wF2.ownsRow W3.heap.size 34 16 (.slice ao mx cp) mx (xs.take (k * 16) ++ xs.drop ((k + 1) * 16)))
        have hT : (fun i w w' => if i = 9 then (fun (w w' : World) => RowKit.Below W3.heap.size w w') w w' else if i = 4 then (fun (w w' : World) => RowKit.Below W3.heap.size w w') w w' else (fun (w w' : World) => RowKit.Below w.heap.size w w') w w') iF wF1 wF2 := hT
        simp only at hT
        by_cases hi9 : iF = 9
        · subst hi9; exact (anc_no hanc (by kernel_rfl)).elim
        rw [if_neg hi9] at hT
        by_cases hi4 : iF = 4
        · subst hi4; exact (anc_no hanc (by kernel_rfl)).elim
        rw [if_neg hi4] at hT
        obtain ⟨ao, cp, e, ho⟩ := h
        exact ⟨ao, cp, e, own_stay ho hT⟩
    · refine FlowAll.cons ?_ ?_
      · intro xF wx hR hd K hK
        clear hd
        simp only [List.take_succ_cons, List.take_zero, fillOf, Act.put, List.setIfInBounds_toArray, List.set_cons_zero, List.set_cons_succ, Nat.reduceAdd, Nat.zero_add] at hK ⊢
        obtain hbR := id hR
        rw [if_pos (by rfl)]
        go_simp
        exact hK.out _ _ (below1) (⟨_, rfl, own_none _ hR.size 16⟩) (fun _ _ _ => ⟨trivial, trivial⟩)
      refine FlowAll.cons ?_ ?_
      · intro xF wx hR hd K hK
        clear hd
        simp only [List.take_succ_cons, List.take_zero, fillOf, Act.put, List.setIfInBounds_toArray, List.set_cons_zero, List.set_cons_succ, Nat.reduceAdd, Nat.zero_add] at hK ⊢
        obtain hbR := id hR
        rw [if_pos (by rfl)]
        go_simp
        exact hK.out _ _ (Below.refl _ _) (rfl) (fun _ _ _ => ⟨trivial, trivial⟩)
      refine FlowAll.cons ?_ ?_
      · intro xF wx hR hd K hK
        clear hd
        simp only [List.take_succ_cons, List.take_zero, fillOf, Act.put, List.setIfInBounds_toArray, List.set_cons_zero, List.set_cons_succ, Nat.reduceAdd, Nat.zero_add] at hK ⊢
        obtain hbR := id hR
        rw [if_pos (by rfl)]
        go_simp
        exact hK.out _ _ (Below.refl _ _) (rfl) (fun _ _ _ => ⟨trivial, trivial⟩)
      refine FlowAll.cons ?_ ?_
      · intro xF wx hR hd K hK
        have dd1 : ((xF 1) = .slice (some ⟨gq, 0, none⟩) n cp) := hd 1 (by kernel_rfl)
        have dd2 : ((xF 2) = .int .i64 (k : Int)) := hd 2 (by kernel_rfl)
        clear hd
        simp only [List.take_succ_cons, List.take_zero, fillOf, Act.put, List.setIfInBounds_toArray, List.set_cons_zero, List.set_cons_succ, Nat.reduceAdd, Nat.zero_add] at hK ⊢
        try generalize xF 1 = yy1 at *
        try generalize xF 2 = yy2 at *
        obtain rfl := dd1
        obtain rfl := dd2
        obtain hbR := id hR
        have e1 : k ≤ cp := by omega
        rw [if_pos (by rfl)]
        go_simp
        refine hK.out _ _ ?_ ?_ ?_
        · exact Below.refl _ _
        · refine ⟨_, _, rfl, (fun h => by first | rfl | (rw [if_neg (by omega)]) | simp), (by first | (intro h; cases h; done) | (split <;> simp))⟩
        · exact fun _ _ _ => ⟨trivial, trivial⟩
      refine FlowAll.cons ?_ ?_
      · intro xF wx hR hd K hK
        have dd0 : (∃ g, (xF 0) = .slice (some ⟨g, 0, none⟩) 0 0 ∧ wx.ownsRow W3.heap.size 34 16 (.slice (some ⟨g, 0, none⟩) 0 0) 0 []) := hd 0 (by kernel_rfl)
        have dd3 : (∃ sp cp, (xF 3) = .slice sp k cp ∧ (0 < k → sp = some ⟨gq, 0 * 16, none⟩) ∧ sp ≠ none) := hd 3 (by kernel_rfl)
        clear hd
        simp only [List.take_succ_cons, List.take_zero, fillOf, Act.put, List.setIfInBounds_toArray, List.set_cons_zero, List.set_cons_succ, Nat.reduceAdd, Nat.zero_add] at hK ⊢
        try generalize xF 0 = yy0 at *
        try generalize xF 3 = yy3 at *
        obtain ⟨g0, rfl, ho0⟩ := dd0
        obtain ⟨sp3, cp3, rfl, hsp3, hsn3⟩ := dd3
        obtain hbR := id hR
        rw [if_pos (by rfl)]
        refine kit.wp_of_list (fun Q' hQ' => ?_)
        have hN := sub_rows (k := 16) (HZC.out _ hR) 0 (k) hsp3
        refine kit.appN (.tmp 25) (.tmp 28) 22 rfl rfl W3.heap.size Try.underlying22 ninfo_msg rfl (by decide) (by decide) ho0 rfl ((xs.drop (0 * 16)).take ((k) * 16)) rfl (by rw [Nat.zero_mul, List.drop_zero]; exact HTK.out) (fun e => absurd e hsn3) hN (fun u hu => HONE.out u (List.mem_of_mem_drop (List.mem_of_mem_take hu))) (by omega) hR.size ?_
        intro vN wN hownN hbN
        refine hQ' _ _ ?_
        rw [Nat.zero_add, List.nil_append, Nat.zero_mul, List.drop_zero] at hownN
        obtain ⟨aoN, cpN, rfl⟩ := own_form4 hownN
        simp only [Act.put, List.setIfInBounds_toArray, List.set_cons_zero, List.set_cons_succ]
        exact hK.out _ _ (hbN) (⟨aoN, cpN, rfl, hownN⟩) (fun _ _ _ => ⟨trivial, trivial⟩)
      refine FlowAll.cons ?_ ?_
      · intro xF wx hR hd K hK
        clear hd
        simp only [List.take_succ_cons, List.take_zero, fillOf, Act.put, List.setIfInBounds_toArray, List.set_cons_zero, List.set_cons_succ, Nat.reduceAdd, Nat.zero_add] at hK ⊢
        obtain hbR := id hR
        rw [if_pos (by rfl)]
        go_simp
        exact hK.out _ _ (Below.refl _ _) (rfl) (fun _ _ _ => ⟨trivial, trivial⟩)
      refine FlowAll.cons ?_ ?_
      · intro xF wx hR hd K hK
        clear hd
        simp only [List.take_succ_cons, List.take_zero, fillOf, Act.put, List.setIfInBounds_toArray, List.set_cons_zero, List.set_cons_succ, Nat.reduceAdd, Nat.zero_add] at hK ⊢
        obtain hbR := id hR
        rw [if_pos (by rfl)]
        go_simp
        exact hK.out _ _ (Below.refl _ _) (rfl) (fun _ _ _ => ⟨trivial, trivial⟩)
      refine FlowAll.cons ?_ ?_
      · intro xF wx hR hd K hK
        have dd6 : ((xF 6) = .int .i64 (k : Int)) := hd 6 (by kernel_rfl)
        clear hd
        simp only [List.take_succ_cons, List.take_zero, fillOf, Act.put, List.setIfInBounds_toArray, List.set_cons_zero, List.set_cons_succ, Nat.reduceAdd, Nat.zero_add] at hK ⊢
        try generalize xF 6 = yy6 at *
        obtain rfl := dd6
        obtain hbR := id hR
        have hjw : IntKind.i64.wrap ((k : Int) + 1) = (k : Int) + 1 := IntWalk.i64_in _ (by omega)
        rw [if_pos (by rfl)]
        go_simp
        exact hK.out _ _ (Below.refl _ _) (rfl) (fun _ _ _ => ⟨trivial, trivial⟩)
      refine FlowAll.cons ?_ ?_
      · intro xF wx hR hd K hK
        have dd5 : ((xF 5) = .slice (some ⟨gq, 0, none⟩) n cp) := hd 5 (by kernel_rfl)
        have dd7 : ((xF 7) = .int .i64 ((k : Int) + 1)) := hd 7 (by kernel_rfl)
        clear hd
        simp only [List.take_succ_cons, List.take_zero, fillOf, Act.put, List.setIfInBounds_toArray, List.set_cons_zero, List.set_cons_succ, Nat.reduceAdd, Nat.zero_add] at hK ⊢
        try generalize xF 5 = yy5 at *
        try generalize xF 7 = yy7 at *
        obtain rfl := dd5
        obtain rfl := dd7
        obtain hbR := id hR
        have e1 : (0 : Int) ≤ (k : Int) + 1 := by omega
        have e2 : (k : Int) + 1 ≤ (n : Int) := by omega
        have e3 : k + 1 ≤ n := by omega
        rw [if_pos (by rfl)]
        go_simp
        refine hK.out _ _ ?_ ?_ ?_
        · exact Below.refl _ _
        · refine ⟨_, _, rfl, (fun h => by first | rfl | (rw [if_neg (by omega)]) | simp), (by first | (intro h; cases h; done) | (split <;> simp))⟩
        · exact fun _ _ _ => ⟨trivial, trivial⟩
      refine FlowAll.cons ?_ ?_
      · intro xF wx hR hd K hK
        have dd4 : (∃ ao cp, (xF 4) = .slice ao k cp ∧ wx.ownsRow W3.heap.size 34 16 (.slice ao k cp) k (xs.take (k * 16))) := hd 4 (by kernel_rfl)
        have dd8 : (∃ sp cp, (xF 8) = .slice sp (n - (k + 1)) cp ∧ (0 < n - (k + 1) → sp = some ⟨gq, (k + 1) * 16, none⟩) ∧ sp ≠ none) := hd 8 (by kernel_rfl)
        clear hd
        simp only [List.take_succ_cons, List.take_zero, fillOf, Act.put, List.setIfInBounds_toArray, List.set_cons_zero, List.set_cons_succ, Nat.reduceAdd, Nat.zero_add] at hK ⊢
        try generalize xF 4 = yy4 at *
        try generalize xF 8 = yy8 at *
        obtain ⟨ao4, cp4, rfl, ho4⟩ := dd4
        obtain ⟨sp8, cp8, rfl, hsp8, hsn8⟩ := dd8
        obtain hbR := id hR
        rw [if_pos (by rfl)]
        refine kit.wp_of_list (fun Q' hQ' => ?_)
        have hN := sub_rows (k := 16) (HZC.out _ hR) (k + 1) (n - (k + 1)) hsp8
        refine kit.appN (.tmp 29) (.tmp 33) 22 rfl rfl W3.heap.size Try.underlying22 ninfo_msg rfl (by decide) (by decide) ho4 rfl ((xs.drop ((k + 1) * 16)).take ((n - (k + 1)) * 16)) rfl (by rw [HDR.out, List.length_drop, HXL.out]; omega) (fun e => absurd e hsn8) hN (fun u hu => HONE.out u (List.mem_of_mem_drop (List.mem_of_mem_take hu))) (by omega) hR.size ?_
        intro vN wN hownN hbN
        refine hQ' _ _ ?_
        rw [HDR.out, ← HMX.out] at hownN
        obtain ⟨aoN, cpN, rfl⟩ := own_form4 hownN
        simp only [Act.put, List.setIfInBounds_toArray, List.set_cons_zero, List.set_cons_succ]
        exact hK.out _ _ (hbN) (⟨aoN, cpN, rfl, hownN⟩) (fun _ _ _ => ⟨trivial, trivial⟩)
      refine FlowAll.cons ?_ ?_
      · intro xF wx hR hd K hK
        clear hd
        simp only [List.take_succ_cons, List.take_zero, fillOf, Act.put, List.setIfInBounds_toArray, List.set_cons_zero, List.set_cons_succ, Nat.reduceAdd, Nat.zero_add] at hK ⊢
        obtain hbR := id hR
        have hxa := X3.out _ hR
        have qc0 := boxc hxa 0 _ rfl
        have qc1 := boxc hxa 1 _ rfl
        have qc2 := boxc hxa 2 _ rfl
        have qc3 := boxc hxa 3 _ rfl
        have qc4 := boxc hxa 4 _ rfl
        have qc5 := boxc hxa 5 _ rfl
        have qc6 := boxc hxa 6 _ rfl
        have qc7 := boxc hxa 7 _ rfl
        have qc8 := boxc hxa 8 _ rfl
        have qc9 := boxc hxa 9 _ rfl
        have qc10 := boxc hxa 10 _ rfl
        have qc11 := boxc hxa 11 _ rfl
        have qc12 := boxc hxa 12 _ rfl
        have qc13 := boxc hxa 13 _ rfl
        have qc14 := boxc hxa 14 _ rfl
        have qc15 := boxc hxa 15 _ rfl
        clear hxa
        rw [if_pos (by rfl)]
        go_simp
        exact hK.out _ _ (Below.refl _ _) (rfl) (fun _ _ _ => ⟨trivial, trivial⟩)
      refine FlowAll.cons ?_ ?_
      · intro xF wx hR hd K hK
        have dd9 : (∃ ao cp, (xF 9) = .slice ao mx cp ∧ wx.ownsRow W3.heap.size 34 16 (.slice ao mx cp) mx (xs.take (k * 16) ++ xs.drop ((k + 1) * 16))) := hd 9 (by kernel_rfl)
        clear hd
        simp only [List.take_succ_cons, List.take_zero, fillOf, Act.put, List.setIfInBounds_toArray, List.set_cons_zero, List.set_cons_succ, Nat.reduceAdd, Nat.zero_add] at hK ⊢
        try generalize xF 9 = yy9 at *
        obtain ⟨ao9, cp9, rfl, ho9⟩ := dd9
        obtain hbR := id hR
        rw [if_pos (by rfl)]
        go_simp
        exact hK.out _ _ (Below.refl _ _) (⟨_, _, rfl, ho9⟩) (fun _ _ _ => ⟨trivial, trivial⟩)
      exact FlowAll.nil
    intro xF wx hR hF hP
    clear hP
    have dd1 : ((xF 1) = .slice (some ⟨gq, 0, none⟩) n cp) := hF 1 (by omega) (by decide)
    have dd2 : ((xF 2) = .int .i64 (k : Int)) := hF 2 (by omega) (by decide)
    have dd3 : (∃ sp cp, (xF 3) = .slice sp k cp ∧ (0 < k → sp = some ⟨gq, 0 * 16, none⟩) ∧ sp ≠ none) := hF 3 (by omega) (by decide)
    have dd5 : ((xF 5) = .slice (some ⟨gq, 0, none⟩) n cp) := hF 5 (by omega) (by decide)
    have dd6 : ((xF 6) = .int .i64 (k : Int)) := hF 6 (by omega) (by decide)
    have dd7 : ((xF 7) = .int .i64 ((k : Int) + 1)) := hF 7 (by omega) (by decide)
    have dd8 : (∃ sp cp, (xF 8) = .slice sp (n - (k + 1)) cp ∧ (0 < n - (k + 1) → sp = some ⟨gq, (k + 1) * 16, none⟩) ∧ sp ≠ none) := hF 8 (by omega) (by decide)
    have dd9 : (∃ ao cp, (xF 9) = .slice ao mx cp ∧ wx.ownsRow W3.heap.size 34 16 (.slice ao mx cp) mx (xs.take (k * 16) ++ xs.drop ((k + 1) * 16))) := hF 9 (by omega) (by decide)
    have dd10 : ((xF 10) = .agg #[.int .i64 m.k, .int .i64 m.f, .int .i64 m.to, .int .i64 m.g, .int .i64 m.n, .slice ae ne ce, .slice aa na ca, .slice p1 n1 c1, .slice p2 n2 c2, .slice p3 n3 c3, .slice p4 n4 c4, .int .i64 m.ki, .string m.mn, .string m.mv, .slice sa sn sc, .int .i64 m.er]) := hF 10 (by omega) (by decide)
    have dd11 : (∃ ao cp, (xF 11) = .slice ao mx cp ∧ wx.ownsRow W3.heap.size 34 16 (.slice ao mx cp) mx (xs.take (k * 16) ++ xs.drop ((k + 1) * 16))) := hF 11 (by omega) (by decide)
    clear hF
    simp only [List.take_succ_cons, List.take_zero, List.drop_succ_cons, List.drop_zero, fillOf, Act.put, List.setIfInBounds_toArray, List.set_cons_zero, List.set_cons_succ, Nat.reduceAdd, Nat.zero_add]
    try generalize xF 0 = yy0 at *
    try generalize xF 1 = yy1 at *
    try generalize xF 2 = yy2 at *
    try generalize xF 3 = yy3 at *
    try generalize xF 4 = yy4 at *
    try generalize xF 5 = yy5 at *
    try generalize xF 6 = yy6 at *
    try generalize xF 7 = yy7 at *
    try generalize xF 8 = yy8 at *
    try generalize xF 9 = yy9 at *
    try generalize xF 10 = yy10 at *
    try generalize xF 11 = yy11 at *
    clear xF
    obtain rfl := dd1
    obtain rfl := dd2
    obtain ⟨sp3, cp3, rfl, hsp3, hsn3⟩ := dd3
    obtain rfl := dd5
    obtain rfl := dd6
    obtain rfl := dd7
    obtain ⟨sp8, cp8, rfl, hsp8, hsn8⟩ := dd8
    obtain ⟨ao9, cp9, rfl, ho9⟩ := dd9
    obtain rfl := dd10
    obtain ⟨ao11, cp11, rfl, ho11⟩ := dd11
    have hRX := Lib.hid hR
    clear hR
    as_aux_lemma =>
      have BX := Lib.hid ((B2.out.trans (B3.out.mono B2.out.size)).trans (hRX.out.mono (Nat.le_trans B2.out.size B3.out.size)))
      have XX : Hid (wx.heap[q0]? = some (.cells #[.int .i64 0, .int .i64 0, .int .i64 0, .int .i64 0, .int .i64 0, .slice none 0 0, .slice none 0 0, .slice none 0 0, .slice none 0 0, .slice none 0 0, .slice none 0 0, .int .i64 0, .string ⟨#[]⟩, .string ⟨#[]⟩, .slice none 0 0, .int .i64 0] 34)) := by
        have h3 := (B3.out.block _ (lt_of_block X2.out)).trans X2.out
        exact (hRX.out.block _ (lt_of_block h3)).trans h3
      have hx0 := XX.out
      have HO9 := Lib.hid ho11
      clear ho9 ho11
      go_wp2_with ((with_reducible show wpList _ _ _ (Oper.mk _ (Op.store 34 (.tmp 5) _) _ _ _ _ :: _) _ _); refine wpList_store_row rfl 34 (.tmp 5) _ rfl q0 #[.int .i64 m.k, .int .i64 m.f, .int .i64 m.to, .int .i64 m.g, .int .i64 m.n, .slice ae ne ce, .slice aa na ca, .slice p1 n1 c1, .slice p2 n2 c2, .slice p3 n3 c3, .slice p4 n4 c4, .int .i64 m.ki, .string m.mn, .string m.mv, .slice sa sn sc, .int .i64 m.er] rfl rfl 34 #[.int .i64 0, .int .i64 0, .int .i64 0, .int .i64 0, .int .i64 0, .slice none 0 0, .slice none 0 0, .slice none 0 0, .slice none 0 0, .slice none 0 0, .slice none 0 0, .int .i64 0, .string ⟨#[]⟩, .string ⟨#[]⟩, .slice none 0 0, .int .i64 0] hx0 nsize_msg rfl (by simp [Value.oneCell']) ?_)
      have hF := setRow_heap _ q0 _ #[.int .i64 m.k, .int .i64 m.f, .int .i64 m.to, .int .i64 m.g, .int .i64 m.n, .slice ae ne ce, .slice aa na ca, .slice p1 n1 c1, .slice p2 n2 c2, .slice p3 n3 c3, .slice p4 n4 c4, .int .i64 m.ki, .string m.mn, .string m.mv, .slice sa sn sc, .int .i64 m.er] _ _ hx0
      have hq3 : q0 < W3.heap.size := by
        have h3 := (B3.out.block _ (lt_of_block X2.out)).trans X2.out
        exact lt_of_block h3
      have hBL := below_setRow BX.out (by rw [HQ0.out]; exact Nat.le_refl _) #[.int .i64 m.k, .int .i64 m.f, .int .i64 m.to, .int .i64 m.g, .int .i64 m.n, .slice ae ne ce, .slice aa na ca, .slice p1 n1 c1, .slice p2 n2 c2, .slice p3 n3 c3, .slice p4 n4 c4, .int .i64 m.ki, .string m.mn, .string m.mv, .slice sa sn sc, .int .i64 m.er] (g := q0)
      have KB := Kt.row hx0 #[.int .i64 m.k, .int .i64 m.f, .int .i64 m.to, .int .i64 m.g, .int .i64 m.n, .slice ae ne ce, .slice aa na ca, .slice p1 n1 c1, .slice p2 n2 c2, .slice p3 n3 c3, .slice p4 n4 c4, .int .i64 m.ki, .string m.mn, .string m.mv, .slice sa sn sc, .int .i64 m.er]
      have hall : ∀ c ∈ cs, c.length = 16 := RowsAt.len HO.out.1 HO.out.elt
      have hel := HO.out.kMsg (((Kt.of_below (T := 34) B3.out).trans (Kt.of_below hRX.out)).trans KB)
      have ho' := own_hi HO9.out (fun j hj => setRow_other _ _ _ #[.int .i64 m.k, .int .i64 m.f, .int .i64 m.to, .int .i64 m.g, .int .i64 m.n, .slice ae ne ce, .slice aa na ca, .slice p1 n1 c1, .slice p2 n2 c2, .slice p3 n3 c3, .slice p4 n4 c4, .int .i64 m.ki, .string m.mn, .string m.mv, .slice sa sn sc, .int .i64 m.er] (show j ≠ q0 by omega))
      have hMR := (HMF.out.kt (((Kt.of_below (T := 34) B3.out).trans (Kt.of_below hRX.out)).trans KB) (by decide) (by decide) (by decide) (by decide)).at
      obtain ⟨WF, hWF⟩ : ∃ W, W = World.setRow wx q0 #[.int .i64 m.k, .int .i64 m.f, .int .i64 m.to, .int .i64 m.g, .int .i64 m.n, .slice ae ne ce, .slice aa na ca, .slice p1 n1 c1, .slice p2 n2 c2, .slice p3 n3 c3, .slice p4 n4 c4, .int .i64 m.ki, .string m.mn, .string m.mv, .slice sa sn sc, .int .i64 m.er] := ⟨_, rfl⟩
      rw [← hWF] at hF hBL hel ho' hMR ⊢
      clear hWF KB hx0
      have hRW : RowsAt 16 msgRel WF WF.heap.size (.slice ao11 mx cp11) (L.take k ++ L.drop (k + 1)) := by
        refine RowsAt.own (e := 34) (base := W3.heap.size) (n := mx) (cs := cs.take k ++ cs.drop (k + 1)) ?_ ?_ (cut_rows (P := fun c x => c.length = 16 ∧ msgRel _ _ c x) (fun j c x hc hx => ⟨(msg_one _ _ (hel j c x hc hx).at).1, (hel j c x hc hx).at⟩) k) ?_
        · rw [List.length_append, List.length_take, List.length_drop, ← HN.out, HMX.out]; omega
        · rw [List.length_append, List.length_append, List.length_take, List.length_take, List.length_drop, List.length_drop, HO.out.1]
        · rw [List.flatten_append, flat_take cs hall, flat_drop cs hall, ← HXS.out]; exact ho'
      have e0 := boxc hF 0 (.int .i64 m.k) rfl
      have e1 := boxc hF 1 (.int .i64 m.f) rfl
      have e2 := boxc hF 2 (.int .i64 m.to) rfl
      have e3 := boxc hF 3 (.int .i64 m.g) rfl
      have e4 := boxc hF 4 (.int .i64 m.n) rfl
      have e5 := boxc hF 5 (.slice ae ne ce) rfl
      have e6 := boxc hF 6 (.slice aa na ca) rfl
      have e7 := boxc hF 7 (.slice p1 n1 c1) rfl
      have e8 := boxc hF 8 (.slice p2 n2 c2) rfl
      have e9 := boxc hF 9 (.slice p3 n3 c3) rfl
      have e10 := boxc hF 10 (.slice p4 n4 c4) rfl
      have e11 := boxc hF 11 (.int .i64 m.ki) rfl
      have e12 := boxc hF 12 (.string m.mn) rfl
      have e13 := boxc hF 13 (.string m.mv) rfl
      have e14 := boxc hF 14 (.slice sa sn sc) rfl
      have e15 := boxc hF 15 (.int .i64 m.er) rfl
      have HRW := Lib.hid hRW
      have HMR := Lib.hid hMR
      have HBL := Lib.hid hBL
      clear hel ho' hRW hMR hall hF hBL
      exact bodyPost_ret (v := .tuple #[.slice ao11 mx cp11, .agg #[.int .i64 m.k, .int .i64 m.f, .int .i64 m.to, .int .i64 m.g, .int .i64 m.n, .slice ae ne ce, .slice aa na ca, .slice p1 n1 c1, .slice p2 n2 c2, .slice p3 n3 c3, .slice p4 n4 c4, .int .i64 m.ki, .string m.mn, .string m.mv, .slice sa sn sc, .int .i64 m.er], .int .i64 0]) (by simp [results, Try.results12, go_sem, e0, e1, e2, e3, e4, e5, e6, e7, e8, e9, e10, e11, e12, e13, e14, e15]) rfl ⟨_, _, _, (#[.int .i64 m.k, .int .i64 m.f, .int .i64 m.to, .int .i64 m.g, .int .i64 m.n, .slice ae ne ce, .slice aa na ca, .slice p1 n1 c1, .slice p2 n2 c2, .slice p3 n3 c3, .slice p4 n4 c4, .int .i64 m.ki, .string m.mn, .string m.mv, .slice sa sn sc, .int .i64 m.er] : Array Value).toList, rfl, HRW.out, by rw [List.length_append, List.length_take, List.length_drop, ← HN.out, HMX.out]; omega, by rw [← HM.out]; exact HMR.out, HBL.out⟩
end Go.Proofs.Ytpgccfgldjeomaa
