/- codec: the document's writer: dots, words, contexts, entries, changes. -/
import Derived.Test.YtghbkieflifegaaCdRW
import Derived.Test.YtghbkieflifegaaCdL1
namespace Go.Proofs.Ytghbkieflifegaa
open Go Go.RowKit Go.ChangeShapes cl
/-- a text and whether it is the answer -/
def Ans (t : cd.W) (S : ByteArray) (ok : Bool) : Prop := ok = t.isSome ∧ ∀ b, t = some b → S = kit.str b
theorem Ans.add {t u : cd.W} {S U : ByteArray} {p q : Bool} (h : Ans t S p) (k : Ans u U q) : Ans (cd.app t u) (S ++ U) (p && q) :=
  ⟨by rw [some_app, h.1, k.1], RAns.add h.2 k.2⟩
theorem Ans.to {t u : cd.W} {S : ByteArray} {p : Bool} (h : Ans t S p) (e : t = u) : Ans u S p := e ▸ h
theorem Ans.ret {t : cd.W} {S : ByteArray} {p : Bool} {N : Nat} {w w' : World} (h : Ans t S p) (hN : S.size ≤ N) (hb : Below w.heap.size w w') : RAns t N w (.returned (.tuple #[.string S, .bool p])) w' := ⟨S, p, rfl, hN, h.1, h.2, hb⟩
theorem lst_cnt {α : Type} (f : α → cd.W) (l : List α) (n : Nat) (hn : n = l.length) : cd.app (cnt n) (cd.each f l) = cd.lst f l := by
  subst hn
  unfold cnt cd.lst
  split
  · rfl
  · rfl
theorem app_step {α : Type} (f : α → cd.W) (l : List α) (d : α) (k : Nat) (hk : k < l.length) (c : cd.W) : cd.app (cd.app c (cd.each f (l.take k))) (f (l.getD k d)) = cd.app c (cd.each f (l.take (k + 1))) := by
  rw [List.take_succ_eq_append_getElem hk, cd.each_app, cd.app_assoc]
  have e : l.getD k d = l[k] := by simp [List.getD, hk]
  rw [e]
  show _ = cd.app c (cd.app _ (cd.app (f l[k]) (some [])))
  rw [cd.app_nil]
theorem app_zero {α : Type} (f : α → cd.W) (l : List α) (c : cd.W) : cd.app c (cd.each f (l.take 0)) = c := cd.app_nil c
theorem lnk_num (k : cd.Lk) : cd.each cd.num [k.1, k.2.1, k.2.2] = cd.lnk k := by
  have := cd.each_app cd.num [k.1] [k.2.1, k.2.2]
  exact this
theorem ent_num (d : cd.D) (t : Int) : cd.each cd.num [d.1, d.2, t] = cd.app (cd.dot d) (cd.each cd.num [t]) := by
  have := cd.each_app cd.num [d.1, d.2] [t]
  exact this
set_option maxHeartbeats 3200000 in
set_option maxRecDepth 100000 in
theorem rdots_any (l : List cd.D) (v : Value) (w : World) (h : RowsAt 2 dotR w w.heap.size v l) (hl : l.length ≤ 1048576) : Calls Try.prog 51 #[v] w (RAns (cd.lst cd.dot l) 13000000 w) := by
  obtain ⟨n, hn⟩ : ∃ n, n = l.length := ⟨_, rfl⟩
  obtain ⟨ao, cap, rfl, hnc, hnm⟩ := h.form' hn
  rw [← hn] at hl
  have HL := Lib.hid h
  have HN := Lib.hid hn
  have HCN : Hid (∀ W : World, Calls Try.prog 49 #[.int .i64 (n : Int)] W (RAns (cnt n) 6 W)) := fun W => count_any n W (by unfold maxLen; omega)
  clear h hn hnm hnc
  go_enter Try.func51, Try.ntmps51
  go_wp2_with fail
  (with_reducible refine (HCN.out _).mono ?_)
  rintro e w1 ⟨S1, o1, rfl, hs1, h1, h2, b1⟩
  have HA1 : Hid (Ans (cnt n) S1 o1) := ⟨h1, h2⟩
  have HB1 := Lib.hid b1
  clear h1 h2 b1
  go_wp2
  go_loopw [4, 5, 18, 38] (fun s o i _ wr => ∃ (k : Nat) (S : ByteArray) (b : Bool), s = .string S ∧ o = .bool b ∧ i = .int .i64 k ∧ k ≤ n ∧ S.size ≤ 6 + k * 12 ∧ Hid (Ans (cd.app (cnt n) (cd.each cd.dot (l.take k))) S b) ∧ Below w1.heap.size w1 wr) (fun _ _ i _ _ => n - (intOf i).toNat)
  case atStart => exact ⟨0, S1, o1, rfl, rfl, rfl, by omega, by omega, HA1.out.to (app_zero cd.dot l _).symm, Below.refl _ _⟩
  case round =>
    obtain ⟨k, S, o, rfl, rfl, rfl, hk, hsS, HA, hbl⟩ := hrel
    by_cases hlt : k < n
    · have hkI : (k : Int) < (n : Int) := by omega
      obtain ⟨bb, off, c, rfl, hbB, hcl, hR, hcell⟩ := (HL.out.next dotR_steady (HB1.out.trans (hbl.mono HB1.out.size))).get HN.out hlt (((0, 0) : cd.D))
      have HST := Lib.hid (app_step cd.dot l (((0, 0) : cd.D)) k (by rw [← HN.out]; exact hlt) (cnt n))
      obtain ⟨⟨da, db⟩, hd⟩ : ∃ x, x = l.getD k (0, 0) := ⟨_, rfl⟩
      rw [← hd] at hR HST
      have hR : c = [.int .i64 da, .int .i64 db] := hR
      subst hR
      have s0 : wr.cell? ⟨bb, off + k * 2, none⟩ = _ := hcell 0 _ rfl
      have s1 := hcell 1 _ rfl
      obtain ⟨W2, hW2⟩ : ∃ W, W = (wr.alloc (.cells #[.int .i64 da, .int .i64 db] 47)).alloc (.cells #[.int .i64 da, .int .i64 db] 3) := ⟨_, rfl⟩
      have zx : W2.heap[wr.heap.size + 1]? = some (.cells #[.int .i64 da, .int .i64 db] 3) := by
        have := heap_alloc_new (wr.alloc (.cells #[.int .i64 da, .int .i64 db] 47)) (.cells #[.int .i64 da, .int .i64 db] 3)
        rw [World.size_alloc] at this
        rw [hW2]; exact this
      have bz : Below wr.heap.size wr W2 := by rw [hW2]; exact (below1 (w := wr)).trans (below1.mono (by simp))
      have HPz := Lib.hid (rnumbers_any [da, db] (wr.heap.size + 1) 2 W2 rfl (by omega) (lt_of_block zx) (fun j hj => by
        rcases (by omega : j = 0 ∨ j = 1) with rfl | rfl
        · exact boxc zx 0 _ rfl
        · exact boxc zx 1 _ rfl))
      have HBZ := Lib.hid (hbl.trans (bz.mono hbl.size))
      have HW2 := Lib.hid hW2
      clear hcell hcl hbB hd zx bz hW2 hbl
      go_wp2_with fail
      rw [← HW2.out]
      (with_reducible refine HPz.out.mono ?_)
      rintro e w2 ⟨X, x, rfl, hsX, h1, h2, b2⟩
      have HX : Hid (Ans (cd.dot (da, db)) X x) := ⟨h1, h2⟩
      have hbx := HBZ.out.trans (b2.mono HBZ.out.size)
      clear h1 h2 b2 s0 s1
      have HA2 := Lib.hid ((HA.out.add HX.out).to HST.out)
      have hsum : ¬ 9223372036854775807 < S.size + X.size := by omega
      cases o with
      | true =>
        go_wp2
        go_roundw
        case rel => exact ⟨k + 1, S ++ X, x, rfl, rfl, by go_num, by omega, by rw [ByteArray.size_append]; omega, HA2.out, hbx⟩
        case measure => simp [intOf]; omega
      | false =>
        go_wp2
        go_roundw
        case rel => exact ⟨k + 1, S ++ X, false, rfl, rfl, by go_num, by omega, by rw [ByteArray.size_append]; omega, HA2.out, hbx⟩
        case measure => simp [intOf]; omega
    · have HF : Hid (Ans (cd.lst cd.dot l) S o) := by
        have := HA.out
        rw [List.take_of_length_le (by rw [← HN.out]; omega), lst_cnt cd.dot l n HN.out] at this
        exact this
      clear HA
      go_wp2
      go_ret2
      exact HF.out.ret (by omega) (HB1.out.trans (hbl.mono HB1.out.size))
set_option maxHeartbeats 3200000 in
set_option maxRecDepth 100000 in
theorem rwords_any (l : List ByteArray) (v : Value) (w : World) (h : RowsAt 1 strR w w.heap.size v l) (hl : l.length ≤ 1048576) : Calls Try.prog 27 #[v] w (RAns (cd.lst cd.txt l) 5000000000 w) := by
  obtain ⟨n, hn⟩ : ∃ n, n = l.length := ⟨_, rfl⟩
  obtain ⟨ao, cap, rfl, hnc, hnm⟩ := h.form' hn
  rw [← hn] at hl
  have HL := Lib.hid h
  have HN := Lib.hid hn
  have HCN : Hid (∀ W : World, Calls Try.prog 49 #[.int .i64 (n : Int)] W (RAns (cnt n) 6 W)) := fun W => count_any n W (by unfold maxLen; omega)
  clear h hn hnm hnc
  go_enter Try.func27, Try.ntmps27
  go_wp2_with fail
  (with_reducible refine (HCN.out _).mono ?_)
  rintro e w1 ⟨S1, o1, rfl, hs1, h1, h2, b1⟩
  have HA1 : Hid (Ans (cnt n) S1 o1) := ⟨h1, h2⟩
  have HB1 := Lib.hid b1
  clear h1 h2 b1
  go_wp2
  go_loopw [4, 5, 18, 34] (fun s o i _ wr => ∃ (k : Nat) (S : ByteArray) (b : Bool), s = .string S ∧ o = .bool b ∧ i = .int .i64 k ∧ k ≤ n ∧ S.size ≤ 6 + k * 4006 ∧ Hid (Ans (cd.app (cnt n) (cd.each cd.txt (l.take k))) S b) ∧ Below w1.heap.size w1 wr) (fun _ _ i _ _ => n - (intOf i).toNat)
  case atStart => exact ⟨0, S1, o1, rfl, rfl, rfl, by omega, by omega, HA1.out.to (app_zero cd.txt l _).symm, Below.refl _ _⟩
  case round =>
    obtain ⟨k, S, o, rfl, rfl, rfl, hk, hsS, HA, hbl⟩ := hrel
    by_cases hlt : k < n
    · have hkI : (k : Int) < (n : Int) := by omega
      obtain ⟨bb, off, c, rfl, hbB, hcl, hR, hcell⟩ := (HL.out.next strR_steady (HB1.out.trans (hbl.mono HB1.out.size))).get HN.out hlt (.empty)
      have HST := Lib.hid (app_step cd.txt l (.empty) k (by rw [← HN.out]; exact hlt) (cnt n))
      obtain ⟨y, hd⟩ : ∃ x, x = l.getD k .empty := ⟨_, rfl⟩
      rw [← hd] at hR HST
      obtain ⟨rfl, hym⟩ := hR
      have s0 : wr.cell? ⟨bb, off + k, none⟩ = some (.string y) := by simpa using hcell 0 _ rfl
      have HPz := Lib.hid (fun W : World => rtext_ans y W hym)
      have HBZ := Lib.hid hbl
      clear hcell hcl hbB hd hbl hym
      go_wp2_with fail
      (with_reducible refine (HPz.out _).mono ?_)
      rintro e w2 ⟨X, x, rfl, hsX, h1, h2, b2⟩
      have HX : Hid (Ans (cd.txt y) X x) := ⟨h1, h2⟩
      have hbx := HBZ.out.trans (b2.mono HBZ.out.size)
      clear h1 h2 b2 s0
      have HA2 := Lib.hid ((HA.out.add HX.out).to HST.out)
      have hsum : ¬ 9223372036854775807 < S.size + X.size := by omega
      cases o with
      | true =>
        go_wp2
        go_roundw
        case rel => exact ⟨k + 1, S ++ X, x, rfl, rfl, by go_num, by omega, by rw [ByteArray.size_append]; omega, HA2.out, hbx⟩
        case measure => simp [intOf]; omega
      | false =>
        go_wp2
        go_roundw
        case rel => exact ⟨k + 1, S ++ X, false, rfl, rfl, by go_num, by omega, by rw [ByteArray.size_append]; omega, HA2.out, hbx⟩
        case measure => simp [intOf]; omega
    · have HF : Hid (Ans (cd.lst cd.txt l) S o) := by
        have := HA.out
        rw [List.take_of_length_le (by rw [← HN.out]; omega), lst_cnt cd.txt l n HN.out] at this
        exact this
      clear HA
      go_wp2
      go_ret2
      exact HF.out.ret (by omega) (HB1.out.trans (hbl.mono HB1.out.size))
set_option maxHeartbeats 3200000 in
set_option maxRecDepth 100000 in
theorem rctx_any (v c : List cd.D) (a1 : Option Addr) (n1 c1 : Nat) (a2 : Option Addr) (n2 c2 : Nat) (w : World) (h1 : RowsAt 2 dotR w w.heap.size (.slice a1 n1 c1) v) (h2 : RowsAt 2 dotR w w.heap.size (.slice a2 n2 c2) c) (l1 : v.length ≤ 1048576) (l2 : c.length ≤ 1048576) :
    Calls Try.prog 25 #[.agg #[.slice a1 n1 c1, .slice a2 n2 c2]] w (RAns (cd.ctx v c) 26000000 w) := by
  obtain ⟨W1, hW1⟩ : ∃ W, W = w.alloc (.cells #[.slice a1 n1 c1, .slice a2 n2 c2] 25) := ⟨_, rfl⟩
  have b1 : Below w.heap.size w W1 := by rw [hW1]; exact below1
  have x1 : W1.heap[w.heap.size]? = some (.cells #[.slice a1 n1 c1, .slice a2 n2 c2] 25) := by rw [hW1]; exact heap_alloc_new w _
  have HD1 := Lib.hid (rdots_any v _ W1 (h1.next dotR_steady b1) l1)
  have HD2 : Hid (∀ W, Below w.heap.size w W → Calls Try.prog 51 #[.slice a2 n2 c2] W (RAns (cd.lst cd.dot c) 13000000 W)) := fun W hW => rdots_any c _ W (h2.next dotR_steady hW) l2
  have HW1 := Lib.hid hW1
  have HB1 := Lib.hid b1
  have X1 := Lib.hid x1
  clear hW1 b1 x1 h1 h2 l1 l2
  go_enter Try.func25, Try.ntmps25
  go_wp2_with fail
  rw [← HW1.out]
  (with_reducible refine HD1.out.mono ?_)
  rintro e w2 ⟨S1, o1, rfl, hs1, g1, g2, b2⟩
  have HA1 : Hid (Ans (cd.lst cd.dot v) S1 o1) := ⟨g1, g2⟩
  have HB2 := Lib.hid (HB1.out.trans (b2.mono HB1.out.size))
  have q1 := boxc ((b2.block _ (lt_of_block X1.out)).trans X1.out) 1 _ rfl
  clear g1 g2 b2
  go_wp2_with fail
  (with_reducible refine (HD2.out _ HB2.out).mono ?_)
  rintro e w3 ⟨S2, o2, rfl, hs2, g1, g2, b3⟩
  have HA2 : Hid (Ans (cd.lst cd.dot c) S2 o2) := ⟨g1, g2⟩
  have HB3 := Lib.hid (HB2.out.trans (b3.mono HB2.out.size))
  have HF := Lib.hid (HA1.out.add HA2.out)
  have hsum : ¬ 9223372036854775807 < S1.size + S2.size := by omega
  clear g1 g2 b3 q1
  cases o1 with
  | true =>
    go_wp2
    go_ret2
    exact Ans.ret HF.out (by rw [ByteArray.size_append]; omega) HB3.out
  | false =>
    go_wp2
    go_ret2
    exact Ans.ret HF.out (by rw [ByteArray.size_append]; omega) HB3.out
end Go.Proofs.Ytghbkieflifegaa
