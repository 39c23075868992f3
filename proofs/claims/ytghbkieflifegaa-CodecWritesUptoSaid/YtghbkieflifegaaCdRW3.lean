/- codec: the document's writer: entries, changes. -/
import Derived.Test.YtghbkieflifegaaCdRW2
namespace Go.Proofs.Ytghbkieflifegaa
open Go Go.RowKit Go.ChangeShapes cl
set_option maxHeartbeats 6400000 in
set_option maxRecDepth 100000 in
theorem rent_any (s : ByteArray) (d1 d2 t : Int) (l : List cd.Lk) (lo : Option Addr) (ln lc : Nat) (w : World) (hs : s.size ≤ maxLen) (h : RowsAt 3 lnkR w w.heap.size (.slice lo ln lc) l) (hl : l.length ≤ 1048576) :
    Calls Try.prog 50 #[.agg #[.string s, .int .i64 d1, .int .i64 d2, .int .i64 t, .slice lo ln lc]] w (RAns (cd.ent ⟨s, (d1, d2), t, l⟩) 20000000 w) := by
  obtain ⟨_, _, he, hnc, hnm⟩ := h.form
  simp only [Value.slice.injEq] at he
  have hn : ln = l.length := he.2.1
  obtain ⟨W1, hW1⟩ : ∃ W, W = w.alloc (.cells #[.string s, .int .i64 d1, .int .i64 d2, .int .i64 t, .slice lo ln lc] 50) := ⟨_, rfl⟩
  have b1 : Below w.heap.size w W1 := by rw [hW1]; exact below1
  have x1 : W1.heap[w.heap.size]? = some (.cells #[.string s, .int .i64 d1, .int .i64 d2, .int .i64 t, .slice lo ln lc] 50) := by rw [hW1]; exact heap_alloc_new w _
  have HTX := Lib.hid (rtext_ans s W1 hs)
  have HL := Lib.hid h
  have HN := Lib.hid hn
  have HCN : Hid (∀ W : World, Calls Try.prog 49 #[.int .i64 (ln : Int)] W (RAns (cnt ln) 6 W)) := fun W => count_any ln W (by unfold maxLen; omega)
  have HW1 := Lib.hid hW1
  have HB1 := Lib.hid b1
  have X : Hid (∀ W, Below W1.heap.size W1 W → W.heap[w.heap.size]? = some (.cells #[.string s, .int .i64 d1, .int .i64 d2, .int .i64 t, .slice lo ln lc] 50)) := fun W hW => (hW.block _ (lt_of_block x1)).trans x1
  have hln : ln ≤ 1048576 := by omega
  have HEN := Lib.hid (ent_num (d1, d2) t)
  clear hW1 b1 x1 h hn he hnc hnm hs hl
  go_enter Try.func50, Try.ntmps50
  go_wp2_with fail
  rw [← HW1.out]
  (with_reducible refine HTX.out.mono ?_)
  rintro e w2 ⟨S1, o1, rfl, hs1, g1, g2, b2⟩
  have HA1 : Hid (Ans (cd.txt s) S1 o1) := ⟨g1, g2⟩
  have C2 := Lib.hid b2
  have x2 := X.out w2 b2
  have q1 := boxc x2 1 _ rfl
  have q2 := boxc x2 2 _ rfl
  have q3 := boxc x2 3 _ rfl
  obtain ⟨W3, hW3⟩ : ∃ W, W = w2.alloc (.cells #[.int .i64 d1, .int .i64 d2, .int .i64 t] 3) := ⟨_, rfl⟩
  have zx : W3.heap[w2.heap.size]? = some (.cells #[.int .i64 d1, .int .i64 d2, .int .i64 t] 3) := by rw [hW3]; exact heap_alloc_new w2 _
  have b3 : Below w2.heap.size w2 W3 := by rw [hW3]; exact below1
  have C3 := Lib.hid (b2.trans (b3.mono b2.size))
  have HPz := Lib.hid (rnumbers_any [d1, d2, t] (w2.heap.size) 3 W3 rfl (by omega) (lt_of_block zx) (fun j hj => by
    rcases (by omega : j = 0 ∨ j = 1 ∨ j = 2) with rfl | rfl | rfl
    · exact boxc zx 0 _ rfl
    · exact boxc zx 1 _ rfl
    · exact boxc zx 2 _ rfl))
  have HW3 := Lib.hid hW3
  clear g1 g2 b2 x2 zx b3 hW3
  go_wp2_with fail
  rw [← HW3.out]
  clear q1 q2 q3
  (with_reducible refine HPz.out.mono ?_)
  rintro e w4 ⟨S2, o2, rfl, hs2, g1, g2, b4⟩
  have HA2 : Hid (Ans (cd.app (cd.dot (d1, d2)) (cd.each cd.num [t])) S2 o2) := Ans.to (t := cd.each cd.num [d1, d2, t]) ⟨g1, g2⟩ HEN.out
  have C4 := Lib.hid (C3.out.trans (b4.mono C3.out.size))
  have q4 := boxc (X.out w4 C4.out) 4 _ rfl
  clear g1 g2 b4
  go_wp2_with fail
  clear q4
  (with_reducible refine (HCN.out _).mono ?_)
  rintro e w5 ⟨S3, o3, rfl, hs3, g1, g2, b5⟩
  have HA3 : Hid (Ans (cnt ln) S3 o3) := ⟨g1, g2⟩
  have C5 := Lib.hid (C4.out.trans (b5.mono C4.out.size))
  have HB5 := Lib.hid (HB1.out.trans (C5.out.mono HB1.out.size))
  have q4 := boxc (X.out w5 C5.out) 4 _ rfl
  clear g1 g2 b5
  go_wp2
  clear q4
  go_loopw [8, 9, 43, 67] (fun s o i _ wr => ∃ (k : Nat) (S : ByteArray) (b : Bool), s = .string S ∧ o = .bool b ∧ i = .int .i64 k ∧ k ≤ ln ∧ S.size ≤ 6 + k * 18 ∧ Hid (Ans (cd.app (cnt ln) (cd.each cd.lnk (l.take k))) S b) ∧ Below w5.heap.size w5 wr) (fun _ _ i _ _ => ln - (intOf i).toNat)
  case atStart => exact ⟨0, S3, o3, rfl, rfl, rfl, by omega, by omega, HA3.out.to (app_zero cd.lnk l _).symm, Below.refl _ _⟩
  case round =>
    obtain ⟨k, S, o, rfl, rfl, rfl, hk, hsS, HA, hbl⟩ := hrel
    by_cases hlt : k < ln
    · have hkI : (k : Int) < (ln : Int) := by omega
      obtain ⟨bb, off, c, rfl, hbB, hcl, hR, hcell⟩ := (HL.out.next lnkR_steady (HB5.out.trans (hbl.mono HB5.out.size))).get HN.out hlt (((0, 0, 0) : cd.Lk))
      have HST := Lib.hid (app_step cd.lnk l (((0, 0, 0) : cd.Lk)) k (by rw [← HN.out]; exact hlt) (cnt ln))
      obtain ⟨⟨ga, gb, gc⟩, hd⟩ : ∃ x, x = l.getD k (0, 0, 0) := ⟨_, rfl⟩
      rw [← hd] at hR HST
      have hR : c = [.int .i64 ga, .int .i64 gb, .int .i64 gc] := hR
      subst hR
      have s0 : wr.cell? ⟨bb, off + k * 3, none⟩ = _ := hcell 0 _ rfl
      have s1 := hcell 1 _ rfl
      have s2 := hcell 2 _ rfl
      obtain ⟨W2, hW2⟩ : ∃ W, W = (wr.alloc (.cells #[.int .i64 ga, .int .i64 gb, .int .i64 gc] 91)).alloc (.cells #[.int .i64 ga, .int .i64 gb, .int .i64 gc] 3) := ⟨_, rfl⟩
      have zx : W2.heap[wr.heap.size + 1]? = some (.cells #[.int .i64 ga, .int .i64 gb, .int .i64 gc] 3) := by
        have := heap_alloc_new (wr.alloc (.cells #[.int .i64 ga, .int .i64 gb, .int .i64 gc] 91)) (.cells #[.int .i64 ga, .int .i64 gb, .int .i64 gc] 3)
        rw [World.size_alloc] at this
        rw [hW2]; exact this
      have bz : Below wr.heap.size wr W2 := by rw [hW2]; exact (below1 (w := wr)).trans (below1.mono (by simp))
      have HPz := Lib.hid (rnumbers_any [ga, gb, gc] (wr.heap.size + 1) 3 W2 rfl (by omega) (lt_of_block zx) (fun j hj => by
        rcases (by omega : j = 0 ∨ j = 1 ∨ j = 2) with rfl | rfl | rfl
        · exact boxc zx 0 _ rfl
        · exact boxc zx 1 _ rfl
        · exact boxc zx 2 _ rfl))
      have HBZ := Lib.hid (hbl.trans (bz.mono hbl.size))
      have HW2 := Lib.hid hW2
      clear hcell hcl hbB hd zx bz hW2 hbl
      go_wp2_with fail
      rw [← HW2.out]
      (with_reducible refine HPz.out.mono ?_)
      rintro e w2 ⟨X, x, rfl, hsX, h1, h2, b2⟩
      have HX : Hid (Ans (cd.lnk (ga, gb, gc)) X x) := Ans.to (t := cd.each cd.num [ga, gb, gc]) ⟨h1, h2⟩ (lnk_num (ga, gb, gc))
      have hbx := HBZ.out.trans (b2.mono HBZ.out.size)
      clear h1 h2 b2 s0 s1 s2
      have HA2 := Lib.hid ((HA.out.add HX.out).to HST.out)
      have hsum : ¬ 9223372036854775807 < S.size + X.size := by omega
      cases o with
      | true =>
        go_wp2
        go_roundw
        case rel => exact ⟨k + 1, S ++ X, x, rfl, rfl, by go_num, by omega, by rw [ByteArray.size_append]; omega, HA2.out, hbx⟩
        case measure => simp [intOf]; omega
      | false =>
        go_wp2
        go_roundw
        case rel => exact ⟨k + 1, S ++ X, false, rfl, rfl, by go_num, by omega, by rw [ByteArray.size_append]; omega, HA2.out, hbx⟩
        case measure => simp [intOf]; omega
    · have HF : Hid (Ans (cd.ent ⟨s, (d1, d2), t, l⟩) (S1 ++ S2 ++ S) (o1 && o2 && o)) := by
        have := HA.out
        rw [List.take_of_length_le (by rw [← HN.out]; omega), lst_cnt cd.lnk l ln HN.out] at this
        refine ((HA1.out.add HA2.out).add this).to ?_
        simp only [cd.app_assoc]
        rfl
      have z1 : ¬ 9223372036854775807 < S1.size + S2.size := by omega
      have z2 : ¬ 9223372036854775807 < S1.size + S2.size + S.size := by omega
      have z3 : ¬ 9223372036854775807 < (S1 ++ S2).size + S.size := by rw [ByteArray.size_append]; omega
      have HSZ : Hid ((S1 ++ S2 ++ S).size ≤ 20000000) := by show _ ≤ _; rw [ByteArray.size_append, ByteArray.size_append]; omega
      have hbq := Lib.hid (HB5.out.trans (hbl.mono HB5.out.size))
      clear HA
      cases o1
      · go_wp2
        go_ret2
        exact Ans.ret HF.out HSZ.out hbq.out
      cases o2
      · go_wp2
        go_ret2
        exact Ans.ret HF.out HSZ.out hbq.out
      go_wp2
      go_ret2
      exact Ans.ret HF.out HSZ.out hbq.out
end Go.Proofs.Ytghbkieflifegaa
