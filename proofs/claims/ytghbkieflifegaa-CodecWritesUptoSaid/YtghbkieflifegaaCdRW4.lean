/- codec: the document's writer: changes, messages. -/
import Derived.Test.YtghbkieflifegaaCdRW3
namespace Go.Proofs.Ytghbkieflifegaa
open Go Go.RowKit Go.ChangeShapes cl
set_option maxHeartbeats 6400000 in
set_option maxRecDepth 100000 in
theorem rchange_any (l : List cd.Ent) (al dv dc : List cd.D) (eo : Option Addr) (en ec : Nat) (ao : Option Addr) (an ac : Nat) (p1 : Option Addr) (n1 c1 : Nat) (p2 : Option Addr) (n2 c2 : Nat) (w : World) (h : RowsAt 5 entR w w.heap.size (.slice eo en ec) l) (hl : l.length ≤ 1048576) (hw : ∀ a ∈ l, a.l.length ≤ 1048576)
    (ha : RowsAt 2 dotR w w.heap.size (.slice ao an ac) al) (hal : al.length ≤ 1048576) (h1 : RowsAt 2 dotR w w.heap.size (.slice p1 n1 c1) dv) (l1 : dv.length ≤ 1048576) (h2 : RowsAt 2 dotR w w.heap.size (.slice p2 n2 c2) dc) (l2 : dc.length ≤ 1048576) :
    Calls Try.prog 24 #[.agg #[.slice eo en ec, .slice ao an ac, .slice p1 n1 c1, .slice p2 n2 c2]] w (RAns (cd.del l al dv dc) 30000000000000 w) := by
  obtain ⟨_, _, he, hnc, hnm⟩ := h.form
  simp only [Value.slice.injEq] at he
  have hn : en = l.length := he.2.1
  obtain ⟨W1, hW1⟩ : ∃ W, W = w.alloc (.cells #[.slice eo en ec, .slice ao an ac, .slice p1 n1 c1, .slice p2 n2 c2] 27) := ⟨_, rfl⟩
  have b1 : Below w.heap.size w W1 := by rw [hW1]; exact below1
  have x1 : W1.heap[w.heap.size]? = some (.cells #[.slice eo en ec, .slice ao an ac, .slice p1 n1 c1, .slice p2 n2 c2] 27) := by rw [hW1]; exact heap_alloc_new w _
  have HL := Lib.hid h
  have HN := Lib.hid hn
  have HFW := Lib.hid hw
  have HCN : Hid (∀ W : World, Calls Try.prog 49 #[.int .i64 (en : Int)] W (RAns (cnt en) 6 W)) := fun W => count_any en W (by unfold maxLen; omega)
  have HDA : Hid (∀ W, Below w.heap.size w W → Calls Try.prog 51 #[.slice ao an ac] W (RAns (cd.lst cd.dot al) 13000000 W)) := fun W hW => rdots_any al _ W (ha.next dotR_steady hW) hal
  have HDC : Hid (∀ W, Below w.heap.size w W → Calls Try.prog 25 #[.agg #[.slice p1 n1 c1, .slice p2 n2 c2]] W (RAns (cd.ctx dv dc) 26000000 W)) := fun W hW => rctx_any dv dc p1 n1 c1 p2 n2 c2 W (h1.next dotR_steady hW) (h2.next dotR_steady hW) l1 l2
  have HW1 := Lib.hid hW1
  have HB1 := Lib.hid b1
  have X : Hid (∀ W, Below W1.heap.size W1 W → W.heap[w.heap.size]? = some (.cells #[.slice eo en ec, .slice ao an ac, .slice p1 n1 c1, .slice p2 n2 c2] 27)) := fun W hW => (hW.block _ (lt_of_block x1)).trans x1
  have hln : en ≤ 1048576 := by omega
  clear hW1 b1 x1 h hn he hnc hnm hl hw ha hal h1 l1 h2 l2
  go_enter Try.func24, Try.ntmps24
  go_wp2_with fail
  rw [← HW1.out]
  (with_reducible refine (HCN.out _).mono ?_)
  rintro e w5 ⟨S3, o3, rfl, hs3, g1, g2, b5⟩
  have HA3 : Hid (Ans (cnt en) S3 o3) := ⟨g1, g2⟩
  have C5 := Lib.hid b5
  have HB5 := Lib.hid (HB1.out.trans (C5.out.mono HB1.out.size))
  have q0 := boxc (X.out w5 C5.out) 0 _ rfl
  clear g1 g2 b5
  go_wp2
  clear q0
  go_loopw [4, 5, 24, 40] (fun s o i _ wr => ∃ (k : Nat) (S : ByteArray) (b : Bool), s = .string S ∧ o = .bool b ∧ i = .int .i64 k ∧ k ≤ en ∧ S.size ≤ 6 + k * 20000000 ∧ Hid (Ans (cd.app (cnt en) (cd.each cd.ent (l.take k))) S b) ∧ Below w5.heap.size w5 wr) (fun _ _ i _ _ => en - (intOf i).toNat)
  case atStart => exact ⟨0, S3, o3, rfl, rfl, rfl, by omega, by omega, HA3.out.to (app_zero cd.ent l _).symm, Below.refl _ _⟩
  case round =>
    obtain ⟨k, S, o, rfl, rfl, rfl, hk, hsS, HA, hbl⟩ := hrel
    by_cases hlt : k < en
    · have hkI : (k : Int) < (en : Int) := by omega
      obtain ⟨bb, off, c, rfl, hbB, hcl, hR, hcell⟩ := (HL.out.next entR_steady (HB5.out.trans (hbl.mono HB5.out.size))).get HN.out hlt (default)
      have HST := Lib.hid (app_step cd.ent l (default) k (by rw [← HN.out]; exact hlt) (cnt en))
      obtain ⟨xx, hd⟩ : ∃ x, x = l.getD k default := ⟨_, rfl⟩
      have hxl : xx.l.length ≤ 1048576 := by
        rw [hd, List.getD_eq_getElem?_getD, List.getElem?_eq_getElem (by rw [← HN.out]; exact hlt)]
        exact HFW.out _ (List.getElem_mem _)
      rw [← hd] at hR HST
      obtain ⟨xs, ⟨xa, xb⟩, xt, xl⟩ := xx
      obtain ⟨lo, ln, lc, rfl, hxs, hxr⟩ := hR
      simp only at hcell hxs hxr hxl HST
      have s0 : wr.cell? ⟨bb, off + k * 5, none⟩ = _ := hcell 0 _ rfl
      have s1 := hcell 1 _ rfl
      have s2 := hcell 2 _ rfl
      have s3 := hcell 3 _ rfl
      have s4 := hcell 4 _ rfl
      obtain ⟨W2, hW2⟩ : ∃ W, W = wr.alloc (.cells #[.string xs, .int .i64 xa, .int .i64 xb, .int .i64 xt, .slice lo ln lc] 50) := ⟨_, rfl⟩
      have bz : Below wr.heap.size wr W2 := by rw [hW2]; exact below1
      have HPz := Lib.hid (rent_any xs xa xb xt xl lo ln lc W2 hxs (hxr.next lnkR_steady bz) hxl)
      have HBZ := Lib.hid (hbl.trans (bz.mono hbl.size))
      have HW2 := Lib.hid hW2
      clear hcell hcl hbB hd bz hW2 hbl hxs hxr hxl
      go_wp2_with fail
      rw [← HW2.out]
      (with_reducible refine HPz.out.mono ?_)
      rintro e w2 ⟨X, x, rfl, hsX, h1, h2, b2⟩
      have HX : Hid (Ans (cd.ent ⟨xs, (xa, xb), xt, xl⟩) X x) := ⟨h1, h2⟩
      have hbx := HBZ.out.trans (b2.mono HBZ.out.size)
      clear h1 h2 b2 s0 s1 s2 s3 s4
      have HA2 := Lib.hid ((HA.out.add HX.out).to HST.out)
      have hsum : ¬ 9223372036854775807 < S.size + X.size := by omega
      cases o with
      | true =>
        go_wp2
        go_roundw
        case rel => exact ⟨k + 1, S ++ X, x, rfl, rfl, by go_num, by omega, by rw [ByteArray.size_append]; omega, HA2.out, hbx⟩
        case measure => simp [intOf]; omega
      | false =>
        go_wp2
        go_roundw
        case rel => exact ⟨k + 1, S ++ X, false, rfl, rfl, by go_num, by omega, by rw [ByteArray.size_append]; omega, HA2.out, hbx⟩
        case measure => simp [intOf]; omega
    · have HF : Hid (Ans (cd.lst cd.ent l) S o) := by
        have := HA.out
        rwa [List.take_of_length_le (by rw [← HN.out]; omega), lst_cnt cd.ent l en HN.out] at this
      have HBQ := Lib.hid (HB5.out.trans (hbl.mono HB5.out.size))
      have C6 := Lib.hid (C5.out.trans (hbl.mono C5.out.size))
      have q1 := boxc (X.out _ C6.out) 1 _ rfl
      have hsS' : S.size ≤ 25000000000000 := by
        have : k * 20000000 ≤ 1048576 * 20000000 := Nat.mul_le_mul_right _ (by omega)
        omega
      clear HA hbl hsS
      go_wp2_with fail
      clear q1 hlt
      (with_reducible refine (HDA.out _ HBQ.out).mono ?_)
      rintro e w7 ⟨S1, o1, rfl, hs1, g1, g2, b7⟩
      have HA1 : Hid (Ans (cd.lst cd.dot al) S1 o1) := ⟨g1, g2⟩
      have HB7 := Lib.hid (HBQ.out.trans (b7.mono HBQ.out.size))
      have C7 := Lib.hid (C6.out.trans (b7.mono C6.out.size))
      have q2 := boxc (X.out _ C7.out) 2 _ rfl
      have q3 := boxc (X.out _ C7.out) 3 _ rfl
      clear g1 g2 b7
      go_wp2_with fail
      clear q2 q3
      (with_reducible refine (HDC.out _ HB7.out).mono ?_)
      rintro e w8 ⟨S2, o2, rfl, hs2, g1, g2, b8⟩
      have HB8 := Lib.hid (HB7.out.trans (b8.mono HB7.out.size))
      have HG : Hid (Ans (cd.del l al dv dc) (S ++ S1 ++ S2) (o && o1 && o2)) := by
        refine ((HF.out.add HA1.out).add (t := _) (u := cd.ctx dv dc) ⟨g1, g2⟩).to ?_
        simp only [cd.app_assoc]
        rfl
      have z1 : ¬ 9223372036854775807 < S.size + S1.size := by omega
      have z2 : ¬ 9223372036854775807 < S.size + S1.size + S2.size := by omega
      have z3 : ¬ 9223372036854775807 < (S ++ S1).size + S2.size := by rw [ByteArray.size_append]; omega
      have HSZ : Hid ((S ++ S1 ++ S2).size ≤ 30000000000000) := by show _ ≤ _; rw [ByteArray.size_append, ByteArray.size_append]; omega
      clear g1 g2 b8
      cases o
      · go_wp2
        go_ret2
        exact Ans.ret HG.out HSZ.out HB8.out
      cases o1
      · go_wp2
        go_ret2
        exact Ans.ret HG.out HSZ.out HB8.out
      go_wp2
      go_ret2
      exact Ans.ret HG.out HSZ.out HB8.out
end Go.Proofs.Ytghbkieflifegaa
