/- net: the document's own: a message with lists of its own. -/
import Derived.Test.YtpgccfgldjeomaaNtAp0
namespace Go.Proofs.Ytpgccfgldjeomaa
open Go Go.RowKit Go.ChangeShapes cl
theorem app1gB {P : Program} {w : World} {ops : Array Oper} {rest : List Oper} {o : Oper} {a : Act} {Q : Exit → Act → World → Prop} {cs : Array Value} {e' : TypeId} (B : Nat) (hB : B = w.heap.size)
    (s x : Operand) (t : TypeId) (hgd : o.guard = none)
    (ho : o.op = .call { callee := .builtin .append, args := #[s, x], argTypes := #[t, t] })
    (base : Nat) {e : TypeId} {z : Value} {size bytes : Nat} (ht : P.underlying t = some (.slice e)) (hi : (P.info? e).map (fun i => (i.zero, i.size, i.bytes)) = some (some z, size, bytes))
    (hzs : z.cells.size = size) (hsz : 0 < size) (hb1 : 0 < bytes)
    {v : Value} {n : Nat} {xs : List Value} {c : Nat} (hown : w.ownsRow base e size v n xs) (hs : a.eval s = v) (hx : a.eval x = .slice (some ⟨B, 0, none⟩) 1 c)
    (hcs : cs.size = size) (h1 : ∀ u ∈ cs.toList, u.oneCell' = true) (hbytes : (n + 1) * bytes ≤ 140737488355328) (hbase : base ≤ w.heap.size)
    (h : ∀ v' w', w'.ownsRow base e size v' (n + 1) (xs ++ cs.toList) → (w.alloc (.cells cs e')).grownBy w' v.ownBlock → wpList P ops Q rest (a.put o.dst v') w') :
    wpList P ops Q (o :: rest) a (w.alloc (.cells cs e')) := by
  subst hB
  exact app1g s x t hgd ho base ht hi hzs hsz hb1 hown hs hx hcs h1 hbytes hbase h
set_option maxHeartbeats 25600000 in
set_option maxRecDepth 100000 in
theorem rown_any (m : cd.Msg) (c : List Value) (w : World) (h : msgRel w w.heap.size c m) (hsm : Small 1048576 m) :
    Calls Try.prog 27 #[.agg c.toArray] w (fun e w' => ∃ c', e = .returned (.agg (List.toArray c')) ∧ MsgF w.heap.size w' c' m ∧ Below w.heap.size w w') := by
  have HSM := Lib.hid hsm
  obtain ⟨ae, ne, ce, aa, na, ca, p1, n1, c1, p2, n2, c2, p3, n3, c3, p4, n4, c4, sa, sn, sc, rfl, he, ha, hdv, hdc, hv, hc, hmn, hmv, hs⟩ := h
  obtain ⟨W2, hW2⟩ : ∃ W, W = (w.alloc (.cells #[.int .i64 m.k, .int .i64 m.f, .int .i64 m.to, .int .i64 m.g, .int .i64 m.n, .slice ae ne ce, .slice aa na ca, .slice p1 n1 c1, .slice p2 n2 c2, .slice p3 n3 c3, .slice p4 n4 c4, .int .i64 m.ki, .string m.mn, .string m.mv, .slice sa sn sc, .int .i64 m.er] 34)).alloc (.cells #[.int .i64 0, .int .i64 0, .int .i64 0, .int .i64 0, .int .i64 0, .slice none 0 0, .slice none 0 0, .slice none 0 0, .slice none 0 0, .slice none 0 0, .slice none 0 0, .int .i64 0, .string ⟨#[]⟩, .string ⟨#[]⟩, .slice none 0 0, .int .i64 0] 34) := ⟨_, rfl⟩
  obtain ⟨q0, hq0⟩ : ∃ x, x = w.heap.size := ⟨_, rfl⟩
  obtain ⟨q1, hq1⟩ : ∃ x, x = q0 + 1 := ⟨_, rfl⟩
  have e1 : Below w.heap.size w (w.alloc (.cells #[.int .i64 m.k, .int .i64 m.f, .int .i64 m.to, .int .i64 m.g, .int .i64 m.n, .slice ae ne ce, .slice aa na ca, .slice p1 n1 c1, .slice p2 n2 c2, .slice p3 n3 c3, .slice p4 n4 c4, .int .i64 m.ki, .string m.mn, .string m.mv, .slice sa sn sc, .int .i64 m.er] 34)) := below1
  have e2 : Below (w.alloc (.cells #[.int .i64 m.k, .int .i64 m.f, .int .i64 m.to, .int .i64 m.g, .int .i64 m.n, .slice ae ne ce, .slice aa na ca, .slice p1 n1 c1, .slice p2 n2 c2, .slice p3 n3 c3, .slice p4 n4 c4, .int .i64 m.ki, .string m.mn, .string m.mv, .slice sa sn sc, .int .i64 m.er] 34)).heap.size (w.alloc (.cells #[.int .i64 m.k, .int .i64 m.f, .int .i64 m.to, .int .i64 m.g, .int .i64 m.n, .slice ae ne ce, .slice aa na ca, .slice p1 n1 c1, .slice p2 n2 c2, .slice p3 n3 c3, .slice p4 n4 c4, .int .i64 m.ki, .string m.mn, .string m.mv, .slice sa sn sc, .int .i64 m.er] 34)) W2 := by rw [hW2]; exact below1
  have b2 : Below w.heap.size w W2 := e1.trans (e2.mono e1.size)
  have x1 : W2.heap[q0]? = some (.cells #[.int .i64 m.k, .int .i64 m.f, .int .i64 m.to, .int .i64 m.g, .int .i64 m.n, .slice ae ne ce, .slice aa na ca, .slice p1 n1 c1, .slice p2 n2 c2, .slice p3 n3 c3, .slice p4 n4 c4, .int .i64 m.ki, .string m.mn, .string m.mv, .slice sa sn sc, .int .i64 m.er] 34) := by rw [hq0]; exact (e2.block _ (by simp)).trans (heap_alloc_new w _)
  have x2 : W2.heap[q1]? = some (.cells #[.int .i64 0, .int .i64 0, .int .i64 0, .int .i64 0, .int .i64 0, .slice none 0 0, .slice none 0 0, .slice none 0 0, .slice none 0 0, .slice none 0 0, .slice none 0 0, .int .i64 0, .string ⟨#[]⟩, .string ⟨#[]⟩, .slice none 0 0, .int .i64 0] 34) := by
    have := heap_alloc_new (w.alloc (.cells #[.int .i64 m.k, .int .i64 m.f, .int .i64 m.to, .int .i64 m.g, .int .i64 m.n, .slice ae ne ce, .slice aa na ca, .slice p1 n1 c1, .slice p2 n2 c2, .slice p3 n3 c3, .slice p4 n4 c4, .int .i64 m.ki, .string m.mn, .string m.mv, .slice sa sn sc, .int .i64 m.er] 34)) (.cells #[.int .i64 0, .int .i64 0, .int .i64 0, .int .i64 0, .int .i64 0, .slice none 0 0, .slice none 0 0, .slice none 0 0, .slice none 0 0, .slice none 0 0, .slice none 0 0, .int .i64 0, .string ⟨#[]⟩, .string ⟨#[]⟩, .slice none 0 0, .int .i64 0] 34)
    rw [World.size_alloc] at this
    rw [hW2, hq1, hq0]; exact this
  have HQ0 := Lib.hid hq0
  have HQ1 := Lib.hid hq1
  have HR : Hid (∀ W, Below w.heap.size w W → RowsAt 5 entR W W.heap.size (.slice ae ne ce) m.e ∧ RowsAt 2 dotR W W.heap.size (.slice aa na ca) m.al ∧ RowsAt 2 dotR W W.heap.size (.slice p1 n1 c1) m.dv ∧ RowsAt 2 dotR W W.heap.size (.slice p2 n2 c2) m.dc ∧ RowsAt 2 dotR W W.heap.size (.slice p3 n3 c3) m.v ∧ RowsAt 2 dotR W W.heap.size (.slice p4 n4 c4) m.c ∧ RowsAt 1 strR W W.heap.size (.slice sa sn sc) m.s) :=
    fun W hW => ⟨he.next entR_steady hW, ha.next dotR_steady hW, hdv.next dotR_steady hW, hdc.next dotR_steady hW, hv.next dotR_steady hW, hc.next dotR_steady hW, hs.next strR_steady hW⟩
  have HMX : Hid (m.mn.size ≤ maxLen ∧ m.mv.size ≤ maxLen) := ⟨hmn, hmv⟩
  have HNE : Hid (ne = m.e.length) := (RowsAt.raw he).1
  have hne : ne ≤ 1048576 := by rw [HNE.out]; exact hsm.1
  have HB2 := Lib.hid b2
  have X1 : Hid (∀ W, Below W2.heap.size W2 W → W.heap[q0]? = some (.cells #[.int .i64 m.k, .int .i64 m.f, .int .i64 m.to, .int .i64 m.g, .int .i64 m.n, .slice ae ne ce, .slice aa na ca, .slice p1 n1 c1, .slice p2 n2 c2, .slice p3 n3 c3, .slice p4 n4 c4, .int .i64 m.ki, .string m.mn, .string m.mv, .slice sa sn sc, .int .i64 m.er] 34) ∧ W.heap[q1]? = some (.cells #[.int .i64 0, .int .i64 0, .int .i64 0, .int .i64 0, .int .i64 0, .slice none 0 0, .slice none 0 0, .slice none 0 0, .slice none 0 0, .slice none 0 0, .slice none 0 0, .int .i64 0, .string ⟨#[]⟩, .string ⟨#[]⟩, .slice none 0 0, .int .i64 0] 34)) := fun W hW => ⟨(hW.block _ (lt_of_block x1)).trans x1, (hW.block _ (lt_of_block x2)).trans x2⟩
  have HW2 := Lib.hid hW2
  have HLT : Hid (q0 < W2.heap.size ∧ q1 < W2.heap.size) := ⟨lt_of_block x1, lt_of_block x2⟩
  clear hW2 hq0 hq1 e1 e2 b2 x1 x2 he ha hdv hdc hv hc hmn hmv hs hsm
  go_enter Try.func27, Try.ntmps27
  go_wp2
  rw [← HW2.out, ← HQ0.out, ← HQ1.out]
  go_loopw [3, 10, 23] (fun v i _ wr => ∃ (k : Nat) (o : Option Addr) (m1 c1 : Nat), v = .slice o m1 c1 ∧ i = .int .i64 k ∧ k ≤ ne ∧ Hid (RowsO W2.heap.size 78 5 entO wr (.slice o m1 c1) (m.e.take k)) ∧ Hid (Below W2.heap.size W2 wr)) (fun _ i _ _ => ne - (intOf i).toNat)
  case atStart => exact ⟨0, none, 0, 0, rfl, rfl, by omega, RowsO.nil _, Below.refl _ _⟩
  case round =>
    obtain ⟨k, o, m1, c9, rfl, rfl, hk, HO, HB⟩ := hrel
    by_cases hlt : k < ne
    · have hkI : (k : Int) < (ne : Int) := by omega
      obtain ⟨b, off, cc, rfl, hbB, hck, hR, hcell⟩ := (HR.out wr (HB2.out.trans (HB.out.mono HB2.out.size))).1.get HNE.out hlt default
      obtain ⟨x, hx⟩ : ∃ x, x = m.e.getD k default := ⟨_, rfl⟩
      have HX : Hid (m.e.take (k + 1) = m.e.take k ++ [x]) := by
        show _ = _
        rw [hx]; exact take_one m.e k default (by rw [← HNE.out]; exact hlt)
      have hxl : x.l.length ≤ 1048576 := (HSM.out.2.1 x (by
        rw [hx, List.getD_eq_getElem?_getD, List.getElem?_eq_getElem (by rw [← HNE.out]; exact hlt)]
        exact List.getElem_mem _)).2
      rw [← hx] at hR
      obtain ⟨lo, ln, lc, rfl, hsz, hlk⟩ := hR
      obtain ⟨x0, ⟨xa, xb⟩, x3, x4⟩ := x
      simp only at hxl hlk hsz hcell HX
      have c0 : wr.cell? ⟨b, off + k * 5, none⟩ = some (.string x0) := by simpa using hcell 0 _ rfl
      have c1 : wr.cell? ⟨b, off + k * 5 + 1, none⟩ = some (.int .i64 xa) := by simpa using hcell 1 _ rfl
      have c2 : wr.cell? ⟨b, off + k * 5 + 2, none⟩ = some (.int .i64 xb) := by simpa using hcell 2 _ rfl
      have c3 : wr.cell? ⟨b, off + k * 5 + 3, none⟩ = some (.int .i64 x3) := by simpa using hcell 3 _ rfl
      have c4 : wr.cell? ⟨b, off + k * 5 + 4, none⟩ = some (.slice lo ln lc) := by simpa using hcell 4 _ rfl
      obtain ⟨Wa, hWa⟩ : ∃ W, W = wr.alloc (.cells #[.string x0, .int .i64 xa, .int .i64 xb, .int .i64 x3, .slice lo ln lc] 78) := ⟨_, rfl⟩
      obtain ⟨g0, hg0⟩ : ∃ x, x = wr.heap.size := ⟨_, rfl⟩
      have ba : Below wr.heap.size wr Wa := by rw [hWa]; exact below1
      have za : Wa.heap.size = g0 + 1 := by rw [hWa, hg0]; simp
      have xa1 : Wa.heap[g0]? = some (.cells #[.string x0, .int .i64 xa, .int .i64 xb, .int .i64 x3, .slice lo ln lc] 78) := by rw [hWa, hg0]; exact heap_alloc_new wr _
      have XA := Lib.hid xa1
      have HG0 := Lib.hid hg0
      have HWa := Lib.hid hWa
      have BA := Lib.hid ba
      have ZA := Lib.hid za
      have HSZ := Lib.hid hsz
      have RL := Lib.hid (RowsAt.next lnkR_steady hlk ba)
      have kc := boxc (((below1 (w := Wa) (o := .cells #[] 95)).block _ (lt_of_block xa1)).trans xa1) 4 _ rfl
      rw [hWa, hg0] at kc
      have HXL := Lib.hid hxl
      clear hx hlk hsz hcell hxl hck hbB hWa hg0 ba za xa1
      go_wp2_with (at_builtin; rw [← HWa.out]; refine copy_lnk (.tmp 14) (.tmp 16) (wr.heap.size + 1) (by rw [ZA.out, HG0.out]) rfl rfl RL.out (by have := HXL.out; omega) rfl rfl ?_)
      intro lo2 lc2 v1 hO1 hb1
      rw [← HG0.out]
      clear kc
      have y1 := (hb1.block _ (lt_of_block XA.out)).trans XA.out
      have b1 := BA.out.trans (hb1.mono BA.out.size)
      have yc0 := boxc y1 0 _ rfl
      have yf0 := boxf y1 0
      have yc1 := boxc y1 1 _ rfl
      have yf1 := boxf y1 1
      have yc2 := boxc y1 2 _ rfl
      have yf2 := boxf y1 2
      have yc3 := boxc y1 3 _ rfl
      have yf3 := boxf y1 3
      have yc4 := boxc y1 4 _ rfl
      have yf4 := boxf y1 4
      obtain ⟨V1, hV1⟩ : ∃ W, W = v1.setCell ⟨g0, 4, none⟩ (.slice lo2 ln lc2) := ⟨_, rfl⟩
      have hzv : V1.heap.size = v1.heap.size := by rw [hV1]; exact World.size_setCell ..
      have bV : Below wr.heap.size wr V1 := by rw [hV1]; exact b1.setCell (by have := HG0.out; show wr.heap.size ≤ g0; omega) _
      have hE : entO V1 [.string x0, .int .i64 xa, .int .i64 xb, .int .i64 x3, .slice lo2 ln lc2] ⟨x0, (xa, xb), x3, x4⟩ := ⟨lo2, ln, lc2, rfl, HSZ.out, by
        rw [hV1]
        exact (hO1.kt (lnkO_pst _) (by decide) (Kt.set y1 4 (.slice lo2 ln lc2))).base⟩
      obtain ⟨cs, h0, h1, hown⟩ := RowsO.kt (entO_pst (by decide)) (by decide) HO.out (Kt.of_below (T := 9) bV)
      have hlk : (m.e.take k).length = k := by rw [List.length_take, ← HNE.out]; omega
      rw [hlk] at hown
      have hbl : Below V1.heap.size V1 (V1.alloc (.cells #[.string x0, .int .i64 xa, .int .i64 xb, .int .i64 x3, .slice lo2 ln lc2] 78)) := below1
      have hBV := HB.out.trans (bV.mono HB.out.size)
      have hz2 : W2.heap.size ≤ V1.heap.size := hBV.size
      have HLK := Lib.hid hlk
      have HE0 := Lib.hid h0
      have HE1 := Lib.hid h1
      have HEE := Lib.hid hE
      have HBV := Lib.hid hBV
      have HBL := Lib.hid hbl
      have HV1 := Lib.hid hV1
      have HZV := Lib.hid hzv
      have HOW := Lib.hid hown
      have hz2' : W2.heap.size ≤ v1.heap.size := by omega
      clear h0 h1 hE hlk hbl hV1 hzv hBV bV b1 hO1 hb1 y1 hown hz2
      go_wp2_with (at_builtin; rw [← HV1.out]; refine app1gB v1.heap.size HZV.out.symm (.tmp 19) (.tmp 21) 23 rfl rfl W2.heap.size Try.underlying23 ninfo_ent rfl (by decide) (by decide) HOW.out rfl rfl rfl (by intro u hu; simp at hu; rcases hu with rfl | rfl | rfl | rfl | rfl <;> rfl) (by omega) (by rw [HZV.out]; exact hz2') ?_)
      intro v' w3 hown' hg3
      have hoA := World.ownsRow.alloc HOW.out (.cells #[.string x0, .int .i64 xa, .int .i64 xb, .int .i64 x3, .slice lo2 ln lc2] 78)
      have hkA : Kt 78 (V1.alloc (.cells #[.string x0, .int .i64 xa, .int .i64 xb, .int .i64 x3, .slice lo2 ln lc2] 78)) w3 := Kt.append hoA hg3
      have hkB := (Kt.of_below (T := 78) HBL.out).trans hkA
      have HO' : Hid (RowsO W2.heap.size 78 5 entO w3 v' (m.e.take (k + 1))) := by
        show RowsO _ _ _ _ _ _ _
        rw [HX.out]
        exact RowsO.snoc (c := [.string x0, .int .i64 xa, .int .i64 xb, .int .i64 x3, .slice lo2 ln lc2]) HE0.out HE1.out hkB (entO_pst (by decide)) rfl HEE.out (by rw [HLK.out]; simpa using hown')
      have hz3 : W2.heap.size ≤ V1.heap.size := HBV.out.size
      have HB3 : Hid (Below W2.heap.size W2 w3) := HBV.out.trans ((HBL.out.mono hz3).trans (grown_below hoA (by simp; omega) hg3))
      obtain ⟨o3, m3, c8, rfl⟩ := own_slice hown'
      clear hown' hg3 hoA hkA hkB HEE
      go_wp2
      go_roundw
      case rel => exact ⟨k + 1, o3, m3, c8, rfl, by go_num, by omega, HO', HB3⟩
      case measure => simp [intOf]; omega
    · have HE : Hid (RowsO W2.heap.size 78 5 entO wr (.slice o m1 c9) m.e) := by
        have := HO.out
        rw [List.take_of_length_le (by rw [← HNE.out]; omega)] at this
        exact this
      have hm1 : m1 = ne := by
        have := (RowsAt.raw (RowsO.at HE.out ent_at)).1
        rw [this, HNE.out]
      subst hm1
      rename World => wo
      have XO := Lib.hid (X1.out wo HB.out)
      have BO := Lib.hid (HB2.out.trans (HB.out.mono HB2.out.size))
      clear HO
      have zo := XO.out.1
      have zoc0 := boxc zo 0 _ rfl
      have zof0 := boxf zo 0
      have zoc1 := boxc zo 1 _ rfl
      have zof1 := boxf zo 1
      have zoc2 := boxc zo 2 _ rfl
      have zof2 := boxf zo 2
      have zoc3 := boxc zo 3 _ rfl
      have zof3 := boxf zo 3
      have zoc4 := boxc zo 4 _ rfl
      have zof4 := boxf zo 4
      have zoc5 := boxc zo 5 _ rfl
      have zof5 := boxf zo 5
      have zoc6 := boxc zo 6 _ rfl
      have zof6 := boxf zo 6
      have zoc7 := boxc zo 7 _ rfl
      have zof7 := boxf zo 7
      have zoc8 := boxc zo 8 _ rfl
      have zof8 := boxf zo 8
      have zoc9 := boxc zo 9 _ rfl
      have zof9 := boxf zo 9
      have zoc10 := boxc zo 10 _ rfl
      have zof10 := boxf zo 10
      have zoc11 := boxc zo 11 _ rfl
      have zof11 := boxf zo 11
      have zoc12 := boxc zo 12 _ rfl
      have zof12 := boxf zo 12
      have zoc13 := boxc zo 13 _ rfl
      have zof13 := boxf zo 13
      have zoc14 := boxc zo 14 _ rfl
      have zof14 := boxf zo 14
      have zoc15 := boxc zo 15 _ rfl
      have zof15 := boxf zo 15
      obtain ⟨V0, hV0⟩ : ∃ W, W = wo.setCell ⟨q0, 5, none⟩ (.slice o m1 c9) := ⟨_, rfl⟩
      have HS0 := Lib.hid hV0
      have XV0 : Hid (V0.heap[q0]? = some (.cells #[.int .i64 m.k, .int .i64 m.f, .int .i64 m.to, .int .i64 m.g, .int .i64 m.n, .slice o m1 c9, .slice aa na ca, .slice p1 n1 c1, .slice p2 n2 c2, .slice p3 n3 c3, .slice p4 n4 c4, .int .i64 m.ki, .string m.mn, .string m.mv, .slice sa sn sc, .int .i64 m.er] 34)) := by show _ = _; rw [hV0]; exact heap_setCell_same wo q0 5 _ _ _ zo
      have XQ0 : Hid (V0.heap[q1]? = some (.cells #[.int .i64 0, .int .i64 0, .int .i64 0, .int .i64 0, .int .i64 0, .slice none 0 0, .slice none 0 0, .slice none 0 0, .slice none 0 0, .slice none 0 0, .slice none 0 0, .int .i64 0, .string ⟨#[]⟩, .string ⟨#[]⟩, .slice none 0 0, .int .i64 0] 34)) := by show _ = _; rw [hV0, Below.heap_setCell _ _ _ _ (by show q1 ≠ q0; rw [HQ1.out]; omega)]; exact XO.out.2
      have KV0 : Hid (Kt 34 wo V0) := by rw [hV0]; exact Kt.set zo _ _
      have BV0 : Hid (Below w.heap.size w V0) := by rw [hV0]; exact BO.out.setCell (by have := HQ0.out; show w.heap.size ≤ q0; omega) _
      have SZ0 : Hid (V0.heap.size = wo.heap.size) := by show _ = _; rw [hV0]; exact World.size_setCell ..
      clear hV0 zo
      -- copy 1
      have al1 : Below V0.heap.size V0 (V0.alloc (.cells #[] 57)) := below1
      have kc1 := boxc ((al1.block _ (lt_of_block XV0.out)).trans XV0.out) 6 _ rfl
      have R1 := Lib.hid ((HR.out _ BV0.out).2.1)
      rw [HS0.out] at kc1 R1
      clear al1
      go_wp2_with (at_builtin; refine copy_dot (.tmp 27) (.tmp 30) wo.heap.size (by simp) rfl rfl R1.out (by have := HSM.out.2.2.1; omega) rfl rfl ?_)
      intro oa oac v1 hO1 hb1
      have hO1 : RowsO V0.heap.size 57 2 dotO v1 (.slice oa na oac) m.al := by
        rw [HS0.out]
        first | exact hO1 | (rw [World.size_setCell]; exact hO1)
      have hb1 : Below V0.heap.size V0 v1 := by
        rw [HS0.out]
        first | exact hb1 | (rw [World.size_setCell]; exact hb1)
      clear zoc0 zof0 zoc1 zof1 zoc2 zof2 zoc3 zof3 zoc4 zof4 zoc5 zof5 zoc6 zof6 zoc7 zof7 zoc8 zof8 zoc9 zof9 zoc10 zof10 zoc11 zof11 zoc12 zof12 zoc13 zof13 zoc14 zof14 zoc15 zof15
      clear kc1
      have O1 := Lib.hid hO1
      have y1 := (hb1.block _ (lt_of_block XV0.out)).trans XV0.out
      have u1 := (hb1.block _ (lt_of_block XQ0.out)).trans XQ0.out
      have y1c0 := boxc y1 0 _ rfl
      have y1f0 := boxf y1 0
      have y1c1 := boxc y1 1 _ rfl
      have y1f1 := boxf y1 1
      have y1c2 := boxc y1 2 _ rfl
      have y1f2 := boxf y1 2
      have y1c3 := boxc y1 3 _ rfl
      have y1f3 := boxf y1 3
      have y1c4 := boxc y1 4 _ rfl
      have y1f4 := boxf y1 4
      have y1c5 := boxc y1 5 _ rfl
      have y1f5 := boxf y1 5
      have y1c6 := boxc y1 6 _ rfl
      have y1f6 := boxf y1 6
      have y1c7 := boxc y1 7 _ rfl
      have y1f7 := boxf y1 7
      have y1c8 := boxc y1 8 _ rfl
      have y1f8 := boxf y1 8
      have y1c9 := boxc y1 9 _ rfl
      have y1f9 := boxf y1 9
      have y1c10 := boxc y1 10 _ rfl
      have y1f10 := boxf y1 10
      have y1c11 := boxc y1 11 _ rfl
      have y1f11 := boxf y1 11
      have y1c12 := boxc y1 12 _ rfl
      have y1f12 := boxf y1 12
      have y1c13 := boxc y1 13 _ rfl
      have y1f13 := boxf y1 13
      have y1c14 := boxc y1 14 _ rfl
      have y1f14 := boxf y1 14
      have y1c15 := boxc y1 15 _ rfl
      have y1f15 := boxf y1 15
      obtain ⟨V1, hV1⟩ : ∃ W, W = v1.setCell ⟨q0, 6, none⟩ (.slice oa na oac) := ⟨_, rfl⟩
      have HS1 := Lib.hid hV1
      have XV1 : Hid (V1.heap[q0]? = some (.cells #[.int .i64 m.k, .int .i64 m.f, .int .i64 m.to, .int .i64 m.g, .int .i64 m.n, .slice o m1 c9, .slice oa na oac, .slice p1 n1 c1, .slice p2 n2 c2, .slice p3 n3 c3, .slice p4 n4 c4, .int .i64 m.ki, .string m.mn, .string m.mv, .slice sa sn sc, .int .i64 m.er] 34)) := by show _ = _; rw [hV1]; exact heap_setCell_same v1 q0 6 _ _ _ y1
      have XQ1 : Hid (V1.heap[q1]? = some (.cells #[.int .i64 0, .int .i64 0, .int .i64 0, .int .i64 0, .int .i64 0, .slice none 0 0, .slice none 0 0, .slice none 0 0, .slice none 0 0, .slice none 0 0, .slice none 0 0, .int .i64 0, .string ⟨#[]⟩, .string ⟨#[]⟩, .slice none 0 0, .int .i64 0] 34)) := by show _ = _; rw [hV1, Below.heap_setCell _ _ _ _ (by show q1 ≠ q0; rw [HQ1.out]; omega)]; exact u1
      have KV1 : Hid (Kt 34 v1 V1) := by rw [hV1]; exact Kt.set y1 _ _
      have BV1 : Hid (Below w.heap.size w V1) := by rw [hV1]; exact (BV0.out.trans (hb1.mono BV0.out.size)).setCell (by have := HQ0.out; show w.heap.size ≤ q0; omega) _
      have KB1 := Lib.hid hb1
      clear hV1 hO1 hb1 y1 u1
      -- copy 2
      have al2 : Below V1.heap.size V1 (V1.alloc (.cells #[] 57)) := below1
      have kc2 := boxc ((al2.block _ (lt_of_block XV1.out)).trans XV1.out) 7 _ rfl
      have R2 := Lib.hid ((HR.out _ BV1.out).2.2.1)
      rw [HS1.out] at kc2 R2
      clear al2
      go_wp2_with (at_builtin; refine copy_dot (.tmp 34) (.tmp 38) v1.heap.size (by simp) rfl rfl R2.out (by have := HSM.out.2.2.2.1; omega) rfl rfl ?_)
      intro od odc v2 hO2 hb2
      have hO2 : RowsO V1.heap.size 57 2 dotO v2 (.slice od n1 odc) m.dv := by
        rw [HS1.out]
        first | exact hO2 | (rw [World.size_setCell]; exact hO2)
      have hb2 : Below V1.heap.size V1 v2 := by
        rw [HS1.out]
        first | exact hb2 | (rw [World.size_setCell]; exact hb2)
      clear y1c0 y1f0 y1c1 y1f1 y1c2 y1f2 y1c3 y1f3 y1c4 y1f4 y1c5 y1f5 y1c6 y1f6 y1c7 y1f7 y1c8 y1f8 y1c9 y1f9 y1c10 y1f10 y1c11 y1f11 y1c12 y1f12 y1c13 y1f13 y1c14 y1f14 y1c15 y1f15
      clear kc2
      have O2 := Lib.hid hO2
      have y2 := (hb2.block _ (lt_of_block XV1.out)).trans XV1.out
      have u2 := (hb2.block _ (lt_of_block XQ1.out)).trans XQ1.out
      have y2c0 := boxc y2 0 _ rfl
      have y2f0 := boxf y2 0
      have y2c1 := boxc y2 1 _ rfl
      have y2f1 := boxf y2 1
      have y2c2 := boxc y2 2 _ rfl
      have y2f2 := boxf y2 2
      have y2c3 := boxc y2 3 _ rfl
      have y2f3 := boxf y2 3
      have y2c4 := boxc y2 4 _ rfl
      have y2f4 := boxf y2 4
      have y2c5 := boxc y2 5 _ rfl
      have y2f5 := boxf y2 5
      have y2c6 := boxc y2 6 _ rfl
      have y2f6 := boxf y2 6
      have y2c7 := boxc y2 7 _ rfl
      have y2f7 := boxf y2 7
      have y2c8 := boxc y2 8 _ rfl
      have y2f8 := boxf y2 8
      have y2c9 := boxc y2 9 _ rfl
      have y2f9 := boxf y2 9
      have y2c10 := boxc y2 10 _ rfl
      have y2f10 := boxf y2 10
      have y2c11 := boxc y2 11 _ rfl
      have y2f11 := boxf y2 11
      have y2c12 := boxc y2 12 _ rfl
      have y2f12 := boxf y2 12
      have y2c13 := boxc y2 13 _ rfl
      have y2f13 := boxf y2 13
      have y2c14 := boxc y2 14 _ rfl
      have y2f14 := boxf y2 14
      have y2c15 := boxc y2 15 _ rfl
      have y2f15 := boxf y2 15
      obtain ⟨V2, hV2⟩ : ∃ W, W = v2.setCell ⟨q0, 7, none⟩ (.slice od n1 odc) := ⟨_, rfl⟩
      have HS2 := Lib.hid hV2
      have XV2 : Hid (V2.heap[q0]? = some (.cells #[.int .i64 m.k, .int .i64 m.f, .int .i64 m.to, .int .i64 m.g, .int .i64 m.n, .slice o m1 c9, .slice oa na oac, .slice od n1 odc, .slice p2 n2 c2, .slice p3 n3 c3, .slice p4 n4 c4, .int .i64 m.ki, .string m.mn, .string m.mv, .slice sa sn sc, .int .i64 m.er] 34)) := by show _ = _; rw [hV2]; exact heap_setCell_same v2 q0 7 _ _ _ y2
      have XQ2 : Hid (V2.heap[q1]? = some (.cells #[.int .i64 0, .int .i64 0, .int .i64 0, .int .i64 0, .int .i64 0, .slice none 0 0, .slice none 0 0, .slice none 0 0, .slice none 0 0, .slice none 0 0, .slice none 0 0, .int .i64 0, .string ⟨#[]⟩, .string ⟨#[]⟩, .slice none 0 0, .int .i64 0] 34)) := by show _ = _; rw [hV2, Below.heap_setCell _ _ _ _ (by show q1 ≠ q0; rw [HQ1.out]; omega)]; exact u2
      have KV2 : Hid (Kt 34 v2 V2) := by rw [hV2]; exact Kt.set y2 _ _
      have BV2 : Hid (Below w.heap.size w V2) := by rw [hV2]; exact (BV1.out.trans (hb2.mono BV1.out.size)).setCell (by have := HQ0.out; show w.heap.size ≤ q0; omega) _
      have KB2 := Lib.hid hb2
      clear hV2 hO2 hb2 y2 u2
      -- copy 3
      have al3 : Below V2.heap.size V2 (V2.alloc (.cells #[] 57)) := below1
      have kc3 := boxc ((al3.block _ (lt_of_block XV2.out)).trans XV2.out) 8 _ rfl
      have R3 := Lib.hid ((HR.out _ BV2.out).2.2.2.1)
      rw [HS2.out] at kc3 R3
      clear al3
      go_wp2_with (at_builtin; refine copy_dot (.tmp 43) (.tmp 47) v2.heap.size (by simp) rfl rfl R3.out (by have := HSM.out.2.2.2.2.1; omega) rfl rfl ?_)
      intro oe oec v3 hO3 hb3
      have hO3 : RowsO V2.heap.size 57 2 dotO v3 (.slice oe n2 oec) m.dc := by
        rw [HS2.out]
        first | exact hO3 | (rw [World.size_setCell]; exact hO3)
      have hb3 : Below V2.heap.size V2 v3 := by
        rw [HS2.out]
        first | exact hb3 | (rw [World.size_setCell]; exact hb3)
      clear y2c0 y2f0 y2c1 y2f1 y2c2 y2f2 y2c3 y2f3 y2c4 y2f4 y2c5 y2f5 y2c6 y2f6 y2c7 y2f7 y2c8 y2f8 y2c9 y2f9 y2c10 y2f10 y2c11 y2f11 y2c12 y2f12 y2c13 y2f13 y2c14 y2f14 y2c15 y2f15
      clear kc3
      have O3 := Lib.hid hO3
      have y3 := (hb3.block _ (lt_of_block XV2.out)).trans XV2.out
      have u3 := (hb3.block _ (lt_of_block XQ2.out)).trans XQ2.out
      have y3c0 := boxc y3 0 _ rfl
      have y3f0 := boxf y3 0
      have y3c1 := boxc y3 1 _ rfl
      have y3f1 := boxf y3 1
      have y3c2 := boxc y3 2 _ rfl
      have y3f2 := boxf y3 2
      have y3c3 := boxc y3 3 _ rfl
      have y3f3 := boxf y3 3
      have y3c4 := boxc y3 4 _ rfl
      have y3f4 := boxf y3 4
      have y3c5 := boxc y3 5 _ rfl
      have y3f5 := boxf y3 5
      have y3c6 := boxc y3 6 _ rfl
      have y3f6 := boxf y3 6
      have y3c7 := boxc y3 7 _ rfl
      have y3f7 := boxf y3 7
      have y3c8 := boxc y3 8 _ rfl
      have y3f8 := boxf y3 8
      have y3c9 := boxc y3 9 _ rfl
      have y3f9 := boxf y3 9
      have y3c10 := boxc y3 10 _ rfl
      have y3f10 := boxf y3 10
      have y3c11 := boxc y3 11 _ rfl
      have y3f11 := boxf y3 11
      have y3c12 := boxc y3 12 _ rfl
      have y3f12 := boxf y3 12
      have y3c13 := boxc y3 13 _ rfl
      have y3f13 := boxf y3 13
      have y3c14 := boxc y3 14 _ rfl
      have y3f14 := boxf y3 14
      have y3c15 := boxc y3 15 _ rfl
      have y3f15 := boxf y3 15
      obtain ⟨V3, hV3⟩ : ∃ W, W = v3.setCell ⟨q0, 8, none⟩ (.slice oe n2 oec) := ⟨_, rfl⟩
      have HS3 := Lib.hid hV3
      have XV3 : Hid (V3.heap[q0]? = some (.cells #[.int .i64 m.k, .int .i64 m.f, .int .i64 m.to, .int .i64 m.g, .int .i64 m.n, .slice o m1 c9, .slice oa na oac, .slice od n1 odc, .slice oe n2 oec, .slice p3 n3 c3, .slice p4 n4 c4, .int .i64 m.ki, .string m.mn, .string m.mv, .slice sa sn sc, .int .i64 m.er] 34)) := by show _ = _; rw [hV3]; exact heap_setCell_same v3 q0 8 _ _ _ y3
      have XQ3 : Hid (V3.heap[q1]? = some (.cells #[.int .i64 0, .int .i64 0, .int .i64 0, .int .i64 0, .int .i64 0, .slice none 0 0, .slice none 0 0, .slice none 0 0, .slice none 0 0, .slice none 0 0, .slice none 0 0, .int .i64 0, .string ⟨#[]⟩, .string ⟨#[]⟩, .slice none 0 0, .int .i64 0] 34)) := by show _ = _; rw [hV3, Below.heap_setCell _ _ _ _ (by show q1 ≠ q0; rw [HQ1.out]; omega)]; exact u3
      have KV3 : Hid (Kt 34 v3 V3) := by rw [hV3]; exact Kt.set y3 _ _
      have BV3 : Hid (Below w.heap.size w V3) := by rw [hV3]; exact (BV2.out.trans (hb3.mono BV2.out.size)).setCell (by have := HQ0.out; show w.heap.size ≤ q0; omega) _
      have KB3 := Lib.hid hb3
      clear hV3 hO3 hb3 y3 u3
      -- copy 4
      have al4 : Below V3.heap.size V3 (V3.alloc (.cells #[] 57)) := below1
      have kc4 := boxc ((al4.block _ (lt_of_block XV3.out)).trans XV3.out) 9 _ rfl
      have R4 := Lib.hid ((HR.out _ BV3.out).2.2.2.2.1)
      rw [HS3.out] at kc4 R4
      clear al4
      go_wp2_with (at_builtin; refine copy_dot (.tmp 52) (.tmp 55) v3.heap.size (by simp) rfl rfl R4.out (by have := HSM.out.2.2.2.2.2.1; omega) rfl rfl ?_)
      intro ov ovc v4 hO4 hb4
      have hO4 : RowsO V3.heap.size 57 2 dotO v4 (.slice ov n3 ovc) m.v := by
        rw [HS3.out]
        first | exact hO4 | (rw [World.size_setCell]; exact hO4)
      have hb4 : Below V3.heap.size V3 v4 := by
        rw [HS3.out]
        first | exact hb4 | (rw [World.size_setCell]; exact hb4)
      clear y3c0 y3f0 y3c1 y3f1 y3c2 y3f2 y3c3 y3f3 y3c4 y3f4 y3c5 y3f5 y3c6 y3f6 y3c7 y3f7 y3c8 y3f8 y3c9 y3f9 y3c10 y3f10 y3c11 y3f11 y3c12 y3f12 y3c13 y3f13 y3c14 y3f14 y3c15 y3f15
      clear kc4
      have O4 := Lib.hid hO4
      have y4 := (hb4.block _ (lt_of_block XV3.out)).trans XV3.out
      have u4 := (hb4.block _ (lt_of_block XQ3.out)).trans XQ3.out
      have y4c0 := boxc y4 0 _ rfl
      have y4f0 := boxf y4 0
      have y4c1 := boxc y4 1 _ rfl
      have y4f1 := boxf y4 1
      have y4c2 := boxc y4 2 _ rfl
      have y4f2 := boxf y4 2
      have y4c3 := boxc y4 3 _ rfl
      have y4f3 := boxf y4 3
      have y4c4 := boxc y4 4 _ rfl
      have y4f4 := boxf y4 4
      have y4c5 := boxc y4 5 _ rfl
      have y4f5 := boxf y4 5
      have y4c6 := boxc y4 6 _ rfl
      have y4f6 := boxf y4 6
      have y4c7 := boxc y4 7 _ rfl
      have y4f7 := boxf y4 7
      have y4c8 := boxc y4 8 _ rfl
      have y4f8 := boxf y4 8
      have y4c9 := boxc y4 9 _ rfl
      have y4f9 := boxf y4 9
      have y4c10 := boxc y4 10 _ rfl
      have y4f10 := boxf y4 10
      have y4c11 := boxc y4 11 _ rfl
      have y4f11 := boxf y4 11
      have y4c12 := boxc y4 12 _ rfl
      have y4f12 := boxf y4 12
      have y4c13 := boxc y4 13 _ rfl
      have y4f13 := boxf y4 13
      have y4c14 := boxc y4 14 _ rfl
      have y4f14 := boxf y4 14
      have y4c15 := boxc y4 15 _ rfl
      have y4f15 := boxf y4 15
      obtain ⟨V4, hV4⟩ : ∃ W, W = v4.setCell ⟨q0, 9, none⟩ (.slice ov n3 ovc) := ⟨_, rfl⟩
      have HS4 := Lib.hid hV4
      have XV4 : Hid (V4.heap[q0]? = some (.cells #[.int .i64 m.k, .int .i64 m.f, .int .i64 m.to, .int .i64 m.g, .int .i64 m.n, .slice o m1 c9, .slice oa na oac, .slice od n1 odc, .slice oe n2 oec, .slice ov n3 ovc, .slice p4 n4 c4, .int .i64 m.ki, .string m.mn, .string m.mv, .slice sa sn sc, .int .i64 m.er] 34)) := by show _ = _; rw [hV4]; exact heap_setCell_same v4 q0 9 _ _ _ y4
      have XQ4 : Hid (V4.heap[q1]? = some (.cells #[.int .i64 0, .int .i64 0, .int .i64 0, .int .i64 0, .int .i64 0, .slice none 0 0, .slice none 0 0, .slice none 0 0, .slice none 0 0, .slice none 0 0, .slice none 0 0, .int .i64 0, .string ⟨#[]⟩, .string ⟨#[]⟩, .slice none 0 0, .int .i64 0] 34)) := by show _ = _; rw [hV4, Below.heap_setCell _ _ _ _ (by show q1 ≠ q0; rw [HQ1.out]; omega)]; exact u4
      have KV4 : Hid (Kt 34 v4 V4) := by rw [hV4]; exact Kt.set y4 _ _
      have BV4 : Hid (Below w.heap.size w V4) := by rw [hV4]; exact (BV3.out.trans (hb4.mono BV3.out.size)).setCell (by have := HQ0.out; show w.heap.size ≤ q0; omega) _
      have KB4 := Lib.hid hb4
      clear hV4 hO4 hb4 y4 u4
      -- copy 5
      have al5 : Below V4.heap.size V4 (V4.alloc (.cells #[] 57)) := below1
      have kc5 := boxc ((al5.block _ (lt_of_block XV4.out)).trans XV4.out) 10 _ rfl
      have R5 := Lib.hid ((HR.out _ BV4.out).2.2.2.2.2.1)
      rw [HS4.out] at kc5 R5
      clear al5
      go_wp2_with (at_builtin; refine copy_dot (.tmp 59) (.tmp 62) v4.heap.size (by simp) rfl rfl R5.out (by have := HSM.out.2.2.2.2.2.2.1; omega) rfl rfl ?_)
      intro ow owc v5 hO5 hb5
      have hO5 : RowsO V4.heap.size 57 2 dotO v5 (.slice ow n4 owc) m.c := by
        rw [HS4.out]
        first | exact hO5 | (rw [World.size_setCell]; exact hO5)
      have hb5 : Below V4.heap.size V4 v5 := by
        rw [HS4.out]
        first | exact hb5 | (rw [World.size_setCell]; exact hb5)
      clear y4c0 y4f0 y4c1 y4f1 y4c2 y4f2 y4c3 y4f3 y4c4 y4f4 y4c5 y4f5 y4c6 y4f6 y4c7 y4f7 y4c8 y4f8 y4c9 y4f9 y4c10 y4f10 y4c11 y4f11 y4c12 y4f12 y4c13 y4f13 y4c14 y4f14 y4c15 y4f15
      clear kc5
      have O5 := Lib.hid hO5
      have y5 := (hb5.block _ (lt_of_block XV4.out)).trans XV4.out
      have u5 := (hb5.block _ (lt_of_block XQ4.out)).trans XQ4.out
      have y5c0 := boxc y5 0 _ rfl
      have y5f0 := boxf y5 0
      have y5c1 := boxc y5 1 _ rfl
      have y5f1 := boxf y5 1
      have y5c2 := boxc y5 2 _ rfl
      have y5f2 := boxf y5 2
      have y5c3 := boxc y5 3 _ rfl
      have y5f3 := boxf y5 3
      have y5c4 := boxc y5 4 _ rfl
      have y5f4 := boxf y5 4
      have y5c5 := boxc y5 5 _ rfl
      have y5f5 := boxf y5 5
      have y5c6 := boxc y5 6 _ rfl
      have y5f6 := boxf y5 6
      have y5c7 := boxc y5 7 _ rfl
      have y5f7 := boxf y5 7
      have y5c8 := boxc y5 8 _ rfl
      have y5f8 := boxf y5 8
      have y5c9 := boxc y5 9 _ rfl
      have y5f9 := boxf y5 9
      have y5c10 := boxc y5 10 _ rfl
      have y5f10 := boxf y5 10
      have y5c11 := boxc y5 11 _ rfl
      have y5f11 := boxf y5 11
      have y5c12 := boxc y5 12 _ rfl
      have y5f12 := boxf y5 12
      have y5c13 := boxc y5 13 _ rfl
      have y5f13 := boxf y5 13
      have y5c14 := boxc y5 14 _ rfl
      have y5f14 := boxf y5 14
      have y5c15 := boxc y5 15 _ rfl
      have y5f15 := boxf y5 15
      obtain ⟨V5, hV5⟩ : ∃ W, W = v5.setCell ⟨q0, 10, none⟩ (.slice ow n4 owc) := ⟨_, rfl⟩
      have HS5 := Lib.hid hV5
      have XV5 : Hid (V5.heap[q0]? = some (.cells #[.int .i64 m.k, .int .i64 m.f, .int .i64 m.to, .int .i64 m.g, .int .i64 m.n, .slice o m1 c9, .slice oa na oac, .slice od n1 odc, .slice oe n2 oec, .slice ov n3 ovc, .slice ow n4 owc, .int .i64 m.ki, .string m.mn, .string m.mv, .slice sa sn sc, .int .i64 m.er] 34)) := by show _ = _; rw [hV5]; exact heap_setCell_same v5 q0 10 _ _ _ y5
      have XQ5 : Hid (V5.heap[q1]? = some (.cells #[.int .i64 0, .int .i64 0, .int .i64 0, .int .i64 0, .int .i64 0, .slice none 0 0, .slice none 0 0, .slice none 0 0, .slice none 0 0, .slice none 0 0, .slice none 0 0, .int .i64 0, .string ⟨#[]⟩, .string ⟨#[]⟩, .slice none 0 0, .int .i64 0] 34)) := by show _ = _; rw [hV5, Below.heap_setCell _ _ _ _ (by show q1 ≠ q0; rw [HQ1.out]; omega)]; exact u5
      have KV5 : Hid (Kt 34 v5 V5) := by rw [hV5]; exact Kt.set y5 _ _
      have BV5 : Hid (Below w.heap.size w V5) := by rw [hV5]; exact (BV4.out.trans (hb5.mono BV4.out.size)).setCell (by have := HQ0.out; show w.heap.size ≤ q0; omega) _
      have KB5 := Lib.hid hb5
      clear hV5 hO5 hb5 y5 u5
      -- copy 6
      have al6 : Below V5.heap.size V5 (V5.alloc (.cells #[] 9)) := below1
      have kc6 := boxc ((al6.block _ (lt_of_block XV5.out)).trans XV5.out) 14 _ rfl
      have R6 := Lib.hid ((HR.out _ BV5.out).2.2.2.2.2.2)
      rw [HS5.out] at kc6 R6
      clear al6
      go_wp2_with (at_builtin; refine copy_str (.tmp 66) (.tmp 68) v5.heap.size (by simp) rfl rfl R6.out (by have := HSM.out.2.2.2.2.2.2.2.2.2.1; omega) rfl rfl ?_)
      intro os osc v6 hO6 hb6
      have hO6 : RowsO V5.heap.size 9 1 strO v6 (.slice os sn osc) m.s := by
        rw [HS5.out]
        first | exact hO6 | (rw [World.size_setCell]; exact hO6)
      have hb6 : Below V5.heap.size V5 v6 := by
        rw [HS5.out]
        first | exact hb6 | (rw [World.size_setCell]; exact hb6)
      clear y5c0 y5f0 y5c1 y5f1 y5c2 y5f2 y5c3 y5f3 y5c4 y5f4 y5c5 y5f5 y5c6 y5f6 y5c7 y5f7 y5c8 y5f8 y5c9 y5f9 y5c10 y5f10 y5c11 y5f11 y5c12 y5f12 y5c13 y5f13 y5c14 y5f14 y5c15 y5f15
      clear kc6
      have O6 := Lib.hid hO6
      have y6 := (hb6.block _ (lt_of_block XV5.out)).trans XV5.out
      have u6 := (hb6.block _ (lt_of_block XQ5.out)).trans XQ5.out
      have y6c0 := boxc y6 0 _ rfl
      have y6f0 := boxf y6 0
      have y6c1 := boxc y6 1 _ rfl
      have y6f1 := boxf y6 1
      have y6c2 := boxc y6 2 _ rfl
      have y6f2 := boxf y6 2
      have y6c3 := boxc y6 3 _ rfl
      have y6f3 := boxf y6 3
      have y6c4 := boxc y6 4 _ rfl
      have y6f4 := boxf y6 4
      have y6c5 := boxc y6 5 _ rfl
      have y6f5 := boxf y6 5
      have y6c6 := boxc y6 6 _ rfl
      have y6f6 := boxf y6 6
      have y6c7 := boxc y6 7 _ rfl
      have y6f7 := boxf y6 7
      have y6c8 := boxc y6 8 _ rfl
      have y6f8 := boxf y6 8
      have y6c9 := boxc y6 9 _ rfl
      have y6f9 := boxf y6 9
      have y6c10 := boxc y6 10 _ rfl
      have y6f10 := boxf y6 10
      have y6c11 := boxc y6 11 _ rfl
      have y6f11 := boxf y6 11
      have y6c12 := boxc y6 12 _ rfl
      have y6f12 := boxf y6 12
      have y6c13 := boxc y6 13 _ rfl
      have y6f13 := boxf y6 13
      have y6c14 := boxc y6 14 _ rfl
      have y6f14 := boxf y6 14
      have y6c15 := boxc y6 15 _ rfl
      have y6f15 := boxf y6 15
      obtain ⟨V6, hV6⟩ : ∃ W, W = v6.setCell ⟨q0, 14, none⟩ (.slice os sn osc) := ⟨_, rfl⟩
      have HS6 := Lib.hid hV6
      have XV6 : Hid (V6.heap[q0]? = some (.cells #[.int .i64 m.k, .int .i64 m.f, .int .i64 m.to, .int .i64 m.g, .int .i64 m.n, .slice o m1 c9, .slice oa na oac, .slice od n1 odc, .slice oe n2 oec, .slice ov n3 ovc, .slice ow n4 owc, .int .i64 m.ki, .string m.mn, .string m.mv, .slice os sn osc, .int .i64 m.er] 34)) := by show _ = _; rw [hV6]; exact heap_setCell_same v6 q0 14 _ _ _ y6
      have XQ6 : Hid (V6.heap[q1]? = some (.cells #[.int .i64 0, .int .i64 0, .int .i64 0, .int .i64 0, .int .i64 0, .slice none 0 0, .slice none 0 0, .slice none 0 0, .slice none 0 0, .slice none 0 0, .slice none 0 0, .int .i64 0, .string ⟨#[]⟩, .string ⟨#[]⟩, .slice none 0 0, .int .i64 0] 34)) := by show _ = _; rw [hV6, Below.heap_setCell _ _ _ _ (by show q1 ≠ q0; rw [HQ1.out]; omega)]; exact u6
      have KV6 : Hid (Kt 34 v6 V6) := by rw [hV6]; exact Kt.set y6 _ _
      have BV6 : Hid (Below w.heap.size w V6) := by rw [hV6]; exact (BV5.out.trans (hb6.mono BV5.out.size)).setCell (by have := HQ0.out; show w.heap.size ≤ q0; omega) _
      have KB6 := Lib.hid hb6
      clear hV6 hO6 hb6 y6 u6
      have u6 : v6.heap[q1]? = some (.cells #[.int .i64 0, .int .i64 0, .int .i64 0, .int .i64 0, .int .i64 0, .slice none 0 0, .slice none 0 0, .slice none 0 0, .slice none 0 0, .slice none 0 0, .slice none 0 0, .int .i64 0, .string ⟨#[]⟩, .string ⟨#[]⟩, .slice none 0 0, .int .i64 0] 34) := (KB6.out.block _ (lt_of_block XQ5.out)).trans XQ5.out
      have uc0 := boxc u6 0 _ rfl
      have uf0 := boxf u6 0
      have uc1 := boxc u6 1 _ rfl
      have uf1 := boxf u6 1
      have uc2 := boxc u6 2 _ rfl
      have uf2 := boxf u6 2
      have uc3 := boxc u6 3 _ rfl
      have uf3 := boxf u6 3
      have uc4 := boxc u6 4 _ rfl
      have uf4 := boxf u6 4
      have uc5 := boxc u6 5 _ rfl
      have uf5 := boxf u6 5
      have uc6 := boxc u6 6 _ rfl
      have uf6 := boxf u6 6
      have uc7 := boxc u6 7 _ rfl
      have uf7 := boxf u6 7
      have uc8 := boxc u6 8 _ rfl
      have uf8 := boxf u6 8
      have uc9 := boxc u6 9 _ rfl
      have uf9 := boxf u6 9
      have uc10 := boxc u6 10 _ rfl
      have uf10 := boxf u6 10
      have uc11 := boxc u6 11 _ rfl
      have uf11 := boxf u6 11
      have uc12 := boxc u6 12 _ rfl
      have uf12 := boxf u6 12
      have uc13 := boxc u6 13 _ rfl
      have uf13 := boxf u6 13
      have uc14 := boxc u6 14 _ rfl
      have uf14 := boxf u6 14
      have uc15 := boxc u6 15 _ rfl
      have uf15 := boxf u6 15
      have hqq : ¬ q1 = q0 := by rw [HQ1.out]; omega
      have hqr : ¬ q0 = q1 := fun e => hqq e.symm
      clear u6
      go_wp2
      obtain ⟨w9, h9⟩ : ∃ W, W = wset V6 q1 0 [.int .i64 m.k, .int .i64 m.f, .int .i64 m.to, .int .i64 m.g, .int .i64 m.n, .slice o m1 c9, .slice oa na oac, .slice od n1 odc, .slice oe n2 oec, .slice ov n3 ovc, .slice ow n4 owc, .int .i64 m.ki, .string m.mn, .string m.mv, .slice os sn osc, .int .i64 m.er] := ⟨_, rfl⟩
      have c := wset_row [.int .i64 m.k, .int .i64 m.f, .int .i64 m.to, .int .i64 m.g, .int .i64 m.n, .slice o m1 c9, .slice oa na oac, .slice od n1 odc, .slice oe n2 oec, .slice ov n3 ovc, .slice ow n4 owc, .int .i64 m.ki, .string m.mn, .string m.mv, .slice os sn osc, .int .i64 m.er] XQ6.out rfl
      have bb := wset_below [.int .i64 m.k, .int .i64 m.f, .int .i64 m.to, .int .i64 m.g, .int .i64 m.n, .slice o m1 c9, .slice oa na oac, .slice od n1 odc, .slice oe n2 oec, .slice ov n3 ovc, .slice ow n4 owc, .int .i64 m.ki, .string m.mn, .string m.mv, .slice os sn osc, .int .i64 m.er] V6 w q1 0 w.heap.size (by rw [HQ1.out, HQ0.out]; omega) BV6.out
      have K6 : Kt 34 v6 V6 := KV6.out
      have K5 : Kt 34 v5 V6 := (KV5.out.trans (Kt.of_below KB6.out)).trans K6
      have K4 : Kt 34 v4 V6 := (KV4.out.trans (Kt.of_below KB5.out)).trans K5
      have K3 : Kt 34 v3 V6 := (KV3.out.trans (Kt.of_below KB4.out)).trans K4
      have K2 : Kt 34 v2 V6 := (KV2.out.trans (Kt.of_below KB3.out)).trans K3
      have K1 : Kt 34 v1 V6 := (KV1.out.trans (Kt.of_below KB2.out)).trans K2
      have K0 : Kt 34 wo V6 := (KV0.out.trans (Kt.of_below KB1.out)).trans K1
      have P0 := RowsO.kt (entO_pst (by decide)) (by decide) HE.out K0
      have P1 := RowsO.kt (dotO_pst _) (by decide) O1.out K1
      have P2 := RowsO.kt (dotO_pst _) (by decide) O2.out K2
      have P3 := RowsO.kt (dotO_pst _) (by decide) O3.out K3
      have P4 := RowsO.kt (dotO_pst _) (by decide) O4.out K4
      have P5 := RowsO.kt (dotO_pst _) (by decide) O5.out K5
      have P6 := RowsO.kt (strO_pst _) (by decide) O6.out K6
      have hM : MsgF w.heap.size V6 [.int .i64 m.k, .int .i64 m.f, .int .i64 m.to, .int .i64 m.g, .int .i64 m.n, .slice o m1 c9, .slice oa na oac, .slice od n1 odc, .slice oe n2 oec, .slice ov n3 ovc, .slice ow n4 owc, .int .i64 m.ki, .string m.mn, .string m.mv, .slice os sn osc, .int .i64 m.er] m := ⟨o, m1, c9, oa, na, oac, od, n1, odc, oe, n2, oec, ov, n3, ovc, ow, n4, owc, os, sn, osc, rfl, (P0.low HB2.out.size), (P1.low (Nat.le_trans BV0.out.size (Nat.le_refl _))), (P2.low (Nat.le_trans BV1.out.size (Nat.le_refl _))), (P3.low (Nat.le_trans BV2.out.size (Nat.le_refl _))), (P4.low (Nat.le_trans BV3.out.size (Nat.le_refl _))), (P5.low (Nat.le_trans BV4.out.size (Nat.le_refl _))), HMX.out.1, HMX.out.2, (P6.low (Nat.le_trans BV5.out.size (Nat.le_refl _)))⟩
      have hM9 := hM.kt (wset_kt [.int .i64 m.k, .int .i64 m.f, .int .i64 m.to, .int .i64 m.g, .int .i64 m.n, .slice o m1 c9, .slice oa na oac, .slice od n1 odc, .slice oe n2 oec, .slice ov n3 ovc, .slice ow n4 owc, .int .i64 m.ki, .string m.mn, .string m.mv, .slice os sn osc, .int .i64 m.er] V6 q1 0 _ _ XQ6.out) (by decide) (by decide) (by decide) (by decide)
      rw [← h9] at c bb hM9
      rw [HS6.out] at h9
      simp only [wset, Nat.reduceAdd] at h9
      rw [← h9]
      clear h9
      have c20 := boxc c 0 (.int .i64 m.k) rfl
      have c21 := boxc c 1 (.int .i64 m.f) rfl
      have c22 := boxc c 2 (.int .i64 m.to) rfl
      have c23 := boxc c 3 (.int .i64 m.g) rfl
      have c24 := boxc c 4 (.int .i64 m.n) rfl
      have c25 := boxc c 5 (.slice o m1 c9) rfl
      have c26 := boxc c 6 (.slice oa na oac) rfl
      have c27 := boxc c 7 (.slice od n1 odc) rfl
      have c28 := boxc c 8 (.slice oe n2 oec) rfl
      have c29 := boxc c 9 (.slice ov n3 ovc) rfl
      have c30 := boxc c 10 (.slice ow n4 owc) rfl
      have c31 := boxc c 11 (.int .i64 m.ki) rfl
      have c32 := boxc c 12 (.string m.mn) rfl
      have c33 := boxc c 13 (.string m.mv) rfl
      have c34 := boxc c 14 (.slice os sn osc) rfl
      have c35 := boxc c 15 (.int .i64 m.er) rfl
      exact bodyPost_ret (v := .agg #[.int .i64 m.k, .int .i64 m.f, .int .i64 m.to, .int .i64 m.g, .int .i64 m.n, .slice o m1 c9, .slice oa na oac, .slice od n1 odc, .slice oe n2 oec, .slice ov n3 ovc, .slice ow n4 owc, .int .i64 m.ki, .string m.mn, .string m.mv, .slice os sn osc, .int .i64 m.er]) (by simp [results, Try.results27, go_sem, c20, c21, c22, c23, c24, c25, c26, c27, c28, c29, c30, c31, c32, c33, c34, c35]) rfl ⟨_, rfl, hM9, bb⟩
end Go.Proofs.Ytpgccfgldjeomaa
