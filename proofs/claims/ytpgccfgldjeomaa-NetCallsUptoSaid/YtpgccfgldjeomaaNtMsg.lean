/- net: messages in memory; twin.Msg. -/
import Derived.Test.YtpgccfgldjeomaaNtDelta
import Derived.Test.YtpgccfgldjeomaaWset
namespace Go.Proofs.Ytpgccfgldjeomaa
open Go.RowKit Go.ChangeShapes cl
/-- a message in its sixteen cells -/
def msgRel : Rel cd.Msg := fun w B c m => ∃ ae ne ce aa na ca p1 m1 k1 p2 m2 k2 p3 m3 k3 p4 m4 k4 sa sn sc,
  c = [.int .i64 m.k, .int .i64 m.f, .int .i64 m.to, .int .i64 m.g, .int .i64 m.n, .slice ae ne ce, .slice aa na ca, .slice p1 m1 k1, .slice p2 m2 k2, .slice p3 m3 k3, .slice p4 m4 k4, .int .i64 m.ki, .string m.mn, .string m.mv, .slice sa sn sc, .int .i64 m.er] ∧
  RowsAt 5 entR w B (.slice ae ne ce) m.e ∧ RowsAt 2 dotR w B (.slice aa na ca) m.al ∧ RowsAt 2 dotR w B (.slice p1 m1 k1) m.dv ∧ RowsAt 2 dotR w B (.slice p2 m2 k2) m.dc ∧ RowsAt 2 dotR w B (.slice p3 m3 k3) m.v ∧ RowsAt 2 dotR w B (.slice p4 m4 k4) m.c ∧ m.mn.size ≤ maxLen ∧ m.mv.size ≤ maxLen ∧ RowsAt 1 strR w B (.slice sa sn sc) m.s
theorem msgRel_steady : Steady msgRel := by
  rintro w w' B B' c m ⟨ae, ne, ce, aa, na, ca, p1, m1, k1, p2, m2, k2, p3, m3, k3, p4, m4, k4, sa, sn, sc, hc, h1, h2, h3, h4, h5, h6, h7, h8, h9⟩ hb hB
  exact ⟨ae, ne, ce, aa, na, ca, p1, m1, k1, p2, m2, k2, p3, m3, k3, p4, m4, k4, sa, sn, sc, hc, h1.below entR_steady hb hB, h2.below dotR_steady hb hB, h3.below dotR_steady hb hB, h4.below dotR_steady hb hB, h5.below dotR_steady hb hB, h6.below dotR_steady hb hB, h7, h8, h9.below strR_steady hb hB⟩
/-- a message of the call's own: all its lists lie in blocks from B on -/
def MsgF (B : Nat) (w : World) (c : List Value) (m : cd.Msg) : Prop := ∃ oe me ke oa ma ka ov mv kv oc mc kc pv nv lv pc nc lc os ms ks,
  c = [.int .i64 m.k, .int .i64 m.f, .int .i64 m.to, .int .i64 m.g, .int .i64 m.n, .slice oe me ke, .slice oa ma ka, .slice ov mv kv, .slice oc mc kc, .slice pv nv lv, .slice pc nc lc, .int .i64 m.ki, .string m.mn, .string m.mv, .slice os ms ks, .int .i64 m.er] ∧
  RowsO B 78 5 entO w (.slice oe me ke) m.e ∧ RowsO B 57 2 dotO w (.slice oa ma ka) m.al ∧ RowsO B 57 2 dotO w (.slice ov mv kv) m.dv ∧ RowsO B 57 2 dotO w (.slice oc mc kc) m.dc ∧
  RowsO B 57 2 dotO w (.slice pv nv lv) m.v ∧ RowsO B 57 2 dotO w (.slice pc nc lc) m.c ∧ m.mn.size ≤ maxLen ∧ m.mv.size ≤ maxLen ∧ RowsO B 9 1 strO w (.slice os ms ks) m.s
theorem MsgF.at {B : Nat} {w : World} {c : List Value} {m : cd.Msg} (h : MsgF B w c m) : msgRel w w.heap.size c m := by
  obtain ⟨oe, me, ke, oa, ma, ka, ov, mv, kv, oc, mc, kc, pv, nv, lv, pc, nc, lc, os, ms, ks, hc, h1, h2, h3, h4, h5, h6, h7, h8, h9⟩ := h
  exact ⟨oe, me, ke, oa, ma, ka, ov, mv, kv, oc, mc, kc, pv, nv, lv, pc, nc, lc, os, ms, ks, hc, h1.at ent_at, h2.at (fun _ _ h => h), h3.at (fun _ _ h => h), h4.at (fun _ _ h => h), h5.at (fun _ _ h => h), h6.at (fun _ _ h => h), h7, h8, h9.at (fun _ _ h => h)⟩
theorem MsgF.kt {B : Nat} {T : TypeId} {w w' : World} {c : List Value} {m : cd.Msg} (h : MsgF B w c m) (hk : Kt T w w') (h1 : 95 ≠ T) (h2 : 78 ≠ T) (h3 : 57 ≠ T) (h4 : 9 ≠ T) : MsgF B w' c m := by
  obtain ⟨oe, me, ke, oa, ma, ka, ov, mv, kv, oc, mc, kc, pv, nv, lv, pc, nc, lc, os, ms, ks, hc, g1, g2, g3, g4, g5, g6, g7, g8, g9⟩ := h
  exact ⟨oe, me, ke, oa, ma, ka, ov, mv, kv, oc, mc, kc, pv, nv, lv, pc, nc, lc, os, ms, ks, hc, g1.kt (entO_pst h1) h2 hk, g2.kt (dotO_pst _) h3 hk, g3.kt (dotO_pst _) h3 hk, g4.kt (dotO_pst _) h3 hk, g5.kt (dotO_pst _) h3 hk, g6.kt (dotO_pst _) h3 hk, g7, g8, g9.kt (strO_pst _) h4 hk⟩
/-- lists that are not too long -/
def Fit (m : cd.Msg) : Prop := m.e.length ≤ 1000000000 ∧ Few m.e ∧ m.al.length ≤ 1000000000000 ∧ m.dv.length ≤ 1000000000000 ∧ m.dc.length ≤ 1000000000000 ∧ m.v.length ≤ 1000000000000 ∧ m.c.length ≤ 1000000000000 ∧ m.s.length ≤ 1000000000000

set_option maxHeartbeats 6400000 in
set_option maxRecDepth 100000 in
theorem twmsg_any (m : cd.Msg) (c : List Value) (w : World) (h : msgRel w w.heap.size c m) (hf : Fit m) :
    Calls Try.prog 25 #[.agg c.toArray] w (fun e w' => ∃ c', e = .returned (.agg (List.toArray c')) ∧ MsgF w.heap.size w' c' m ∧ Below w.heap.size w w') := by
  obtain ⟨ae, ne, ce, aa, na, ca, p1, n1, c1, p2, n2, c2, p3, n3, c3, p4, n4, c4, sa, sn, sc, rfl, he, ha, h1, h2, h3, h4, hmn, hmv, hs⟩ := h
  obtain ⟨f1, f2, f3, f4, f5, f6, f7, f8⟩ := hf
  obtain ⟨W2, hW2⟩ : ∃ W, W = (w.alloc (.cells #[.int .i64 m.k, .int .i64 m.f, .int .i64 m.to, .int .i64 m.g, .int .i64 m.n, .slice ae ne ce, .slice aa na ca, .slice p1 n1 c1, .slice p2 n2 c2, .slice p3 n3 c3, .slice p4 n4 c4, .int .i64 m.ki, .string m.mn, .string m.mv, .slice sa sn sc, .int .i64 m.er] 34)).alloc (.cells #[.int .i64 0, .int .i64 0, .int .i64 0, .int .i64 0, .int .i64 0, .slice none 0 0, .slice none 0 0, .slice none 0 0, .slice none 0 0, .slice none 0 0, .slice none 0 0, .int .i64 0, .string ⟨#[]⟩, .string ⟨#[]⟩, .slice none 0 0, .int .i64 0] 34) := ⟨_, rfl⟩
  have b1 : Below w.heap.size w (w.alloc (.cells #[.int .i64 m.k, .int .i64 m.f, .int .i64 m.to, .int .i64 m.g, .int .i64 m.n, .slice ae ne ce, .slice aa na ca, .slice p1 n1 c1, .slice p2 n2 c2, .slice p3 n3 c3, .slice p4 n4 c4, .int .i64 m.ki, .string m.mn, .string m.mv, .slice sa sn sc, .int .i64 m.er] 34)) := below1
  have b2 : Below (w.alloc (.cells #[.int .i64 m.k, .int .i64 m.f, .int .i64 m.to, .int .i64 m.g, .int .i64 m.n, .slice ae ne ce, .slice aa na ca, .slice p1 n1 c1, .slice p2 n2 c2, .slice p3 n3 c3, .slice p4 n4 c4, .int .i64 m.ki, .string m.mn, .string m.mv, .slice sa sn sc, .int .i64 m.er] 34)).heap.size (w.alloc (.cells #[.int .i64 m.k, .int .i64 m.f, .int .i64 m.to, .int .i64 m.g, .int .i64 m.n, .slice ae ne ce, .slice aa na ca, .slice p1 n1 c1, .slice p2 n2 c2, .slice p3 n3 c3, .slice p4 n4 c4, .int .i64 m.ki, .string m.mn, .string m.mv, .slice sa sn sc, .int .i64 m.er] 34)) W2 := by rw [hW2]; exact below1
  have E2 := b1.trans (b2.mono b1.size)
  have x1 : W2.heap[w.heap.size]? = some (.cells #[.int .i64 m.k, .int .i64 m.f, .int .i64 m.to, .int .i64 m.g, .int .i64 m.n, .slice ae ne ce, .slice aa na ca, .slice p1 n1 c1, .slice p2 n2 c2, .slice p3 n3 c3, .slice p4 n4 c4, .int .i64 m.ki, .string m.mn, .string m.mv, .slice sa sn sc, .int .i64 m.er] 34) := (b2.block _ (by simp)).trans (heap_alloc_new w _)
  have x2 : W2.heap[w.heap.size + 1]? = some (.cells #[.int .i64 0, .int .i64 0, .int .i64 0, .int .i64 0, .int .i64 0, .slice none 0 0, .slice none 0 0, .slice none 0 0, .slice none 0 0, .slice none 0 0, .slice none 0 0, .int .i64 0, .string ⟨#[]⟩, .string ⟨#[]⟩, .slice none 0 0, .int .i64 0] 34) := by
    have := heap_alloc_new (w.alloc (.cells #[.int .i64 m.k, .int .i64 m.f, .int .i64 m.to, .int .i64 m.g, .int .i64 m.n, .slice ae ne ce, .slice aa na ca, .slice p1 n1 c1, .slice p2 n2 c2, .slice p3 n3 c3, .slice p4 n4 c4, .int .i64 m.ki, .string m.mn, .string m.mv, .slice sa sn sc, .int .i64 m.er] 34)) (.cells #[.int .i64 0, .int .i64 0, .int .i64 0, .int .i64 0, .int .i64 0, .slice none 0 0, .slice none 0 0, .slice none 0 0, .slice none 0 0, .slice none 0 0, .slice none 0 0, .int .i64 0, .string ⟨#[]⟩, .string ⟨#[]⟩, .slice none 0 0, .int .i64 0] 34)
    rw [World.size_alloc] at this
    rw [hW2]; exact this
  have hsz2 : W2.heap.size = w.heap.size + 2 := by rw [hW2]; simp
  have HCD := Lib.hid (twdelta_any m.e m.al m.dv m.dc ae aa p1 p2 ne ce na ca n1 c1 n2 c2 W2 (he.below entR_steady E2 E2.size) (ha.below dotR_steady E2 E2.size) (h1.below dotR_steady E2 E2.size) (h2.below dotR_steady E2 E2.size) f1 f2 f3 f4 f5)
  have HCC : Hid (∀ W, Below w.heap.size w W → Calls Try.prog 37 #[.agg #[.slice p3 n3 c3, .slice p4 n4 c4]] W (fun e w' => ∃ o1 m1 k1 o2 m2 k2, e = .returned (.agg #[.slice o1 m1 k1, .slice o2 m2 k2]) ∧ RowsO W.heap.size 57 2 dotO w' (.slice o1 m1 k1) m.v ∧ RowsO W.heap.size 57 2 dotO w' (.slice o2 m2 k2) m.c ∧ Below W.heap.size W w')) := fun W hW => twctx_any m.v m.c p3 p4 n3 c3 n4 c4 W (h3.below dotR_steady hW hW.size) (h4.below dotR_steady hW hW.size) f6 f7
  have HCS : Hid (∀ W, Below w.heap.size w W → Calls Try.prog 38 #[.slice sa sn sc] W (Cloned 9 1 strO m.s W)) := fun W hW => nclone_str m.s _ W (hs.below strR_steady hW hW.size) f8
  have HE2 := Lib.hid E2
  have X1 := Lib.hid x1
  have X2 := Lib.hid x2
  have HS2 := Lib.hid hsz2
  have HMN : Hid (m.mn.size ≤ maxLen ∧ m.mv.size ≤ maxLen) := ⟨hmn, hmv⟩
  clear he ha h1 h2 h3 h4 hs x1 x2 E2 b1 b2 f1 f2 f3 f4 f5 f6 f7 f8 hsz2 hmn hmv
  go_enter Try.func25, Try.ntmps25
  go_wp2_with fail
  rw [← hW2]
  clear hW2
  (with_reducible refine HCD.out.mono ?_)
  rintro e w3 ⟨oe, me, ke, oa, ma, ka, q1, m1, k1, q2, m2, k2, rfl, ge, ga, g1, g2, b3⟩
  obtain ⟨b0, hb0⟩ : ∃ b, b = w.heap.size := ⟨_, rfl⟩
  have y1 := (b3.block _ (lt_of_block X1.out)).trans X1.out
  have y2 := (b3.block _ (lt_of_block X2.out)).trans X2.out
  have HW : Hid (b0 = w.heap.size) := hb0
  have HB3 := Lib.hid (HE2.out.trans (b3.mono HE2.out.size))
  have GE := Lib.hid (ge.low HE2.out.size)
  have GA := Lib.hid (ga.low HE2.out.size)
  have G1 := Lib.hid (g1.low HE2.out.size)
  have G2 := Lib.hid (g2.low HE2.out.size)
  rw [← hb0] at y1 y2 ⊢
  clear hb0 ge ga g1 g2 b3 X1 X2 HCD
  have Y1 := Lib.hid y1
  have Y2 := Lib.hid y2
  have f5 := boxf y1 5
  have f6 := boxf y1 6
  have f7 := boxf y1 7
  have f8 := boxf y1 8
  have p5 := boxc y1 5 _ rfl
  have p6 := boxc y1 6 _ rfl
  have p7 := boxc y1 7 _ rfl
  have p8 := boxc y1 8 _ rfl
  have p9 := boxc y1 9 _ rfl
  have p10 := boxc y1 10 _ rfl
  obtain ⟨w4, hw4⟩ : ∃ W, W = ((((w3.setCell ⟨b0, 5, none⟩ (.slice oe me ke)).setCell ⟨b0, 6, none⟩ (.slice oa ma ka)).setCell ⟨b0, 7, none⟩ (.slice q1 m1 k1)).setCell ⟨b0, 8, none⟩ (.slice q2 m2 k2)) := ⟨_, rfl⟩
  have z0 := heap_setCell_same _ b0 5 _ _ (.slice oe me ke) y1
  have z1 := heap_setCell_same _ b0 6 _ _ (.slice oa ma ka) z0
  have z2 := heap_setCell_same _ b0 7 _ _ (.slice q1 m1 k1) z1
  have z3 := heap_setCell_same _ b0 8 _ _ (.slice q2 m2 k2) z2
  have kk := ((((Kt.set y1 5 (.slice oe me ke)).trans (Kt.set z0 6 (.slice oa ma ka))).trans (Kt.set z1 7 (.slice q1 m1 k1))).trans (Kt.set z2 8 (.slice q2 m2 k2)))
  have yo := ((heap_setCell_other _ ⟨b0, 8, none⟩ (b0 + 1) (.slice q2 m2 k2) (by show b0 + 1 ≠ b0; omega)).trans ((heap_setCell_other _ ⟨b0, 7, none⟩ (b0 + 1) (.slice q1 m1 k1) (by show b0 + 1 ≠ b0; omega)).trans ((heap_setCell_other _ ⟨b0, 6, none⟩ (b0 + 1) (.slice oa ma ka) (by show b0 + 1 ≠ b0; omega)).trans (heap_setCell_other w3 ⟨b0, 5, none⟩ (b0 + 1) (.slice oe me ke) (by show b0 + 1 ≠ b0; omega))))).trans Y2.out
  have bb := ((((HB3.out.setCell (p := ⟨b0, 5, none⟩) (by show w.heap.size ≤ b0; have := HW.out; omega) (.slice oe me ke)).setCell (p := ⟨b0, 6, none⟩) (by show w.heap.size ≤ b0; have := HW.out; omega) (.slice oa ma ka)).setCell (p := ⟨b0, 7, none⟩) (by show w.heap.size ≤ b0; have := HW.out; omega) (.slice q1 m1 k1)).setCell (p := ⟨b0, 8, none⟩) (by show w.heap.size ≤ b0; have := HW.out; omega) (.slice q2 m2 k2))
  rw [← hw4] at kk yo bb
  have y1n : w4.heap[b0]? = some (.cells #[.int .i64 m.k, .int .i64 m.f, .int .i64 m.to, .int .i64 m.g, .int .i64 m.n, .slice oe me ke, .slice oa ma ka, .slice q1 m1 k1, .slice q2 m2 k2, .slice p3 n3 c3, .slice p4 n4 c4, .int .i64 m.ki, .string m.mn, .string m.mv, .slice sa sn sc, .int .i64 m.er] 34) := by rw [hw4]; exact z3
  have GEn := Lib.hid (GE.out.kt (entO_pst (by decide)) (by decide) kk)
  have GAn := Lib.hid (GA.out.kt (dotO_pst _) (by decide) kk)
  have G1n := Lib.hid (G1.out.kt (dotO_pst _) (by decide) kk)
  have G2n := Lib.hid (G2.out.kt (dotO_pst _) (by decide) kk)
  have HBn := Lib.hid bb
  have KY1 := Lib.hid y1n
  have KY2 := Lib.hid yo
  clear kk yo bb y1n z0 z1 z2 z3 GE GA G1 G2 y1 y2 Y1 Y2 HB3
  go_wp2_with fail
  rw [← hw4]
  clear hw4 p5 p6 p7 p8 p9 p10 f5 f6 f7 f8
  (with_reducible refine (HCC.out _ HBn.out).mono ?_)
  rintro e w5 ⟨q3, m3, k3, q4, m4, k4, rfl, g3, g4, b5⟩
  have y1 := (b5.block _ (lt_of_block KY1.out)).trans KY1.out
  have y2 := (b5.block _ (lt_of_block KY2.out)).trans KY2.out
  have kb := Kt.of_below (T := 34) b5
  have HB5 := Lib.hid (HBn.out.trans (b5.mono HBn.out.size))
  have GE := Lib.hid (GEn.out.kt (entO_pst (by decide)) (by decide) kb)
  have GA := Lib.hid (GAn.out.kt (dotO_pst _) (by decide) kb)
  have G1 := Lib.hid (G1n.out.kt (dotO_pst _) (by decide) kb)
  have G2 := Lib.hid (G2n.out.kt (dotO_pst _) (by decide) kb)
  have G3 := Lib.hid (g3.low HBn.out.size)
  have G4 := Lib.hid (g4.low HBn.out.size)
  clear GEn GAn G1n G2n g3 g4 kb b5 KY1 KY2 HBn HCC
  have Y1 := Lib.hid y1
  have Y2 := Lib.hid y2
  have f9 := boxf y1 9
  have f10 := boxf y1 10
  have p9 := boxc y1 9 _ rfl
  have p10 := boxc y1 10 _ rfl
  have p14 := boxc y1 14 _ rfl
  obtain ⟨w6, hw6⟩ : ∃ W, W = ((w5.setCell ⟨b0, 9, none⟩ (.slice q3 m3 k3)).setCell ⟨b0, 10, none⟩ (.slice q4 m4 k4)) := ⟨_, rfl⟩
  have z0 := heap_setCell_same _ b0 9 _ _ (.slice q3 m3 k3) y1
  have z1 := heap_setCell_same _ b0 10 _ _ (.slice q4 m4 k4) z0
  have kk := ((Kt.set y1 9 (.slice q3 m3 k3)).trans (Kt.set z0 10 (.slice q4 m4 k4)))
  have yo := ((heap_setCell_other _ ⟨b0, 10, none⟩ (b0 + 1) (.slice q4 m4 k4) (by show b0 + 1 ≠ b0; omega)).trans (heap_setCell_other w5 ⟨b0, 9, none⟩ (b0 + 1) (.slice q3 m3 k3) (by show b0 + 1 ≠ b0; omega))).trans Y2.out
  have bb := ((HB5.out.setCell (p := ⟨b0, 9, none⟩) (by show w.heap.size ≤ b0; have := HW.out; omega) (.slice q3 m3 k3)).setCell (p := ⟨b0, 10, none⟩) (by show w.heap.size ≤ b0; have := HW.out; omega) (.slice q4 m4 k4))
  rw [← hw6] at kk yo bb
  have y1n : w6.heap[b0]? = some (.cells #[.int .i64 m.k, .int .i64 m.f, .int .i64 m.to, .int .i64 m.g, .int .i64 m.n, .slice oe me ke, .slice oa ma ka, .slice q1 m1 k1, .slice q2 m2 k2, .slice q3 m3 k3, .slice q4 m4 k4, .int .i64 m.ki, .string m.mn, .string m.mv, .slice sa sn sc, .int .i64 m.er] 34) := by rw [hw6]; exact z1
  have GEn := Lib.hid (GE.out.kt (entO_pst (by decide)) (by decide) kk)
  have GAn := Lib.hid (GA.out.kt (dotO_pst _) (by decide) kk)
  have G1n := Lib.hid (G1.out.kt (dotO_pst _) (by decide) kk)
  have G2n := Lib.hid (G2.out.kt (dotO_pst _) (by decide) kk)
  have G3n := Lib.hid (G3.out.kt (dotO_pst _) (by decide) kk)
  have G4n := Lib.hid (G4.out.kt (dotO_pst _) (by decide) kk)
  have HBn := Lib.hid bb
  have KY1 := Lib.hid y1n
  have KY2 := Lib.hid yo
  clear kk yo bb y1n z0 z1 GE GA G1 G2 G3 G4 y1 y2 Y1 Y2 HB5
  go_wp2_with fail
  rw [← hw6]
  clear hw6 p9 p10 p14 f9 f10
  (with_reducible refine (HCS.out _ HBn.out).mono ?_)
  rintro e w7 ⟨os, ms, ks, rfl, gs, b7⟩
  have y1 := (b7.block _ (lt_of_block KY1.out)).trans KY1.out
  have y2 := (b7.block _ (lt_of_block KY2.out)).trans KY2.out
  have kb := Kt.of_below (T := 34) b7
  have HB7 := Lib.hid (HBn.out.trans (b7.mono HBn.out.size))
  have GE := Lib.hid (GEn.out.kt (entO_pst (by decide)) (by decide) kb)
  have GA := Lib.hid (GAn.out.kt (dotO_pst _) (by decide) kb)
  have G1 := Lib.hid (G1n.out.kt (dotO_pst _) (by decide) kb)
  have G2 := Lib.hid (G2n.out.kt (dotO_pst _) (by decide) kb)
  have G3 := Lib.hid (G3n.out.kt (dotO_pst _) (by decide) kb)
  have G4 := Lib.hid (G4n.out.kt (dotO_pst _) (by decide) kb)
  have GS := Lib.hid (gs.low HBn.out.size)
  clear GEn GAn G1n G2n G3n G4n gs kb b7 KY1 KY2 HBn HCS
  have p0 := boxc y1 0 _ rfl
  have p1 := boxc y1 1 _ rfl
  have p2 := boxc y1 2 _ rfl
  have p3 := boxc y1 3 _ rfl
  have p4 := boxc y1 4 _ rfl
  have p5 := boxc y1 5 _ rfl
  have p6 := boxc y1 6 _ rfl
  have p7 := boxc y1 7 _ rfl
  have p8 := boxc y1 8 _ rfl
  have p9 := boxc y1 9 _ rfl
  have p10 := boxc y1 10 _ rfl
  have p11 := boxc y1 11 _ rfl
  have p12 := boxc y1 12 _ rfl
  have p13 := boxc y1 13 _ rfl
  have p14 := boxc y1 14 _ rfl
  have p15 := boxc y1 15 _ rfl
  have f14 := boxf y1 14
  have g0 := boxf y2 0
  have q20 := boxc y2 0 _ rfl
  have g1 := boxf y2 1
  have q21 := boxc y2 1 _ rfl
  have g2 := boxf y2 2
  have q22 := boxc y2 2 _ rfl
  have g3 := boxf y2 3
  have q23 := boxc y2 3 _ rfl
  have g4 := boxf y2 4
  have q24 := boxc y2 4 _ rfl
  have g5 := boxf y2 5
  have q25 := boxc y2 5 _ rfl
  have g6 := boxf y2 6
  have q26 := boxc y2 6 _ rfl
  have g7 := boxf y2 7
  have q27 := boxc y2 7 _ rfl
  have g8 := boxf y2 8
  have q28 := boxc y2 8 _ rfl
  have g9 := boxf y2 9
  have q29 := boxc y2 9 _ rfl
  have g10 := boxf y2 10
  have q30 := boxc y2 10 _ rfl
  have g11 := boxf y2 11
  have q31 := boxc y2 11 _ rfl
  have g12 := boxf y2 12
  have q32 := boxc y2 12 _ rfl
  have g13 := boxf y2 13
  have q33 := boxc y2 13 _ rfl
  have g14 := boxf y2 14
  have q34 := boxc y2 14 _ rfl
  have g15 := boxf y2 15
  have q35 := boxc y2 15 _ rfl
  have Y1 := Lib.hid y1
  have Y2 := Lib.hid y2
  clear y1 y2
  go_wp2
  obtain ⟨w8, h8⟩ : ∃ W, W = w7.setCell ⟨b0, 14, none⟩ (.slice os ms ks) := ⟨_, rfl⟩
  rw [← h8]
  have z := (heap_setCell_other w7 ⟨b0, 14, none⟩ (b0 + 1) (.slice os ms ks) (by show b0 + 1 ≠ b0; omega)).trans Y2.out
  have kk := Kt.set Y1.out 14 (.slice os ms ks)
  have bb := HB7.out.setCell (p := ⟨b0, 14, none⟩) (by show w.heap.size ≤ b0; have := HW.out; omega) (.slice os ms ks)
  rw [← h8] at z kk bb
  obtain ⟨w9, h9⟩ : ∃ W, W = wset w8 (b0 + 1) 0 [.int .i64 m.k, .int .i64 m.f, .int .i64 m.to, .int .i64 m.g, .int .i64 m.n, .slice oe me ke, .slice oa ma ka, .slice q1 m1 k1, .slice q2 m2 k2, .slice q3 m3 k3, .slice q4 m4 k4, .int .i64 m.ki, .string m.mn, .string m.mv, .slice os ms ks, .int .i64 m.er] := ⟨_, rfl⟩
  have c := wset_row [.int .i64 m.k, .int .i64 m.f, .int .i64 m.to, .int .i64 m.g, .int .i64 m.n, .slice oe me ke, .slice oa ma ka, .slice q1 m1 k1, .slice q2 m2 k2, .slice q3 m3 k3, .slice q4 m4 k4, .int .i64 m.ki, .string m.mn, .string m.mv, .slice os ms ks, .int .i64 m.er] z rfl
  have kk := kk.trans (wset_kt [.int .i64 m.k, .int .i64 m.f, .int .i64 m.to, .int .i64 m.g, .int .i64 m.n, .slice oe me ke, .slice oa ma ka, .slice q1 m1 k1, .slice q2 m2 k2, .slice q3 m3 k3, .slice q4 m4 k4, .int .i64 m.ki, .string m.mn, .string m.mv, .slice os ms ks, .int .i64 m.er] _ _ 0 _ _ z)
  have bb := wset_below [.int .i64 m.k, .int .i64 m.f, .int .i64 m.to, .int .i64 m.g, .int .i64 m.n, .slice oe me ke, .slice oa ma ka, .slice q1 m1 k1, .slice q2 m2 k2, .slice q3 m3 k3, .slice q4 m4 k4, .int .i64 m.ki, .string m.mn, .string m.mv, .slice os ms ks, .int .i64 m.er] _ _ (b0 + 1) 0 _ (by have := HW.out; omega) bb
  rw [← h9] at c kk bb
  simp only [wset, Nat.reduceAdd] at h9
  rw [← h9]
  clear h8 h9 z
  have c20 := boxc c 0 (.int .i64 m.k) rfl
  have c21 := boxc c 1 (.int .i64 m.f) rfl
  have c22 := boxc c 2 (.int .i64 m.to) rfl
  have c23 := boxc c 3 (.int .i64 m.g) rfl
  have c24 := boxc c 4 (.int .i64 m.n) rfl
  have c25 := boxc c 5 (.slice oe me ke) rfl
  have c26 := boxc c 6 (.slice oa ma ka) rfl
  have c27 := boxc c 7 (.slice q1 m1 k1) rfl
  have c28 := boxc c 8 (.slice q2 m2 k2) rfl
  have c29 := boxc c 9 (.slice q3 m3 k3) rfl
  have c30 := boxc c 10 (.slice q4 m4 k4) rfl
  have c31 := boxc c 11 (.int .i64 m.ki) rfl
  have c32 := boxc c 12 (.string m.mn) rfl
  have c33 := boxc c 13 (.string m.mv) rfl
  have c34 := boxc c 14 (.slice os ms ks) rfl
  have c35 := boxc c 15 (.int .i64 m.er) rfl
  refine bodyPost_ret (v := .agg #[.int .i64 m.k, .int .i64 m.f, .int .i64 m.to, .int .i64 m.g, .int .i64 m.n, .slice oe me ke, .slice oa ma ka, .slice q1 m1 k1, .slice q2 m2 k2, .slice q3 m3 k3, .slice q4 m4 k4, .int .i64 m.ki, .string m.mn, .string m.mv, .slice os ms ks, .int .i64 m.er]) (by simp [results, Try.results25, go_sem, c20, c21, c22, c23, c24, c25, c26, c27, c28, c29, c30, c31, c32, c33, c34, c35]) rfl ?_
  refine ⟨[.int .i64 m.k, .int .i64 m.f, .int .i64 m.to, .int .i64 m.g, .int .i64 m.n, .slice oe me ke, .slice oa ma ka, .slice q1 m1 k1, .slice q2 m2 k2, .slice q3 m3 k3, .slice q4 m4 k4, .int .i64 m.ki, .string m.mn, .string m.mv, .slice os ms ks, .int .i64 m.er], rfl, ⟨_, _, _, _, _, _, _, _, _, _, _, _, _, _, _, _, _, _, _, _, _, rfl, GE.out.kt (entO_pst (by decide)) (by decide) kk, GA.out.kt (dotO_pst _) (by decide) kk, G1.out.kt (dotO_pst _) (by decide) kk, G2.out.kt (dotO_pst _) (by decide) kk, G3.out.kt (dotO_pst _) (by decide) kk, G4.out.kt (dotO_pst _) (by decide) kk, HMN.out.1, HMN.out.2, GS.out.kt (strO_pst _) (by decide) kk⟩, ?_⟩
  exact bb
end Go.Proofs.Ytpgccfgldjeomaa
