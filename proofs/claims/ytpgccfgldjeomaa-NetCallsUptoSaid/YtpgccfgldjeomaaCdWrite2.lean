/- codec.Write by its contract: the message's bytes, or ErrArg. -/
import Derived.Test.YtpgccfgldjeomaaCdWrite
namespace Go.Proofs.Ytpgccfgldjeomaa
open Go.RowKit Go.ChangeShapes cl
/-- what Write answers -/
def Answer (t : cd.W) (w : World) (e : Ending) (w' : World) : Prop :=
  (∃ b, t = some b ∧ e = .returned (.tuple #[.string (kit.str b), .int .i64 0]) ∨ t = none ∧ e = .returned (.tuple #[.string ⟨#[]⟩, .int .i64 1])) ∧ Below w.heap.size w w'
theorem box_get {w : World} {q : Nat} {cs : Array Value} {t : TypeId} {fr : Nat × Nat} (h : w.heap[q]? = some (.cells cs t fr)) (i : Nat) (u : Value) (hu : cs[i]? = some u) : w.cell? ⟨q, i, none⟩ = some u := by simp [World.cell?, h, hu]
theorem kept_new {w w' : World} (o : Obj) (h : Below (w.alloc o).heap.size (w.alloc o) w') : w'.heap[w.heap.size]? = some o := (h.block _ (by simp)).trans (heap_alloc_new w o)

theorem write_leaves {w w9 : World} {s : Nat} {tm : Array Value} {R : Ending → World → Prop} {x x' : ByteArray} {y y' : Int} (t2 : tm[2]? = some (.pointer (some ⟨s + 1, 0, none⟩))) (t3 : tm[3]? = some (.pointer (some ⟨s + 1 + 1, 0, none⟩))) (b9 : Below w.heap.size w w9)
    (y1 : w.heap[s + 1]? = some (.cells #[.string x'] 9 (0, 0))) (y2 : w.heap[s + 1 + 1]? = some (.cells #[.int .i64 y'] 32 (0, 0)))
    (h : ∀ W, Below s w W → R (.returned (.tuple #[.string x, .int .i64 y])) W) :
    Leaves Try.prog Try.f24 tm R [] .returning ((w9.setCell ⟨s + 1, 0, none⟩ (.string x)).setCell ⟨s + 1 + 1, 0, none⟩ (.int .i64 y)) := by
  have z1 := (b9.block _ (lt_of_block y1)).trans y1
  have z2 := (b9.block _ (lt_of_block y2)).trans y2
  have l1 := lt_of_block y1
  have c1 : ((w9.setCell ⟨s + 1, 0, none⟩ (.string x)).setCell ⟨s + 1 + 1, 0, none⟩ (.int .i64 y)).cell? ⟨s + 1, 0, none⟩ = some (.string x) := by
    rw [World.cell?_setCell_other _ _ _ _ (by simp)]
    exact cell_of_one (one_setCell z1)
  have c2 : ((w9.setCell ⟨s + 1, 0, none⟩ (.string x)).setCell ⟨s + 1 + 1, 0, none⟩ (.int .i64 y)).cell? ⟨s + 1 + 1, 0, none⟩ = some (.int .i64 y) := by
    refine cell_of_one (one_setCell (t := 32) (v := .int .i64 y') ?_)
    rw [Below.heap_setCell _ _ _ _ (by simp)]
    exact z2
  have hR := h ((w9.setCell ⟨s + 1, 0, none⟩ (.string x)).setCell ⟨s + 1 + 1, 0, none⟩ (.int .i64 y)) (((b9.mono (by omega)).setCell (show s ≤ s + 1 by omega) _).setCell (show s ≤ s + 1 + 1 by omega) _)
  generalize ((w9.setCell ⟨s + 1, 0, none⟩ (.string x)).setCell ⟨s + 1 + 1, 0, none⟩ (.int .i64 y)) = W at *
  simp [Leaves, results, Try.results24, go_sem, c1, c2, t2, t3]
  exact hR

set_option maxHeartbeats 6400000 in
set_option maxRecDepth 100000 in
theorem write_any (m : cd.Msg) (ae : Option Addr) (ne ce : Nat) (aa : Option Addr) (na ca : Nat) (p1 : Option Addr) (m1 k1 : Nat) (p2 : Option Addr) (m2 k2 : Nat) (p3 : Option Addr) (m3 k3 : Nat) (p4 : Option Addr) (m4 k4 : Nat) (sa : Option Addr) (sn sc : Nat) (w : World) (he : RowsAt 5 entR w w.heap.size (.slice ae ne ce) m.e) (ha : RowsAt 2 dotR w w.heap.size (.slice aa na ca) m.al) (h1 : RowsAt 2 dotR w w.heap.size (.slice p1 m1 k1) m.dv) (h2 : RowsAt 2 dotR w w.heap.size (.slice p2 m2 k2) m.dc) (h3 : RowsAt 2 dotR w w.heap.size (.slice p3 m3 k3) m.v) (h4 : RowsAt 2 dotR w w.heap.size (.slice p4 m4 k4) m.c) (hs : RowsAt 1 strR w w.heap.size (.slice sa sn sc) m.s) (hmn : m.mn.size ≤ maxLen) (hmv : m.mv.size ≤ maxLen) :
    Calls Try.prog 24 #[.agg #[.int .i64 m.k, .int .i64 m.f, .int .i64 m.to, .int .i64 m.g, .int .i64 m.n, .slice ae ne ce, .slice aa na ca, .slice p1 m1 k1, .slice p2 m2 k2, .slice p3 m3 k3, .slice p4 m4 k4, .int .i64 m.ki, .string m.mn, .string m.mv, .slice sa sn sc, .int .i64 m.er]] w (Answer (cd.msg m) w) := by
  have hmf : ∀ (fn : Fn) (first cap : Array Value) (w : World), (Instr.makeFunc fn first cap).run Try.prog w = .ok (.func fn first cap) w := fun _ _ _ _ => rfl
  have b01 : Below w.heap.size w (w.alloc (.cells #[.int .i64 m.k, .int .i64 m.f, .int .i64 m.to, .int .i64 m.g, .int .i64 m.n, .slice ae ne ce, .slice aa na ca, .slice p1 m1 k1, .slice p2 m2 k2, .slice p3 m3 k3, .slice p4 m4 k4, .int .i64 m.ki, .string m.mn, .string m.mv, .slice sa sn sc, .int .i64 m.er] 34)) := below1
  have b12 : Below (w.alloc (.cells #[.int .i64 m.k, .int .i64 m.f, .int .i64 m.to, .int .i64 m.g, .int .i64 m.n, .slice ae ne ce, .slice aa na ca, .slice p1 m1 k1, .slice p2 m2 k2, .slice p3 m3 k3, .slice p4 m4 k4, .int .i64 m.ki, .string m.mn, .string m.mv, .slice sa sn sc, .int .i64 m.er] 34)).heap.size (w.alloc (.cells #[.int .i64 m.k, .int .i64 m.f, .int .i64 m.to, .int .i64 m.g, .int .i64 m.n, .slice ae ne ce, .slice aa na ca, .slice p1 m1 k1, .slice p2 m2 k2, .slice p3 m3 k3, .slice p4 m4 k4, .int .i64 m.ki, .string m.mn, .string m.mv, .slice sa sn sc, .int .i64 m.er] 34)) ((w.alloc (.cells #[.int .i64 m.k, .int .i64 m.f, .int .i64 m.to, .int .i64 m.g, .int .i64 m.n, .slice ae ne ce, .slice aa na ca, .slice p1 m1 k1, .slice p2 m2 k2, .slice p3 m3 k3, .slice p4 m4 k4, .int .i64 m.ki, .string m.mn, .string m.mv, .slice sa sn sc, .int .i64 m.er] 34)).alloc (.cells #[.string ⟨#[]⟩] 9)) := below1
  have b23 : Below ((w.alloc (.cells #[.int .i64 m.k, .int .i64 m.f, .int .i64 m.to, .int .i64 m.g, .int .i64 m.n, .slice ae ne ce, .slice aa na ca, .slice p1 m1 k1, .slice p2 m2 k2, .slice p3 m3 k3, .slice p4 m4 k4, .int .i64 m.ki, .string m.mn, .string m.mv, .slice sa sn sc, .int .i64 m.er] 34)).alloc (.cells #[.string ⟨#[]⟩] 9)).heap.size ((w.alloc (.cells #[.int .i64 m.k, .int .i64 m.f, .int .i64 m.to, .int .i64 m.g, .int .i64 m.n, .slice ae ne ce, .slice aa na ca, .slice p1 m1 k1, .slice p2 m2 k2, .slice p3 m3 k3, .slice p4 m4 k4, .int .i64 m.ki, .string m.mn, .string m.mv, .slice sa sn sc, .int .i64 m.er] 34)).alloc (.cells #[.string ⟨#[]⟩] 9)) (((w.alloc (.cells #[.int .i64 m.k, .int .i64 m.f, .int .i64 m.to, .int .i64 m.g, .int .i64 m.n, .slice ae ne ce, .slice aa na ca, .slice p1 m1 k1, .slice p2 m2 k2, .slice p3 m3 k3, .slice p4 m4 k4, .int .i64 m.ki, .string m.mn, .string m.mv, .slice sa sn sc, .int .i64 m.er] 34)).alloc (.cells #[.string ⟨#[]⟩] 9)).alloc (.cells #[.int .i64 0] 32)) := below1
  have b34 : Below (((w.alloc (.cells #[.int .i64 m.k, .int .i64 m.f, .int .i64 m.to, .int .i64 m.g, .int .i64 m.n, .slice ae ne ce, .slice aa na ca, .slice p1 m1 k1, .slice p2 m2 k2, .slice p3 m3 k3, .slice p4 m4 k4, .int .i64 m.ki, .string m.mn, .string m.mv, .slice sa sn sc, .int .i64 m.er] 34)).alloc (.cells #[.string ⟨#[]⟩] 9)).alloc (.cells #[.int .i64 0] 32)).heap.size (((w.alloc (.cells #[.int .i64 m.k, .int .i64 m.f, .int .i64 m.to, .int .i64 m.g, .int .i64 m.n, .slice ae ne ce, .slice aa na ca, .slice p1 m1 k1, .slice p2 m2 k2, .slice p3 m3 k3, .slice p4 m4 k4, .int .i64 m.ki, .string m.mn, .string m.mv, .slice sa sn sc, .int .i64 m.er] 34)).alloc (.cells #[.string ⟨#[]⟩] 9)).alloc (.cells #[.int .i64 0] 32)) ((((w.alloc (.cells #[.int .i64 m.k, .int .i64 m.f, .int .i64 m.to, .int .i64 m.g, .int .i64 m.n, .slice ae ne ce, .slice aa na ca, .slice p1 m1 k1, .slice p2 m2 k2, .slice p3 m3 k3, .slice p4 m4 k4, .int .i64 m.ki, .string m.mn, .string m.mv, .slice sa sn sc, .int .i64 m.er] 34)).alloc (.cells #[.string ⟨#[]⟩] 9)).alloc (.cells #[.int .i64 0] 32)).alloc (.cells #[.slice none 0 0] 65)) := below1
  have z1 : (w.alloc (.cells #[.int .i64 m.k, .int .i64 m.f, .int .i64 m.to, .int .i64 m.g, .int .i64 m.n, .slice ae ne ce, .slice aa na ca, .slice p1 m1 k1, .slice p2 m2 k2, .slice p3 m3 k3, .slice p4 m4 k4, .int .i64 m.ki, .string m.mn, .string m.mv, .slice sa sn sc, .int .i64 m.er] 34)).heap.size = w.heap.size + 1 := by simp
  have z2 : ((w.alloc (.cells #[.int .i64 m.k, .int .i64 m.f, .int .i64 m.to, .int .i64 m.g, .int .i64 m.n, .slice ae ne ce, .slice aa na ca, .slice p1 m1 k1, .slice p2 m2 k2, .slice p3 m3 k3, .slice p4 m4 k4, .int .i64 m.ki, .string m.mn, .string m.mv, .slice sa sn sc, .int .i64 m.er] 34)).alloc (.cells #[.string ⟨#[]⟩] 9)).heap.size = w.heap.size + 1 + 1 := by simp
  have z3 : (((w.alloc (.cells #[.int .i64 m.k, .int .i64 m.f, .int .i64 m.to, .int .i64 m.g, .int .i64 m.n, .slice ae ne ce, .slice aa na ca, .slice p1 m1 k1, .slice p2 m2 k2, .slice p3 m3 k3, .slice p4 m4 k4, .int .i64 m.ki, .string m.mn, .string m.mv, .slice sa sn sc, .int .i64 m.er] 34)).alloc (.cells #[.string ⟨#[]⟩] 9)).alloc (.cells #[.int .i64 0] 32)).heap.size = (w.heap.size + 1 + 1 + 1) := by simp
  have b24 := b23.trans (b34.mono (by omega))
  have b14 := b12.trans (b24.mono (by omega))
  have b04 := b01.trans (b14.mono (by omega))
  have x0 := kept_new _ b14
  have x1 := kept_new _ b24
  have x2 := kept_new _ b34
  rw [z1] at x1
  rw [z2] at x2
  have x3 := heap_alloc_new (((w.alloc (.cells #[.int .i64 m.k, .int .i64 m.f, .int .i64 m.to, .int .i64 m.g, .int .i64 m.n, .slice ae ne ce, .slice aa na ca, .slice p1 m1 k1, .slice p2 m2 k2, .slice p3 m3 k3, .slice p4 m4 k4, .int .i64 m.ki, .string m.mn, .string m.mv, .slice sa sn sc, .int .i64 m.er] 34)).alloc (.cells #[.string ⟨#[]⟩] 9)).alloc (.cells #[.int .i64 0] 32)) (.cells #[.slice none 0 0] 65)
  rw [z3] at x3
  have HW : Hid (Wr (w.heap.size + 1 + 1 + 1) (w.heap.size + 1 + 1 + 1) [] ((((w.alloc (.cells #[.int .i64 m.k, .int .i64 m.f, .int .i64 m.to, .int .i64 m.g, .int .i64 m.n, .slice ae ne ce, .slice aa na ca, .slice p1 m1 k1, .slice p2 m2 k2, .slice p3 m3 k3, .slice p4 m4 k4, .int .i64 m.ki, .string m.mn, .string m.mv, .slice sa sn sc, .int .i64 m.er] 34)).alloc (.cells #[.string ⟨#[]⟩] 9)).alloc (.cells #[.int .i64 0] 32)).alloc (.cells #[.slice none 0 0] 65))) := ⟨Nat.le_refl _, _, x3, World.ownsRow_nil _ _ _ _⟩
  have HX0 := Lib.hid x0
  have HX1 := Lib.hid x1
  have HX2 := Lib.hid x2
  have HB04 := Lib.hid b04
  have HS0 := Lib.hid (HW.out.safe (q := w.heap.size) (by omega))
  have HS1 := Lib.hid (HW.out.safe (q := w.heap.size + 1) (by omega))
  have HS2 := Lib.hid (HW.out.safe (q := w.heap.size + 1 + 1) (by omega))
  have Ghe := Lib.hid (he.below entR_steady b04 (show w.heap.size ≤ (w.heap.size + 1 + 1 + 1) by omega))
  have Gha := Lib.hid (ha.below dotR_steady b04 (show w.heap.size ≤ (w.heap.size + 1 + 1 + 1) by omega))
  have Gh1 := Lib.hid (h1.below dotR_steady b04 (show w.heap.size ≤ (w.heap.size + 1 + 1 + 1) by omega))
  have Gh2 := Lib.hid (h2.below dotR_steady b04 (show w.heap.size ≤ (w.heap.size + 1 + 1 + 1) by omega))
  have Gh3 := Lib.hid (h3.below dotR_steady b04 (show w.heap.size ≤ (w.heap.size + 1 + 1 + 1) by omega))
  have Gh4 := Lib.hid (h4.below dotR_steady b04 (show w.heap.size ≤ (w.heap.size + 1 + 1 + 1) by omega))
  have Ghs := Lib.hid (hs.below strR_steady b04 (show w.heap.size ≤ (w.heap.size + 1 + 1 + 1) by omega))
  have HB0 : Hid (Kp (w.heap.size + 1 + 1 + 1) (w.heap.size + 1 + 1 + 1) ((((w.alloc (.cells #[.int .i64 m.k, .int .i64 m.f, .int .i64 m.to, .int .i64 m.g, .int .i64 m.n, .slice ae ne ce, .slice aa na ca, .slice p1 m1 k1, .slice p2 m2 k2, .slice p3 m3 k3, .slice p4 m4 k4, .int .i64 m.ki, .string m.mn, .string m.mv, .slice sa sn sc, .int .i64 m.er] 34)).alloc (.cells #[.string ⟨#[]⟩] 9)).alloc (.cells #[.int .i64 0] 32)).alloc (.cells #[.slice none 0 0] 65)) ((((w.alloc (.cells #[.int .i64 m.k, .int .i64 m.f, .int .i64 m.to, .int .i64 m.g, .int .i64 m.n, .slice ae ne ce, .slice aa na ca, .slice p1 m1 k1, .slice p2 m2 k2, .slice p3 m3 k3, .slice p4 m4 k4, .int .i64 m.ki, .string m.mn, .string m.mv, .slice sa sn sc, .int .i64 m.er] 34)).alloc (.cells #[.string ⟨#[]⟩] 9)).alloc (.cells #[.int .i64 0] 32)).alloc (.cells #[.slice none 0 0] 65))) := Kp.refl _ _ _
  have HMN := Lib.hid hmn
  have HMV := Lib.hid hmv
  clear he ha h1 h2 h3 h4 hs hmn hmv b01 b12 b23 b34 b24 b14 b04 z1 z2 z3 x0 x1 x2 x3
  have HN0 := Lib.hid (numbers_lit (w.heap.size + 1 + 1 + 1) (w.heap.size + 1 + 1 + 1) [] [m.k, m.f, m.to, m.g, m.n] #[.int .i64 m.k, .int .i64 m.f, .int .i64 m.to, .int .i64 m.g, .int .i64 m.n] 5 ((((w.alloc (.cells #[.int .i64 m.k, .int .i64 m.f, .int .i64 m.to, .int .i64 m.g, .int .i64 m.n, .slice ae ne ce, .slice aa na ca, .slice p1 m1 k1, .slice p2 m2 k2, .slice p3 m3 k3, .slice p4 m4 k4, .int .i64 m.ki, .string m.mn, .string m.mv, .slice sa sn sc, .int .i64 m.er] 34)).alloc (.cells #[.string ⟨#[]⟩] 9)).alloc (.cells #[.int .i64 0] 32)).alloc (.cells #[.slice none 0 0] 65)) (g := (w.heap.size + 1 + 1 + 1) + 1) (by simp) HW.out rfl rfl (by decide) (by simp))
  go_enter_defers Try.func24, Try.ntmps24
  go_wp2_with fail
  (with_reducible refine HN0.out.mono ?_)
  rintro e w1 h
  rcases h.cases with ⟨b0, ht0, rfl, h2, hk⟩ | ⟨ht0, rfl, hk⟩
  · have HB1 : Hid (Kp (w.heap.size + 1 + 1 + 1) (w.heap.size + 1 + 1 + 1) ((((w.alloc (.cells #[.int .i64 m.k, .int .i64 m.f, .int .i64 m.to, .int .i64 m.g, .int .i64 m.n, .slice ae ne ce, .slice aa na ca, .slice p1 m1 k1, .slice p2 m2 k2, .slice p3 m3 k3, .slice p4 m4 k4, .int .i64 m.ki, .string m.mn, .string m.mv, .slice sa sn sc, .int .i64 m.er] 34)).alloc (.cells #[.string ⟨#[]⟩] 9)).alloc (.cells #[.int .i64 0] 32)).alloc (.cells #[.slice none 0 0] 65)) w1) := HB0.out.trans hk
    have hbl0 : b0.length ≤ 30 := cd.nums_len ht0
    have HT0 := Lib.hid ht0
    have y0 := (HB1.out.keep _ HS0.out).trans HX0.out
    have q5 := box_get y0 5 _ rfl
    have q6 := box_get y0 6 _ rfl
    have q7 := box_get y0 7 _ rfl
    have q8 := box_get y0 8 _ rfl
    have HN1 := Lib.hid (delta_any (w.heap.size + 1 + 1 + 1) (w.heap.size + 1 + 1 + 1) ([] ++ b0) m.e m.al m.dv m.dc ae ne ce aa na ca p1 m1 k1 p2 m2 k2 w1 h2 (Ghe.out.below entR_steady (HB1.out.below HW.out) (Nat.le_refl _)) (Gha.out.below dotR_steady (HB1.out.below HW.out) (Nat.le_refl _)) (Gh1.out.below dotR_steady (HB1.out.below HW.out) (Nat.le_refl _)) (Gh2.out.below dotR_steady (HB1.out.below HW.out) (Nat.le_refl _)) (by simp only [List.length_append, List.length_nil]; omega))
    clear h hk h2 HN0 ht0 y0
    go_wp2_with fail
    (with_reducible refine HN1.out.mono ?_)
    rintro e w2 h
    rcases h.cases with ⟨b1, ht1, rfl, h2, hk⟩ | ⟨ht1, rfl, hk⟩
    · have HB2 : Hid (Kp (w.heap.size + 1 + 1 + 1) (w.heap.size + 1 + 1 + 1) ((((w.alloc (.cells #[.int .i64 m.k, .int .i64 m.f, .int .i64 m.to, .int .i64 m.g, .int .i64 m.n, .slice ae ne ce, .slice aa na ca, .slice p1 m1 k1, .slice p2 m2 k2, .slice p3 m3 k3, .slice p4 m4 k4, .int .i64 m.ki, .string m.mn, .string m.mv, .slice sa sn sc, .int .i64 m.er] 34)).alloc (.cells #[.string ⟨#[]⟩] 9)).alloc (.cells #[.int .i64 0] 32)).alloc (.cells #[.slice none 0 0] 65)) w2) := HB1.out.trans hk
      have hbl1 : b1.length ≤ 304264024 := cd.del_len ht1
      have HT1 := Lib.hid ht1
      have y0 := (HB2.out.keep _ HS0.out).trans HX0.out
      have q9 := box_get y0 9 _ rfl
      have q10 := box_get y0 10 _ rfl
      have HN2 := Lib.hid (context_any (w.heap.size + 1 + 1 + 1) (w.heap.size + 1 + 1 + 1) (([] ++ b0) ++ b1) m.v m.c p3 m3 k3 p4 m4 k4 w2 h2 (Gh3.out.below dotR_steady (HB2.out.below HW.out) (Nat.le_refl _)) (Gh4.out.below dotR_steady (HB2.out.below HW.out) (Nat.le_refl _)) (by simp only [List.length_append, List.length_nil]; omega))
      clear h hk h2 HN1 ht1 y0
      go_wp2_with fail
      (with_reducible refine HN2.out.mono ?_)
      rintro e w3 h
      rcases h.cases with ⟨b2, ht2, rfl, h2, hk⟩ | ⟨ht2, rfl, hk⟩
      · have HB3 : Hid (Kp (w.heap.size + 1 + 1 + 1) (w.heap.size + 1 + 1 + 1) ((((w.alloc (.cells #[.int .i64 m.k, .int .i64 m.f, .int .i64 m.to, .int .i64 m.g, .int .i64 m.n, .slice ae ne ce, .slice aa na ca, .slice p1 m1 k1, .slice p2 m2 k2, .slice p3 m3 k3, .slice p4 m4 k4, .int .i64 m.ki, .string m.mn, .string m.mv, .slice sa sn sc, .int .i64 m.er] 34)).alloc (.cells #[.string ⟨#[]⟩] 9)).alloc (.cells #[.int .i64 0] 32)).alloc (.cells #[.slice none 0 0] 65)) w3) := HB2.out.trans hk
        have hbl2 : b2.length ≤ 96012 := cd.ctx_len ht2
        have HT2 := Lib.hid ht2
        have y0 := (HB3.out.keep _ HS0.out).trans HX0.out
        have q11 := box_get y0 11 _ rfl
        have HN3 := Lib.hid (numbers_lit (w.heap.size + 1 + 1 + 1) (w.heap.size + 1 + 1 + 1) ((([] ++ b0) ++ b1) ++ b2) [m.ki] #[.int .i64 m.ki] 1 w3 rfl h2 rfl rfl (by decide) (by simp only [List.length_append, List.length_nil]; omega))
        clear h hk h2 HN2 ht2 y0
        go_wp2_with fail
        (with_reducible refine HN3.out.mono ?_)
        rintro e w4 h
        rcases h.cases with ⟨b3, ht3, rfl, h2, hk⟩ | ⟨ht3, rfl, hk⟩
        · have HB4 : Hid (Kp (w.heap.size + 1 + 1 + 1) (w.heap.size + 1 + 1 + 1) ((((w.alloc (.cells #[.int .i64 m.k, .int .i64 m.f, .int .i64 m.to, .int .i64 m.g, .int .i64 m.n, .slice ae ne ce, .slice aa na ca, .slice p1 m1 k1, .slice p2 m2 k2, .slice p3 m3 k3, .slice p4 m4 k4, .int .i64 m.ki, .string m.mn, .string m.mv, .slice sa sn sc, .int .i64 m.er] 34)).alloc (.cells #[.string ⟨#[]⟩] 9)).alloc (.cells #[.int .i64 0] 32)).alloc (.cells #[.slice none 0 0] 65)) w4) := HB3.out.trans hk
          have hbl3 : b3.length ≤ 6 := cd.nums_len ht3
          have HT3 := Lib.hid ht3
          have y0 := (HB4.out.keep _ HS0.out).trans HX0.out
          have q12 := box_get y0 12 _ rfl
          have HN4 := Lib.hid (text_any (w.heap.size + 1 + 1 + 1) (w.heap.size + 1 + 1 + 1) (((([] ++ b0) ++ b1) ++ b2) ++ b3) m.mn w4 h2 HMN.out (by simp only [List.length_append, List.length_nil]; omega))
          clear h hk h2 HN3 ht3 y0
          go_wp2_with fail
          (with_reducible refine HN4.out.mono ?_)
          rintro e w5 h
          rcases h.cases with ⟨b4, ht4, rfl, h2, hk⟩ | ⟨ht4, rfl, hk⟩
          · have HB5 : Hid (Kp (w.heap.size + 1 + 1 + 1) (w.heap.size + 1 + 1 + 1) ((((w.alloc (.cells #[.int .i64 m.k, .int .i64 m.f, .int .i64 m.to, .int .i64 m.g, .int .i64 m.n, .slice ae ne ce, .slice aa na ca, .slice p1 m1 k1, .slice p2 m2 k2, .slice p3 m3 k3, .slice p4 m4 k4, .int .i64 m.ki, .string m.mn, .string m.mv, .slice sa sn sc, .int .i64 m.er] 34)).alloc (.cells #[.string ⟨#[]⟩] 9)).alloc (.cells #[.int .i64 0] 32)).alloc (.cells #[.slice none 0 0] 65)) w5) := HB4.out.trans hk
            have hbl4 : b4.length ≤ 4006 := cd.txt_len ht4
            have HT4 := Lib.hid ht4
            have y0 := (HB5.out.keep _ HS0.out).trans HX0.out
            have q13 := box_get y0 13 _ rfl
            have HN5 := Lib.hid (text_any (w.heap.size + 1 + 1 + 1) (w.heap.size + 1 + 1 + 1) ((((([] ++ b0) ++ b1) ++ b2) ++ b3) ++ b4) m.mv w5 h2 HMV.out (by simp only [List.length_append, List.length_nil]; omega))
            clear h hk h2 HN4 ht4 y0
            go_wp2_with fail
            (with_reducible refine HN5.out.mono ?_)
            rintro e w6 h
            rcases h.cases with ⟨b5, ht5, rfl, h2, hk⟩ | ⟨ht5, rfl, hk⟩
            · have HB6 : Hid (Kp (w.heap.size + 1 + 1 + 1) (w.heap.size + 1 + 1 + 1) ((((w.alloc (.cells #[.int .i64 m.k, .int .i64 m.f, .int .i64 m.to, .int .i64 m.g, .int .i64 m.n, .slice ae ne ce, .slice aa na ca, .slice p1 m1 k1, .slice p2 m2 k2, .slice p3 m3 k3, .slice p4 m4 k4, .int .i64 m.ki, .string m.mn, .string m.mv, .slice sa sn sc, .int .i64 m.er] 34)).alloc (.cells #[.string ⟨#[]⟩] 9)).alloc (.cells #[.int .i64 0] 32)).alloc (.cells #[.slice none 0 0] 65)) w6) := HB5.out.trans hk
              have hbl5 : b5.length ≤ 4006 := cd.txt_len ht5
              have HT5 := Lib.hid ht5
              have y0 := (HB6.out.keep _ HS0.out).trans HX0.out
              have q14 := box_get y0 14 _ rfl
              have HN6 := Lib.hid (wl_string (w.heap.size + 1 + 1 + 1) (w.heap.size + 1 + 1 + 1) (((((([] ++ b0) ++ b1) ++ b2) ++ b3) ++ b4) ++ b5) m.s (.slice sa sn sc) w6 h2 (Ghs.out.below strR_steady (HB6.out.below HW.out) (Nat.le_refl _)) (by simp only [List.length_append, List.length_nil]; omega))
              clear h hk h2 HN5 ht5 y0
              go_wp2_with fail
              (with_reducible refine HN6.out.mono ?_)
              rintro e w7 h
              rcases h.cases with ⟨b6, ht6, rfl, h2, hk⟩ | ⟨ht6, rfl, hk⟩
              · have HB7 : Hid (Kp (w.heap.size + 1 + 1 + 1) (w.heap.size + 1 + 1 + 1) ((((w.alloc (.cells #[.int .i64 m.k, .int .i64 m.f, .int .i64 m.to, .int .i64 m.g, .int .i64 m.n, .slice ae ne ce, .slice aa na ca, .slice p1 m1 k1, .slice p2 m2 k2, .slice p3 m3 k3, .slice p4 m4 k4, .int .i64 m.ki, .string m.mn, .string m.mv, .slice sa sn sc, .int .i64 m.er] 34)).alloc (.cells #[.string ⟨#[]⟩] 9)).alloc (.cells #[.int .i64 0] 32)).alloc (.cells #[.slice none 0 0] 65)) w7) := HB6.out.trans hk
                have hbl6 : b6.length ≤ 16024006 := cd.lst_len (fun _ _ h => cd.txt_len h) ht6
                have HT6 := Lib.hid ht6
                have y0 := (HB7.out.keep _ HS0.out).trans HX0.out
                have q15 := box_get y0 15 _ rfl
                have HN7 := Lib.hid (numbers_lit (w.heap.size + 1 + 1 + 1) (w.heap.size + 1 + 1 + 1) ((((((([] ++ b0) ++ b1) ++ b2) ++ b3) ++ b4) ++ b5) ++ b6) [m.er] #[.int .i64 m.er] 1 w7 rfl h2 rfl rfl (by decide) (by simp only [List.length_append, List.length_nil]; omega))
                clear h hk h2 HN6 ht6 y0
                go_wp2_with fail
                (with_reducible refine HN7.out.mono ?_)
                rintro e w8 h
                rcases h.cases with ⟨b7, ht7, rfl, h2, hk⟩ | ⟨ht7, rfl, hk⟩
                · have HBz : Hid (Kp (w.heap.size + 1 + 1 + 1) (w.heap.size + 1 + 1 + 1) ((((w.alloc (.cells #[.int .i64 m.k, .int .i64 m.f, .int .i64 m.to, .int .i64 m.g, .int .i64 m.n, .slice ae ne ce, .slice aa na ca, .slice p1 m1 k1, .slice p2 m2 k2, .slice p3 m3 k3, .slice p4 m4 k4, .int .i64 m.ki, .string m.mn, .string m.mv, .slice sa sn sc, .int .i64 m.er] 34)).alloc (.cells #[.string ⟨#[]⟩] 9)).alloc (.cells #[.int .i64 0] 32)).alloc (.cells #[.slice none 0 0] 65)) w8) := HB7.out.trans hk
                  have HT : Hid (cd.msg m = some (b0 ++ (b1 ++ (b2 ++ (b3 ++ (b4 ++ (b5 ++ (b6 ++ b7)))))))) := by show cd.app (cd.each cd.num [m.k, m.f, m.to, m.g, m.n]) (cd.app (cd.del m.e m.al m.dv m.dc) (cd.app (cd.ctx m.v m.c) (cd.app (cd.each cd.num [m.ki]) (cd.app (cd.txt m.mn) (cd.app (cd.txt m.mv) (cd.app (cd.lst cd.txt m.s) (cd.each cd.num [m.er]))))))) = _; rw [HT0.out, HT1.out, HT2.out, HT3.out, HT4.out, HT5.out, HT6.out, ht7]; rfl
                  obtain ⟨bb, hbb⟩ : ∃ bb, bb = (b0 ++ (b1 ++ (b2 ++ (b3 ++ (b4 ++ (b5 ++ (b6 ++ b7))))))) := ⟨_, rfl⟩
                  rw [← hbb] at HT
                  replace h2 : Wr (w.heap.size + 1 + 1 + 1) (w.heap.size + 1 + 1 + 1) bb w8 := by rw [hbb]; simpa only [List.append_assoc, List.nil_append] using h2
                  have y1 := (HBz.out.keep _ HS1.out).trans HX1.out
                  have y2 := (HBz.out.keep _ HS2.out).trans HX2.out
                  have HBL : Hid (Below w.heap.size w w8) := HB04.out.trans ((HBz.out.below HW.out).mono (by omega))
                  obtain ⟨_, v, hv, hown⟩ := h2
                  have hconv := kit.run_string (P := Try.prog) (src := 63) (dst := 9) Try.underlying63 Try.underlying5 Try.underlying9 hown
                  obtain ⟨vo, vn, vc, rfl⟩ := own_slice hown
                  have r0 := cell_of_one hv
                  have r1 := cell_of_one y1
                  have r2 := cell_of_one y2
                  have f1 := free_of_one y1
                  have f2 := free_of_one y2
                  have g1 := lt_of_block y1
                  have g2 := lt_of_block y2
                  have Y1 := Lib.hid y1
                  have Y2 := Lib.hid y2
                  clear h hk HN7 ht7 hbb hv hown y1 y2
                  go_wp2
                  refine leaves_cons (f := 29) (args := #[.pointer (some ⟨w.heap.size + 1, 0, none⟩), .pointer (some ⟨w.heap.size + 1 + 1, 0, none⟩)]) (by simp) (by simp [go_sem]) ?_
                  refine (idle ⟨w.heap.size + 1, 0, none⟩ ⟨w.heap.size + 1 + 1, 0, none⟩ _).mono ?_
                  rintro e u' w'' ⟨rfl, rfl, rfl⟩
                  exact write_leaves rfl rfl (Below.refl _ _) Y1.out Y2.out (fun W h => ⟨⟨bb, Or.inl ⟨HT.out, rfl⟩⟩, HBL.out.trans h⟩)
                · have HBz : Hid (Kp (w.heap.size + 1 + 1 + 1) (w.heap.size + 1 + 1 + 1) ((((w.alloc (.cells #[.int .i64 m.k, .int .i64 m.f, .int .i64 m.to, .int .i64 m.g, .int .i64 m.n, .slice ae ne ce, .slice aa na ca, .slice p1 m1 k1, .slice p2 m2 k2, .slice p3 m3 k3, .slice p4 m4 k4, .int .i64 m.ki, .string m.mn, .string m.mv, .slice sa sn sc, .int .i64 m.er] 34)).alloc (.cells #[.string ⟨#[]⟩] 9)).alloc (.cells #[.int .i64 0] 32)).alloc (.cells #[.slice none 0 0] 65)) w8) := HB7.out.trans hk
                  have y1 := (HBz.out.keep _ HS1.out).trans HX1.out
                  have y2 := (HBz.out.keep _ HS2.out).trans HX2.out
                  have HT : Hid (cd.msg m = none) := by show cd.app (cd.each cd.num [m.k, m.f, m.to, m.g, m.n]) (cd.app (cd.del m.e m.al m.dv m.dc) (cd.app (cd.ctx m.v m.c) (cd.app (cd.each cd.num [m.ki]) (cd.app (cd.txt m.mn) (cd.app (cd.txt m.mv) (cd.app (cd.lst cd.txt m.s) (cd.each cd.num [m.er]))))))) = _; rw [HT0.out, HT1.out, HT2.out, HT3.out, HT4.out, HT5.out, HT6.out, ht7]; rfl
                  have HBL : Hid (Below w.heap.size w w8) := HB04.out.trans ((HBz.out.below HW.out).mono (by omega))
                  refine leaves_cons (f := 29) (args := #[.pointer (some ⟨w.heap.size + 1, 0, none⟩), .pointer (some ⟨w.heap.size + 1 + 1, 0, none⟩)]) (by simp) (by simp [go_sem]) ?_
                  refine (caught ⟨w.heap.size + 1, 0, none⟩ ⟨w.heap.size + 1 + 1, 0, none⟩ ⟨#[]⟩ 0 w8 (cell_of_one y1) (free_of_one y1) (cell_of_one y2) (free_of_one y2) (lt_of_block y1) (lt_of_block y2) (by simp)).mono ?_
                  rintro e u' w'' ⟨rfl, rfl, w9, b9, rfl⟩
                  exact write_leaves rfl rfl b9 y1 y2 (fun W h => ⟨⟨[], Or.inr ⟨HT.out, rfl⟩⟩, HBL.out.trans h⟩)
              · have HBz : Hid (Kp (w.heap.size + 1 + 1 + 1) (w.heap.size + 1 + 1 + 1) ((((w.alloc (.cells #[.int .i64 m.k, .int .i64 m.f, .int .i64 m.to, .int .i64 m.g, .int .i64 m.n, .slice ae ne ce, .slice aa na ca, .slice p1 m1 k1, .slice p2 m2 k2, .slice p3 m3 k3, .slice p4 m4 k4, .int .i64 m.ki, .string m.mn, .string m.mv, .slice sa sn sc, .int .i64 m.er] 34)).alloc (.cells #[.string ⟨#[]⟩] 9)).alloc (.cells #[.int .i64 0] 32)).alloc (.cells #[.slice none 0 0] 65)) w7) := HB6.out.trans hk
                have y1 := (HBz.out.keep _ HS1.out).trans HX1.out
                have y2 := (HBz.out.keep _ HS2.out).trans HX2.out
                have HT : Hid (cd.msg m = none) := by show cd.app (cd.each cd.num [m.k, m.f, m.to, m.g, m.n]) (cd.app (cd.del m.e m.al m.dv m.dc) (cd.app (cd.ctx m.v m.c) (cd.app (cd.each cd.num [m.ki]) (cd.app (cd.txt m.mn) (cd.app (cd.txt m.mv) (cd.app (cd.lst cd.txt m.s) (cd.each cd.num [m.er]))))))) = _; rw [HT0.out, HT1.out, HT2.out, HT3.out, HT4.out, HT5.out, ht6]; rfl
                have HBL : Hid (Below w.heap.size w w7) := HB04.out.trans ((HBz.out.below HW.out).mono (by omega))
                refine leaves_cons (f := 29) (args := #[.pointer (some ⟨w.heap.size + 1, 0, none⟩), .pointer (some ⟨w.heap.size + 1 + 1, 0, none⟩)]) (by simp) (by simp [go_sem]) ?_
                refine (caught ⟨w.heap.size + 1, 0, none⟩ ⟨w.heap.size + 1 + 1, 0, none⟩ ⟨#[]⟩ 0 w7 (cell_of_one y1) (free_of_one y1) (cell_of_one y2) (free_of_one y2) (lt_of_block y1) (lt_of_block y2) (by simp)).mono ?_
                rintro e u' w'' ⟨rfl, rfl, w9, b9, rfl⟩
                exact write_leaves rfl rfl b9 y1 y2 (fun W h => ⟨⟨[], Or.inr ⟨HT.out, rfl⟩⟩, HBL.out.trans h⟩)
            · have HBz : Hid (Kp (w.heap.size + 1 + 1 + 1) (w.heap.size + 1 + 1 + 1) ((((w.alloc (.cells #[.int .i64 m.k, .int .i64 m.f, .int .i64 m.to, .int .i64 m.g, .int .i64 m.n, .slice ae ne ce, .slice aa na ca, .slice p1 m1 k1, .slice p2 m2 k2, .slice p3 m3 k3, .slice p4 m4 k4, .int .i64 m.ki, .string m.mn, .string m.mv, .slice sa sn sc, .int .i64 m.er] 34)).alloc (.cells #[.string ⟨#[]⟩] 9)).alloc (.cells #[.int .i64 0] 32)).alloc (.cells #[.slice none 0 0] 65)) w6) := HB5.out.trans hk
              have y1 := (HBz.out.keep _ HS1.out).trans HX1.out
              have y2 := (HBz.out.keep _ HS2.out).trans HX2.out
              have HT : Hid (cd.msg m = none) := by show cd.app (cd.each cd.num [m.k, m.f, m.to, m.g, m.n]) (cd.app (cd.del m.e m.al m.dv m.dc) (cd.app (cd.ctx m.v m.c) (cd.app (cd.each cd.num [m.ki]) (cd.app (cd.txt m.mn) (cd.app (cd.txt m.mv) (cd.app (cd.lst cd.txt m.s) (cd.each cd.num [m.er]))))))) = _; rw [HT0.out, HT1.out, HT2.out, HT3.out, HT4.out, ht5]; rfl
              have HBL : Hid (Below w.heap.size w w6) := HB04.out.trans ((HBz.out.below HW.out).mono (by omega))
              refine leaves_cons (f := 29) (args := #[.pointer (some ⟨w.heap.size + 1, 0, none⟩), .pointer (some ⟨w.heap.size + 1 + 1, 0, none⟩)]) (by simp) (by simp [go_sem]) ?_
              refine (caught ⟨w.heap.size + 1, 0, none⟩ ⟨w.heap.size + 1 + 1, 0, none⟩ ⟨#[]⟩ 0 w6 (cell_of_one y1) (free_of_one y1) (cell_of_one y2) (free_of_one y2) (lt_of_block y1) (lt_of_block y2) (by simp)).mono ?_
              rintro e u' w'' ⟨rfl, rfl, w9, b9, rfl⟩
              exact write_leaves rfl rfl b9 y1 y2 (fun W h => ⟨⟨[], Or.inr ⟨HT.out, rfl⟩⟩, HBL.out.trans h⟩)
          · have HBz : Hid (Kp (w.heap.size + 1 + 1 + 1) (w.heap.size + 1 + 1 + 1) ((((w.alloc (.cells #[.int .i64 m.k, .int .i64 m.f, .int .i64 m.to, .int .i64 m.g, .int .i64 m.n, .slice ae ne ce, .slice aa na ca, .slice p1 m1 k1, .slice p2 m2 k2, .slice p3 m3 k3, .slice p4 m4 k4, .int .i64 m.ki, .string m.mn, .string m.mv, .slice sa sn sc, .int .i64 m.er] 34)).alloc (.cells #[.string ⟨#[]⟩] 9)).alloc (.cells #[.int .i64 0] 32)).alloc (.cells #[.slice none 0 0] 65)) w5) := HB4.out.trans hk
            have y1 := (HBz.out.keep _ HS1.out).trans HX1.out
            have y2 := (HBz.out.keep _ HS2.out).trans HX2.out
            have HT : Hid (cd.msg m = none) := by show cd.app (cd.each cd.num [m.k, m.f, m.to, m.g, m.n]) (cd.app (cd.del m.e m.al m.dv m.dc) (cd.app (cd.ctx m.v m.c) (cd.app (cd.each cd.num [m.ki]) (cd.app (cd.txt m.mn) (cd.app (cd.txt m.mv) (cd.app (cd.lst cd.txt m.s) (cd.each cd.num [m.er]))))))) = _; rw [HT0.out, HT1.out, HT2.out, HT3.out, ht4]; rfl
            have HBL : Hid (Below w.heap.size w w5) := HB04.out.trans ((HBz.out.below HW.out).mono (by omega))
            refine leaves_cons (f := 29) (args := #[.pointer (some ⟨w.heap.size + 1, 0, none⟩), .pointer (some ⟨w.heap.size + 1 + 1, 0, none⟩)]) (by simp) (by simp [go_sem]) ?_
            refine (caught ⟨w.heap.size + 1, 0, none⟩ ⟨w.heap.size + 1 + 1, 0, none⟩ ⟨#[]⟩ 0 w5 (cell_of_one y1) (free_of_one y1) (cell_of_one y2) (free_of_one y2) (lt_of_block y1) (lt_of_block y2) (by simp)).mono ?_
            rintro e u' w'' ⟨rfl, rfl, w9, b9, rfl⟩
            exact write_leaves rfl rfl b9 y1 y2 (fun W h => ⟨⟨[], Or.inr ⟨HT.out, rfl⟩⟩, HBL.out.trans h⟩)
        · have HBz : Hid (Kp (w.heap.size + 1 + 1 + 1) (w.heap.size + 1 + 1 + 1) ((((w.alloc (.cells #[.int .i64 m.k, .int .i64 m.f, .int .i64 m.to, .int .i64 m.g, .int .i64 m.n, .slice ae ne ce, .slice aa na ca, .slice p1 m1 k1, .slice p2 m2 k2, .slice p3 m3 k3, .slice p4 m4 k4, .int .i64 m.ki, .string m.mn, .string m.mv, .slice sa sn sc, .int .i64 m.er] 34)).alloc (.cells #[.string ⟨#[]⟩] 9)).alloc (.cells #[.int .i64 0] 32)).alloc (.cells #[.slice none 0 0] 65)) w4) := HB3.out.trans hk
          have y1 := (HBz.out.keep _ HS1.out).trans HX1.out
          have y2 := (HBz.out.keep _ HS2.out).trans HX2.out
          have HT : Hid (cd.msg m = none) := by show cd.app (cd.each cd.num [m.k, m.f, m.to, m.g, m.n]) (cd.app (cd.del m.e m.al m.dv m.dc) (cd.app (cd.ctx m.v m.c) (cd.app (cd.each cd.num [m.ki]) (cd.app (cd.txt m.mn) (cd.app (cd.txt m.mv) (cd.app (cd.lst cd.txt m.s) (cd.each cd.num [m.er]))))))) = _; rw [HT0.out, HT1.out, HT2.out, ht3]; rfl
          have HBL : Hid (Below w.heap.size w w4) := HB04.out.trans ((HBz.out.below HW.out).mono (by omega))
          refine leaves_cons (f := 29) (args := #[.pointer (some ⟨w.heap.size + 1, 0, none⟩), .pointer (some ⟨w.heap.size + 1 + 1, 0, none⟩)]) (by simp) (by simp [go_sem]) ?_
          refine (caught ⟨w.heap.size + 1, 0, none⟩ ⟨w.heap.size + 1 + 1, 0, none⟩ ⟨#[]⟩ 0 w4 (cell_of_one y1) (free_of_one y1) (cell_of_one y2) (free_of_one y2) (lt_of_block y1) (lt_of_block y2) (by simp)).mono ?_
          rintro e u' w'' ⟨rfl, rfl, w9, b9, rfl⟩
          exact write_leaves rfl rfl b9 y1 y2 (fun W h => ⟨⟨[], Or.inr ⟨HT.out, rfl⟩⟩, HBL.out.trans h⟩)
      · have HBz : Hid (Kp (w.heap.size + 1 + 1 + 1) (w.heap.size + 1 + 1 + 1) ((((w.alloc (.cells #[.int .i64 m.k, .int .i64 m.f, .int .i64 m.to, .int .i64 m.g, .int .i64 m.n, .slice ae ne ce, .slice aa na ca, .slice p1 m1 k1, .slice p2 m2 k2, .slice p3 m3 k3, .slice p4 m4 k4, .int .i64 m.ki, .string m.mn, .string m.mv, .slice sa sn sc, .int .i64 m.er] 34)).alloc (.cells #[.string ⟨#[]⟩] 9)).alloc (.cells #[.int .i64 0] 32)).alloc (.cells #[.slice none 0 0] 65)) w3) := HB2.out.trans hk
        have y1 := (HBz.out.keep _ HS1.out).trans HX1.out
        have y2 := (HBz.out.keep _ HS2.out).trans HX2.out
        have HT : Hid (cd.msg m = none) := by show cd.app (cd.each cd.num [m.k, m.f, m.to, m.g, m.n]) (cd.app (cd.del m.e m.al m.dv m.dc) (cd.app (cd.ctx m.v m.c) (cd.app (cd.each cd.num [m.ki]) (cd.app (cd.txt m.mn) (cd.app (cd.txt m.mv) (cd.app (cd.lst cd.txt m.s) (cd.each cd.num [m.er]))))))) = _; rw [HT0.out, HT1.out, ht2]; rfl
        have HBL : Hid (Below w.heap.size w w3) := HB04.out.trans ((HBz.out.below HW.out).mono (by omega))
        refine leaves_cons (f := 29) (args := #[.pointer (some ⟨w.heap.size + 1, 0, none⟩), .pointer (some ⟨w.heap.size + 1 + 1, 0, none⟩)]) (by simp) (by simp [go_sem]) ?_
        refine (caught ⟨w.heap.size + 1, 0, none⟩ ⟨w.heap.size + 1 + 1, 0, none⟩ ⟨#[]⟩ 0 w3 (cell_of_one y1) (free_of_one y1) (cell_of_one y2) (free_of_one y2) (lt_of_block y1) (lt_of_block y2) (by simp)).mono ?_
        rintro e u' w'' ⟨rfl, rfl, w9, b9, rfl⟩
        exact write_leaves rfl rfl b9 y1 y2 (fun W h => ⟨⟨[], Or.inr ⟨HT.out, rfl⟩⟩, HBL.out.trans h⟩)
    · have HBz : Hid (Kp (w.heap.size + 1 + 1 + 1) (w.heap.size + 1 + 1 + 1) ((((w.alloc (.cells #[.int .i64 m.k, .int .i64 m.f, .int .i64 m.to, .int .i64 m.g, .int .i64 m.n, .slice ae ne ce, .slice aa na ca, .slice p1 m1 k1, .slice p2 m2 k2, .slice p3 m3 k3, .slice p4 m4 k4, .int .i64 m.ki, .string m.mn, .string m.mv, .slice sa sn sc, .int .i64 m.er] 34)).alloc (.cells #[.string ⟨#[]⟩] 9)).alloc (.cells #[.int .i64 0] 32)).alloc (.cells #[.slice none 0 0] 65)) w2) := HB1.out.trans hk
      have y1 := (HBz.out.keep _ HS1.out).trans HX1.out
      have y2 := (HBz.out.keep _ HS2.out).trans HX2.out
      have HT : Hid (cd.msg m = none) := by show cd.app (cd.each cd.num [m.k, m.f, m.to, m.g, m.n]) (cd.app (cd.del m.e m.al m.dv m.dc) (cd.app (cd.ctx m.v m.c) (cd.app (cd.each cd.num [m.ki]) (cd.app (cd.txt m.mn) (cd.app (cd.txt m.mv) (cd.app (cd.lst cd.txt m.s) (cd.each cd.num [m.er]))))))) = _; rw [HT0.out, ht1]; rfl
      have HBL : Hid (Below w.heap.size w w2) := HB04.out.trans ((HBz.out.below HW.out).mono (by omega))
      refine leaves_cons (f := 29) (args := #[.pointer (some ⟨w.heap.size + 1, 0, none⟩), .pointer (some ⟨w.heap.size + 1 + 1, 0, none⟩)]) (by simp) (by simp [go_sem]) ?_
      refine (caught ⟨w.heap.size + 1, 0, none⟩ ⟨w.heap.size + 1 + 1, 0, none⟩ ⟨#[]⟩ 0 w2 (cell_of_one y1) (free_of_one y1) (cell_of_one y2) (free_of_one y2) (lt_of_block y1) (lt_of_block y2) (by simp)).mono ?_
      rintro e u' w'' ⟨rfl, rfl, w9, b9, rfl⟩
      exact write_leaves rfl rfl b9 y1 y2 (fun W h => ⟨⟨[], Or.inr ⟨HT.out, rfl⟩⟩, HBL.out.trans h⟩)
  · have HBz : Hid (Kp (w.heap.size + 1 + 1 + 1) (w.heap.size + 1 + 1 + 1) ((((w.alloc (.cells #[.int .i64 m.k, .int .i64 m.f, .int .i64 m.to, .int .i64 m.g, .int .i64 m.n, .slice ae ne ce, .slice aa na ca, .slice p1 m1 k1, .slice p2 m2 k2, .slice p3 m3 k3, .slice p4 m4 k4, .int .i64 m.ki, .string m.mn, .string m.mv, .slice sa sn sc, .int .i64 m.er] 34)).alloc (.cells #[.string ⟨#[]⟩] 9)).alloc (.cells #[.int .i64 0] 32)).alloc (.cells #[.slice none 0 0] 65)) w1) := HB0.out.trans hk
    have y1 := (HBz.out.keep _ HS1.out).trans HX1.out
    have y2 := (HBz.out.keep _ HS2.out).trans HX2.out
    have HT : Hid (cd.msg m = none) := by show cd.app (cd.each cd.num [m.k, m.f, m.to, m.g, m.n]) (cd.app (cd.del m.e m.al m.dv m.dc) (cd.app (cd.ctx m.v m.c) (cd.app (cd.each cd.num [m.ki]) (cd.app (cd.txt m.mn) (cd.app (cd.txt m.mv) (cd.app (cd.lst cd.txt m.s) (cd.each cd.num [m.er]))))))) = _; rw [ht0]; rfl
    have HBL : Hid (Below w.heap.size w w1) := HB04.out.trans ((HBz.out.below HW.out).mono (by omega))
    refine leaves_cons (f := 29) (args := #[.pointer (some ⟨w.heap.size + 1, 0, none⟩), .pointer (some ⟨w.heap.size + 1 + 1, 0, none⟩)]) (by simp) (by simp [go_sem]) ?_
    refine (caught ⟨w.heap.size + 1, 0, none⟩ ⟨w.heap.size + 1 + 1, 0, none⟩ ⟨#[]⟩ 0 w1 (cell_of_one y1) (free_of_one y1) (cell_of_one y2) (free_of_one y2) (lt_of_block y1) (lt_of_block y2) (by simp)).mono ?_
    rintro e u' w'' ⟨rfl, rfl, w9, b9, rfl⟩
    exact write_leaves rfl rfl b9 y1 y2 (fun W h => ⟨⟨[], Or.inr ⟨HT.out, rfl⟩⟩, HBL.out.trans h⟩)
end Go.Proofs.Ytpgccfgldjeomaa
