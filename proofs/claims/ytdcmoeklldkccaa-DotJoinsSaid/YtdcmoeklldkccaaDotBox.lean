/- dot: a context in a variable; the law's awake. -/
import Derived.Test.YtdcmoeklldkccaaDotUnder
namespace Go.Proofs.Ytdcmoeklldkccaa.dm
theorem mem1 {d e : Dot} : d ∈ [e] ↔ d = e := by simp
theorem kn1 (a b n : Int) : kn [(a, b)] n = if a = n then b else 0 := rfl
theorem kn0 (n : Int) : kn [] n = 0 := rfl
theorem pe {d : Dot} {a b : Int} : d = (a, b) ↔ d.1 = a ∧ d.2 = b := ⟨fun h => by rw [h]; exact ⟨rfl, rfl⟩, fun h => Prod.ext h.1 h.2⟩
theorem aw1 : Is ([(1, 1)], [(1, 3)]) (fun d => valid d = true ∧ d ∈ [((1 : Int), (3 : Int)), (1, 1)]) 2 := by
  refine ⟨⟨fun d hd => ?_, List.pairwise_singleton _ _, fun d hd => ?_, List.pairwise_singleton _ _⟩, fun d => ?_, by decide, by decide⟩
  · rw [mem1.1 hd]; decide
  · rw [mem1.1 hd]; exact ⟨by decide, by decide⟩
  · unfold Knows
    simp only [kn1, List.mem_cons, List.not_mem_nil, or_false, pe]
    constructor
    · rintro ⟨hv, h⟩
      have := (valid_iff d).1 hv
      refine ⟨hv, ?_⟩
      split at h <;> omega
    · rintro ⟨hv, h⟩
      have := (valid_iff d).1 hv
      refine ⟨hv, ?_⟩
      split <;> omega
theorem aw2 : Is ([(1, 3)], []) (fun e => Knows ([(1, 1)], [(1, 3)]) e ∨ e = ((1 : Int), (2 : Int))) 2 := by
  refine ⟨⟨fun d hd => ?_, List.pairwise_singleton _ _, (fun d hd => by cases hd), List.Pairwise.nil⟩, fun d => ?_, by decide, by decide⟩
  · rw [mem1.1 hd]; decide
  · unfold Knows
    simp only [kn1, List.mem_cons, List.not_mem_nil, or_false, pe]
    constructor
    · rintro ⟨hv, h⟩
      have := (valid_iff d).1 hv
      split at h
      · by_cases h2 : d.2 = 2
        · right; omega
        · left; refine ⟨hv, ?_⟩; rw [if_pos ‹_›]; omega
      · omega
    · rintro (⟨hv, h⟩ | h)
      · refine ⟨hv, ?_⟩
        have := (valid_iff d).1 hv
        split at h
        · rw [if_pos ‹_›]; omega
        · omega
      · obtain ⟨x, y⟩ := d
        simp only at h ⊢
        obtain ⟨rfl, rfl⟩ := h
        exact ⟨by decide, by decide⟩
end Go.Proofs.Ytdcmoeklldkccaa.dm
namespace Go.Proofs.Ytdcmoeklldkccaa
open Go Go.RowKit Go.ChangeShapes cl Go.Sort

structure CBox (w : World) (b : Nat) (a1 : Option Addr) (n1 c1 : Nat) (a2 : Option Addr) (n2 c2 : Nat) (c : dm.Ctx) : Prop where
  r0 : w.cell? ⟨b, 0, none⟩ = some (.slice a1 n1 c1)
  r1 : w.cell? ⟨b, 1, none⟩ = some (.slice a2 n2 c2)
  lt : b < w.heap.size
  ctx : CtxAt w w.heap.size (.agg #[.slice a1 n1 c1, .slice a2 n2 c2]) c
theorem CBox.next {w w' : World} {b : Nat} {a1 : Option Addr} {n1 c1 : Nat} {a2 : Option Addr} {n2 c2 : Nat} {c : dm.Ctx} (h : CBox w b a1 n1 c1 a2 n2 c2 c) (hb : Below w.heap.size w w') : CBox w' b a1 n1 c1 a2 n2 c2 c :=
  ⟨(hb.cell (p := ⟨b, 0, none⟩) h.lt).trans h.r0, (hb.cell (p := ⟨b, 1, none⟩) h.lt).trans h.r1, Nat.lt_of_lt_of_le h.lt hb.size, h.ctx.next hb⟩
theorem CBox.new {w : World} {a1 : Option Addr} {n1 c1 : Nat} {a2 : Option Addr} {n2 c2 : Nat} {c : dm.Ctx} (h : CtxAt w w.heap.size (.agg #[.slice a1 n1 c1, .slice a2 n2 c2]) c) :
    CBox (w.alloc (.cells #[.slice a1 n1 c1, .slice a2 n2 c2] 24)) w.heap.size a1 n1 c1 a2 n2 c2 c :=
  ⟨World.cell?_alloc_at _ _ _ _ rfl, World.cell?_alloc_at _ _ _ _ rfl, by simp, h.next ((Below.refl _ _).alloc (Nat.le_refl _) _)⟩
theorem CtxAt.form {w : World} {B : Nat} {v : Value} {c : dm.Ctx} (h : CtxAt w B v c) : ∃ a1 n1 c1 a2 n2 c2, v = .agg #[.slice a1 n1 c1, .slice a2 n2 c2] ∧ n1 = c.1.length ∧ n2 = c.2.length := by
  obtain ⟨v1, v2, rfl, h1, h2⟩ := h
  obtain ⟨a1, c1, rfl, _, _⟩ := h1.form
  obtain ⟨a2, c2, rfl, _, _⟩ := h2.form
  exact ⟨_, _, _, _, _, _, rfl, rfl, rfl⟩
theorem CtxAt.parts {w : World} {B n1 c1 n2 c2 : Nat} {a1 a2 : Option Addr} {c : dm.Ctx} (h : CtxAt w B (.agg #[.slice a1 n1 c1, .slice a2 n2 c2]) c) : Dots w B (.slice a1 n1 c1) c.1 ∧ Dots w B (.slice a2 n2 c2) c.2 := by
  obtain ⟨y1, y2, ey, h1, h2⟩ := h
  simp only [Value.agg.injEq, Array.mk.injEq, List.cons.injEq, and_true] at ey
  obtain ⟨rfl, rfl⟩ := ey
  exact ⟨h1, h2⟩
theorem ctx_below {w : World} {o : Obj} : Below w.heap.size w (w.alloc o) := (Below.refl _ _).alloc (Nat.le_refl _) _
open Classical in
theorem underB_of {a b : dm.Ctx} (ha : dm.Right a) (hb : dm.Right b) (h : ∀ e, dm.Knows a e → dm.Knows b e) : underB a b = true := by
  unfold underB
  rw [dm.rightB_true ha, dm.rightB_true hb, Bool.true_and, Bool.true_and]
  exact decide_eq_true h
open Classical in
theorem underB_not {a b : dm.Ctx} (h : ¬ ∀ e, dm.Knows a e → dm.Knows b e) : underB a b = false := by
  unfold underB
  rw [decide_eq_false h, Bool.and_false]

set_option maxHeartbeats 3200000 in
set_option maxRecDepth 100000 in
theorem awake_any (w : World) : Calls Try.prog 11 #[] w (Said true w) := by
  have hlit := cells_lit w 2 2 (dcells [((1 : Int), (3 : Int)), (1, 1)]) #[.int .i64 1, .int .i64 3, .int .i64 1, .int .i64 1] 26 rfl rfl (by unfold maxLen; omega)
  have hb0 : Below w.heap.size w (w.alloc (.cells #[.int .i64 1, .int .i64 3, .int .i64 1, .int .i64 1] 26)) := ctx_below
  have HF := Lib.hid (from_any [((1 : Int), (3 : Int)), (1, 1)] _ _ hlit (by decide))
  clear hlit
  go_enter Try.func11, Try.ntmps11
  go_wp2_with fail
  (with_reducible refine HF.out.mono ?_)
  rintro e w1 ⟨v1, c, rfl, h1, his, b1⟩
  have B1 := hb0.trans (b1.mono hb0.size)
  obtain rfl : c = ([(1, 1)], [(1, 3)]) := his.eq dm.aw1 (fun _ => Iff.rfl)
  obtain ⟨a1, n1, c1, a2, n2, c2, rfl, hn1, hn2⟩ := h1.form
  replace hn1 : n1 = 1 := hn1
  replace hn2 : n2 = 1 := hn2
  subst hn1 hn2
  have HX1 := Lib.hid (CBox.new h1)
  have B2 := B1.trans ((ctx_below (w := w1) (o := .cells #[.slice a1 1 c1, .slice a2 1 c2] 24)).mono B1.size)
  have hr1 := his.right
  have HAD := Lib.hid (add_yes ([(1, 1)], [(1, 3)]) ((1 : Int), (2 : Int)) _ _ HX1.out.ctx (by decide) hr1 (by decide))
  have HR1 := Lib.hid hr1
  clear h1 his b1 HF hr1
  go_wp2_with fail
  (with_reducible refine HAD.out.mono ?_)
  rintro e w2 ⟨v2, d, rfl, h2, his, b2⟩
  have B3 := B2.trans (b2.mono B2.size)
  obtain rfl : d = ([(1, 3)], []) := his.eq dm.aw2 (fun _ => Iff.rfl)
  obtain ⟨e1, m1, f1, e2, m2, f2, rfl, hm1, hm2⟩ := h2.form
  replace hm1 : m1 = 1 := hm1
  replace hm2 : m2 = 0 := hm2
  subst hm1 hm2
  have HX1a := Lib.hid (HX1.out.next b2)
  have HX2 := Lib.hid (CBox.new h2)
  have HX1b := Lib.hid (HX1a.out.next (ctx_below (o := .cells #[.slice e1 1 f1, .slice e2 0 f2] 24)))
  have B4 := B3.trans ((ctx_below (w := w2) (o := .cells #[.slice e1 1 f1, .slice e2 0 f2] 24)).mono B3.size)
  have HR2 := Lib.hid his.right
  obtain ⟨eb, eo, rfl⟩ : ∃ b o, e1 = some ⟨b, o, none⟩ := by
    obtain ⟨b, o, e, _⟩ := Dots.get (HX2.out.ctx.parts.1) rfl (show 0 < 1 by decide)
    exact ⟨b, o, e⟩
  have HAC1 : Hid (∀ W, CtxAt W W.heap.size (.agg #[.slice a1 1 c1, .slice a2 1 c2]) ([(1, 1)], [(1, 3)]) → Calls Try.prog 16 #[.agg #[.slice a1 1 c1, .slice a2 1 c2], .agg #[.int .i64 1, .int .i64 3]] W (Said true W)) := fun W h => has_any _ ((1 : Int), (3 : Int)) _ W h
  have HAC2 : Hid (∀ W, CtxAt W W.heap.size (.agg #[.slice a1 1 c1, .slice a2 1 c2]) ([(1, 1)], [(1, 3)]) → Calls Try.prog 16 #[.agg #[.slice a1 1 c1, .slice a2 1 c2], .agg #[.int .i64 1, .int .i64 2]] W (Said false W)) := fun W h => has_any _ ((1 : Int), (2 : Int)) _ W h
  have HKC : ∀ e, dm.Knows ([(1, 1)], [(1, 3)]) e → dm.Knows ([(1, 3)], []) e := fun e h => (dm.aw2.know e).2 (Or.inl h)
  have HKD : ¬ ∀ e, dm.Knows ([(1, 3)], []) e → dm.Knows ([(1, 1)], [(1, 3)]) e := fun h => by
    have := h (1, 2) ((dm.aw2.know (1, 2)).2 (Or.inr rfl))
    exact absurd (dm.hasF_iff.2 this) (by decide)
  have hu1 := underB_of HR1.out HR2.out HKC
  have hu2 := underB_not HKD
  have HUC1 : Hid (∀ W, CtxAt W W.heap.size (.agg #[.slice a1 1 c1, .slice a2 1 c2]) ([(1, 1)], [(1, 3)]) → CtxAt W W.heap.size (.agg #[.slice (some ⟨eb, eo, none⟩) 1 f1, .slice e2 0 f2]) ([(1, 3)], []) → Calls Try.prog 26 #[.agg #[.slice a1 1 c1, .slice a2 1 c2], .agg #[.slice (some ⟨eb, eo, none⟩) 1 f1, .slice e2 0 f2]] W (Said true W)) := fun W h1 h2 => by
    have := under_any _ _ _ _ W h1 h2 (by decide) (by decide)
    rwa [hu1] at this
  have HUC2 : Hid (∀ W, CtxAt W W.heap.size (.agg #[.slice a1 1 c1, .slice a2 1 c2]) ([(1, 1)], [(1, 3)]) → CtxAt W W.heap.size (.agg #[.slice (some ⟨eb, eo, none⟩) 1 f1, .slice e2 0 f2]) ([(1, 3)], []) → Calls Try.prog 26 #[.agg #[.slice (some ⟨eb, eo, none⟩) 1 f1, .slice e2 0 f2], .agg #[.slice a1 1 c1, .slice a2 1 c2]] W (Said false W)) := fun W h1 h2 => by
    have := under_any _ _ _ _ W h2 h1 (by decide) (by decide)
    rwa [hu2] at this
  clear HKC HKD hu1 hu2 HX1 HAD b2 his h2
  have H1 := Lib.hid (HAC1.out _ HX1b.out.ctx)
  generalize w1.heap.size = p1 at *
  have x0 := HX1a.out.r0
  have x1 := HX1a.out.r1
  have hlt1 := HX1a.out.lt
  go_wp2_with fail
  generalize w2.alloc (.cells #[.slice (some ⟨eb, eo, none⟩) 1 f1, .slice e2 0 f2] 24) = w4 at *
  generalize w2.heap.size = p2 at *
  have X4 := HX1b
  have Y4 := HX2
  clear HX1a HX1b HX2
  (with_reducible refine H1.out.mono ?_)
  rintro e w5 ⟨rfl, b5⟩
  have B5 := B4.trans (b5.mono B4.size)
  have X5 := Lib.hid (X4.out.next b5)
  have Y5 := Lib.hid (Y4.out.next b5)
  clear b5 H1 X4 Y4 x0 x1
  obtain ⟨x0, x1, _, _⟩ := id X5.out
  obtain ⟨y0, y1, _, hy⟩ := id Y5.out
  have z1 := (hy.parts.1.at (by decide)).2 1 _ rfl
  clear hy
  have H2 := Lib.hid (HAC2.out _ X5.out.ctx)
  go_wp2_with fail
  (with_reducible refine H2.out.mono ?_)
  rintro e w6 ⟨rfl, b6⟩
  have B6 := B5.trans (b6.mono B5.size)
  have X6 := Lib.hid (X5.out.next b6)
  have Y6 := Lib.hid (Y5.out.next b6)
  clear b6 H2 X5 Y5 x0 x1 y0 y1 z1 
  obtain ⟨x0, x1, _, _⟩ := id X6.out
  obtain ⟨y0, y1, _, hy⟩ := id Y6.out
  have z1 := (hy.parts.1.at (by decide)).2 1 _ rfl
  clear hy
  have H3 := Lib.hid (HUC1.out _ X6.out.ctx Y6.out.ctx)
  go_wp2_with fail
  (with_reducible refine H3.out.mono ?_)
  rintro e w7 ⟨rfl, b7⟩
  have B7 := B6.trans (b7.mono B6.size)
  have X7 := Lib.hid (X6.out.next b7)
  have Y7 := Lib.hid (Y6.out.next b7)
  clear b7 H3 X6 Y6 x0 x1 y0 y1 z1 
  obtain ⟨x0, x1, _, _⟩ := id X7.out
  obtain ⟨y0, y1, _, hy⟩ := id Y7.out
  have z1 := (hy.parts.1.at (by decide)).2 1 _ rfl
  clear hy
  have H4 := Lib.hid (HUC2.out _ X7.out.ctx Y7.out.ctx)
  go_wp2_with fail
  (with_reducible refine H4.out.mono ?_)
  rintro e w8 ⟨rfl, b8⟩
  have B8 := B7.trans (b8.mono B7.size)
  have X8 := Lib.hid (X7.out.next b8)
  have Y8 := Lib.hid (Y7.out.next b8)
  clear b8 H4 X7 Y7 x0 x1 y0 y1 z1 
  obtain ⟨x0, x1, _, _⟩ := id X8.out
  obtain ⟨y0, y1, _, hy⟩ := id Y8.out
  have z1 := (hy.parts.1.at (by decide)).2 1 _ rfl
  clear hy
  go_wp2
  go_ret
  exact ⟨rfl, B8⟩
end Go.Proofs.Ytdcmoeklldkccaa
